/-
  The contracts of package tape's tape: NewDisk, Cut, On, Power, Bytes, write, Append, Recover.
  Conditions: the tape lies from block B on, the library's variables and the sentinels below it; the bytes are at most 2000000.
-/
import Derived.Test.YthelggcaggobaaaDoorVb
import Derived.Test.YthelggcaggobaaaDoorVc
import Derived.Test.YthelggcaggobaaaDoorTk
import Derived.Lib.Walk
namespace Go.Proofs.YthelggcaggobaaaDoor
open Go.RowKit
attribute [local go_sem ↓] Go.wp_at_zero Go.wp_at_succ

/-- The sentinels that a tape's calls hand back, below block B. -/
structure Sn4 (a : Nat → Addr) (B : Nat) (w : World) : Prop where
  bound : 0 < B ∧ w.cell? ⟨0, 0, none⟩ = some (.iface 140 (.pointer (some (a 1))))
  full : 3 < B ∧ w.cell? ⟨3, 0, none⟩ = some (.iface 140 (.pointer (some (a 7))))
  off : 1 < B ∧ w.cell? ⟨1, 0, none⟩ = some (.iface 140 (.pointer (some (a 12))))
theorem Sn4.below {a : Nat → Addr} {B : Nat} {w w' : World} (h : Sn4 a B w) (hb : Below B w w') : Sn4 a B w' :=
  ⟨⟨h.bound.1, by rw [hb.cell (p := ⟨0, 0, none⟩) h.bound.1]; exact h.bound.2⟩, ⟨h.full.1, by rw [hb.cell (p := ⟨3, 0, none⟩) h.full.1]; exact h.full.2⟩, ⟨h.off.1, by rw [hb.cell (p := ⟨1, 0, none⟩) h.off.1]; exact h.off.2⟩⟩
def errV (a : Nat → Addr) : Option Nat → Value
  | none => .nilIface
  | some n => .iface 140 (.pointer (some (a n)))
/-! ### As plain mathematics -/
def wrR (t : Tp) (x : List UInt8) : Option Nat × Tp :=
  if t.off = true then (some 12, t) else if t.cut = true ∧ t.left < (x.length : Int) then (some 12, ⟨t.l ++ x.take t.left.toNat, true, false, 0⟩) else (none, ⟨t.l ++ x, t.off, t.cut, if t.cut = true then t.left - (x.length : Int) else t.left⟩)
def apR (t : Tp) (s : ByteArray) : Option Nat × Tp :=
  if 20000 < s.size then (some 1, t) else if 1048576 < t.l.length + (recT s).length then (some 7, t) else wrR t (recT s)
def cutR (t : Tp) (n : Int) : Option Nat × Tp := if n < 0 then (some 1, t) else if t.off = true then (some 12, t) else (none, ⟨t.l, t.off, true, n⟩)
def onR (t : Tp) : Tp := ⟨t.l, false, false, 0⟩
def recvR (t : Tp) : Tp := ⟨t.l.take (readN t.l), false, false, 0⟩
/-- What an act on a tape leaves. -/
def TpPost (B d g : Nat) (w : World) (t : Tp) (w' : World) : Prop := ∃ g' cap', TpAt w' B d g' cap' t ∧ TpBut d g w w' ∧ (g' = g ∨ w.heap.size ≤ g')

section
variable {w : World} {B d g cap : Nat} {t : Tp} {a : Nat → Addr}
set_option maxRecDepth 100000 in
theorem power_any (hA : TpAt w B d g cap t) : Calls Tryd.prog 12 #[.pointer (some ⟨d, 0, none⟩)] w fun e w' => e = .returned (.bool (!t.off)) ∧ w' = w := by
  have c1 := hA.c1
  clear hA
  go_enter Tryd.func12, Tryd.ntmps12
  go_wp2_with fail
  go_ret
  exact ⟨rfl, rfl⟩
set_option maxRecDepth 100000 in
theorem bytes_tape (hA : TpAt w B d g cap t) : Calls Tryd.prog 14 #[.pointer (some ⟨d, 0, none⟩)] w fun e w' => e = .returned (.string (bs t.l)) ∧ w' = w := by
  have c0 := hA.c0
  have hc := hA.bytes
  clear hA
  go_enter Tryd.func14, Tryd.ntmps14
  go_wp2_with fail
  go_ret
  exact ⟨rfl, rfl⟩
set_option maxRecDepth 100000 in
theorem on_any (hA : TpAt w B d g cap t) : Calls Tryd.prog 18 #[.pointer (some ⟨d, 0, none⟩)] w fun e w' => e = .returned (.tuple #[]) ∧ TpPost B d g w (onR t) w' := by
  have HP : Hid (TpPost B d g w (onR t) (((w.setCell ⟨d, 1, none⟩ (.bool false)).setCell ⟨d, 2, none⟩ (.bool false)).setCell ⟨d, 3, none⟩ (.int .i64 0))) := by
    obtain ⟨z, hz, hb⟩ := hA.blk
    have b1 := (set_tape (y := .bool false) hb).2.1
    have b2 := (set_tape (y := .bool false) b1).2.2.1
    have b3 := (set_tape (y := .int .i64 0) b2).2.2.2.1
    have hn := hA.ne
    have ho : ∀ k, k ≠ d → (((w.setCell ⟨d, 1, none⟩ (.bool false)).setCell ⟨d, 2, none⟩ (.bool false)).setCell ⟨d, 3, none⟩ (.int .i64 0)).heap[k]? = w.heap[k]? := fun k hk => by rw [set_other hk, set_other hk, set_other hk]
    exact ⟨g, cap, hA.set b3 hz (hA.row.keep (ho g (Ne.symm hn))) (fun cur fz h => hA.mark cur fz ((ho g (Ne.symm hn)).symm.trans h)) hA.hg ⟨Int.le_refl 0, (by decide : (0 : Int) ≤ 9223372036854775807)⟩, ⟨rfl, rfl, rfl, by simp [World.setCell], fun k _ hk _ => ho k hk⟩, .inl rfl⟩
  have c1 := hA.c1
  have c2 := hA.c2
  have c3 := hA.c3
  have f1 := hA.fr 1
  have f2 := hA.fr 2
  have f3 := hA.fr 3
  clear hA
  go_enter Tryd.func18, Tryd.ntmps18
  go_wp2_with fail
  go_end0
  exact ⟨rfl, HP.out⟩
set_option maxRecDepth 100000 in
theorem cut_any (n : Int) (hA : TpAt w B d g cap t) (hS : Sn4 a B w) (hn : n ≤ 9223372036854775807) : Calls Tryd.prog 8 #[.pointer (some ⟨d, 0, none⟩), .int .i64 n] w fun e w' => e = .returned (errV a (cutR t n).1) ∧ TpPost B d g w (cutR t n).2 w' := by
  have HR : Hid (TpPost B d g w t w) := ⟨g, cap, hA, TpBut.refl _ _ _, .inl rfl⟩
  have sb := hS.bound.2
  have so := hS.off.2
  by_cases h0 : n < 0
  · have HE : Hid (cutR t n = (some 1, t)) := by show _ = _; unfold cutR; rw [if_pos h0]
    clear hA hS
    go_enter Tryd.func8, Tryd.ntmps8
    go_wp2_with fail
    go_ret
    rw [HE.out]
    exact ⟨rfl, HR.out⟩
  have h0' : 0 ≤ n := by omega
  have HPW : Hid _ := power_any hA
  cases ho : t.off with
  | true =>
    have HE : Hid (cutR t n = (some 12, t)) := by show _ = _; unfold cutR; rw [if_neg h0, if_pos ho]
    rw [ho] at HPW
    clear hA hS ho
    go_enter Tryd.func8, Tryd.ntmps8
    go_wp2_with fail
    refine Calls.mono HPW.out ?_
    rintro e w1 ⟨rfl, rfl⟩
    go_wp2_with fail
    go_ret
    rw [HE.out]
    exact ⟨rfl, HR.out⟩
  | false =>
    have HE : Hid (cutR t n = (none, ⟨t.l, t.off, true, n⟩)) := by show _ = _; unfold cutR; rw [if_neg h0, if_neg (by rw [ho]; decide)]
    rw [ho] at HPW
    have HP : Hid (TpPost B d g w ⟨t.l, t.off, true, n⟩ ((w.setCell ⟨d, 2, none⟩ (.bool true)).setCell ⟨d, 3, none⟩ (.int .i64 n))) := by
      obtain ⟨z, hz, hb⟩ := hA.blk
      have b2 := (set_tape (y := .bool true) hb).2.2.1
      have b3 := (set_tape (y := .int .i64 n) b2).2.2.2.1
      have hn := hA.ne
      have ho : ∀ k, k ≠ d → ((w.setCell ⟨d, 2, none⟩ (.bool true)).setCell ⟨d, 3, none⟩ (.int .i64 n)).heap[k]? = w.heap[k]? := fun k hk => by rw [set_other hk, set_other hk]
      exact ⟨g, cap, hA.set b3 hz (hA.row.keep (ho g (Ne.symm hn))) (fun cur fz h => hA.mark cur fz ((ho g (Ne.symm hn)).symm.trans h)) hA.hg ⟨h0', by omega⟩, ⟨rfl, rfl, rfl, by simp [World.setCell], fun k _ hk _ => ho k hk⟩, .inl rfl⟩
    have c2 := hA.c2
    have c3 := hA.c3
    have f2 := hA.fr 2
    have f3 := hA.fr 3
    clear hA hS ho
    go_enter Tryd.func8, Tryd.ntmps8
    go_wp2_with fail
    refine Calls.mono HPW.out ?_
    rintro e w1 ⟨rfl, rfl⟩
    go_wp2_with fail
    go_ret
    rw [HE.out]
    exact ⟨rfl, HP.out⟩
end
end Go.Proofs.YthelggcaggobaaaDoor
