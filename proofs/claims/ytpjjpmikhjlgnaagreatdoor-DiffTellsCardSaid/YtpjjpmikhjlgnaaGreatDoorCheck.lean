/-
  The contract of tree.Check: it tells the first error of a tree's nodes, in the order of the walk.
  Conditions: the sentinels hold what the program's text lays; the tree lies in memory below block B; paths are no longer than a string may be.
-/
import Derived.Test.YtpjjpmikhjlgnaaGreatDoorWalk
import Derived.OneCell
namespace Go.Proofs.YtpjjpmikhjlgnaaGreatDoor
open Go.RowKit

def ck (n : Nat) (x : ByteArray × Nat × Tree) : Nat × Option Nat := (n + 1, if 8 < x.2.1 then some 8 else if 200 < n + 1 then some 7 else nodeErr x.2.2)
def ckOk (n : Nat) (x : ByteArray × Nat × Tree) : Prop := n ≤ 200 ∧ x.1.size ≤ maxLen ∧ x.2.1 ≤ 4611686018427387904 ∧ x.2.2.data.size ≤ maxLen
/-- A counter in block c. -/
def ctJ (B c : Nat) (n : Nat) (C : Nat → Prop) (w : World) : Prop := (∀ k, C k ↔ k = c) ∧ B ≤ c ∧ w.heap[c]? = some (.cells #[.int .i64 (n : Int)] 3 (0, 0))

theorem ctJ_low {B c n : Nat} {C : Nat → Prop} {w : World} (h : ctJ B c n C w) (k : Nat) (hk : C k) : B ≤ k ∧ k < w.heap.size := by
  have e := (h.1 k).1 hk
  subst e
  exact ⟨h.2.1, lt_of_row h.2.2⟩
theorem ctJ_ext {B c n : Nat} {C : Nat → Prop} {w w' : World} (h : ctJ B c n C w) (hb : ∀ k, C k → w'.heap[k]? = w.heap[k]?) : ctJ B c n C w' :=
  ⟨h.1, h.2.1, by rw [hb c ((h.1 c).2 rfl)]; exact h.2.2⟩
theorem Kept.setCell {C : Nat → Prop} {w w' : World} (h : Kept C w w') {p : Addr} (hp : C p.block) (v : Value) : Kept C w (w'.setCell p v) :=
  ⟨h.os, h.tape, h.output, by simp [World.setCell]; exact h.size, fun k hk hc => by
    rw [Below.heap_setCell _ _ _ _ (fun e => hc (by rw [e]; exact hp))]
    exact h.block k hk hc⟩
theorem row_alloc (w : World) (c : Array Value) (t : TypeId) : (w.alloc (.cells c t)).heap[w.heap.size]? = some (.cells c t (0, 0)) := by
  show (w.heap.push _)[w.heap.size]? = _
  simp
theorem row1_setCell {w : World} {c : Nat} {x y : Value} {t : TypeId} (h : w.heap[c]? = some (.cells #[x] t (0, 0))) : (w.setCell ⟨c, 0, none⟩ y).heap[c]? = some (.cells #[y] t (0, 0)) := one_setCell h

set_option maxRecDepth 100000 in
set_option maxHeartbeats 1000000 in
theorem check1_visit (a : Nat → Addr) (c B : Nat) : Visit a 66 (.pointer (some ⟨c, 0, none⟩)) B ck ckOk (ctJ B c) where
  low _ _ _ h := ctJ_low h
  ext _ _ _ _ h := ctJ_ext h
  bound _ _ h := ⟨h.2.1, h.2.2.1⟩
  call := by
    intro n C w d p k t u hJ S hB hl ⟨hn, hp, hk, hs⟩
    simp only at hp hk hs
    obtain ⟨hC, hBc, hrow⟩ := hJ
    obtain ⟨ad, cap, rfl⟩ := hl.form
    have hcl : c < w.heap.size := lt_of_row hrow
    have q0 := cell_of_one hrow
    have f0 := free_of_one hrow
    have Ss : SentsB a B (w.setCell ⟨c, 0, none⟩ (.int .i64 ((n : Int) + 1))) := S.below (((Kept.of_below (C := C) (Below.refl _ _)).setCell ((hC c).2 rfl) _).below (fun k hk => by rw [(hC k).1 hk]; exact hBc) hB) (Nat.le_refl _)
    have c8 := Ss.is.deep
    have c7 := Ss.is.full
    have z8 := lt_of_cell (S.is.deep)
    have z7 := lt_of_cell (S.is.full)
    have ks : Kept C w (w.setCell ⟨c, 0, none⟩ (.int .i64 ((n : Int) + 1))) := (Kept.of_below (Below.refl _ _)).setCell ((hC c).2 rfl) _
    have k0 : Kept C w ((w.setCell ⟨c, 0, none⟩ (.int .i64 ((n : Int) + 1))).alloc (.cells #[.string t.kind, .string t.data, .bool t.exec, .slice ad t.kids.length cap] 24)) :=
      (ks.trans (Kept.of_below ((Below.refl _ _).alloc (Nat.le_refl _) _)) (fun j h => .inl h))
    have r0 : ((w.setCell ⟨c, 0, none⟩ (.int .i64 ((n : Int) + 1))).alloc (.cells #[.string t.kind, .string t.data, .bool t.exec, .slice ad t.kids.length cap] 24)).heap[c]? = some (.cells #[.int .i64 ((n : Int) + 1)] 3 (0, 0)) :=
      by rw [Below.heap_alloc _ _ _ (by simpa [World.setCell] using hcl)]; exact row1_setCell hrow
    have b0 : Below B w ((w.setCell ⟨c, 0, none⟩ (.int .i64 ((n : Int) + 1))).alloc (.cells #[.string t.kind, .string t.data, .bool t.exec, .slice ad t.kids.length cap] 24)) :=
      k0.below (fun k hk => by rw [(hC k).1 hk]; exact hBc) hB
    have hJn : ∀ w', w'.heap[c]? = some (.cells #[.int .i64 ((n : Int) + 1)] 3 (0, 0)) → ctJ B c (ck n (p, k, t)).1 C w' := fun w' h => ⟨hC, hBc, by
      rw [h]
      have e : (((ck n (p, k, t)).1 : Nat) : Int) = (n : Int) + 1 := by unfold ck; omega
      rw [e]⟩
    have HJn : Hid _ := hJn
    have K0 : Hid _ := k0
    have R0 : Hid _ := r0
    have B0 : Hid _ := b0
    have SS : Hid _ := S
    have HL : Hid _ := hl
    clear hJn k0 r0 b0 S hl hrow Ss ks hC
    by_cases h8 : 8 < k
    · have HE : Hid ((ck n (p, k, t)).2 = some 8) := show _ = _ by unfold ck; rw [if_pos h8]
      go_enter Tryz.func66, Tryz.ntmps66
      go_wp2_with fail
      go_ret
      exact ⟨ret_val (by rw [HE.out]; rfl), C, HJn.out _ R0.out, K0.out, fun j h => .inl h⟩
    · by_cases h7 : 200 < n + 1
      · have HE : Hid ((ck n (p, k, t)).2 = some 7) := show _ = _ by unfold ck; rw [if_neg h8, if_pos h7]
        go_enter Tryz.func66, Tryz.ntmps66
        go_wp2_with fail
        go_ret
        exact ⟨ret_val (by rw [HE.out]; rfl), C, HJn.out _ R0.out, K0.out, fun j h => .inl h⟩
      · have HE : Hid ((ck n (p, k, t)).2 = nodeErr t) := show _ = _ by unfold ck; rw [if_neg h8, if_neg h7]
        go_enter Tryz.func66, Tryz.ntmps66
        go_wp2_with fail
        refine (checkNode_any a t B d _ _ (SS.out.below B0.out (Nat.le_refl _)).is (by have := K0.out.size; omega) (Lies.below HL.out B0.out (Nat.le_refl _)) hs).mono ?_
        rintro e w' ⟨rfl, hb⟩
        go_wp2_with fail
        go_ret
        refine ⟨ret_val (by rw [HE.out]; rfl), C, HJn.out _ ?_, K0.out.trans (Kept.of_below hb) (fun j h => .inl h), fun j h => .inl h⟩
        rw [hb.block c (lt_of_row R0.out)]
        exact R0.out

/-- The first error of a tree. -/
def treeErr (d : Nat) (t : Tree) : Option Nat := (runs ck 0 (pre d ByteArray.empty 0 t)).2

set_option maxHeartbeats 1000000 in
theorem check_any (a : Nat → Addr) (d B : Nat) (t : Tree) (u : Value) (w : World) (S : SentsB a B w) (hB : B ≤ w.heap.size) (hl : Lies w B d t.kids u) (hal : Alive ck ckOk 0 (pre d ByteArray.empty 0 t)) :
    Calls Tryz.prog 44 #[.agg #[.string t.kind, .string t.data, .bool t.exec, u]] w fun e w' => e = .returned (errV a (treeErr d t)) ∧ Below w.heap.size w w' := by
  obtain ⟨ad, cap, rfl⟩ := hl.form
  have hW : ∀ o o', Below w.heap.size w ((w.alloc o).alloc o') := fun o o' => ((Below.refl _ _).alloc (Nat.le_refl _) o).alloc (by simp) o'
  have hS : ∀ o o', SentsB a w.heap.size ((w.alloc o).alloc o') := fun o o' => by
    have := S.is.atB
    exact this.below (hW o o') (Nat.le_refl _)
  have hL : ∀ o o', Lies ((w.alloc o).alloc o') w.heap.size d t.kids (.slice ad t.kids.length cap) := fun o o' => Lies.below (hl.up hB (Nat.le_refl _)) (hW o o') (Nat.le_refl _)
  have HV := walk_Check1 a ⟨w.heap.size + 1, 0, none⟩ w.heap.size (check1_visit a (w.heap.size + 1) w.heap.size) d t ByteArray.empty 0 (.slice ad t.kids.length cap) 0 (fun k => k = w.heap.size + 1)
    ((w.alloc (.cells #[.string t.kind, .string t.data, .bool t.exec, .slice ad t.kids.length cap] 24)).alloc (.cells #[.int .i64 0] 3))
    ⟨fun k => Iff.rfl, by omega, by
      have := row_alloc (w.alloc (.cells #[.string t.kind, .string t.data, .bool t.exec, .slice ad t.kids.length cap] 24)) #[.int .i64 0] 3
      simpa using this⟩ (hS _ _) (by simp; omega) (hL _ _) hal
  have HV : Hid _ := HV
  have HW : Hid _ := hW
  clear hW hS hL hl S hal
  go_enter Tryz.func44, Tryz.ntmps44
  go_wp2_with fail
  refine Calls.mono HV.out ?_
  rintro e w2 ⟨rfl, C2, hJ2, hK2, hC2⟩
  go_wp2_with fail
  go_ret
  refine ⟨rfl, ?_⟩
  exact (HW.out _ _).trans (hK2.below (fun k hk => by omega) (by simp; omega))
end Go.Proofs.YtpjjpmikhjlgnaaGreatDoor
