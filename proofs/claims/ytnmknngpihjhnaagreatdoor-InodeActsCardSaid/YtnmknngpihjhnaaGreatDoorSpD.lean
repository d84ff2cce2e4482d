/-
  The contracts of package space: Used, Free, mark, Copy, Need, and of slices.Clone and slices.ContainsFunc.
  Conditions: the space lies in memory.
-/
import Derived.Test.YtnmknngpihjhnaaGreatDoorSpC
import Derived.WalkKit
import Derived.Laws.MakeOwn
import Derived.Laws.IdiomStrings
import Derived.Deep.WholeRow
import Derived.LoopN
import Derived.BigQuiet
import Derived.KernelRfl
import Derived.Handy
import Derived.Shelf.Abstract
import Derived.Maps.AppendAt
import Derived.Lib.Walk
import Derived.Lib.SliceRun
namespace Go.Proofs.YtnmknngpihjhnaaGreatDoor
open Go.RowKit
theorem own_form {w : World} {B : Nat} {v : Value} {l : List Nat} (h : OwnI w B v l) : ∃ ad vc, v = .slice ad l.length vc := by
  rcases h.2 with ⟨e, e2⟩ | ⟨g, cap, cur, e, _⟩
  · exact ⟨none, 0, by rw [e, e2]⟩
  · exact ⟨_, _, e⟩
section
variable {p b cap : Nat} {u : List Bool}
theorem free1_any (x : Bool) (W : World) : Calls Tryz.prog 83 (#[.bool x] ++ #[]) W fun e W' => e = .returned (.bool (!x)) ∧ W' = W := by
  show Calls Tryz.prog 83 #[.bool x] W _
  go_enter Tryz.func83, Tryz.ntmps83
  go_wp2_with fail
  go_ret
  exact ⟨rfl, rfl⟩
theorem sp_free (w : World) (S : SpAt w p b cap u) (hu : u.length ≤ 512) :
    Calls Tryz.prog 61 #[.pointer (some ⟨p, 0, none⟩)] w fun e w' => ∃ v, e = .returned v ∧ OwnI w' w.heap.size v (freeR u) ∧ Below w.heap.size w w' := by
  have HS := sp_where 83 (fun x => !x) w S hu (enters_of Tryz.func83 (by kernel_rfl) rfl) free1_any
  clear S
  go_enter Tryz.func61, Tryz.ntmps61
  go_wp2_with (go_at_call 82; refine HS.mono ?_; rintro e w1 ⟨v, rfl, h1, h2⟩)
  go_ret
  exact ⟨v, rfl, h1, h2⟩
theorem sp_Free (w : World) (S : SpAt w p b cap u) (hu : u.length ≤ 512) :
    Calls Tryz.prog 41 #[.pointer (some ⟨p, 0, none⟩)] w fun e w' => e = .returned (.int .i64 ((freeR u).length : Int)) ∧ Below w.heap.size w w' := by
  have HS := sp_free w S hu
  clear S
  go_enter Tryz.func41, Tryz.ntmps41
  go_wp2_with (go_at_call 61; refine HS.mono ?_; rintro e w1 ⟨v, rfl, h1, h2⟩; (obtain ⟨ad, vc, rfl⟩ := own_form h1); clear h1)
  go_ret
  exact ⟨rfl, h2⟩
set_option maxRecDepth 100000 in
set_option maxHeartbeats 2000000 in
theorem sp_mark (x : Bool) (v : Value) (l : List Nat) (w : World) (S : SpAt w p b cap u) (hv : IntsT w v (ints l)) (hl : l.length ≤ 100000) (hk : ∀ k ∈ l, k < u.length) :
    Calls Tryz.prog 62 #[.pointer (some ⟨p, 0, none⟩), v, .bool x] w fun e w' => e = .returned (.tuple #[]) ∧ SpAt w' p b cap (markR u x l) ∧ w.grownBy w' (some b) := by
  obtain ⟨ad, vc, rfl, hcs⟩ := hv
  have hle : (ints l).length = l.length := by simp [ints]
  rw [hle]
  have HSA : Hid (SpAt w p b cap u) := S
  obtain ⟨cur0, hrow, _⟩ := S.row
  have HC : Hid (∀ (j k : Nat), l[j]? = some k → ∃ g off, ad = some ⟨g, off, none⟩ ∧ ∀ w', w.grownBy w' (some b) → w'.cell? ⟨g, off + j, none⟩ = some (.int .i64 (k : Int))) := fun j k hj => by
    obtain ⟨g, off, cur, e1, e2, e3⟩ := hcs (fun h => by have : l = [] := by simpa [ints] using h
                                                         rw [this] at hj; simp at hj)
    refine ⟨g, off, e1, fun w' hg => ?_⟩
    have hgb : g ≠ b := fun e => by
      rw [e, hrow] at e2
      simp only [Option.some.injEq, Obj.cells.injEq] at e2
      exact absurd e2.2.1 (by decide)
    have hgl := (Array.getElem?_eq_some_iff.1 e2).1
    rw [World.cell?_of_block (a := ⟨g, off + j, none⟩) (hg.block g hgl (by simpa using hgb)), cell_of_row _ _ _ _ _ _ e2]
    exact e3 j k (by simp [ints, hj])
  have HK : Hid (∀ k ∈ l, k < u.length) := hk
  clear hcs hrow S hk
  go_enter Tryz.func62, Tryz.ntmps62
  go_wp2_with fail
  go_loopw [10] (fun i wr => ∃ j : Nat, j ≤ l.length ∧ i = .int .i64 j ∧ SpAt wr p b cap (markR u x (l.take j)) ∧ w.grownBy wr (some b)) (fun i _ => l.length - (intOf i).toNat)
  case atStart => exact ⟨0, Nat.zero_le _, rfl, by simp only [List.take_zero, markR]; exact HSA.out, ⟨rfl, rfl, rfl, Nat.le_refl _, fun _ _ _ => rfl⟩⟩
  case round =>
    obtain ⟨j, hj, rfl, S, hg⟩ := hrel
    have HS : Hid (SpAt wr p b cap (markR u x (l.take j))) := S
    have HG : Hid (w.grownBy wr (some b)) := hg
    by_cases hlt : j < l.length
    · obtain ⟨k, hk⟩ : ∃ k, l[j]? = some k := ⟨_, List.getElem?_eq_getElem hlt⟩
      obtain ⟨g, off, rfl, hc⟩ := HC.out j k hk
      have c1 := hc wr hg
      have c0 := S.cell
      rw [markR_len] at c0
      have hku := HK.out k (List.mem_of_getElem? hk)
      obtain ⟨y, hy⟩ : ∃ y, (markR u x (l.take j))[k]? = some y := ⟨_, List.getElem?_eq_getElem (by rw [markR_len]; exact hku)⟩
      have c2 := S.mark hy
      have f2 := S.frozen k
      have HN : Hid (markR u x (l.take (j + 1)) = (markR u x (l.take j)).set k x) := by
        show _ = _
        rw [List.take_succ_eq_append_getElem hlt, markR_snoc]
        congr 1
        exact (List.getElem?_eq_some_iff.1 hk).2
      clear S hg hc hy hk
      go_wp2_with fail
      refine ⟨⟨j + 1, by omega, by simp, by rw [HN.out]; exact HS.out.set k x, ⟨HG.out.os, HG.out.tape, HG.out.output, by simp [World.setCell]; exact HG.out.size, fun q hq hqb => ?_⟩⟩, by simp [intOf]; omega⟩
      rw [Below.heap_setCell _ _ _ _ (by simpa using hqb)]
      exact HG.out.block q hq hqb
    · obtain rfl : j = l.length := by omega
      clear S hg
      go_wp2_with fail
      go_returns
      rw [List.take_length] at HS
      exact ⟨rfl, HS.out, HG.out⟩
set_option maxRecDepth 100000 in
set_option maxHeartbeats 2000000 in
theorem cloneI_any (v : Value) (l : List Int) (w : World) (hv : IntsAt w v l) (hl : l.length ≤ 100000) :
    Calls Tryz.prog 29 #[v] w fun e w' => ∃ v', e = .returned v' ∧ w'.ownsRow w.heap.size 3 1 v' l.length (l.map (Value.int .i64)) ∧ Below w.heap.size w w' := by
  obtain ⟨ad, vc, rfl, hcs⟩ := hv
  obtain ⟨i0, hi0, hz0, hz1, hz2⟩ := info_parts infoIn
  have q22 : ∀ (w : World) (a : Option Addr) (n c n' c' : Nat), (binOp .eql 36 (.slice a n c) (.slice none n' c')).run Tryz.prog w = .ok (.bool a.isNone) w := fun w a n c n' c' => Lib.run_eql_slice_nil w _ _ a n c n' c' Tryz.underlying36
  have HCS : Hid (∀ i x, l[i]? = some x → ∃ b off, ad = some ⟨b, off, none⟩ ∧ w.cell? ⟨b, off + i, none⟩ = some (.int .i64 x)) := hcs
  clear hcs
  cases ad with
  | none =>
    have hl0 : l = [] := by
      cases l with
      | nil => rfl
      | cons y l => obtain ⟨_, _, e, _⟩ := HCS.out 0 y rfl; cases e
    subst hl0
    go_enter Tryz.func29, Tryz.ntmps29
    go_wp2_with fail
    go_ret
    exact ⟨_, rfl, World.ownsRow_nil _ _ _ _, Below.refl _ _⟩
  | some a =>
    obtain ⟨m, hm⟩ : ∃ m, m = l.length := ⟨_, rfl⟩
    have HM : Hid (m = l.length) := hm
    rw [← hm] at hl ⊢
    have HC : Hid (∀ X j u, (l.map (Value.int .i64))[j]? = some u → (w.alloc X).cell? (a.add j) = some u) := fun X j u hu => by
      rw [List.getElem?_map] at hu
      cases e : l[j]? with
      | none => rw [e] at hu; cases hu
      | some z =>
        rw [e] at hu
        simp only [Option.map_some, Option.some.injEq] at hu
        obtain ⟨b', off', e', h'⟩ := HCS.out j z e
        cases e'
        rw [Addr.add_mid, ← hu]
        exact Lib.cell?_alloc_some _ h'
    have HO : Hid (∀ u ∈ l.map (Value.int .i64), u.oneCell' = true) := fun u hu => by
      obtain ⟨z, _, rfl⟩ := List.mem_map.1 hu
      rfl
    have HL : Hid ((l.map (Value.int .i64)).length = m * 1) := by show _ = _; simp [hm]
    clear hm
    go_enter Tryz.func29, Tryz.ntmps29
    go_wp2_with (at_builtin; refine wpList_append_own _ (by rfl) (.tmp 5) (.tmp 6) 36 (by rfl) w.heap.size 3 i0 _ 1 8 Tryz.underlying36 hi0 hz0 hz1 hz2 rfl (by omega) _ 0 [] (by rfl) (World.ownsRow_made w #[] 0 (Nat.le_refl _) (Nat.zero_le _) rfl) a m vc (l.map (Value.int .i64)) (by rfl) HL.out (HC.out _) HO.out (by unfold maxLen; omega) (by omega) (by simp) ?_; intro v' w1 hown hgrow _)
    go_ret
    refine ⟨v', rfl, by simpa using hown, ((Below.refl _ w).alloc (Nat.le_refl _) _).grown hgrow (by simp) (by intro k hk; simp [Value.ownBlock] at hk; omega)⟩
set_option maxRecDepth 100000 in
set_option maxHeartbeats 2000000 in
theorem cloneB_any (w : World) (S : SpAt w p b cap u) (hu : u.length ≤ 512) :
    Calls Tryz.prog 87 #[.slice (some ⟨b, 0, none⟩) u.length cap] w fun e w' => ∃ g c, e = .returned (.slice (some ⟨g, 0, none⟩) u.length c) ∧ w'.ownsRow w.heap.size 4 1 (.slice (some ⟨g, 0, none⟩) u.length c) u.length (u.map Value.bool) ∧ Below w.heap.size w w' := by
  obtain ⟨i0, hi0, hz0, hz1, hz2⟩ := info_parts infoBo
  have q22 : ∀ (w : World) (a : Option Addr) (n c n' c' : Nat), (binOp .eql 108 (.slice a n c) (.slice none n' c')).run Tryz.prog w = .ok (.bool a.isNone) w := fun w a n c n' c' => Lib.run_eql_slice_nil w _ _ a n c n' c' Tryz.underlying108
  have HC : Hid (∀ X j y, (u.map Value.bool)[j]? = some y → (w.alloc X).cell? ((⟨b, 0, none⟩ : Addr).add j) = some y) := fun X j y hy => by
    rw [List.getElem?_map] at hy
    cases e : u[j]? with
    | none => rw [e] at hy; cases hy
    | some z =>
      rw [e] at hy
      simp only [Option.map_some, Option.some.injEq] at hy
      rw [Addr.add_mid, ← hy, Nat.zero_add]
      exact Lib.cell?_alloc_some _ (S.mark e)
  have HO : Hid (∀ y ∈ u.map Value.bool, y.oneCell' = true) := fun y hy => by
    obtain ⟨z, _, rfl⟩ := List.mem_map.1 hy
    rfl
  have HL : Hid ((u.map Value.bool).length = u.length * 1) := by show _ = _; simp
  clear S
  go_enter Tryz.func87, Tryz.ntmps87
  go_wp2_with (at_builtin; refine wpList_append_own _ (by rfl) (.tmp 5) (.tmp 6) 108 (by rfl) w.heap.size 4 i0 _ 1 1 Tryz.underlying108 hi0 hz0 hz1 hz2 rfl (by omega) _ 0 [] (by rfl) (World.ownsRow_made w #[] 0 (Nat.le_refl _) (Nat.zero_le _) rfl) ⟨b, 0, none⟩ u.length cap (u.map Value.bool) (by rfl) HL.out (HC.out _) HO.out (by unfold maxLen; omega) (by omega) (by simp) ?_; intro v' w1 hown hgrow hnil)
  go_ret
  have hb : Below w.heap.size w w1 := ((Below.refl _ w).alloc (Nat.le_refl _) _).grown hgrow (by simp) (by intro k hk; simp [Value.ownBlock] at hk; omega)
  rw [Nat.zero_add, List.nil_append] at hown
  rcases hown.2 with ⟨e, _⟩ | ⟨g, c, cur, e, _⟩
  · exact absurd (hnil.1 e).1 (by simp)
  · subst e
    exact ⟨g, c, rfl, hown, hb⟩
end
/-- How many blocks bytes need. -/
def needR (n : Int) : Int := if n < 1 then 0 else (n - 1) / 16 + 1
set_option maxRecDepth 100000 in
theorem sp_need (n : Int) (w : World) (hn : n ≤ 1000000) : Calls Tryz.prog 38 #[.int .i64 n] w fun e w' => e = .returned (.int .i64 (needR n)) ∧ w' = w := by
  by_cases h : n < 1
  · go_enter Tryz.func38, Tryz.ntmps38
    go_wp2_with fail
    go_ret
    have e : needR n = 0 := if_pos h
    exact ⟨by rw [e]; rfl, rfl⟩
  · have h1 : IntKind.i64.wrap (n - 1) = n - 1 := by rw [IntKind.wrap_i64]; omega
    have h2 : Int.tdiv (n - 1) 16 = (n - 1) / 16 := Int.tdiv_eq_ediv_of_nonneg (by omega)
    have h3 : IntKind.i64.wrap ((n - 1) / 16 + 1) = (n - 1) / 16 + 1 := by rw [IntKind.wrap_i64]; omega
    go_enter Tryz.func38, Tryz.ntmps38
    go_wp2_with fail
    go_ret
    have e : needR n = (n - 1) / 16 + 1 := if_neg (by omega)
    exact ⟨by rw [e]; rfl, rfl⟩
end Go.Proofs.YtnmknngpihjhnaaGreatDoor
