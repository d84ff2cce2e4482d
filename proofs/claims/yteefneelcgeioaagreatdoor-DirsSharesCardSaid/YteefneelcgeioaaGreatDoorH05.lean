/-
  The contracts of package space: New, marks, where.
  The contracts of package space: Used, Free, mark, Copy, Need, and of slices.Clone and slices.ContainsFunc.
  Conditions: those that each states.
-/
import Derived.Test.YteefneelcgeioaaGreatDoorH04
import Derived.WalkKit
import Derived.Laws.MakeOwn
import Derived.Laws.IdiomStrings
import Derived.Deep.WholeRow
import Derived.LoopN
import Derived.BigQuiet
import Derived.KernelRfl
import Derived.Handy
import Derived.Shelf.Abstract
import Derived.Maps.AppendAt
import Derived.Lib.Walk
import Derived.Lib.SliceRun
namespace Go.Proofs.YteefneelcgeioaaGreatDoor
open Go.RowKit

set_option maxRecDepth 100000 in
theorem run_make_bools (n : Nat) (hn : n ≤ 100000) (w : World) : (Instr.makeSlice 182 (.int .i64 (n : Int)) (.int .i64 (n : Int))).run Tryz.prog w = .ok (.slice (some ⟨w.heap.size, 0, none⟩) n n) (w.alloc (.cells ((List.replicate n false).map Value.bool).toArray 4)) := by
  obtain ⟨i0, hi0, hz0, hz1, hz2⟩ := info_parts infoBo
  have := run_make (P := Tryz.prog) w 182 4 i0 _ Tryz.underlying182 hi0 hz0 .i64 .i64 n n (by omega) (Int.le_refl _) (by rw [hz2]; omega) (by omega)
  simp only [Int.toNat_natCast] at this
  rw [this, hz1]
  congr 3
  apply Array.ext
  · simp [size_madeCells]
  · intro i h1 h2
    simp [madeCells, Value.cells, Nat.mod_one]
theorem made_bools (n : Nat) (hn : n ≤ 100000) (w : World) (C0 : Array Value) (h : C0 = ((List.replicate n false).map Value.bool).toArray) : RowB (w.alloc (.cells C0 4)) w.heap.size n (List.replicate n false) :=
  ⟨by simp, .inr ⟨w.heap.size, n, C0, by simp, Nat.zero_le _, heap_alloc_last _ _, by simp, by unfold maxLen; omega, by rw [h]; simp, by rw [h]; simp⟩⟩
set_option maxRecDepth 100000 in
set_option maxHeartbeats 1000000 in
theorem sp_new (n : Nat) (h1 : 1 ≤ n) (h2 : n ≤ 512) (w : World) :
    Calls Tryz.prog 84 #[.int .i64 (n : Int)] w fun e w' => e = .returned (.tuple #[.pointer (some ⟨w.heap.size + 1, 0, none⟩), .nilIface]) ∧ SpAt w' (w.heap.size + 1) w.heap.size n (List.replicate n false) ∧ Below w.heap.size w w' := by
  have HM := run_make_bools n (by omega) w
  obtain ⟨C0, hC0⟩ : ∃ C0, C0 = ((List.replicate n false).map Value.bool).toArray := ⟨_, rfl⟩
  rw [← hC0] at HM
  have HC0 : Hid (C0 = ((List.replicate n false).map Value.bool).toArray) := hC0
  clear hC0
  go_enter Tryz.func84, Tryz.ntmps84
  go_wp2_with fail
  go_ret2
  have hs1 : (w.alloc (.cells C0 4)).heap.size = w.heap.size + 1 := by simp
  refine ⟨rfl, ⟨?_, by simp, .inr ⟨w.heap.size, n, C0, by simp, Nat.zero_le _, ?_, by simp, by unfold maxLen; omega, by rw [HC0.out]; simp, by rw [HC0.out]; simp⟩⟩, ((Below.refl _ w).alloc (Nat.le_refl _) _).alloc (by simp) _⟩
  · rw [← hs1, heap_alloc_last, List.length_replicate]
  · rw [Below.heap_alloc _ _ _ (by simp), heap_alloc_last]
set_option maxRecDepth 100000 in
set_option maxHeartbeats 1000000 in
theorem sp_new_not (n : Int) (h : n < 1 ∨ 512 < n) (er : Value) (w : World) (hE : w.cell? ⟨6, 0, none⟩ = some er) :
    Calls Tryz.prog 84 #[.int .i64 n] w fun e w' => e = .returned (.tuple #[.pointer none, er]) ∧ Below w.heap.size w w' := by
  by_cases h1 : n < 1
  · go_enter Tryz.func84, Tryz.ntmps84
    go_wp2_with fail
    go_quiet (fail)
    go_wp2_with fail
    go_ret2
    exact ⟨rfl, ⟨rfl, rfl, rfl, Nat.le_refl _, fun _ _ => rfl⟩⟩
  · have h2 : 512 < n := by omega
    clear h
    go_enter Tryz.func84, Tryz.ntmps84
    go_wp2_with fail
    go_quiet (fail)
    go_wp2_with fail
    go_ret2
    exact ⟨rfl, ⟨rfl, rfl, rfl, Nat.le_refl _, fun _ _ => rfl⟩⟩
section
variable {p b cap : Nat} {u : List Bool}
set_option maxRecDepth 100000 in
set_option maxHeartbeats 1000000 in
theorem sp_marks (w : World) (S : SpAt w p b cap u) :
    Calls Tryz.prog 109 #[.pointer (some ⟨p, 0, none⟩)] w fun e w' => e = .returned (.slice (some ⟨b, 0, none⟩) u.length cap) ∧ w' = w := by
  have c := S.cell
  clear S
  go_enter Tryz.func109, Tryz.ntmps109
  go_wp2_with fail
  go_ret
  exact ⟨rfl, rfl⟩
set_option maxRecDepth 100000 in
set_option maxHeartbeats 2000000 in
theorem sp_where (g : Nat) (pr : Bool → Bool) (w : World) (S : SpAt w p b cap u) (hu : u.length ≤ 512)
    (eg : ∀ args w, (callFunc g args).run Tryz.prog w = .ok (.enter g args) w)
    (HF : ∀ (x : Bool) (W : World), Calls Tryz.prog g (#[.bool x] ++ #[]) W fun e W' => e = .returned (.bool (pr x)) ∧ W' = W) :
    Calls Tryz.prog 100 #[.pointer (some ⟨p, 0, none⟩), .func (.func g) #[] #[]] w fun e w' => ∃ v, e = .returned v ∧ OwnI w' w.heap.size v (whereR pr u u.length) ∧ Below w.heap.size w w' := by
  obtain ⟨i0, hi0, hz0, hz1, hz2⟩ := info_parts infoIn
  have HM := sp_marks w S
  have HS : Hid (SpAt w p b cap u) := S
  have HFF : Hid (∀ (x : Bool) (W : World), Calls Tryz.prog g (#[.bool x] ++ #[]) W fun e W' => e = .returned (.bool (pr x)) ∧ W' = W) := HF
  clear S HF
  go_enter Tryz.func100, Tryz.ntmps100
  go_wp2_with (go_at_call 109; refine HM.mono ?_; rintro e w1 ⟨rfl, hw⟩; rw [hw]; clear hw)
  clear HM
  go_loopw [5, 11] (fun l i wr => ∃ j : Nat, j ≤ u.length ∧ i = .int .i64 j ∧ OwnI wr w.heap.size l (whereR pr u j) ∧ Below w.heap.size w wr) (fun _ i _ => u.length - (intOf i).toNat)
  case atStart => exact ⟨0, Nat.zero_le _, rfl, OwnI.nil _ _, Below.refl _ _⟩
  case round =>
    obtain ⟨j, hj, rfl, ho, hb⟩ := hrel
    have HO : Hid (OwnI wr w.heap.size u5 (whereR pr u j)) := ho
    have HB : Hid (Below w.heap.size w wr) := hb
    by_cases hlt : j < u.length
    · obtain ⟨x, hx⟩ : ∃ x, u[j]? = some x := ⟨_, List.getElem?_eq_getElem hlt⟩
      have c := (HS.out.below hb).mark hx
      have HN : Hid (whereR pr u (j + 1) = if pr x then whereR pr u j ++ [j] else whereR pr u j) := by show _ = _; rw [whereR_next, hx]; rfl
      have HC := HFF.out x wr
      have hwl := whereR_len pr u j
      clear ho hb hx
      cases hp : pr x with
      | true =>
        rw [hp] at HC HN
        have hsz := HB.out.size
        obtain ⟨m, xs, HMm, HO1⟩ : ∃ m xs, Hid (m = (whereR pr u j).length ∧ xs = (ints (whereR pr u j)).map (Value.int .i64)) ∧ Hid (∀ X, (wr.alloc X).ownsRow w.heap.size 3 1 u5 m xs) := ⟨_, _, ⟨rfl, rfl⟩, fun X => HO.out.alloc X⟩
        have hm5 : m ≤ 512 := by rw [HMm.out.1]; omega
        go_wp2_with (first
          | (refine HC.mono ?_; rintro e w2 ⟨rfl, hw⟩; rw [hw]; clear hw)
          | (at_builtin; refine wpList_append_own _ (by rfl) (.tmp 19) (.tmp 21) 44 (by rfl) w.heap.size 3 i0 _ 1 8 Tryz.underlying44 hi0 hz0 hz1 hz2 rfl (by omega) _ m _ (by rfl) (HO1.out _) ⟨wr.heap.size, 0, none⟩ 1 1 [.int .i64 (j : Int)] (by rfl) rfl (cell_one_new _ _ _) (fun u hu => by rw [List.mem_singleton.1 hu]; rfl) (by unfold maxLen; omega) (by omega) (by rw [World.size_alloc]; omega) ?_; intro v' w3 hown hgrow _))
        refine ⟨⟨j + 1, by omega, by simp, ?_, (HB.out.alloc hsz _).grown hgrow (by rw [World.size_alloc]; omega) (fun k hk => (HO.out.lt k hk).1)⟩, by simp [intOf]; omega⟩
        rw [HN.out]
        obtain ⟨e1, e2⟩ := HMm.out
        rw [e1, e2] at hown
        unfold OwnI
        simpa [ints] using hown
      | false =>
        rw [hp] at HC HN
        go_wp2_with (refine HC.mono ?_; rintro e w2 ⟨rfl, hw⟩; rw [hw]; clear hw)
        refine ⟨⟨j + 1, by omega, by simp, by rw [HN.out]; exact HO.out, HB.out⟩, by simp [intOf]; omega⟩
    · obtain rfl : j = u.length := by omega
      clear ho hb
      go_wp2_with fail
      go_ret
      exact ⟨_, rfl, HO.out, HB.out⟩
end
end Go.Proofs.YteefneelcgeioaaGreatDoor
namespace Go.Proofs.YteefneelcgeioaaGreatDoor
open Go.RowKit
theorem own_form {w : World} {B : Nat} {v : Value} {l : List Nat} (h : OwnI w B v l) : ∃ ad vc, v = .slice ad l.length vc := by
  rcases h.2 with ⟨e, e2⟩ | ⟨g, cap, cur, e, _⟩
  · exact ⟨none, 0, by rw [e, e2]⟩
  · exact ⟨_, _, e⟩
section
variable {p b cap : Nat} {u : List Bool}
theorem free1_any (x : Bool) (W : World) : Calls Tryz.prog 101 (#[.bool x] ++ #[]) W fun e W' => e = .returned (.bool (!x)) ∧ W' = W := by
  show Calls Tryz.prog 101 #[.bool x] W _
  go_enter Tryz.func101, Tryz.ntmps101
  go_wp2_with fail
  go_ret
  exact ⟨rfl, rfl⟩
theorem sp_free (w : World) (S : SpAt w p b cap u) (hu : u.length ≤ 512) :
    Calls Tryz.prog 76 #[.pointer (some ⟨p, 0, none⟩)] w fun e w' => ∃ v, e = .returned v ∧ OwnI w' w.heap.size v (freeR u) ∧ Below w.heap.size w w' := by
  have HS := sp_where 101 (fun x => !x) w S hu (enters_of Tryz.func101 (by kernel_rfl) rfl) free1_any
  clear S
  go_enter Tryz.func76, Tryz.ntmps76
  go_wp2_with (go_at_call 100; refine HS.mono ?_; rintro e w1 ⟨v, rfl, h1, h2⟩)
  go_ret
  exact ⟨v, rfl, h1, h2⟩
theorem sp_Free (w : World) (S : SpAt w p b cap u) (hu : u.length ≤ 512) :
    Calls Tryz.prog 49 #[.pointer (some ⟨p, 0, none⟩)] w fun e w' => e = .returned (.int .i64 ((freeR u).length : Int)) ∧ Below w.heap.size w w' := by
  have HS := sp_free w S hu
  clear S
  go_enter Tryz.func49, Tryz.ntmps49
  go_wp2_with (go_at_call 76; refine HS.mono ?_; rintro e w1 ⟨v, rfl, h1, h2⟩; (obtain ⟨ad, vc, rfl⟩ := own_form h1); clear h1)
  go_ret
  exact ⟨rfl, h2⟩
set_option maxRecDepth 100000 in
set_option maxHeartbeats 2000000 in
theorem sp_mark (x : Bool) (v : Value) (l : List Nat) (w : World) (S : SpAt w p b cap u) (hv : IntsT w v (ints l)) (hl : l.length ≤ 100000) (hk : ∀ k ∈ l, k < u.length) :
    Calls Tryz.prog 93 #[.pointer (some ⟨p, 0, none⟩), v, .bool x] w fun e w' => e = .returned (.tuple #[]) ∧ SpAt w' p b cap (markR u x l) ∧ w.grownBy w' (some b) := by
  obtain ⟨ad, vc, rfl, hcs⟩ := hv
  have hle : (ints l).length = l.length := by simp [ints]
  rw [hle]
  have HSA : Hid (SpAt w p b cap u) := S
  obtain ⟨cur0, hrow, _⟩ := S.row
  have HC : Hid (∀ (j k : Nat), l[j]? = some k → ∃ g off, ad = some ⟨g, off, none⟩ ∧ ∀ w', w.grownBy w' (some b) → w'.cell? ⟨g, off + j, none⟩ = some (.int .i64 (k : Int))) := fun j k hj => by
    obtain ⟨g, off, cur, e1, e2, e3⟩ := hcs (fun h => by have : l = [] := by simpa [ints] using h
                                                         rw [this] at hj; simp at hj)
    refine ⟨g, off, e1, fun w' hg => ?_⟩
    have hgb : g ≠ b := fun e => by
      rw [e, hrow] at e2
      simp only [Option.some.injEq, Obj.cells.injEq] at e2
      exact absurd e2.2.1 (by decide)
    have hgl := (Array.getElem?_eq_some_iff.1 e2).1
    rw [World.cell?_of_block (a := ⟨g, off + j, none⟩) (hg.block g hgl (by simpa using hgb)), cell_of_row _ _ _ _ _ _ e2]
    exact e3 j k (by simp [ints, hj])
  have HK : Hid (∀ k ∈ l, k < u.length) := hk
  clear hcs hrow S hk
  go_enter Tryz.func93, Tryz.ntmps93
  go_wp2_with fail
  go_loopw [10] (fun i wr => ∃ j : Nat, j ≤ l.length ∧ i = .int .i64 j ∧ SpAt wr p b cap (markR u x (l.take j)) ∧ w.grownBy wr (some b)) (fun i _ => l.length - (intOf i).toNat)
  case atStart => exact ⟨0, Nat.zero_le _, rfl, by simp only [List.take_zero, markR]; exact HSA.out, ⟨rfl, rfl, rfl, Nat.le_refl _, fun _ _ _ => rfl⟩⟩
  case round =>
    obtain ⟨j, hj, rfl, S, hg⟩ := hrel
    have HS : Hid (SpAt wr p b cap (markR u x (l.take j))) := S
    have HG : Hid (w.grownBy wr (some b)) := hg
    by_cases hlt : j < l.length
    · obtain ⟨k, hk⟩ : ∃ k, l[j]? = some k := ⟨_, List.getElem?_eq_getElem hlt⟩
      obtain ⟨g, off, rfl, hc⟩ := HC.out j k hk
      have c1 := hc wr hg
      have c0 := S.cell
      rw [markR_len] at c0
      have hku := HK.out k (List.mem_of_getElem? hk)
      obtain ⟨y, hy⟩ : ∃ y, (markR u x (l.take j))[k]? = some y := ⟨_, List.getElem?_eq_getElem (by rw [markR_len]; exact hku)⟩
      have c2 := S.mark hy
      have f2 := S.frozen k
      have HN : Hid (markR u x (l.take (j + 1)) = (markR u x (l.take j)).set k x) := by
        show _ = _
        rw [List.take_succ_eq_append_getElem hlt, markR_snoc]
        congr 1
        exact (List.getElem?_eq_some_iff.1 hk).2
      clear S hg hc hy hk
      go_wp2_with fail
      refine ⟨⟨j + 1, by omega, by simp, by rw [HN.out]; exact HS.out.set k x, ⟨HG.out.os, HG.out.tape, HG.out.output, by simp [World.setCell]; exact HG.out.size, fun q hq hqb => ?_⟩⟩, by simp [intOf]; omega⟩
      rw [Below.heap_setCell _ _ _ _ (by simpa using hqb)]
      exact HG.out.block q hq hqb
    · obtain rfl : j = l.length := by omega
      clear S hg
      go_wp2_with fail
      go_returns
      rw [List.take_length] at HS
      exact ⟨rfl, HS.out, HG.out⟩
set_option maxRecDepth 100000 in
set_option maxHeartbeats 2000000 in
theorem cloneI_any (v : Value) (l : List Int) (w : World) (hv : IntsAt w v l) (hl : l.length ≤ 100000) :
    Calls Tryz.prog 47 #[v] w fun e w' => ∃ v', e = .returned v' ∧ w'.ownsRow w.heap.size 3 1 v' l.length (l.map (Value.int .i64)) ∧ Below w.heap.size w w' := by
  obtain ⟨ad, vc, rfl, hcs⟩ := hv
  obtain ⟨i0, hi0, hz0, hz1, hz2⟩ := info_parts infoIn
  have q22 : ∀ (w : World) (a : Option Addr) (n c n' c' : Nat), (binOp .eql 44 (.slice a n c) (.slice none n' c')).run Tryz.prog w = .ok (.bool a.isNone) w := fun w a n c n' c' => Lib.run_eql_slice_nil w _ _ a n c n' c' Tryz.underlying44
  have HCS : Hid (∀ i x, l[i]? = some x → ∃ b off, ad = some ⟨b, off, none⟩ ∧ w.cell? ⟨b, off + i, none⟩ = some (.int .i64 x)) := hcs
  clear hcs
  cases ad with
  | none =>
    have hl0 : l = [] := by
      cases l with
      | nil => rfl
      | cons y l => obtain ⟨_, _, e, _⟩ := HCS.out 0 y rfl; cases e
    subst hl0
    go_enter Tryz.func47, Tryz.ntmps47
    go_wp2_with fail
    go_ret
    exact ⟨_, rfl, World.ownsRow_nil _ _ _ _, Below.refl _ _⟩
  | some a =>
    obtain ⟨m, hm⟩ : ∃ m, m = l.length := ⟨_, rfl⟩
    have HM : Hid (m = l.length) := hm
    rw [← hm] at hl ⊢
    have HC : Hid (∀ X j u, (l.map (Value.int .i64))[j]? = some u → (w.alloc X).cell? (a.add j) = some u) := fun X j u hu => by
      rw [List.getElem?_map] at hu
      cases e : l[j]? with
      | none => rw [e] at hu; cases hu
      | some z =>
        rw [e] at hu
        simp only [Option.map_some, Option.some.injEq] at hu
        obtain ⟨b', off', e', h'⟩ := HCS.out j z e
        cases e'
        rw [Addr.add_mid, ← hu]
        exact Lib.cell?_alloc_some _ h'
    have HO : Hid (∀ u ∈ l.map (Value.int .i64), u.oneCell' = true) := fun u hu => by
      obtain ⟨z, _, rfl⟩ := List.mem_map.1 hu
      rfl
    have HL : Hid ((l.map (Value.int .i64)).length = m * 1) := by show _ = _; simp [hm]
    clear hm
    go_enter Tryz.func47, Tryz.ntmps47
    go_wp2_with (at_builtin; refine wpList_append_own _ (by rfl) (.tmp 5) (.tmp 6) 44 (by rfl) w.heap.size 3 i0 _ 1 8 Tryz.underlying44 hi0 hz0 hz1 hz2 rfl (by omega) _ 0 [] (by rfl) (World.ownsRow_made w #[] 0 (Nat.le_refl _) (Nat.zero_le _) rfl) a m vc (l.map (Value.int .i64)) (by rfl) HL.out (HC.out _) HO.out (by unfold maxLen; omega) (by omega) (by simp) ?_; intro v' w1 hown hgrow _)
    go_ret
    refine ⟨v', rfl, by simpa using hown, ((Below.refl _ w).alloc (Nat.le_refl _) _).grown hgrow (by simp) (by intro k hk; simp [Value.ownBlock] at hk; omega)⟩
set_option maxRecDepth 100000 in
set_option maxHeartbeats 2000000 in
theorem cloneB_any (w : World) (S : SpAt w p b cap u) (hu : u.length ≤ 512) :
    Calls Tryz.prog 108 #[.slice (some ⟨b, 0, none⟩) u.length cap] w fun e w' => ∃ g c, e = .returned (.slice (some ⟨g, 0, none⟩) u.length c) ∧ w'.ownsRow w.heap.size 4 1 (.slice (some ⟨g, 0, none⟩) u.length c) u.length (u.map Value.bool) ∧ Below w.heap.size w w' := by
  obtain ⟨i0, hi0, hz0, hz1, hz2⟩ := info_parts infoBo
  have q22 : ∀ (w : World) (a : Option Addr) (n c n' c' : Nat), (binOp .eql 182 (.slice a n c) (.slice none n' c')).run Tryz.prog w = .ok (.bool a.isNone) w := fun w a n c n' c' => Lib.run_eql_slice_nil w _ _ a n c n' c' Tryz.underlying182
  have HC : Hid (∀ X j y, (u.map Value.bool)[j]? = some y → (w.alloc X).cell? ((⟨b, 0, none⟩ : Addr).add j) = some y) := fun X j y hy => by
    rw [List.getElem?_map] at hy
    cases e : u[j]? with
    | none => rw [e] at hy; cases hy
    | some z =>
      rw [e] at hy
      simp only [Option.map_some, Option.some.injEq] at hy
      rw [Addr.add_mid, ← hy, Nat.zero_add]
      exact Lib.cell?_alloc_some _ (S.mark e)
  have HO : Hid (∀ y ∈ u.map Value.bool, y.oneCell' = true) := fun y hy => by
    obtain ⟨z, _, rfl⟩ := List.mem_map.1 hy
    rfl
  have HL : Hid ((u.map Value.bool).length = u.length * 1) := by show _ = _; simp
  clear S
  go_enter Tryz.func108, Tryz.ntmps108
  go_wp2_with (at_builtin; refine wpList_append_own _ (by rfl) (.tmp 5) (.tmp 6) 182 (by rfl) w.heap.size 4 i0 _ 1 1 Tryz.underlying182 hi0 hz0 hz1 hz2 rfl (by omega) _ 0 [] (by rfl) (World.ownsRow_made w #[] 0 (Nat.le_refl _) (Nat.zero_le _) rfl) ⟨b, 0, none⟩ u.length cap (u.map Value.bool) (by rfl) HL.out (HC.out _) HO.out (by unfold maxLen; omega) (by omega) (by simp) ?_; intro v' w1 hown hgrow hnil)
  go_ret
  have hb : Below w.heap.size w w1 := ((Below.refl _ w).alloc (Nat.le_refl _) _).grown hgrow (by simp) (by intro k hk; simp [Value.ownBlock] at hk; omega)
  rw [Nat.zero_add, List.nil_append] at hown
  rcases hown.2 with ⟨e, _⟩ | ⟨g, c, cur, e, _⟩
  · exact absurd (hnil.1 e).1 (by simp)
  · subst e
    exact ⟨g, c, rfl, hown, hb⟩
end
/-- How many blocks bytes need. -/
def needR (n : Int) : Int := if n < 1 then 0 else (n - 1) / 16 + 1
set_option maxRecDepth 100000 in
theorem sp_need (n : Int) (w : World) (hn : n ≤ 1000000) : Calls Tryz.prog 62 #[.int .i64 n] w fun e w' => e = .returned (.int .i64 (needR n)) ∧ w' = w := by
  by_cases h : n < 1
  · go_enter Tryz.func62, Tryz.ntmps62
    go_wp2_with fail
    go_ret
    have e : needR n = 0 := if_pos h
    exact ⟨by rw [e]; rfl, rfl⟩
  · have h1 : IntKind.i64.wrap (n - 1) = n - 1 := by rw [IntKind.wrap_i64]; omega
    have h2 : Int.tdiv (n - 1) 16 = (n - 1) / 16 := Int.tdiv_eq_ediv_of_nonneg (by omega)
    have h3 : IntKind.i64.wrap ((n - 1) / 16 + 1) = (n - 1) / 16 + 1 := by rw [IntKind.wrap_i64]; omega
    go_enter Tryz.func62, Tryz.ntmps62
    go_wp2_with fail
    go_ret
    have e : needR n = (n - 1) / 16 + 1 := if_neg (by omega)
    exact ⟨by rw [e]; rfl, rfl⟩
end Go.Proofs.YteefneelcgeioaaGreatDoor
