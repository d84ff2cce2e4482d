/-
  The contracts of package space: New, marks, where.
  Conditions: the space lies in memory.
-/
import Derived.Test.YtnmknngpihjhnaaGreatDoorSp
import Derived.Test.YtnmknngpihjhnaaGreatDoorInts
import Derived.WalkKit
import Derived.Laws.MakeOwn
import Derived.Laws.IdiomStrings
import Derived.Deep.WholeRow
import Derived.LoopN
import Derived.BigQuiet
import Derived.KernelRfl
import Derived.Handy
import Derived.Shelf.Abstract
import Derived.Maps.AppendAt
namespace Go.Proofs.YtnmknngpihjhnaaGreatDoor
open Go.RowKit

set_option maxRecDepth 100000 in
theorem run_make_bools (n : Nat) (hn : n ≤ 100000) (w : World) : (Instr.makeSlice 108 (.int .i64 (n : Int)) (.int .i64 (n : Int))).run Tryz.prog w = .ok (.slice (some ⟨w.heap.size, 0, none⟩) n n) (w.alloc (.cells ((List.replicate n false).map Value.bool).toArray 4)) := by
  obtain ⟨i0, hi0, hz0, hz1, hz2⟩ := info_parts infoBo
  have := run_make (P := Tryz.prog) w 108 4 i0 _ Tryz.underlying108 hi0 hz0 .i64 .i64 n n (by omega) (Int.le_refl _) (by rw [hz2]; omega) (by omega)
  simp only [Int.toNat_natCast] at this
  rw [this, hz1]
  congr 3
  apply Array.ext
  · simp [size_madeCells]
  · intro i h1 h2
    simp [madeCells, Value.cells, Nat.mod_one]
theorem made_bools (n : Nat) (hn : n ≤ 100000) (w : World) (C0 : Array Value) (h : C0 = ((List.replicate n false).map Value.bool).toArray) : RowB (w.alloc (.cells C0 4)) w.heap.size n (List.replicate n false) :=
  ⟨by simp, .inr ⟨w.heap.size, n, C0, by simp, Nat.zero_le _, heap_alloc_last _ _, by simp, by unfold maxLen; omega, by rw [h]; simp, by rw [h]; simp⟩⟩
set_option maxRecDepth 100000 in
set_option maxHeartbeats 1000000 in
theorem sp_new (n : Nat) (h1 : 1 ≤ n) (h2 : n ≤ 512) (w : World) :
    Calls Tryz.prog 26 #[.int .i64 (n : Int)] w fun e w' => e = .returned (.tuple #[.pointer (some ⟨w.heap.size + 1, 0, none⟩), .nilIface]) ∧ SpAt w' (w.heap.size + 1) w.heap.size n (List.replicate n false) ∧ Below w.heap.size w w' := by
  have HM := run_make_bools n (by omega) w
  obtain ⟨C0, hC0⟩ : ∃ C0, C0 = ((List.replicate n false).map Value.bool).toArray := ⟨_, rfl⟩
  rw [← hC0] at HM
  have HC0 : Hid (C0 = ((List.replicate n false).map Value.bool).toArray) := hC0
  clear hC0
  go_enter Tryz.func26, Tryz.ntmps26
  go_wp2_with fail
  go_ret2
  have hs1 : (w.alloc (.cells C0 4)).heap.size = w.heap.size + 1 := by simp
  refine ⟨rfl, ⟨?_, by simp, .inr ⟨w.heap.size, n, C0, by simp, Nat.zero_le _, ?_, by simp, by unfold maxLen; omega, by rw [HC0.out]; simp, by rw [HC0.out]; simp⟩⟩, ((Below.refl _ w).alloc (Nat.le_refl _) _).alloc (by simp) _⟩
  · rw [← hs1, heap_alloc_last, List.length_replicate]
  · rw [Below.heap_alloc _ _ _ (by simp), heap_alloc_last]
set_option maxRecDepth 100000 in
set_option maxHeartbeats 1000000 in
theorem sp_new_not (n : Int) (h : n < 1 ∨ 512 < n) (er : Value) (w : World) (hE : w.cell? ⟨3, 0, none⟩ = some er) :
    Calls Tryz.prog 26 #[.int .i64 n] w fun e w' => e = .returned (.tuple #[.pointer none, er]) ∧ Below w.heap.size w w' := by
  by_cases h1 : n < 1
  · go_enter Tryz.func26, Tryz.ntmps26
    go_wp2_with fail
    go_quiet (fail)
    go_wp2_with fail
    go_ret2
    exact ⟨rfl, ⟨rfl, rfl, rfl, Nat.le_refl _, fun _ _ => rfl⟩⟩
  · have h2 : 512 < n := by omega
    clear h
    go_enter Tryz.func26, Tryz.ntmps26
    go_wp2_with fail
    go_quiet (fail)
    go_wp2_with fail
    go_ret2
    exact ⟨rfl, ⟨rfl, rfl, rfl, Nat.le_refl _, fun _ _ => rfl⟩⟩
section
variable {p b cap : Nat} {u : List Bool}
set_option maxRecDepth 100000 in
set_option maxHeartbeats 1000000 in
theorem sp_marks (w : World) (S : SpAt w p b cap u) :
    Calls Tryz.prog 88 #[.pointer (some ⟨p, 0, none⟩)] w fun e w' => e = .returned (.slice (some ⟨b, 0, none⟩) u.length cap) ∧ w' = w := by
  have c := S.cell
  clear S
  go_enter Tryz.func88, Tryz.ntmps88
  go_wp2_with fail
  go_ret
  exact ⟨rfl, rfl⟩
set_option maxRecDepth 100000 in
set_option maxHeartbeats 2000000 in
theorem sp_where (g : Nat) (pr : Bool → Bool) (w : World) (S : SpAt w p b cap u) (hu : u.length ≤ 512)
    (eg : ∀ args w, (callFunc g args).run Tryz.prog w = .ok (.enter g args) w)
    (HF : ∀ (x : Bool) (W : World), Calls Tryz.prog g (#[.bool x] ++ #[]) W fun e W' => e = .returned (.bool (pr x)) ∧ W' = W) :
    Calls Tryz.prog 82 #[.pointer (some ⟨p, 0, none⟩), .func (.func g) #[] #[]] w fun e w' => ∃ v, e = .returned v ∧ OwnI w' w.heap.size v (whereR pr u u.length) ∧ Below w.heap.size w w' := by
  obtain ⟨i0, hi0, hz0, hz1, hz2⟩ := info_parts infoIn
  have HM := sp_marks w S
  have HS : Hid (SpAt w p b cap u) := S
  have HFF : Hid (∀ (x : Bool) (W : World), Calls Tryz.prog g (#[.bool x] ++ #[]) W fun e W' => e = .returned (.bool (pr x)) ∧ W' = W) := HF
  clear S HF
  go_enter Tryz.func82, Tryz.ntmps82
  go_wp2_with (go_at_call 88; refine HM.mono ?_; rintro e w1 ⟨rfl, hw⟩; rw [hw]; clear hw)
  clear HM
  go_loopw [5, 11] (fun l i wr => ∃ j : Nat, j ≤ u.length ∧ i = .int .i64 j ∧ OwnI wr w.heap.size l (whereR pr u j) ∧ Below w.heap.size w wr) (fun _ i _ => u.length - (intOf i).toNat)
  case atStart => exact ⟨0, Nat.zero_le _, rfl, OwnI.nil _ _, Below.refl _ _⟩
  case round =>
    obtain ⟨j, hj, rfl, ho, hb⟩ := hrel
    have HO : Hid (OwnI wr w.heap.size u5 (whereR pr u j)) := ho
    have HB : Hid (Below w.heap.size w wr) := hb
    by_cases hlt : j < u.length
    · obtain ⟨x, hx⟩ : ∃ x, u[j]? = some x := ⟨_, List.getElem?_eq_getElem hlt⟩
      have c := (HS.out.below hb).mark hx
      have HN : Hid (whereR pr u (j + 1) = if pr x then whereR pr u j ++ [j] else whereR pr u j) := by show _ = _; rw [whereR_next, hx]; rfl
      have HC := HFF.out x wr
      have hwl := whereR_len pr u j
      clear ho hb hx
      cases hp : pr x with
      | true =>
        rw [hp] at HC HN
        have hsz := HB.out.size
        obtain ⟨m, xs, HMm, HO1⟩ : ∃ m xs, Hid (m = (whereR pr u j).length ∧ xs = (ints (whereR pr u j)).map (Value.int .i64)) ∧ Hid (∀ X, (wr.alloc X).ownsRow w.heap.size 3 1 u5 m xs) := ⟨_, _, ⟨rfl, rfl⟩, fun X => HO.out.alloc X⟩
        have hm5 : m ≤ 512 := by rw [HMm.out.1]; omega
        go_wp2_with (first
          | (refine HC.mono ?_; rintro e w2 ⟨rfl, hw⟩; rw [hw]; clear hw)
          | (at_builtin; refine wpList_append_own _ (by rfl) (.tmp 19) (.tmp 21) 36 (by rfl) w.heap.size 3 i0 _ 1 8 Tryz.underlying36 hi0 hz0 hz1 hz2 rfl (by omega) _ m _ (by rfl) (HO1.out _) ⟨wr.heap.size, 0, none⟩ 1 1 [.int .i64 (j : Int)] (by rfl) rfl (cell_one_new _ _ _) (fun u hu => by rw [List.mem_singleton.1 hu]; rfl) (by unfold maxLen; omega) (by omega) (by rw [World.size_alloc]; omega) ?_; intro v' w3 hown hgrow _))
        refine ⟨⟨j + 1, by omega, by simp, ?_, (HB.out.alloc hsz _).grown hgrow (by rw [World.size_alloc]; omega) (fun k hk => (HO.out.lt k hk).1)⟩, by simp [intOf]; omega⟩
        rw [HN.out]
        obtain ⟨e1, e2⟩ := HMm.out
        rw [e1, e2] at hown
        unfold OwnI
        simpa [ints] using hown
      | false =>
        rw [hp] at HC HN
        go_wp2_with (refine HC.mono ?_; rintro e w2 ⟨rfl, hw⟩; rw [hw]; clear hw)
        refine ⟨⟨j + 1, by omega, by simp, by rw [HN.out]; exact HO.out, HB.out⟩, by simp [intOf]; omega⟩
    · obtain rfl : j = u.length := by omega
      clear ho hb
      go_wp2_with fail
      go_ret
      exact ⟨_, rfl, HO.out, HB.out⟩
end
end Go.Proofs.YtnmknngpihjhnaaGreatDoor
