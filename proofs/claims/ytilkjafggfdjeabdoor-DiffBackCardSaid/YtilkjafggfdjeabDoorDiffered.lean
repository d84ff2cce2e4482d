/-
  The contract of the statements' own differed: a closed fact of a file that comes.
  Conditions: the sentinels hold what the program's text lays; the library's MaxLen holds a number.
-/
import Derived.Test.YtilkjafggfdjeabDoorDDiff
import Derived.Test.YtilkjafggfdjeabDoorSmall
namespace Go.Proofs.YtilkjafggfdjeabDoor
open Go.RowKit
attribute [local go_sem ↓] Go.wp_at_zero Go.wp_at_succ

def bareDir : Tree := { kind := { data := #[100, 105, 114] }, data := { data := #[] }, exec := false, kids := [] }
theorem bare_well : treeErr 2 bareDir = none := by kernel_rfl
theorem aDir_well : treeErr 2 aDir = none := by kernel_rfl
theorem bare_ok : OkT 2 bareDir := ⟨by decide, fun x hx => by simp [bareDir] at hx⟩
theorem aDir_okT : OkT 2 aDir := ⟨by decide, fun x hx => by
  have e : x = ({ data := #[97] }, aFile) := by simpa [aDir] using hx
  subst e
  exact ⟨by decide, by decide, fun y hy => by simp [aFile] at hy⟩⟩
theorem aDir_liesC (w : World) (b B : Nat) (hb : b < B) (hr : w.heap[b]? = some (.cells #[.string { data := #[97] }, .string { data := #[102, 105, 108, 101] }, .string { data := #[120, 121] }, .bool false, .slice none 0 0] 53 (0, 0))) : LiesC w B 2 aDir.kids (.slice (some ⟨b, 0, none⟩) 1 1) := by
  refine ⟨_, _, rfl, by decide, by decide, by decide, fun i x hx => ?_⟩
  have hi : i = 0 := by
    have := (List.getElem?_eq_some_iff.1 hx).1
    simp [aDir] at this
    omega
  subst hi
  have ex : x = ({ data := #[97] }, aFile) := by simpa [aDir] using hx.symm
  subst ex
  refine ⟨b, 0, .slice none 0 0, rfl, hb, by decide, ?_, ?_, ?_, ?_, ?_, ?_⟩
  · rw [cell_of_row w _ _ _ _ _ hr]; rfl
  · rw [cell_of_row w _ _ _ _ _ hr]; rfl
  · rw [cell_of_row w _ _ _ _ _ hr]; rfl
  · rw [cell_of_row w _ _ _ _ _ hr]; rfl
  · rw [cell_of_row w _ _ _ _ _ hr]; rfl
  · exact ⟨none, 0, rfl, by decide, by decide, by decide, fun i x hx => by simp [aFile] at hx⟩
theorem bare_liesC (w : World) (B : Nat) : LiesC w B 2 bareDir.kids (.slice none 0 0) := ⟨none, 0, rfl, by decide, by decide, by decide, fun i x hx => by simp [bareDir] at hx⟩
theorem tell_a : tellP [({ data := #[97] } : ByteArray)] = { data := #[47, 97] } := by
  have := tell_one [] ({ data := #[97] } : ByteArray)
  rw [List.nil_append] at this
  rw [this, joinB_nil]
  rfl
theorem bare_diff : diffN 9 [] bareDir aDir = [⟨addB, { data := #[47, 97] }, aFile⟩] := by
  have h1 : isDir bareDir = true ∧ isDir aDir = true := ⟨by unfold isDir; rw [ba_toList]; rfl, by unfold isDir; rw [ba_toList]; rfl⟩
  rw [diffN, if_pos h1]
  show diffK _ [] [] [(({ data := #[97] } : ByteArray), aFile)] = _
  rw [diffK, diffK, List.nil_append, tell_a]

set_option maxRecDepth 100000 in
set_option maxHeartbeats 2000000 in
theorem differed_any (a : Nat → Addr) (w : World) (S : PSen a w) : Calls Tryd.prog 20 #[] w fun e w' => e = .returned (.bool true) ∧ Below w.heap.size w w' := by
  obtain ⟨W1, hW1⟩ : ∃ W1, W1 = ((w.alloc (.cells #[.string { data := #[100, 105, 114] }, .string { data := #[] }, .bool false, .slice none 0 0] 24)).alloc (.cells #[.string { data := #[97] }, .string { data := #[102, 105, 108, 101] }, .string { data := #[120, 121] }, .bool false, .slice none 0 0] 53)).alloc (.cells #[.string { data := #[100, 105, 114] }, .string { data := #[] }, .bool false, .slice (some ⟨w.heap.size + 1, 0, none⟩) 1 1] 24) := ⟨_, rfl⟩
  have hW : Below w.heap.size w W1 := by rw [hW1]; exact (((Below.refl _ _).alloc (Nat.le_refl _) _).alloc (by simp) _).alloc (by simp; omega) _
  have hz : W1.heap.size = w.heap.size + 3 := by rw [hW1]; simp
  have hr : W1.heap[w.heap.size + 1]? = some (.cells #[.string { data := #[97] }, .string { data := #[102, 105, 108, 101] }, .string { data := #[120, 121] }, .bool false, .slice none 0 0] 53 (0, 0)) := by
    rw [hW1, Below.heap_alloc _ _ _ (by simp)]
    have := row_alloc' (w.alloc (.cells #[.string { data := #[100, 105, 114] }, .string { data := #[] }, .bool false, .slice none 0 0] 24)) #[.string { data := #[97] }, .string { data := #[102, 105, 108, 101] }, .string { data := #[120, 121] }, .bool false, .slice none 0 0] 53
    simpa using this
  have HG : Hid (Calls Tryd.prog 21 #[.agg #[.string { data := #[100, 105, 114] }, .string { data := #[] }, .bool false, .slice none 0 0], .agg #[.string { data := #[100, 105, 114] }, .string { data := #[] }, .bool false, .slice (some ⟨w.heap.size + 1, 0, none⟩) 1 1]] W1 (DiffPost a 2 bareDir aDir W1)) :=
    diff_any a 2 W1.heap.size bareDir aDir (.slice none 0 0) (.slice (some ⟨w.heap.size + 1, 0, none⟩) 1 1) W1 (S.below hW) (Nat.le_refl _) (bare_liesC _ _) (aDir_liesC W1 (w.heap.size + 1) _ (by omega) hr) (bare_ok.alive (by omega)) (aDir_okT.alive (by omega))
  have HW : Hid _ := hW
  rw [hW1] at HG
  clear hW hz hr S
  go_enter Tryd.func20, Tryd.ntmps20
  go_wp2_with fail
  refine Calls.mono HG.out ?_
  rw [← hW1]
  clear HG
  rintro e w2 ⟨hb2, ⟨er, h | ⟨_, h⟩, _⟩ | ⟨_, _, v, rfl, hch⟩⟩
  · rw [bare_well] at h; cases h
  · rw [aDir_well] at h; cases h
  · rw [bare_diff] at hch
    obtain ⟨ad, cap, rfl, _, hk⟩ := hch
    obtain ⟨b, off, u, rfl, hbl, c0, c1, _, c3, _, _, _⟩ := hk 0 _ rfl
    have HB : Hid (Below w.heap.size w w2) := HW.out.trans (hb2.mono HW.out.size)
    have d0 : w2.cell? ⟨b, off, none⟩ = some (.string { data := #[97, 100, 100] }) := by
      simp only [Nat.zero_mul, Nat.add_zero] at c0
      exact c0
    have d1 : w2.cell? ⟨b, off + 1, none⟩ = some (.string { data := #[47, 97] }) := by
      simp only [Nat.zero_mul, Nat.add_zero] at c1
      exact c1
    have d3 : w2.cell? ⟨b, off + 3, none⟩ = some (.string { data := #[120, 121] }) := by
      simp only [Nat.zero_mul, Nat.add_zero] at c3
      exact c3
    clear c0 c1 c3
    simp only [List.length_singleton]
    have i1 : (0 : Int) < 1 := by decide
    clear hk hb2
    go_wp2_with fail
    go_ret
    exact ⟨rfl, HB.out⟩
end Go.Proofs.YtilkjafggfdjeabDoor
