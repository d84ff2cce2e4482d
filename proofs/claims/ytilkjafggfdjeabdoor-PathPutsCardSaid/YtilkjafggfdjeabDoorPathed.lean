/-
  The contract of the statements' own pathed: a closed fact of a path that is got.
  Conditions: the sentinels hold what the program's text lays; the library's MaxLen holds a number.
-/
import Derived.Test.YtilkjafggfdjeabDoorPGet
import Derived.Test.YtilkjafggfdjeabDoorSmall
namespace Go.Proofs.YtilkjafggfdjeabDoor
open Go.RowKit
attribute [local go_sem ↓] Go.wp_at_zero Go.wp_at_succ

theorem pDir_lies (w : World) (b B : Nat) (hb : b < B) (hr : w.heap[b]? = some (.cells #[.string { data := #[97] }, .string { data := #[102, 105, 108, 101] }, .string { data := #[120, 121] }, .bool false, .slice none 0 0] 53 (0, 0))) : Lies w B 2 aDir.kids (.slice (some ⟨b, 0, none⟩) 1 1) := by
  refine ⟨_, _, rfl, by decide, fun i x hx => ?_⟩
  have hi : i = 0 := by
    have := (List.getElem?_eq_some_iff.1 hx).1
    simp [aDir] at this
    omega
  subst hi
  have ex : x = ({ data := #[97] }, aFile) := by simpa [aDir] using hx.symm
  subst ex
  refine ⟨b, 0, .slice none 0 0, rfl, hb, by decide, ?_, ?_, ?_, ?_, ?_, ?_⟩
  · rw [cell_of_row w _ _ _ _ _ hr]; rfl
  · rw [cell_of_row w _ _ _ _ _ hr]; rfl
  · rw [cell_of_row w _ _ _ _ _ hr]; rfl
  · rw [cell_of_row w _ _ _ _ _ hr]; rfl
  · rw [cell_of_row w _ _ _ _ _ hr]; rfl
  · exact ⟨none, 0, rfl, by decide, fun i x hx => by simp [aFile] at hx⟩
theorem pDir_well : treeErr 2 aDir = none := by kernel_rfl
theorem pDir_ok : OkItems (pre 2 ByteArray.empty 0 aDir) := fun x hx => by
  have e : pre 2 ByteArray.empty 0 aDir = [(ByteArray.empty, 0, aDir), (ByteArray.empty ++ slash ++ { data := #[97] }, 1, aFile)] := rfl
  rw [e] at hx
  simp only [List.mem_cons, List.not_mem_nil, or_false] at hx
  rcases hx with rfl | rfl
  · exact ⟨by decide, by decide, by decide⟩
  · exact ⟨by decide, by decide, by decide⟩
theorem pDir_get : getR 2 aDir { data := #[47, 97] } = .ok aFile := by
  refine getR_some (l := [{ data := #[97] }]) pDir_well ?_ ?_
  · kernel_rfl
  · kernel_rfl

set_option maxRecDepth 100000 in
set_option maxHeartbeats 2000000 in
theorem pathed_any (a : Nat → Addr) (w : World) (S : PSen a w) : Calls Tryd.prog 7 #[] w fun e w' => e = .returned (.bool true) ∧ Below w.heap.size w w' := by
  obtain ⟨W1, hW1⟩ : ∃ W1, W1 = (w.alloc (.cells #[.string { data := #[97] }, .string { data := #[102, 105, 108, 101] }, .string { data := #[120, 121] }, .bool false, .slice none 0 0] 53)).alloc (.cells #[.string { data := #[100, 105, 114] }, .string { data := #[] }, .bool false, .slice (some ⟨w.heap.size, 0, none⟩) 1 1] 24) := ⟨_, rfl⟩
  have hW : Below w.heap.size w W1 := by rw [hW1]; exact ((Below.refl _ _).alloc (Nat.le_refl _) _).alloc (by simp) _
  have hz : W1.heap.size = w.heap.size + 2 := by rw [hW1]; simp
  have hr : W1.heap[w.heap.size]? = some (.cells #[.string { data := #[97] }, .string { data := #[102, 105, 108, 101] }, .string { data := #[120, 121] }, .bool false, .slice none 0 0] 53 (0, 0)) := by
    rw [hW1, Below.heap_alloc _ _ _ (by simp)]; exact row_alloc' _ _ _
  have HG : Hid (Calls Tryd.prog 11 #[.agg #[.string { data := #[100, 105, 114] }, .string { data := #[] }, .bool false, .slice (some ⟨w.heap.size, 0, none⟩) 1 1], .string { data := #[47, 97] }] W1 (GetPost a 2 aDir { data := #[47, 97] } W1)) :=
    get_any a 2 W1.heap.size aDir (.slice (some ⟨w.heap.size, 0, none⟩) 1 1) { data := #[47, 97] } W1 (S.below hW) (Nat.le_refl _) (pDir_lies W1 w.heap.size _ (by omega) hr) (alive_ck _ 0 (by omega) pDir_ok) (by decide)
  have HW : Hid _ := hW
  rw [hW1] at HG
  clear hW hz hr S
  go_enter Tryd.func7, Tryd.ntmps7
  go_wp2_with fail
  refine Calls.mono HG.out ?_
  rw [← hW1]
  clear HG
  rintro e w2 ⟨hb2, ⟨er, h, _⟩ | ⟨k, u, d', h, _, rfl, hl⟩⟩
  · rw [pDir_get] at h; cases h
  · rw [pDir_get] at h
    injection h with h
    subst h
    obtain ⟨ra, rc, rfl⟩ := hl.form
    have HB : Hid (∀ o, Below w.heap.size w (w2.alloc o)) := fun o => (HW.out.trans (hb2.mono HW.out.size)).alloc (by have := HW.out.size; have := hb2.size; omega) o
    have kd : aFile.kind = { data := #[102, 105, 108, 101] } := rfl
    have kt : aFile.data = { data := #[120, 121] } := rfl
    have kx : aFile.exec = false := rfl
    rw [kd, kt, kx]
    clear hl hb2 kd kt kx
    go_wp2_with fail
    go_ret
    exact ⟨rfl, HB.out _⟩
end Go.Proofs.YtilkjafggfdjeabDoor
