/-
  The closed fact of the statements of chapter 1: a dir of a file is well, has two nodes, two bytes and one file.
  Conditions: the sentinels hold what the program's text lays.
-/
import Derived.Test.YtilkjafggfdjeaaDoorTextsE
import Derived.Test.YtilkjafggfdjeaaDoorSums3
import Derived.Test.YtilkjafggfdjeaaDoorSmall
import Derived.Test.YtilkjafggfdjeaaDoorCode
namespace Go.Proofs.YtilkjafggfdjeaaDoor
open Go.RowKit

theorem aDir_count : countOf 2 aDir = 2 := by kernel_rfl
theorem aDir_size : sizeOf 2 aDir = 2 := by kernel_rfl
theorem aDir_files : filesOf 2 aDir = [{ data := #[47, 97] }] := by kernel_rfl
theorem aDir_eq : textsEq [{ data := #[47, 97] }] [{ data := #[47, 97] }] = true := by kernel_rfl
theorem aDir_lies (w : World) (b : Nat) (B : Nat) (hb : b < B) (hr : w.heap[b]? = some (.cells #[.string { data := #[97] }, .string { data := #[102, 105, 108, 101] }, .string { data := #[120, 121] }, .bool false, .slice none 0 0] 40 (0, 0))) :
    Lies w B 2 aDir.kids (.slice (some ⟨b, 0, none⟩) 1 1) := by
  have hc : ∀ i, w.cell? ⟨b, i, none⟩ = #[Value.string { data := #[97] }, .string { data := #[102, 105, 108, 101] }, .string { data := #[120, 121] }, .bool false, .slice none 0 0][i]? := fun i => cell_of_row w b i _ _ _ hr
  refine ⟨some ⟨b, 0, none⟩, 1, rfl, by decide, fun i x hx => ?_⟩
  have hi : i = 0 := by have := (List.getElem?_eq_some_iff.1 hx).1; simp [aDir] at this; omega
  subst hi
  have ex : x = ({ data := #[97] }, aFile) := by simpa [aDir] using hx.symm
  subst ex
  refine ⟨b, 0, .slice none 0 0, rfl, hb, by decide, by rw [hc]; rfl, by rw [hc]; rfl, by rw [hc]; rfl, by rw [hc]; rfl, by rw [hc]; rfl, ?_⟩
  exact ⟨none, 0, rfl, by decide, fun i x hx => by simp [aFile] at hx⟩

set_option maxRecDepth 100000 in
set_option maxHeartbeats 2000000 in
theorem treed_any (a : Nat → Addr) (w : World) (S : Sents a w) : Calls Tryd.prog 9 #[] w fun e w' => e = .returned (.bool true) ∧ Below w.heap.size w w' := by
  have hW : Below w.heap.size w ((w.alloc (.cells #[.string { data := #[97] }, .string { data := #[102, 105, 108, 101] }, .string { data := #[120, 121] }, .bool false, .slice none 0 0] 40)).alloc (.cells #[.string { data := #[100, 105, 114] }, .string { data := #[] }, .bool false, .slice (some ⟨w.heap.size, 0, none⟩) 1 1] 24)) := ((Below.refl _ _).alloc (Nat.le_refl _) _).alloc (by simp) _
  have hz : ((w.alloc (.cells #[.string { data := #[97] }, .string { data := #[102, 105, 108, 101] }, .string { data := #[120, 121] }, .bool false, .slice none 0 0] 40)).alloc (.cells #[.string { data := #[100, 105, 114] }, .string { data := #[] }, .bool false, .slice (some ⟨w.heap.size, 0, none⟩) 1 1] 24)).heap.size = w.heap.size + 1 + 1 := by simp
  have hr : ((w.alloc (.cells #[.string { data := #[97] }, .string { data := #[102, 105, 108, 101] }, .string { data := #[120, 121] }, .bool false, .slice none 0 0] 40)).alloc (.cells #[.string { data := #[100, 105, 114] }, .string { data := #[] }, .bool false, .slice (some ⟨w.heap.size, 0, none⟩) 1 1] 24)).heap[w.heap.size]? = some (.cells #[.string { data := #[97] }, .string { data := #[102, 105, 108, 101] }, .string { data := #[120, 121] }, .bool false, .slice none 0 0] 40 (0, 0)) := by
    rw [Below.heap_alloc _ _ _ (by simp)]; exact row_alloc _ _ _
  have hn : ((w.alloc (.cells #[.string { data := #[97] }, .string { data := #[102, 105, 108, 101] }, .string { data := #[120, 121] }, .bool false, .slice none 0 0] 40)).alloc (.cells #[.string { data := #[100, 105, 114] }, .string { data := #[] }, .bool false, .slice (some ⟨w.heap.size, 0, none⟩) 1 1] 24)).heap[w.heap.size + 1]? = some (.cells #[.string { data := #[100, 105, 114] }, .string { data := #[] }, .bool false, .slice (some ⟨w.heap.size, 0, none⟩) 1 1] 24 (0, 0)) := by
    have := row_alloc (w.alloc (.cells #[.string { data := #[97] }, .string { data := #[102, 105, 108, 101] }, .string { data := #[120, 121] }, .bool false, .slice none 0 0] 40)) #[.string { data := #[100, 105, 114] }, .string { data := #[] }, .bool false, .slice (some ⟨w.heap.size, 0, none⟩) 1 1] 24
    simpa using this
  have HW : Hid _ := hW
  have HZ : Hid _ := hz
  have HR : Hid _ := hr
  have HN : Hid _ := hn
  have HS : Hid _ := S
  clear hW hz hr hn S
  go_enter Tryd.func9, Tryd.ntmps9
  go_wp2_with fail
  generalize (w.alloc (.cells #[.string { data := #[97] }, .string { data := #[102, 105, 108, 101] }, .string { data := #[120, 121] }, .bool false, .slice none 0 0] 40)).alloc (.cells #[.string { data := #[100, 105, 114] }, .string { data := #[] }, .bool false, .slice (some ⟨w.heap.size, 0, none⟩) 1 1] 24) = W1 at *
  have hS : ∀ w', Below W1.heap.size W1 w' → SentsB a W1.heap.size w' := fun w' h => ((HS.out.below HW.out).atB).below h (Nat.le_refl _)
  have hL : ∀ w', Below W1.heap.size W1 w' → Lies w' W1.heap.size 2 aDir.kids (.slice (some ⟨w.heap.size, 0, none⟩) 1 1) := fun w' h => (aDir_lies W1 w.heap.size W1.heap.size (by rw [HZ.out]; omega) HR.out).below h (Nat.le_refl _)
  have hcell : ∀ w', Below W1.heap.size W1 w' → ∀ i, w'.cell? ⟨w.heap.size + 1, i, none⟩ = #[Value.string { data := #[100, 105, 114] }, .string { data := #[] }, .bool false, .slice (some ⟨w.heap.size, 0, none⟩) 1 1][i]? := fun w' h i => by
    rw [h.cell (p := ⟨w.heap.size + 1, i, none⟩) (by rw [HZ.out]; exact Nat.lt_succ_self _), cell_of_row W1 _ _ _ _ _ HN.out]
  have hCheck : ∀ w', Below W1.heap.size W1 w' → Calls Tryd.prog 15 #[.agg #[.string { data := #[100, 105, 114] }, .string { data := #[] }, .bool false, .slice (some ⟨w.heap.size, 0, none⟩) 1 1]] w' fun e w'' => e = .returned .nilIface ∧ Below W1.heap.size W1 w'' := fun w' h =>
    (check_any a 2 W1.heap.size aDir (.slice (some ⟨w.heap.size, 0, none⟩) 1 1) w' (hS w' h) h.size (hL w' h) (alive_ck _ 0 (by omega) aDir_ok)).mono fun e w'' ⟨h1, h2⟩ => ⟨by rw [h1, aDir_err]; rfl, h.trans (h2.mono h.size)⟩
  have hCount : ∀ w', Below W1.heap.size W1 w' → Calls Tryd.prog 19 #[.agg #[.string { data := #[100, 105, 114] }, .string { data := #[] }, .bool false, .slice (some ⟨w.heap.size, 0, none⟩) 1 1]] w' fun e w'' => e = .returned (.int .i64 2) ∧ Below W1.heap.size W1 w'' := fun w' h =>
    (count_any a 2 W1.heap.size aDir (.slice (some ⟨w.heap.size, 0, none⟩) 1 1) w' (hS w' h) h.size (hL w' h) (alive_ck _ 0 (by omega) aDir_ok) (fun _ => alive_ct _ 0 (by decide) aDir_ok)).mono fun e w'' ⟨h1, h2⟩ => ⟨by rw [h1, aDir_count]; rfl, h.trans (h2.mono h.size)⟩
  have hSize : ∀ w', Below W1.heap.size W1 w' → Calls Tryd.prog 21 #[.agg #[.string { data := #[100, 105, 114] }, .string { data := #[] }, .bool false, .slice (some ⟨w.heap.size, 0, none⟩) 1 1]] w' fun e w'' => e = .returned (.int .i64 2) ∧ Below W1.heap.size W1 w'' := fun w' h =>
    (size_any a 2 W1.heap.size aDir (.slice (some ⟨w.heap.size, 0, none⟩) 1 1) w' (hS w' h) h.size (hL w' h) (alive_ck _ 0 (by omega) aDir_ok) (fun _ => alive_sz _ 0 (by decide) aDir_ok)).mono fun e w'' ⟨h1, h2⟩ => ⟨by rw [h1, aDir_size]; rfl, h.trans (h2.mono h.size)⟩
  have hFiles : ∀ w', Below W1.heap.size W1 w' → Calls Tryd.prog 24 #[.agg #[.string { data := #[100, 105, 114] }, .string { data := #[] }, .bool false, .slice (some ⟨w.heap.size, 0, none⟩) 1 1]] w' fun e w'' => ∃ v, e = .returned v ∧ w''.ownsRow (w'.heap.size + 1 + 1) 9 1 v 1 [.string { data := #[47, 97] }] ∧ Below W1.heap.size W1 w'' := fun w' h =>
    (files_any a 2 W1.heap.size aDir (.slice (some ⟨w.heap.size, 0, none⟩) 1 1) w' (hS w' h) h.size (hL w' h) (alive_ck _ 0 (by omega) aDir_ok) (fun _ => alive_fl _ [] (by decide) aDir_ok)).mono fun e w'' ⟨v, h1, h2, h3⟩ => ⟨v, h1, by rw [aDir_files] at h2; exact h2, h.trans (h3.mono h.size)⟩
  have HCELL : Hid _ := hcell
  have HCHECK : Hid _ := hCheck
  have HCOUNT : Hid _ := hCount
  have HSIZE : Hid _ := hSize
  have HFILES : Hid _ := hFiles
  clear hS hL hcell hCheck hCount hSize hFiles
  refine Calls.mono (HCHECK.out W1 (Below.refl _ _)) ?_
  rintro e w2 ⟨rfl, h2⟩
  have d0 : w2.cell? ⟨w.heap.size + 1, 0, none⟩ = _ := HCELL.out w2 h2 0
  have d1 : w2.cell? ⟨w.heap.size + 1, 1, none⟩ = _ := HCELL.out w2 h2 1
  have d2 : w2.cell? ⟨w.heap.size + 1, 2, none⟩ = _ := HCELL.out w2 h2 2
  have d3 : w2.cell? ⟨w.heap.size + 1, 3, none⟩ = _ := HCELL.out w2 h2 3
  simp only [List.getElem?_toArray, List.getElem?_cons_zero, List.getElem?_cons_succ] at d0 d1 d2 d3
  go_wp2_with fail
  refine (coded_nil _ _).mono ?_
  rintro e w2' ⟨rfl, rfl⟩
  go_wp2_with fail
  refine Calls.mono (HCOUNT.out _ h2) ?_
  rintro e w3 ⟨rfl, h3⟩
  clear d0 d1 d2 d3
  have d0 : w3.cell? ⟨w.heap.size + 1, 0, none⟩ = _ := HCELL.out w3 h3 0
  have d1 : w3.cell? ⟨w.heap.size + 1, 1, none⟩ = _ := HCELL.out w3 h3 1
  have d2 : w3.cell? ⟨w.heap.size + 1, 2, none⟩ = _ := HCELL.out w3 h3 2
  have d3 : w3.cell? ⟨w.heap.size + 1, 3, none⟩ = _ := HCELL.out w3 h3 3
  simp only [List.getElem?_toArray, List.getElem?_cons_zero, List.getElem?_cons_succ] at d0 d1 d2 d3
  go_wp2_with fail
  refine Calls.mono (HSIZE.out _ h3) ?_
  rintro e w4 ⟨rfl, h4⟩
  clear d0 d1 d2 d3
  have d0 : w4.cell? ⟨w.heap.size + 1, 0, none⟩ = _ := HCELL.out w4 h4 0
  have d1 : w4.cell? ⟨w.heap.size + 1, 1, none⟩ = _ := HCELL.out w4 h4 1
  have d2 : w4.cell? ⟨w.heap.size + 1, 2, none⟩ = _ := HCELL.out w4 h4 2
  have d3 : w4.cell? ⟨w.heap.size + 1, 3, none⟩ = _ := HCELL.out w4 h4 3
  simp only [List.getElem?_toArray, List.getElem?_cons_zero, List.getElem?_cons_succ] at d0 d1 d2 d3
  go_wp2_with fail
  refine Calls.mono (HFILES.out _ h4) ?_
  rintro e w5 ⟨v, rfl, hown, h5⟩
  go_wp2_with fail
  have hTa : ∀ o, Texts (w5.alloc o) v [{ data := #[47, 97] }] := fun o => Texts.of_own (World.ownsRow.alloc hown o)
  have hTb : Texts (w5.alloc (.cells #[.string { data := #[47, 97] }] 9)) (.slice (some ⟨w5.heap.size, 0, none⟩) 1 1) [{ data := #[47, 97] }] :=
    ⟨some ⟨w5.heap.size, 0, none⟩, 1, rfl, fun i x hx => by
      have hi : i = 0 := by have := (List.getElem?_eq_some_iff.1 hx).1; simp at this; omega
      subst hi
      simp only [List.getElem?_cons_zero, Option.some.injEq] at hx
      subst hx
      exact ⟨w5.heap.size, 0, rfl, by rw [World.cell?_alloc_at _ _ _ _ rfl]; rfl⟩⟩
  refine (sameTexts_any _ _ _ _ _ (hTa _) hTb (by decide)).mono ?_
  rintro e w6 ⟨rfl, h6⟩
  rw [aDir_eq]
  go_wp2_with fail
  go_ret
  exact ⟨rfl, HW.out.trans ((h5.trans (((Below.refl _ _).alloc (Nat.le_refl _) _).trans (h6.mono (by simp))|>.mono h5.size)).mono HW.out.size)⟩
end Go.Proofs.YtilkjafggfdjeaaDoor
