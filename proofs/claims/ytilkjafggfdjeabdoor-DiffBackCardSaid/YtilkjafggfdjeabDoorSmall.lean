/-
  Trees that are not too large: their nodes' bounds; a dir of a file; boxes in memory.
  Conditions: none.
-/
import Derived.Test.YtilkjafggfdjeabDoorSums
namespace Go.Proofs.YtilkjafggfdjeabDoor
open Go.RowKit

theorem pre_path : ∀ (d : Nat) (p : ByteArray) (k : Nat) (t : Tree), (∀ x ∈ pre d p k t, ∀ y ∈ x.2.2.kids, y.1.size ≤ 30) → ∀ x ∈ pre d p k t, k ≤ x.2.1 ∧ x.1.size + 31 * k ≤ p.size + 31 * x.2.1
  | 0, _, _, _, _, x, hx => by simp [pre] at hx
  | d + 1, p, k, t, h, x, hx => by
    simp only [pre] at hx h
    rcases List.mem_cons.1 hx with rfl | hx
    · exact ⟨Nat.le_refl _, Nat.le_refl _⟩
    · obtain ⟨y, hy, hx⟩ := List.mem_flatMap.1 hx
      have hn := h (p, k, t) List.mem_cons_self y hy
      have ih := pre_path d (p ++ slash ++ y.1) (k + 1) y.2 (fun z hz => h z (List.mem_cons_of_mem _ (List.mem_flatMap.2 ⟨y, hy, hz⟩))) x hx
      simp only [ByteArray.size_append] at ih
      have e : slash.size = 1 := rfl
      exact ⟨by omega, by omega⟩
theorem small_ok {most d : Nat} {t : Tree} (hd : Fit d t) (h : largeB most t = false) : OkItems (pre d ByteArray.empty 0 t) ∧ (pre d ByteArray.empty 0 t).length ≤ most := by
  have e := pre_eq hd h
  unfold largeB at h
  simp only [Bool.or_eq_false_iff, decide_eq_false_iff_not] at h
  have hit : ∀ x ∈ pre d ByteArray.empty 0 t, ¬ (11 < x.2.1 ∨ (100 < x.2.2.data.size ∧ x.2.2.data.size ≠ 2001) ∨ 20 < x.2.2.kind.size) ∧ ∀ y ∈ x.2.2.kids, y.1.size ≤ 30 := fun x hx => by
    rw [e] at hx
    have h1 := List.any_eq_false.1 h.2 x hx
    unfold itemLarge at h1
    simp only [Bool.or_eq_true, decide_eq_true_eq, not_or] at h1
    refine ⟨by omega, fun y hy => ?_⟩
    have h2 : x.2.2.kids.any longName = false := by simpa using h1.2
    have h3 := List.any_eq_false.1 h2 y hy
    unfold longName at h3
    simp only [decide_eq_true_eq] at h3
    omega
  refine ⟨fun x hx => ?_, by rw [e]; omega⟩
  have h1 := (hit x hx).1
  have h2 := (pre_path d ByteArray.empty 0 t (fun z hz => (hit z hz).2) x hx).2
  have e0 : ByteArray.empty.size = 0 := rfl
  exact ⟨by unfold maxLen; omega, by omega, by omega⟩
theorem largeN_bounds (n : Nat) (t : Tree) : 0 ≤ largeN n t ∧ largeN n t ≤ 1 := by
  unfold largeN
  split <;> omega
theorem largeN_zero {n : Nat} {t : Tree} (h : largeN n t = 0) : largeB n t = false := by
  cases hl : largeB n t
  · rfl
  · rw [largeN_yes hl] at h; omega
theorem keeps {W w' : World} (h : Below W.heap.size W w') {b : Nat} (hb : b < W.heap.size) (i : Nat) : w'.cell? ⟨b, i, none⟩ = W.cell? ⟨b, i, none⟩ := h.cell (p := ⟨b, i, none⟩) hb
theorem box_cells (w : World) (k d : ByteArray) (x : Bool) (ad : Option Addr) (n c : Nat) : (w.alloc (.cells #[.string k, .string d, .bool x, .slice ad n c] 24)).cell? ⟨w.heap.size, 0, none⟩ = some (.string k) ∧ (w.alloc (.cells #[.string k, .string d, .bool x, .slice ad n c] 24)).cell? ⟨w.heap.size, 1, none⟩ = some (.string d) ∧ (w.alloc (.cells #[.string k, .string d, .bool x, .slice ad n c] 24)).cell? ⟨w.heap.size, 2, none⟩ = some (.bool x) ∧ (w.alloc (.cells #[.string k, .string d, .bool x, .slice ad n c] 24)).cell? ⟨w.heap.size, 3, none⟩ = some (.slice ad n c) := by
  have h : ∀ i, (w.alloc (.cells #[.string k, .string d, .bool x, .slice ad n c] 24)).cell? ⟨w.heap.size, i, none⟩ = #[Value.string k, .string d, .bool x, .slice ad n c][i]? := fun i => World.cell?_alloc_at _ _ _ _ rfl
  exact ⟨h 0, h 1, h 2, h 3⟩
theorem box_keeps {W w' : World} (h : Below W.heap.size W w') {b : Nat} (hb : b < W.heap.size) {k d : ByteArray} {x : Bool} {v : Value}
    (hc : W.cell? ⟨b, 0, none⟩ = some (.string k) ∧ W.cell? ⟨b, 1, none⟩ = some (.string d) ∧ W.cell? ⟨b, 2, none⟩ = some (.bool x) ∧ W.cell? ⟨b, 3, none⟩ = some v) :
    w'.cell? ⟨b, 0, none⟩ = some (.string k) ∧ w'.cell? ⟨b, 1, none⟩ = some (.string d) ∧ w'.cell? ⟨b, 2, none⟩ = some (.bool x) ∧ w'.cell? ⟨b, 3, none⟩ = some v := by
  simp only [keeps h hb]
  exact hc
/-- A dir of a file. -/
def aFile : Tree := { kind := { data := #[102, 105, 108, 101] }, data := { data := #[120, 121] }, exec := false, kids := [] }
def aDir : Tree := { kind := { data := #[100, 105, 114] }, data := { data := #[] }, exec := false, kids := [({ data := #[97] }, aFile)] }
theorem aDir_err : treeErr 2 aDir = none := by kernel_rfl
theorem aDir_ok : OkItems (pre 2 ByteArray.empty 0 aDir) := fun x hx => by
  have e : pre 2 ByteArray.empty 0 aDir = [(ByteArray.empty, 0, aDir), (ByteArray.empty ++ slash ++ { data := #[97] }, 1, aFile)] := rfl
  rw [e] at hx
  simp only [List.mem_cons, List.not_mem_nil, or_false] at hx
  rcases hx with rfl | rfl
  · exact ⟨by decide, by decide, by decide⟩
  · exact ⟨by decide, by decide, by decide⟩
end Go.Proofs.YtilkjafggfdjeabDoor
