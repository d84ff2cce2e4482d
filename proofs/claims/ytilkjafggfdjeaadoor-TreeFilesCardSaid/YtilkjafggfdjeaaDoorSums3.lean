/-
  What follows for the functions Count, Size and Files: their steps, folded over a list of nodes. No program stands here but by the numbers that its functions were proved at.
  Conditions: none.
-/
import Derived.Test.YtilkjafggfdjeaaDoorSums
import Derived.Test.YtilkjafggfdjeaaDoorFiles
namespace Go.Proofs.YtilkjafggfdjeaaDoor
open Go.RowKit

theorem fold_ct : ∀ (l : List (ByteArray × Nat × Tree)) (n : Nat), l.foldl ctStep n = n + S one l
  | [], n => by simp [S]
  | x :: l, n => by rw [List.foldl_cons, fold_ct l, S_cons]; simp only [ctStep, one]; omega
theorem fold_sz : ∀ (l : List (ByteArray × Nat × Tree)) (n : Nat), l.foldl szStep n = n + S bytesIn l
  | [], n => by simp [S]
  | x :: l, n => by
    rw [List.foldl_cons, fold_sz l, S_cons]
    unfold szStep bytesIn
    split <;> omega
theorem fold_fl : ∀ (l : List (ByteArray × Nat × Tree)) (a : List ByteArray), (l.foldl flStep a).length = a.length + S isOne l
  | [], a => by simp [S]
  | x :: l, a => by
    rw [List.foldl_cons, fold_fl l, S_cons]
    unfold flStep isOne
    split
    · simp; omega
    · simp

theorem alive_ct : ∀ (l : List (ByteArray × Nat × Tree)) (n : Nat), n + l.length ≤ 1000000 → OkItems l → Alive (fun s x => (ctStep s x, none)) ctOk n l
  | [], _, _, _ => trivial
  | x :: l, n, hn, h => by
    have hx := h x List.mem_cons_self
    simp only [List.length_cons] at hn
    exact ⟨⟨by omega, hx.1, hx.2.1⟩, fun _ => alive_ct l (n + 1) (by omega) (fun y hy => h y (List.mem_cons_of_mem _ hy))⟩
theorem szStep_le (n : Nat) (x : ByteArray × Nat × Tree) : szStep n x ≤ n + x.2.2.data.size := by
  unfold szStep
  split
  · exact Nat.le_refl _
  · exact Nat.le_add_right _ _
theorem alive_sz : ∀ (l : List (ByteArray × Nat × Tree)) (n : Nat), n + l.length * 2001 ≤ 1000000000 → OkItems l → Alive (fun s x => (szStep s x, none)) szOk n l
  | [], _, _, _ => trivial
  | x :: l, n, hn, h => by
    have hx := h x List.mem_cons_self
    rw [List.length_cons, Nat.add_mul] at hn
    have h3 := hx.2.2
    have h4 := szStep_le n x
    refine ⟨⟨by omega, by omega, hx.1, hx.2.1⟩, fun _ => ?_⟩
    refine alive_sz l (szStep n x) ?_ (fun y hy => h y (List.mem_cons_of_mem _ hy))
    omega
theorem alive_fl : ∀ (l : List (ByteArray × Nat × Tree)) (a : List ByteArray), a.length + l.length ≤ 1000000 → OkItems l → Alive (fun s x => (flStep s x, none)) flOk a l
  | [], _, _, _ => trivial
  | x :: l, a, hn, h => by
    have hx := h x List.mem_cons_self
    simp only [List.length_cons] at hn
    refine ⟨⟨by omega, hx.1, hx.2.1⟩, fun _ => alive_fl l (flStep a x) ?_ (fun y hy => h y (List.mem_cons_of_mem _ hy))⟩
    unfold flStep
    split
    · simp; omega
    · omega
end Go.Proofs.YtilkjafggfdjeaaDoor
