/-
  A node in a block of its own, whose cells are set: what stays.
  Conditions: none.
-/
import Derived.Test.YtpjjpmikhjlgnaaGreatDoorOwn
namespace Go.Proofs.YtpjjpmikhjlgnaaGreatDoor
open Go.RowKit

structure But1 (h : Nat) (w w' : World) : Prop where
  os : w'.os = w.os
  tape : w'.tape = w.tape
  output : w'.output = w.output
  size : w'.heap.size = w.heap.size
  block : ∀ k, k ≠ h → w'.heap[k]? = w.heap[k]?
theorem But1.refl (h : Nat) (w : World) : But1 h w w := ⟨rfl, rfl, rfl, rfl, fun _ _ => rfl⟩
theorem But1.set {h : Nat} {w w' : World} (S : But1 h w w') (i : Nat) (v : Value) : But1 h w (w'.setCell ⟨h, i, none⟩ v) :=
  ⟨S.os, S.tape, S.output, by rw [← S.size]; simp [World.setCell], fun k hk => by rw [Below.heap_setCell _ _ _ _ hk]; exact S.block k hk⟩
theorem But1.below {B h : Nat} {w wr w' : World} (S : But1 h wr w') (hb : Below B w wr) (hB : B ≤ h) : Below B w w' :=
  ⟨S.os.trans hb.os, S.tape.trans hb.tape, S.output.trans hb.output, by rw [S.size]; exact hb.size, fun k hk => by rw [S.block k (by omega)]; exact hb.block k hk⟩
theorem row4b {w : World} {h : Nat} {x0 x1 x2 x3 : Value} {t : TypeId} (hr : w.heap[h]? = some (.cells #[x0, x1, x2, x3] t (0, 0))) :
    (w.cell? ⟨h, 0, none⟩ = some x0 ∧ w.cell? ⟨h, 1, none⟩ = some x1 ∧ w.cell? ⟨h, 2, none⟩ = some x2 ∧ w.cell? ⟨h, 3, none⟩ = some x3) ∧ w.frozen? ⟨h, 0, none⟩ = false ∧ w.frozen? ⟨h, 1, none⟩ = false ∧ w.frozen? ⟨h, 2, none⟩ = false ∧ w.frozen? ⟨h, 3, none⟩ = false := by
  refine ⟨⟨?_, ?_, ?_, ?_⟩, free_of_row hr 0, free_of_row hr 1, free_of_row hr 2, free_of_row hr 3⟩
  all_goals (rw [cell_of_row w _ _ _ _ _ hr]; rfl)
theorem But1.drew {h : Nat} {w w' : World} (S : But1 h w w') : But1 h w w'.drew := ⟨S.os, S.tape, S.output, S.size, S.block⟩
theorem set4b_row {w : World} {b : Nat} {x0 x1 x2 x3 : Value} {t : TypeId} (h : w.heap[b]? = some (.cells #[x0, x1, x2, x3] t (0, 0))) (v0 v1 v2 v3 : Value) : ((((w.setCell ⟨b, 0, none⟩ v0).setCell ⟨b, 1, none⟩ v1).setCell ⟨b, 2, none⟩ v2).setCell ⟨b, 3, none⟩ v3).heap[b]? = some (.cells #[v0, v1, v2, v3] t (0, 0)) := by
  simp [World.setCell, Array.getElem?_modify, h]
/-- All is as it was but one block. -/
structure ButUp (b : Nat) (w w' : World) : Prop where
  os : w'.os = w.os
  tape : w'.tape = w.tape
  output : w'.output = w.output
  size : w.heap.size ≤ w'.heap.size
  block : ∀ k, k < w.heap.size → k ≠ b → w'.heap[k]? = w.heap[k]?
theorem ButUp.of_but {b : Nat} {w w' : World} (h : But1 b w w') : ButUp b w w' := ⟨h.os, h.tape, h.output, by rw [h.size]; exact Nat.le_refl _, fun k _ hk => h.block k hk⟩
theorem ButUp.of_below {b : Nat} {w w' : World} (h : Below w.heap.size w w') : ButUp b w w' := ⟨h.os, h.tape, h.output, h.size, fun k hk _ => h.block k hk⟩
theorem ButUp.below {b B : Nat} {w wr w' : World} (h : ButUp b wr w') (hb : Below B w wr) (hB : B ≤ b) (hs : B ≤ wr.heap.size) : Below B w w' :=
  ⟨h.os.trans hb.os, h.tape.trans hb.tape, h.output.trans hb.output, Nat.le_trans hb.size h.size, fun k hk => (h.block k (by omega) (by omega)).trans (hb.block k hk)⟩
end Go.Proofs.YtpjjpmikhjlgnaaGreatDoor
