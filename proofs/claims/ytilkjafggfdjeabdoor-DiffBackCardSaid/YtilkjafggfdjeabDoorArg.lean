/-
  An argument that is a node: its cells, and its kids in memory; what a row's proof wants besides.
  Conditions: the row's own reach.
-/
import Derived.Test.YtilkjafggfdjeabDoorData
import Derived.ProofKit
import Derived.ChangeSame
import Derived.ChangeVars
namespace Go.Proofs.YtilkjafggfdjeabDoor
open Go.ChangeShapes Go.WideShapes Go.RowKit

theorem sums_own : ownKnob Tryd.prog.godebug = none := by kernel_rfl
theorem sums_laidOut : laidOutB Tryd.prog = true := by kernel_rfl
set_option maxRecDepth 100000 in
/-- A node among the arguments: its cells, and its kids in memory. -/
theorem node_arg {H : Type} {enc : TypeId × Value → H} {W : World} {base : Nat} {v : Value} {d : DataW H} {p : List MemPlace} (hval : Value.okWide Tryd.prog W .any base 24 v) (h : DataW.Trod enc Tryd.prog W 0 (fun _ => true) true 24 v d p)
    (hw : ∀ m ∈ d.weights Tryd.prog 24, m ≤ reachBytes) : ∃ (t : Tree) (u : Value) (n : Nat), v = .agg #[.string t.kind, .string t.data, .bool t.exec, u] ∧ Lies W W.heap.size n t.kids u ∧ t.data.size ≤ maxLen := by
  obtain ⟨cs, rfl, _⟩ := okWide_struct Tryd.underlying24 hval
  obtain ⟨fuel, hf⟩ := h
  obtain ⟨kind, data, exec, u, y, m, _, e, hy, hwy, hds⟩ := node_of_trod hf hw
  obtain ⟨l, hl⟩ := lies_of_trod m u y hy hwy
  refine ⟨⟨kind, data, exec, l⟩, u, m, ?_, hl, hds⟩
  have e' : cs.toList = [.string kind, .string data, .bool exec, u] := e
  have : cs = #[.string kind, .string data, .bool exec, u] := by
    cases cs with
    | mk l => simp only at e'; subst e'; rfl
  rw [this]
end Go.Proofs.YtilkjafggfdjeabDoor
