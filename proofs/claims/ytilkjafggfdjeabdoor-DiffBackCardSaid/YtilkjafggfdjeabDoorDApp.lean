/-
  The contracts of package diff's add, edit, drop and apply: one change of a tree that is well.
  Conditions: the sentinels hold what the program's text lays; the library's MaxLen holds a number; tree and change lie in memory below block B, the change's node is bounded; its path is shorter than four thousand million bytes.
-/
import Derived.Test.YtilkjafggfdjeabDoorPPut
import Derived.Test.YtilkjafggfdjeabDoorPDrop
import Derived.Test.YtilkjafggfdjeabDoorDiffA
import Derived.Test.YtilkjafggfdjeabDoorSame
namespace Go.Proofs.YtilkjafggfdjeabDoor
open Go.RowKit
attribute [local go_sem ↓] Go.wp_at_zero Go.wp_at_succ

/-- What package diff wants of the world. -/
structure DSen (a : Nat → Addr) (w : World) : Prop where
  is : PSen a w
  exist : w.cell? ⟨8, 0, none⟩ = some (.iface 153 (.pointer (some (a 6))))
theorem DSen.below {a : Nat → Addr} {w w' : World} (S : DSen a w) (hb : Below w.heap.size w w') : DSen a w' := ⟨S.is.below hb, by rw [hb.cell (p := ⟨8, 0, none⟩) (lt_of_cell S.exist)]; exact S.exist⟩
theorem Fresh.but {w w1 w' w'' : World} {d r : Nat} {l : List (ByteArray × Tree)} {v : Value} (h : Fresh w1 w' d l v) (hw : w.heap.size ≤ w1.heap.size) (hS : But1 r w' w'') (hr : r < w1.heap.size) : Fresh w w'' d l v := fun w9 h9 hs9 => by
  rw [hS.size] at hs9 ⊢
  exact h w9 (fun k h1 h2 => (h9 k (by omega) (by rw [hS.size]; exact h2)).trans (hS.block k (by omega))) hs9
theorem Fresh.up {w w' : World} {d e : Nat} {l : List (ByteArray × Tree)} {v : Value} (h : Fresh w w' d l v) (he : d ≤ e) : Fresh w w' e l v := fun w9 h9 hs => (h w9 h9 hs).up (Nat.le_refl _) he
def addR (dc : Nat) (t : Tree) (c : Chg) : Except Nat Tree := match getR 9 t c.path with
  | .ok _ => .error 6
  | .error _ => putR 9 (9 + 1 + dc) t c.path c.node
def editR (dc : Nat) (t : Tree) (c : Chg) : Except Nat Tree := match getR 9 t c.path with
  | .error e => .error e
  | .ok _ => putR 9 (9 + 1 + dc) t c.path c.node
def dropC (dc : Nat) (t : Tree) (c : Chg) : Except Nat Tree := if sameB dc c.node zeroT = true then dropR 9 t c.path else .error 2
/-- What a change hands back. -/
def ChgPost (a : Nat → Addr) (K : Nat) (r : Except Nat Tree) (w : World) (e : Ending) (w' : World) : Prop := Below w.heap.size w w' ∧
  ((∃ er, r = .error er ∧ e = .returned (.tuple #[.agg #[.string { data := #[] }, .string { data := #[] }, .bool false, .slice none 0 0], .iface 153 (.pointer (some (a er)))])) ∨
   (∃ Y u, r = .ok Y ∧ e = .returned (.tuple #[.agg #[.string Y.kind, .string Y.data, .bool Y.exec, u], .nilIface]) ∧ Fresh w w' K Y.kids u))
theorem row6 {w : World} {h : Nat} {x0 x1 x2 x3 x4 x5 : Value} {t : TypeId} (hr : w.heap[h]? = some (.cells #[x0, x1, x2, x3, x4, x5] t (0, 0))) : w.cell? ⟨h, 0, none⟩ = some x0 ∧ w.cell? ⟨h, 1, none⟩ = some x1 ∧ w.cell? ⟨h, 2, none⟩ = some x2 ∧ w.cell? ⟨h, 3, none⟩ = some x3 ∧ w.cell? ⟨h, 4, none⟩ = some x4 ∧ w.cell? ⟨h, 5, none⟩ = some x5 := by
  refine ⟨?_, ?_, ?_, ?_, ?_, ?_⟩
  all_goals (rw [cell_of_row w _ _ _ _ _ hr]; rfl)




end Go.Proofs.YtilkjafggfdjeabDoor
