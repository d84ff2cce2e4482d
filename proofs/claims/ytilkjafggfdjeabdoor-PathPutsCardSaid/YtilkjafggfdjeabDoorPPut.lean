/-
  The contract of path.Put.
  Conditions: the sentinels hold what the program's text lays; the library's MaxLen holds a number; both trees lie in memory below block B and can be checked, also the one in the other; the text is shorter than four thousand million bytes.
-/
import Derived.Test.YtilkjafggfdjeabDoorPutM
import Derived.Test.YtilkjafggfdjeabDoorOCopy
namespace Go.Proofs.YtilkjafggfdjeabDoor
open Go.RowKit
attribute [local go_sem ↓] Go.wp_at_zero Go.wp_at_succ

/-- What Put hands back. -/
def PutPost (a : Nat → Addr) (d dX : Nat) (t : Tree) (s : ByteArray) (X : Tree) (w : World) (e : Ending) (w' : World) : Prop := Below w.heap.size w w' ∧
  ((∃ er, putR d (d + 1 + dX) t s X = .error er ∧ e = .returned (.tuple #[.agg #[.string { data := #[] }, .string { data := #[] }, .bool false, .slice none 0 0], .iface 153 (.pointer (some (a er)))])) ∨
   (∃ Y u, putR d (d + 1 + dX) t s X = .ok Y ∧ e = .returned (.tuple #[.agg #[.string Y.kind, .string Y.data, .bool Y.exec, u], .nilIface]) ∧ Fresh w w' (d + 1 + dX) Y.kids u))

end Go.Proofs.YtilkjafggfdjeabDoor
