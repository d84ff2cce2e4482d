/-
  The contracts of the functions of package tree that look at one node, or at one name.
  Conditions: those of each theorem.
-/
import Derived.Test.YthelggcaggobaaaDoorProg
import Derived.Test.YthelggcaggobaaaDoorTrees
import Derived.WalkKit
import Derived.Handy
import Derived.Outline
import Derived.WalkLawsBesides
import Derived.WalkSpells
namespace Go.Proofs.YthelggcaggobaaaDoor
open Go.RowKit

theorem ret_bool {a b : Bool} (h : a = b) : Ending.returned (.bool a) = .returned (.bool b) := by rw [h]


end Go.Proofs.YthelggcaggobaaaDoor
