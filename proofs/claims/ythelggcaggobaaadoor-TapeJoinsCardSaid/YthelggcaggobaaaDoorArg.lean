/-
  An argument that is a node: its cells, and its kids in memory; what a row's proof wants besides.
  Conditions: the row's own reach.
-/
import Derived.Test.YthelggcaggobaaaDoorData
import Derived.ProofKit
import Derived.ChangeSame
import Derived.ChangeVars
namespace Go.Proofs.YthelggcaggobaaaDoor
open Go.ChangeShapes Go.WideShapes Go.RowKit

theorem sums_own : ownKnob Tryd.prog.godebug = none := by kernel_rfl
theorem sums_laidOut : laidOutB Tryd.prog = true := by kernel_rfl
end Go.Proofs.YthelggcaggobaaaDoor
