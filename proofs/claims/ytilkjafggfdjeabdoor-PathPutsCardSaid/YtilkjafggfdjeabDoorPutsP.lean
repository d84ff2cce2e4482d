/-
  The law 'PathPuts' returns true for every input: what was put is got, and what was dropped is none; another path is as it was
  Conditions: none beside the row's own; the listed variables are tied to the program's text by the given tie (over the pruned copy of the project).
-/
import Derived.Test.YtilkjafggfdjeabDoorCards
import Derived.Test.YtilkjafggfdjeabDoorTie
import Derived.Test.YtilkjafggfdjeabDoorPutsW
import Derived.Test.YtilkjafggfdjeabDoorLaidQ
import Derived.Lay
import Derived.Test.YtilkjafggfdjeabDoorShaped
import Derived.Test.YtilkjafggfdjeabDoorArg
import Derived.ProofKit
import Derived.Carry
import Derived.ChangeMaps5
import Derived.ChangeSame
import Derived.ChangeVars
import Derived.JoinedOf
import Derived.LaidMore
import Derived.Stop.Joined
import Derived.SevenTiedAt
namespace Go.Proofs.YtilkjafggfdjeabDoor
open Go.ChangeShapes Go.WideShapes Go.RowKit



end Go.Proofs.YtilkjafggfdjeabDoor
