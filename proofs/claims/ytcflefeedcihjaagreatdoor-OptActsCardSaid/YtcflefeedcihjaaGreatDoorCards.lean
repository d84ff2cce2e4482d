/-
  DERIVED. GIVEN WITH THE SEED: THE CARDS: each row of YtcflefeedcihjaaGreatDoorRows.lean that lists a variable, with what it lists TIED to the program's text (the seventh form; the later family's looks); each row that meets fmt, with fmt's text TOLD by the authors' own Lean function (tested against real Go, not proved from fmt's source: count such statements apart). THE CARD IS WHAT COUNTS. Prove the row's statement (the work); the ties are given (YtcflefeedcihjaaGreatDoorTie.lean); close each card by the builder's one call (the guide's Derived/Test/ToyasCard.lean, 'card_holds'). Laid BY PROGRAM, IN A SANDBOX (cutbox-door.mjs). By AI agents, Wed Nov 11 2026. No macro, syntax, notation, axiom, sorry.
-/
import Derived.Test.YtcflefeedcihjaaGreatDoorRows
import GoSem.ClaimSeven
namespace Go.Proofs.YtcflefeedcihjaaGreatDoor
namespace Rows

/-- THE TIED CARD OF 'stillroomlaw2.OptActs'. -/
def optActsCard : Claim7 := { stood := { row := optActsRow, standIns := [], harness := (true, "76a60f0a5bbdc7395370345d9a4ae475687c49b26227fd0c0f1ae7591cceef9e"), looks := true }, kinds := [], alts := [], laidByText := true, laidKinds := [.data, .handle, .sentinel, .sentinel, .sentinel, .sentinel, .sentinel, .sentinel, .sentinel, .sentinel, .sentinel, .sentinel, .sentinel, .sentinel, .sentinel, .pinned], laidTests := true, laidLooks := .later }
def OptActsCardSaid : Prop := Claim7.holds Tryz.pinned (.plain (OpenSpec.ofChange optActsSpec)) optActsCard

/-- THE TIED CARD OF 'stillroomlaw2.ScrubActs'. -/
def scrubActsCard : Claim7 := { stood := { row := scrubActsRow, standIns := [], harness := (true, "76a60f0a5bbdc7395370345d9a4ae475687c49b26227fd0c0f1ae7591cceef9e"), looks := true }, kinds := [], alts := [], laidByText := true, laidKinds := [.data, .data, .data, .data, .handle, .sentinel, .sentinel, .sentinel, .sentinel, .sentinel, .sentinel, .sentinel, .sentinel, .sentinel, .sentinel, .sentinel, .sentinel, .sentinel, .pinned], laidTests := true, laidLooks := .later }
def ScrubActsCardSaid : Prop := Claim7.holds Tryz.pinned (.plain (OpenSpec.ofChange scrubActsSpec)) scrubActsCard

/-- THE SECOND FORM's CARD OF 'stillroomlaw2.OptActs'. -/
def optActsUptoCard : Claim7 := { stood := { row := optActsUptoRow, standIns := [], harness := (true, "76a60f0a5bbdc7395370345d9a4ae475687c49b26227fd0c0f1ae7591cceef9e"), looks := true }, kinds := [], alts := [], laidByText := true, laidKinds := [.data, .handle, .sentinel, .sentinel, .sentinel, .sentinel, .sentinel, .sentinel, .sentinel, .sentinel, .sentinel, .sentinel, .sentinel, .sentinel, .sentinel, .pinned], laidTests := true, laidLooks := .later }
def OptActsUptoCardSaid : Prop := Claim7.holds Tryz.pinned (.plain (OpenSpec.upto optActsSpec)) optActsUptoCard

/-- THE SECOND FORM's CARD OF 'stillroomlaw2.ScrubActs'. -/
def scrubActsUptoCard : Claim7 := { stood := { row := scrubActsUptoRow, standIns := [], harness := (true, "76a60f0a5bbdc7395370345d9a4ae475687c49b26227fd0c0f1ae7591cceef9e"), looks := true }, kinds := [], alts := [], laidByText := true, laidKinds := [.data, .data, .data, .data, .handle, .sentinel, .sentinel, .sentinel, .sentinel, .sentinel, .sentinel, .sentinel, .sentinel, .sentinel, .sentinel, .sentinel, .sentinel, .sentinel, .pinned], laidTests := true, laidLooks := .later }
def ScrubActsUptoCardSaid : Prop := Claim7.holds Tryz.pinned (.plain (OpenSpec.upto scrubActsSpec)) scrubActsUptoCard
end Rows
end Go.Proofs.YtcflefeedcihjaaGreatDoor
