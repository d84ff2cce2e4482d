/-
  DERIVED. GIVEN WITH THE SEED: THE CARDS: each row of YthofhjnfkholoaaGreatDoorRows.lean that lists a variable, with what it lists TIED to the program's text (the seventh form; the later family's looks); each row that meets fmt, with fmt's text TOLD by the authors' own Lean function (tested against real Go, not proved from fmt's source: count such statements apart). THE CARD IS WHAT COUNTS. Prove the row's statement (the work); the ties are given (YthofhjnfkholoaaGreatDoorTie.lean); close each card by the builder's one call (the guide's Derived/Test/ToyasCard.lean, 'card_holds'). Laid BY PROGRAM, IN A SANDBOX (cutbox-door.mjs). By AI agents, Wed Nov 11 2026. No macro, syntax, notation, axiom, sorry.
-/
import Derived.Test.YthofhjnfkholoaaGreatDoorRows
import GoSem.ClaimSeven
namespace Go.Proofs.YthofhjnfkholoaaGreatDoor
namespace Rows

/-- THE TIED CARD OF 'stillroomlaw2.ScrubActs'. -/
def scrubActsCard : Claim7 := { stood := { row := scrubActsRow, standIns := [], harness := (true, "2a5129b06f64f46297379ea38c45beb3c415fe54f38efa21ad38121899af823a"), looks := true }, kinds := [], alts := [], laidByText := true, laidKinds := [.data, .data, .data, .data, .handle, .sentinel, .sentinel, .sentinel, .sentinel, .sentinel, .sentinel, .sentinel, .sentinel, .sentinel, .sentinel, .sentinel, .sentinel, .sentinel, .pinned], laidTests := true, laidLooks := .later }
def ScrubActsCardSaid : Prop := Claim7.holds Tryz.pinned (.plain (OpenSpec.ofChange scrubActsSpec)) scrubActsCard

/-- THE SECOND FORM's CARD OF 'stillroomlaw2.ScrubActs'. -/
def scrubActsUptoCard : Claim7 := { stood := { row := scrubActsUptoRow, standIns := [], harness := (true, "2a5129b06f64f46297379ea38c45beb3c415fe54f38efa21ad38121899af823a"), looks := true }, kinds := [], alts := [], laidByText := true, laidKinds := [.data, .data, .data, .data, .handle, .sentinel, .sentinel, .sentinel, .sentinel, .sentinel, .sentinel, .sentinel, .sentinel, .sentinel, .sentinel, .sentinel, .sentinel, .sentinel, .pinned], laidTests := true, laidLooks := .later }
def ScrubActsUptoCardSaid : Prop := Claim7.holds Tryz.pinned (.plain (OpenSpec.upto scrubActsSpec)) scrubActsUptoCard
end Rows
end Go.Proofs.YthofhjnfkholoaaGreatDoor
