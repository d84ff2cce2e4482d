/-
  DERIVED. GIVEN WITH THE SEED: THE CARDS: each row of YtpjjpmikhjlgnaaGreatDoorRows.lean that lists a variable, with what it lists TIED to the program's text (the seventh form; the later family's looks); each row that meets fmt, with fmt's text TOLD by the authors' own Lean function (tested against real Go, not proved from fmt's source: count such statements apart). THE CARD IS WHAT COUNTS. Prove the row's statement (the work); the ties are given (YtpjjpmikhjlgnaaGreatDoorTie.lean); close each card by the builder's one call (the guide's Derived/Test/ToyasCard.lean, 'card_holds'). Laid BY PROGRAM, IN A SANDBOX (cutbox-door.mjs). By AI agents, Wed Nov 11 2026. No macro, syntax, notation, axiom, sorry.
-/
import Derived.Test.YtpjjpmikhjlgnaaGreatDoorRows
import GoSem.ClaimSeven
namespace Go.Proofs.YtpjjpmikhjlgnaaGreatDoor
namespace Rows

/-- THE TIED CARD OF 'stillroomlaw1.PathActs'. -/
def pathActsCard : Claim7 := { stood := { row := pathActsRow, standIns := [], harness := (true, "19c6fd7f13d96696452dc7f4332b86950898346ed6cf7809720005d2f9170646"), looks := true }, kinds := [], alts := [], laidByText := true, laidKinds := [.data, .handle, .sentinel, .sentinel, .sentinel, .sentinel, .sentinel, .sentinel, .sentinel, .sentinel, .sentinel, .sentinel, .sentinel, .sentinel, .sentinel, .pinned], laidTests := true, laidLooks := .later }
def PathActsCardSaid : Prop := Claim7.holds Tryz.pinned (.plain (OpenSpec.ofChange pathActsSpec)) pathActsCard

/-- THE TIED CARD OF 'stillroomlaw1.DiffTells'. -/
def diffTellsCard : Claim7 := { stood := { row := diffTellsRow, standIns := [], harness := (true, "19c6fd7f13d96696452dc7f4332b86950898346ed6cf7809720005d2f9170646"), looks := true }, kinds := [], alts := [], laidByText := true, laidKinds := [.data, .handle, .sentinel, .sentinel, .sentinel, .sentinel, .sentinel, .sentinel, .sentinel, .sentinel, .sentinel, .sentinel, .sentinel, .sentinel, .sentinel, .pinned], laidTests := true, laidLooks := .later }
def DiffTellsCardSaid : Prop := Claim7.holds Tryz.pinned (.plain (OpenSpec.ofChange diffTellsSpec)) diffTellsCard

/-- THE SECOND FORM's CARD OF 'stillroomlaw1.PathActs'. -/
def pathActsUptoCard : Claim7 := { stood := { row := pathActsUptoRow, standIns := [], harness := (true, "19c6fd7f13d96696452dc7f4332b86950898346ed6cf7809720005d2f9170646"), looks := true }, kinds := [], alts := [], laidByText := true, laidKinds := [.data, .handle, .sentinel, .sentinel, .sentinel, .sentinel, .sentinel, .sentinel, .sentinel, .sentinel, .sentinel, .sentinel, .sentinel, .sentinel, .sentinel, .pinned], laidTests := true, laidLooks := .later }
def PathActsUptoCardSaid : Prop := Claim7.holds Tryz.pinned (.plain (OpenSpec.upto pathActsSpec)) pathActsUptoCard

/-- THE SECOND FORM's CARD OF 'stillroomlaw1.DiffTells'. -/
def diffTellsUptoCard : Claim7 := { stood := { row := diffTellsUptoRow, standIns := [], harness := (true, "19c6fd7f13d96696452dc7f4332b86950898346ed6cf7809720005d2f9170646"), looks := true }, kinds := [], alts := [], laidByText := true, laidKinds := [.data, .handle, .sentinel, .sentinel, .sentinel, .sentinel, .sentinel, .sentinel, .sentinel, .sentinel, .sentinel, .sentinel, .sentinel, .sentinel, .sentinel, .pinned], laidTests := true, laidLooks := .later }
def DiffTellsUptoCardSaid : Prop := Claim7.holds Tryz.pinned (.plain (OpenSpec.upto diffTellsSpec)) diffTellsUptoCard
end Rows
end Go.Proofs.YtpjjpmikhjlgnaaGreatDoor
