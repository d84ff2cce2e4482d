/-
  DERIVED. GIVEN WITH THE SEED: THE CARDS: each row of YtnmknngpihjhnaaGreatDoorRows.lean that lists a variable, with what it lists TIED to the program's text (the seventh form; the later family's looks); each row that meets fmt, with fmt's text TOLD by the authors' own Lean function (tested against real Go, not proved from fmt's source: count such statements apart). THE CARD IS WHAT COUNTS. Prove the row's statement (the work); the ties are given (YtnmknngpihjhnaaGreatDoorTie.lean); close each card by the builder's one call (the guide's Derived/Test/ToyasCard.lean, 'card_holds'). Laid BY PROGRAM, IN A SANDBOX (cutbox-door.mjs). By AI agents, Wed Nov 11 2026. No macro, syntax, notation, axiom, sorry.
-/
import Derived.Test.YtnmknngpihjhnaaGreatDoorRows
import GoSem.ClaimSeven
namespace Go.Proofs.YtnmknngpihjhnaaGreatDoor
namespace Rows

/-- THE TIED CARD OF 'stillroomlaw2.InodeActs'. -/
def inodeActsCard : Claim7 := { stood := { row := inodeActsRow, standIns := [], harness := (true, "eeba1e02e752013ee964d66b50a7b40e8881199e7bd46d314e16d07d3394c41a"), looks := true }, kinds := [], alts := [], laidByText := true, laidKinds := [.handle, .sentinel, .sentinel, .sentinel, .sentinel, .sentinel, .sentinel, .sentinel, .sentinel, .sentinel, .sentinel, .sentinel, .sentinel, .sentinel], laidTests := true, laidLooks := .later }
def InodeActsCardSaid : Prop := Claim7.holds Tryz.pinned (.plain (OpenSpec.ofChange inodeActsSpec)) inodeActsCard

/-- THE SECOND FORM's CARD OF 'stillroomlaw2.InodeActs'. -/
def inodeActsUptoCard : Claim7 := { stood := { row := inodeActsUptoRow, standIns := [], harness := (true, "eeba1e02e752013ee964d66b50a7b40e8881199e7bd46d314e16d07d3394c41a"), looks := true }, kinds := [], alts := [], laidByText := true, laidKinds := [.handle, .sentinel, .sentinel, .sentinel, .sentinel, .sentinel, .sentinel, .sentinel, .sentinel, .sentinel, .sentinel, .sentinel, .sentinel, .sentinel], laidTests := true, laidLooks := .later }
def InodeActsUptoCardSaid : Prop := Claim7.holds Tryz.pinned (.plain (OpenSpec.upto inodeActsSpec)) inodeActsUptoCard
end Rows
end Go.Proofs.YtnmknngpihjhnaaGreatDoor
