/-
  DERIVED. GIVEN WITH THE SEED: THE CARDS: each row of YteglglnpjhaocabDoorRows.lean that lists a variable, with what it lists TIED to the program's text (the seventh form; the later family's looks); each row that meets fmt, with fmt's text TOLD by the authors' own Lean function (tested against real Go, not proved from fmt's source: count such statements apart). THE CARD IS WHAT COUNTS. Prove the row's statement (the work); the ties are given (YteglglnpjhaocabDoorTie.lean); close each card by the builder's one call (the guide's Derived/Test/ToyasCard.lean, 'card_holds'). Laid BY PROGRAM, IN A SANDBOX (cutbox-door.mjs). By AI agents, Wed Nov 11 2026. No macro, syntax, notation, axiom, sorry.
-/
import Derived.Test.YteglglnpjhaocabDoorRows
import GoSem.ClaimSeven
namespace Go.Proofs.YteglglnpjhaocabDoor
namespace Rows

/-- THE TIED CARD OF 'stillroomlaw1.PackFirsts'. -/
def packFirstsCard : Claim7 := { stood := { row := packFirstsRow, standIns := [], harness := (true, "cba4c1e7ebabebbfaa08bdc7d20ea6c9d984951967c84e9ece11875226ceb494"), looks := false }, kinds := [], alts := [], laidByText := true, laidKinds := [.data, .data, .data, .sentinel, .sentinel, .sentinel, .sentinel, .sentinel, .sentinel, .sentinel, .sentinel], laidTests := true, laidLooks := .later }
def PackFirstsCardSaid : Prop := Claim7.holds Tryd.pinned (.plain (OpenSpec.ofChange packFirstsSpec)) packFirstsCard

/-- THE SECOND FORM's CARD OF 'stillroomlaw1.PackFirsts'. -/
def packFirstsUptoCard : Claim7 := { stood := { row := packFirstsUptoRow, standIns := [], harness := (true, "cba4c1e7ebabebbfaa08bdc7d20ea6c9d984951967c84e9ece11875226ceb494"), looks := false }, kinds := [], alts := [], laidByText := true, laidKinds := [.data, .data, .data, .sentinel, .sentinel, .sentinel, .sentinel, .sentinel, .sentinel, .sentinel, .sentinel], laidTests := true, laidLooks := .later }
def PackFirstsUptoCardSaid : Prop := Claim7.holds Tryd.pinned (.plain (OpenSpec.upto packFirstsSpec)) packFirstsUptoCard
end Rows
end Go.Proofs.YteglglnpjhaocabDoor
