/-
  DERIVED. GIVEN WITH THE SEED: THE CARDS: each row of YtghhhhbllpkcdacDoorRows.lean that lists a variable, with what it lists TIED to the program's text (the seventh form; the later family's looks); each row that meets fmt, with fmt's text TOLD by the authors' own Lean function (tested against real Go, not proved from fmt's source: count such statements apart). THE CARD IS WHAT COUNTS. Prove the row's statement (the work); the ties are given (YtghhhhbllpkcdacDoorTie.lean); close each card by the builder's one call (the guide's Derived/Test/ToyasCard.lean, 'card_holds'). Laid BY PROGRAM, IN A SANDBOX (cutbox-door.mjs). By AI agents, Wed Nov 11 2026. No macro, syntax, notation, axiom, sorry.
-/
import Derived.Test.YtghhhhbllpkcdacDoorRows
import GoSem.ClaimSeven
namespace Go.Proofs.YtghhhhbllpkcdacDoor
namespace Rows

/-- THE TIED CARD OF 'stillroomlaw2.DiskStays'. -/
def diskStaysCard : Claim7 := { stood := { row := diskStaysRow, standIns := [], harness := (true, "ed0d5230379f69e9d5011d5db2640bed1e301a35469572ca46e317f1c58571d1"), looks := true }, kinds := [], alts := [], laidByText := true, laidKinds := [.sentinel], laidTests := true, laidLooks := .later }
def DiskStaysCardSaid : Prop := Claim7.holds Tryd.pinned (.plain (OpenSpec.ofChange diskStaysSpec)) diskStaysCard

/-- THE TIED CARD OF 'stillroomlaw2.DiskActs'. -/
def diskActsCard : Claim7 := { stood := { row := diskActsRow, standIns := [], harness := (true, "ed0d5230379f69e9d5011d5db2640bed1e301a35469572ca46e317f1c58571d1"), looks := true }, kinds := [], alts := [], laidByText := true, laidKinds := [.handle, .sentinel, .sentinel, .sentinel, .sentinel, .sentinel, .sentinel, .sentinel, .sentinel, .sentinel, .sentinel, .sentinel, .sentinel, .sentinel], laidTests := true, laidLooks := .later }
def DiskActsCardSaid : Prop := Claim7.holds Tryd.pinned (.plain (OpenSpec.ofChange diskActsSpec)) diskActsCard

/-- THE SECOND FORM's CARD OF 'stillroomlaw2.DiskStays'. -/
def diskStaysUptoCard : Claim7 := { stood := { row := diskStaysUptoRow, standIns := [], harness := (true, "ed0d5230379f69e9d5011d5db2640bed1e301a35469572ca46e317f1c58571d1"), looks := true }, kinds := [], alts := [], laidByText := true, laidKinds := [.sentinel], laidTests := true, laidLooks := .later }
def DiskStaysUptoCardSaid : Prop := Claim7.holds Tryd.pinned (.plain (OpenSpec.upto diskStaysSpec)) diskStaysUptoCard

/-- THE SECOND FORM's CARD OF 'stillroomlaw2.DiskActs'. -/
def diskActsUptoCard : Claim7 := { stood := { row := diskActsUptoRow, standIns := [], harness := (true, "ed0d5230379f69e9d5011d5db2640bed1e301a35469572ca46e317f1c58571d1"), looks := true }, kinds := [], alts := [], laidByText := true, laidKinds := [.handle, .sentinel, .sentinel, .sentinel, .sentinel, .sentinel, .sentinel, .sentinel, .sentinel, .sentinel, .sentinel, .sentinel, .sentinel, .sentinel], laidTests := true, laidLooks := .later }
def DiskActsUptoCardSaid : Prop := Claim7.holds Tryd.pinned (.plain (OpenSpec.upto diskActsSpec)) diskActsUptoCard
end Rows
end Go.Proofs.YtghhhhbllpkcdacDoor
