/-
  DERIVED. GIVEN WITH THE SEED: THE CARDS: each row of YtcejpeohkgchdaaGreatDoorRows.lean that lists a variable, with what it lists TIED to the program's text (the seventh form; the later family's looks); each row that meets fmt, with fmt's text TOLD by the authors' own Lean function (tested against real Go, not proved from fmt's source: count such statements apart). THE CARD IS WHAT COUNTS. Prove the row's statement (the work); the ties are given (YtcejpeohkgchdaaGreatDoorTie.lean); close each card by the builder's one call (the guide's Derived/Test/ToyasCard.lean, 'card_holds'). Laid BY PROGRAM, IN A SANDBOX (cutbox-door.mjs). By AI agents, Wed Nov 11 2026. No macro, syntax, notation, axiom, sorry.
-/
import Derived.Test.YtcejpeohkgchdaaGreatDoorRows
import GoSem.ClaimSeven
namespace Go.Proofs.YtcejpeohkgchdaaGreatDoor
namespace Rows

/-- THE TIED CARD OF 'stillroomlaw2.InodeActs'. -/
def inodeActsCard : Claim7 := { stood := { row := inodeActsRow, standIns := [], harness := (true, "9b194ad939b556c9c326a16599be2becd49b73cbf5a2c26ebcff421566e5c00e"), looks := true }, kinds := [], alts := [], laidByText := true, laidKinds := [.handle, .sentinel, .sentinel, .sentinel, .sentinel, .sentinel, .sentinel, .sentinel, .sentinel, .sentinel, .sentinel, .sentinel, .sentinel, .sentinel], laidTests := true, laidLooks := .later }
def InodeActsCardSaid : Prop := Claim7.holds Tryz.pinned (.plain (OpenSpec.ofChange inodeActsSpec)) inodeActsCard

/-- THE TIED CARD OF 'stillroomlaw2.DirsLinks'. -/
def dirsLinksCard : Claim7 := { stood := { row := dirsLinksRow, standIns := [], harness := (true, "9b194ad939b556c9c326a16599be2becd49b73cbf5a2c26ebcff421566e5c00e"), looks := true }, kinds := [], alts := [], laidByText := true, laidKinds := [.data, .sentinel, .sentinel, .sentinel, .sentinel, .sentinel, .sentinel, .sentinel, .sentinel, .sentinel, .sentinel, .pinned], laidTests := true, laidLooks := .later }
def DirsLinksCardSaid : Prop := Claim7.holds Tryz.pinned (.plain (OpenSpec.ofChange dirsLinksSpec)) dirsLinksCard

/-- THE TIED CARD OF 'stillroomlaw2.DirsShares'. -/
def dirsSharesCard : Claim7 := { stood := { row := dirsSharesRow, standIns := [], harness := (true, "9b194ad939b556c9c326a16599be2becd49b73cbf5a2c26ebcff421566e5c00e"), looks := true }, kinds := [], alts := [], laidByText := true, laidKinds := [.data, .sentinel, .sentinel, .sentinel, .sentinel, .sentinel, .sentinel, .sentinel, .sentinel, .sentinel, .sentinel, .pinned], laidTests := true, laidLooks := .later }
def DirsSharesCardSaid : Prop := Claim7.holds Tryz.pinned (.plain (OpenSpec.ofChange dirsSharesSpec)) dirsSharesCard

/-- THE TIED CARD OF 'stillroomlaw2.DirsActs'. -/
def dirsActsCard : Claim7 := { stood := { row := dirsActsRow, standIns := [], harness := (true, "9b194ad939b556c9c326a16599be2becd49b73cbf5a2c26ebcff421566e5c00e"), looks := true }, kinds := [], alts := [], laidByText := true, laidKinds := [.data, .handle, .sentinel, .sentinel, .sentinel, .sentinel, .sentinel, .sentinel, .sentinel, .sentinel, .sentinel, .sentinel, .sentinel, .sentinel, .sentinel, .pinned], laidTests := true, laidLooks := .later }
def DirsActsCardSaid : Prop := Claim7.holds Tryz.pinned (.plain (OpenSpec.ofChange dirsActsSpec)) dirsActsCard

/-- THE TIED CARD OF 'stillroomlaw2.OptSame'. -/
def optSameCard : Claim7 := { stood := { row := optSameRow, standIns := [], harness := (true, "9b194ad939b556c9c326a16599be2becd49b73cbf5a2c26ebcff421566e5c00e"), looks := true }, kinds := [], alts := [], laidByText := true, laidKinds := [.data, .sentinel, .sentinel, .sentinel, .sentinel, .sentinel, .sentinel, .sentinel, .sentinel, .sentinel, .sentinel, .pinned], laidTests := true, laidLooks := .later }
def OptSameCardSaid : Prop := Claim7.holds Tryz.pinned (.plain (OpenSpec.ofChange optSameSpec)) optSameCard

/-- THE SECOND FORM's CARD OF 'stillroomlaw2.InodeActs'. -/
def inodeActsUptoCard : Claim7 := { stood := { row := inodeActsUptoRow, standIns := [], harness := (true, "9b194ad939b556c9c326a16599be2becd49b73cbf5a2c26ebcff421566e5c00e"), looks := true }, kinds := [], alts := [], laidByText := true, laidKinds := [.handle, .sentinel, .sentinel, .sentinel, .sentinel, .sentinel, .sentinel, .sentinel, .sentinel, .sentinel, .sentinel, .sentinel, .sentinel, .sentinel], laidTests := true, laidLooks := .later }
def InodeActsUptoCardSaid : Prop := Claim7.holds Tryz.pinned (.plain (OpenSpec.upto inodeActsSpec)) inodeActsUptoCard

/-- THE SECOND FORM's CARD OF 'stillroomlaw2.DirsLinks'. -/
def dirsLinksUptoCard : Claim7 := { stood := { row := dirsLinksUptoRow, standIns := [], harness := (true, "9b194ad939b556c9c326a16599be2becd49b73cbf5a2c26ebcff421566e5c00e"), looks := true }, kinds := [], alts := [], laidByText := true, laidKinds := [.data, .sentinel, .sentinel, .sentinel, .sentinel, .sentinel, .sentinel, .sentinel, .sentinel, .sentinel, .sentinel, .pinned], laidTests := true, laidLooks := .later }
def DirsLinksUptoCardSaid : Prop := Claim7.holds Tryz.pinned (.plain (OpenSpec.upto dirsLinksSpec)) dirsLinksUptoCard

/-- THE SECOND FORM's CARD OF 'stillroomlaw2.DirsShares'. -/
def dirsSharesUptoCard : Claim7 := { stood := { row := dirsSharesUptoRow, standIns := [], harness := (true, "9b194ad939b556c9c326a16599be2becd49b73cbf5a2c26ebcff421566e5c00e"), looks := true }, kinds := [], alts := [], laidByText := true, laidKinds := [.data, .sentinel, .sentinel, .sentinel, .sentinel, .sentinel, .sentinel, .sentinel, .sentinel, .sentinel, .sentinel, .pinned], laidTests := true, laidLooks := .later }
def DirsSharesUptoCardSaid : Prop := Claim7.holds Tryz.pinned (.plain (OpenSpec.upto dirsSharesSpec)) dirsSharesUptoCard

/-- THE SECOND FORM's CARD OF 'stillroomlaw2.DirsActs'. -/
def dirsActsUptoCard : Claim7 := { stood := { row := dirsActsUptoRow, standIns := [], harness := (true, "9b194ad939b556c9c326a16599be2becd49b73cbf5a2c26ebcff421566e5c00e"), looks := true }, kinds := [], alts := [], laidByText := true, laidKinds := [.data, .handle, .sentinel, .sentinel, .sentinel, .sentinel, .sentinel, .sentinel, .sentinel, .sentinel, .sentinel, .sentinel, .sentinel, .sentinel, .sentinel, .pinned], laidTests := true, laidLooks := .later }
def DirsActsUptoCardSaid : Prop := Claim7.holds Tryz.pinned (.plain (OpenSpec.upto dirsActsSpec)) dirsActsUptoCard

/-- THE SECOND FORM's CARD OF 'stillroomlaw2.OptSame'. -/
def optSameUptoCard : Claim7 := { stood := { row := optSameUptoRow, standIns := [], harness := (true, "9b194ad939b556c9c326a16599be2becd49b73cbf5a2c26ebcff421566e5c00e"), looks := true }, kinds := [], alts := [], laidByText := true, laidKinds := [.data, .sentinel, .sentinel, .sentinel, .sentinel, .sentinel, .sentinel, .sentinel, .sentinel, .sentinel, .sentinel, .pinned], laidTests := true, laidLooks := .later }
def OptSameUptoCardSaid : Prop := Claim7.holds Tryz.pinned (.plain (OpenSpec.upto optSameSpec)) optSameUptoCard
end Rows
end Go.Proofs.YtcejpeohkgchdaaGreatDoor
