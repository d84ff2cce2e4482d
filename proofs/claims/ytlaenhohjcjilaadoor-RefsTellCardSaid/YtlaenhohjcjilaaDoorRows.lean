/-
  NARROWER THAN 'FOR EVERY INPUT', by the rows' own cells (each row's printed sentence says how): RefsTell: loops, laid · RefsClosed: loops, laid · RefsUsers: loops, laid.
  DERIVED. THE GIVEN ROWS OF THIS SEAT. 3 by the template 'for every input the law returns true; each argument reads behind the call as it read before'; 0 by the template 'total and deterministic' (their statements: YtlaenhohjcjilaaDoorTotals.lean).
  GIVEN WITH THE SEED: the statements are not yours to turn. If you find one false, say at which input.
  Laid BY PROGRAM, IN A SANDBOX (cutbox-rows.mjs): the forced cells as the released guide's own fill.sh prints them over the translation d0ecded806d614d7… (all of the seat's roots in one cut). By AI agents, Wed Nov 11 2026. No macro, syntax, notation, axiom, sorry.
-/
import Derived.Test.YtlaenhohjcjilaaDoorChecked
import GoSem.Claim
import GoSem.ClaimJoined
import GoSem.ClaimMapViews
import Derived.JoinedTies
import Derived.KernelRfl
namespace Go.Proofs.YtlaenhohjcjilaaDoor
/- THE CELL 'sum', in the pinned program and in every row, IS THE sha256 OF THE DUMP (.gsa) THAT YtlaenhohjcjilaaDoorProg.lean LOADS. Nothing in Lean hashes anything: it is a label: what it is worth is what the hold of that sum in a sandbox is worth. -/
noncomputable def Tryd.pinned : Pinned := { name := "ytlaenhohjcjilaadoor", sum := "d0ecded806d614d744bda016ae1efea9ff336e75da2ba3cbd8ef1c5dbff2e3bf", checked := Tryd.checked }
namespace Rows
def none {H : Type} : Left H := { results := [], args := [] }

/- WHAT THE LISTED PACKAGE-LEVEL VARIABLES READ AS WHEN THE CALL BEGINS. Each datum BY PROGRAM (the guide's laid-datum.mjs) off the statement by which the dump's own 'gosem.cut.vars' lays the variable. In a bare row this is a premise. The card (YtlaenhohjcjilaaDoorCards.lean) ties it to the program's text. -/
def laid_errors_errorType {H : Type} : DataW H := .iface "internal/reflectlite.rtype" (.agg [.ptr (.lit (.string [101, 114, 114, 111, 114]))])
def laid_stillroom_api_ErrText {H : Type} : DataW H := .iface "*errors.errorString" (.ptr (.agg [.lit (.string [115, 116, 105, 108, 108, 114, 111, 111, 109, 58, 32, 116, 101, 120, 116])]))
def laid_stillroom_api_ErrBound {H : Type} : DataW H := .iface "*errors.errorString" (.ptr (.agg [.lit (.string [115, 116, 105, 108, 108, 114, 111, 111, 109, 58, 32, 98, 111, 117, 110, 100])]))
def laid_stillroom_api_ErrShape {H : Type} : DataW H := .iface "*errors.errorString" (.ptr (.agg [.lit (.string [115, 116, 105, 108, 108, 114, 111, 111, 109, 58, 32, 115, 104, 97, 112, 101])]))
def laid_stillroom_api_ErrKind {H : Type} : DataW H := .iface "*errors.errorString" (.ptr (.agg [.lit (.string [115, 116, 105, 108, 108, 114, 111, 111, 109, 58, 32, 107, 105, 110, 100])]))
def laid_stillroom_api_ErrName {H : Type} : DataW H := .iface "*errors.errorString" (.ptr (.agg [.lit (.string [115, 116, 105, 108, 108, 114, 111, 111, 109, 58, 32, 110, 97, 109, 101])]))
def laid_stillroom_api_ErrNone {H : Type} : DataW H := .iface "*errors.errorString" (.ptr (.agg [.lit (.string [115, 116, 105, 108, 108, 114, 111, 111, 109, 58, 32, 110, 111, 110, 101])]))
def laid_stillroom_api_ErrExist {H : Type} : DataW H := .iface "*errors.errorString" (.ptr (.agg [.lit (.string [115, 116, 105, 108, 108, 114, 111, 111, 109, 58, 32, 101, 120, 105, 115, 116])]))
def laid_stillroom_api_ErrFull {H : Type} : DataW H := .iface "*errors.errorString" (.ptr (.agg [.lit (.string [115, 116, 105, 108, 108, 114, 111, 111, 109, 58, 32, 102, 117, 108, 108])]))
def laid_stillroom_api_ErrDeep {H : Type} : DataW H := .iface "*errors.errorString" (.ptr (.agg [.lit (.string [115, 116, 105, 108, 108, 114, 111, 111, 109, 58, 32, 100, 101, 101, 112])]))
def laid_stillroom_api_ErrOrder {H : Type} : DataW H := .iface "*errors.errorString" (.ptr (.agg [.lit (.string [115, 116, 105, 108, 108, 114, 111, 111, 109, 58, 32, 111, 114, 100, 101, 114])]))
def laid_stillroom_api_ErrSum {H : Type} : DataW H := .iface "*errors.errorString" (.ptr (.agg [.lit (.string [115, 116, 105, 108, 108, 114, 111, 111, 109, 58, 32, 115, 117, 109])]))
def laid_stillroom_api_ErrInUse {H : Type} : DataW H := .iface "*errors.errorString" (.ptr (.agg [.lit (.string [115, 116, 105, 108, 108, 114, 111, 111, 109, 58, 32, 105, 110, 32, 117, 115, 101])]))
def laid_stillroom_api_ErrOff {H : Type} : DataW H := .iface "*errors.errorString" (.ptr (.agg [.lit (.string [115, 116, 105, 108, 108, 114, 111, 111, 109, 58, 32, 111, 102, 102])]))

/-- 'stillroomlaw3.RefsTell': WHATEVER THE INPUT: true; the input reads as it did. -/
def refsTellSpec : ChangeSpec := { name := "refsTell", fn := fun _ => fun
  | [d1, d2, d3] => { results := [.lit (.bool true)], args := [d1, d2, d3] }
  | _ => none }
def refsTellRow : OpenClaim := { program := "ytlaenhohjcjilaadoor", sum := "d0ecded806d614d744bda016ae1efea9ff336e75da2ba3cbd8ef1c5dbff2e3bf", func := "stillroom/stillroomlaw3.RefsTell", spec := "refsTell", inPlace := ["internal/reflectlite.ValueOf", "(internal/reflectlite.Value).Type", "(internal/reflectlite.Value).IsNil", "internal/reflectlite.TypeOf", "(internal/reflectlite.Value).Elem", "(internal/reflectlite.Value).Set"], unfollowed := true, recurses := true, named := ["stillroom/api.ErrNone", "stillroom/api.ErrFull", "stillroom/api.ErrName", "stillroom/api.ErrExist", "stillroom/api.ErrOrder", "stillroom/api.ErrText", "stillroom/api.ErrBound", "stillroom/api.ErrShape", "stillroom/api.ErrKind", "stillroom/api.ErrDeep", "stillroom/api.ErrSum", "stillroom/api.ErrInUse", "stillroom/api.ErrOff", "errors.errorType"], loops := true, apart := false, laid := [("errors.errorType", laid_errors_errorType), ("stillroom/api.ErrText", laid_stillroom_api_ErrText), ("stillroom/api.ErrBound", laid_stillroom_api_ErrBound), ("stillroom/api.ErrShape", laid_stillroom_api_ErrShape), ("stillroom/api.ErrKind", laid_stillroom_api_ErrKind), ("stillroom/api.ErrName", laid_stillroom_api_ErrName), ("stillroom/api.ErrNone", laid_stillroom_api_ErrNone), ("stillroom/api.ErrExist", laid_stillroom_api_ErrExist), ("stillroom/api.ErrFull", laid_stillroom_api_ErrFull), ("stillroom/api.ErrDeep", laid_stillroom_api_ErrDeep), ("stillroom/api.ErrOrder", laid_stillroom_api_ErrOrder), ("stillroom/api.ErrSum", laid_stillroom_api_ErrSum), ("stillroom/api.ErrInUse", laid_stillroom_api_ErrInUse), ("stillroom/api.ErrOff", laid_stillroom_api_ErrOff)] }
def RefsTellSaid : Prop := refsTellRow.holds Tryd.pinned (OpenSpec.ofChange refsTellSpec)

/-- ITS FALSE NEIGHBOUR: 'it returns false'. Refute it at one input. -/
def refsTellWrong : ChangeSpec := { name := "refsTell", fn := fun _ => fun
  | [d1, d2, d3] => { results := [.lit (.bool false)], args := [d1, d2, d3] }
  | _ => none }
def RefsTellWrongFalsely : Prop := refsTellRow.holds Tryd.pinned (OpenSpec.ofChange refsTellWrong)

/-- 'stillroomlaw3.RefsClosed': WHATEVER THE INPUT: true; the input reads as it did. -/
def refsClosedSpec : ChangeSpec := { name := "refsClosed", fn := fun _ => fun
  | [d1, d2] => { results := [.lit (.bool true)], args := [d1, d2] }
  | _ => none }
def refsClosedRow : OpenClaim := { program := "ytlaenhohjcjilaadoor", sum := "d0ecded806d614d744bda016ae1efea9ff336e75da2ba3cbd8ef1c5dbff2e3bf", func := "stillroom/stillroomlaw3.RefsClosed", spec := "refsClosed", inPlace := ["internal/reflectlite.ValueOf", "(internal/reflectlite.Value).Type", "(internal/reflectlite.Value).IsNil", "internal/reflectlite.TypeOf", "(internal/reflectlite.Value).Elem", "(internal/reflectlite.Value).Set"], unfollowed := true, recurses := true, named := ["stillroom/api.ErrNone", "stillroom/api.ErrFull", "stillroom/api.ErrName", "stillroom/api.ErrExist", "stillroom/api.ErrOrder", "stillroom/api.ErrText", "stillroom/api.ErrBound", "stillroom/api.ErrShape", "stillroom/api.ErrKind", "stillroom/api.ErrDeep", "stillroom/api.ErrSum", "stillroom/api.ErrInUse", "stillroom/api.ErrOff", "errors.errorType"], loops := true, apart := false, laid := [("errors.errorType", laid_errors_errorType), ("stillroom/api.ErrText", laid_stillroom_api_ErrText), ("stillroom/api.ErrBound", laid_stillroom_api_ErrBound), ("stillroom/api.ErrShape", laid_stillroom_api_ErrShape), ("stillroom/api.ErrKind", laid_stillroom_api_ErrKind), ("stillroom/api.ErrName", laid_stillroom_api_ErrName), ("stillroom/api.ErrNone", laid_stillroom_api_ErrNone), ("stillroom/api.ErrExist", laid_stillroom_api_ErrExist), ("stillroom/api.ErrFull", laid_stillroom_api_ErrFull), ("stillroom/api.ErrDeep", laid_stillroom_api_ErrDeep), ("stillroom/api.ErrOrder", laid_stillroom_api_ErrOrder), ("stillroom/api.ErrSum", laid_stillroom_api_ErrSum), ("stillroom/api.ErrInUse", laid_stillroom_api_ErrInUse), ("stillroom/api.ErrOff", laid_stillroom_api_ErrOff)] }
def RefsClosedSaid : Prop := refsClosedRow.holds Tryd.pinned (OpenSpec.ofChange refsClosedSpec)

/-- ITS FALSE NEIGHBOUR: 'it returns false'. Refute it at one input. -/
def refsClosedWrong : ChangeSpec := { name := "refsClosed", fn := fun _ => fun
  | [d1, d2] => { results := [.lit (.bool false)], args := [d1, d2] }
  | _ => none }
def RefsClosedWrongFalsely : Prop := refsClosedRow.holds Tryd.pinned (OpenSpec.ofChange refsClosedWrong)

/-- 'stillroomlaw3.RefsUsers': WHATEVER THE INPUT: true; the input reads as it did. -/
def refsUsersSpec : ChangeSpec := { name := "refsUsers", fn := fun _ => fun
  | [d] => { results := [.lit (.bool true)], args := [d] }
  | _ => none }
def refsUsersRow : OpenClaim := { program := "ytlaenhohjcjilaadoor", sum := "d0ecded806d614d744bda016ae1efea9ff336e75da2ba3cbd8ef1c5dbff2e3bf", func := "stillroom/stillroomlaw3.RefsUsers", spec := "refsUsers", inPlace := ["internal/reflectlite.ValueOf", "(internal/reflectlite.Value).Type", "(internal/reflectlite.Value).IsNil", "internal/reflectlite.TypeOf", "(internal/reflectlite.Value).Elem", "(internal/reflectlite.Value).Set"], unfollowed := true, recurses := true, named := ["stillroom/api.ErrNone", "stillroom/api.ErrFull", "stillroom/api.ErrName", "stillroom/api.ErrExist", "stillroom/api.ErrOrder", "stillroom/api.ErrText", "stillroom/api.ErrBound", "stillroom/api.ErrShape", "stillroom/api.ErrKind", "stillroom/api.ErrDeep", "stillroom/api.ErrSum", "stillroom/api.ErrInUse", "stillroom/api.ErrOff", "errors.errorType"], loops := true, apart := false, laid := [("errors.errorType", laid_errors_errorType), ("stillroom/api.ErrText", laid_stillroom_api_ErrText), ("stillroom/api.ErrBound", laid_stillroom_api_ErrBound), ("stillroom/api.ErrShape", laid_stillroom_api_ErrShape), ("stillroom/api.ErrKind", laid_stillroom_api_ErrKind), ("stillroom/api.ErrName", laid_stillroom_api_ErrName), ("stillroom/api.ErrNone", laid_stillroom_api_ErrNone), ("stillroom/api.ErrExist", laid_stillroom_api_ErrExist), ("stillroom/api.ErrFull", laid_stillroom_api_ErrFull), ("stillroom/api.ErrDeep", laid_stillroom_api_ErrDeep), ("stillroom/api.ErrOrder", laid_stillroom_api_ErrOrder), ("stillroom/api.ErrSum", laid_stillroom_api_ErrSum), ("stillroom/api.ErrInUse", laid_stillroom_api_ErrInUse), ("stillroom/api.ErrOff", laid_stillroom_api_ErrOff)] }
def RefsUsersSaid : Prop := refsUsersRow.holds Tryd.pinned (OpenSpec.ofChange refsUsersSpec)

/-- ITS FALSE NEIGHBOUR: 'it returns false'. Refute it at one input. -/
def refsUsersWrong : ChangeSpec := { name := "refsUsers", fn := fun _ => fun
  | [d] => { results := [.lit (.bool false)], args := [d] }
  | _ => none }
def RefsUsersWrongFalsely : Prop := refsUsersRow.holds Tryd.pinned (OpenSpec.ofChange refsUsersWrong)

/- THE SECOND FORM. 'bulk': how many values and letters a reading holds, each counted each time it is reached (what is shared counts as often as it is met; a slice's spare places count too). A statement '..UptoSaid' is the law's where the arguments, and the package variables that the reading takes, are together of bulk at most 1048576: NARROWER than '..Said'. Prove '..Said' where nothing that the law and all that it calls make is longer than what came in: it says more and counts as full. Else prove '..UptoSaid'. A law counts once. -/
mutual
def uptoBulk {H : Type} : DataW H → Nat
  | .lit (.string bytes) => bytes.length + 1
  | .lit _ => 1
  | .nil => 1
  | .ptr d => uptoBulk d + 1
  | .slice elems spare => uptoBulkAll elems + uptoBulkAll spare + 1
  | .agg parts => uptoBulkAll parts + 1
  | .iface _ d => uptoBulk d + 1
  | .map entries => uptoBulkEntries entries + 1
  | .held _ => 1
def uptoBulkAll {H : Type} : List (DataW H) → Nat
  | [] => 0
  | d :: r => uptoBulk d + uptoBulkAll r
def uptoBulkEntries {H : Type} : List (Lit × DataW H) → Nat
  | [] => 0
  | x :: r => uptoBulkEntry x + uptoBulkEntries r
def uptoBulkEntry {H : Type} : Lit × DataW H → Nat
  | (.string bytes, d) => bytes.length + uptoBulk d + 1
  | (_, d) => uptoBulk d + 1
 end
def uptoSmall : (H : Type) → List (DataW H) → Bool := fun _ ds => decide (uptoBulkAll ds ≤ 1048576)
def OpenSpec.upto (s : _root_.Go.ChangeSpec) : _root_.Go.OpenSpec := { _root_.Go.OpenSpec.ofChange s with cond := some uptoSmall }

/-- 'stillroomlaw3.RefsTell', WHERE WHAT IT READS IS OF BULK AT MOST 1048576: true; the input reads as it did. -/
def refsTellUptoRow : OpenClaim := { program := "ytlaenhohjcjilaadoor", sum := "d0ecded806d614d744bda016ae1efea9ff336e75da2ba3cbd8ef1c5dbff2e3bf", func := "stillroom/stillroomlaw3.RefsTell", spec := "refsTell", inPlace := ["internal/reflectlite.ValueOf", "(internal/reflectlite.Value).Type", "(internal/reflectlite.Value).IsNil", "internal/reflectlite.TypeOf", "(internal/reflectlite.Value).Elem", "(internal/reflectlite.Value).Set"], unfollowed := true, recurses := true, named := ["stillroom/api.ErrNone", "stillroom/api.ErrFull", "stillroom/api.ErrName", "stillroom/api.ErrExist", "stillroom/api.ErrOrder", "stillroom/api.ErrText", "stillroom/api.ErrBound", "stillroom/api.ErrShape", "stillroom/api.ErrKind", "stillroom/api.ErrDeep", "stillroom/api.ErrSum", "stillroom/api.ErrInUse", "stillroom/api.ErrOff", "errors.errorType"], loops := true, apart := false, laid := [("errors.errorType", laid_errors_errorType), ("stillroom/api.ErrText", laid_stillroom_api_ErrText), ("stillroom/api.ErrBound", laid_stillroom_api_ErrBound), ("stillroom/api.ErrShape", laid_stillroom_api_ErrShape), ("stillroom/api.ErrKind", laid_stillroom_api_ErrKind), ("stillroom/api.ErrName", laid_stillroom_api_ErrName), ("stillroom/api.ErrNone", laid_stillroom_api_ErrNone), ("stillroom/api.ErrExist", laid_stillroom_api_ErrExist), ("stillroom/api.ErrFull", laid_stillroom_api_ErrFull), ("stillroom/api.ErrDeep", laid_stillroom_api_ErrDeep), ("stillroom/api.ErrOrder", laid_stillroom_api_ErrOrder), ("stillroom/api.ErrSum", laid_stillroom_api_ErrSum), ("stillroom/api.ErrInUse", laid_stillroom_api_ErrInUse), ("stillroom/api.ErrOff", laid_stillroom_api_ErrOff)], narrowed := true }
def RefsTellUptoSaid : Prop := refsTellUptoRow.holds Tryd.pinned (OpenSpec.upto refsTellSpec)

/-- 'stillroomlaw3.RefsClosed', WHERE WHAT IT READS IS OF BULK AT MOST 1048576: true; the input reads as it did. -/
def refsClosedUptoRow : OpenClaim := { program := "ytlaenhohjcjilaadoor", sum := "d0ecded806d614d744bda016ae1efea9ff336e75da2ba3cbd8ef1c5dbff2e3bf", func := "stillroom/stillroomlaw3.RefsClosed", spec := "refsClosed", inPlace := ["internal/reflectlite.ValueOf", "(internal/reflectlite.Value).Type", "(internal/reflectlite.Value).IsNil", "internal/reflectlite.TypeOf", "(internal/reflectlite.Value).Elem", "(internal/reflectlite.Value).Set"], unfollowed := true, recurses := true, named := ["stillroom/api.ErrNone", "stillroom/api.ErrFull", "stillroom/api.ErrName", "stillroom/api.ErrExist", "stillroom/api.ErrOrder", "stillroom/api.ErrText", "stillroom/api.ErrBound", "stillroom/api.ErrShape", "stillroom/api.ErrKind", "stillroom/api.ErrDeep", "stillroom/api.ErrSum", "stillroom/api.ErrInUse", "stillroom/api.ErrOff", "errors.errorType"], loops := true, apart := false, laid := [("errors.errorType", laid_errors_errorType), ("stillroom/api.ErrText", laid_stillroom_api_ErrText), ("stillroom/api.ErrBound", laid_stillroom_api_ErrBound), ("stillroom/api.ErrShape", laid_stillroom_api_ErrShape), ("stillroom/api.ErrKind", laid_stillroom_api_ErrKind), ("stillroom/api.ErrName", laid_stillroom_api_ErrName), ("stillroom/api.ErrNone", laid_stillroom_api_ErrNone), ("stillroom/api.ErrExist", laid_stillroom_api_ErrExist), ("stillroom/api.ErrFull", laid_stillroom_api_ErrFull), ("stillroom/api.ErrDeep", laid_stillroom_api_ErrDeep), ("stillroom/api.ErrOrder", laid_stillroom_api_ErrOrder), ("stillroom/api.ErrSum", laid_stillroom_api_ErrSum), ("stillroom/api.ErrInUse", laid_stillroom_api_ErrInUse), ("stillroom/api.ErrOff", laid_stillroom_api_ErrOff)], narrowed := true }
def RefsClosedUptoSaid : Prop := refsClosedUptoRow.holds Tryd.pinned (OpenSpec.upto refsClosedSpec)

/-- 'stillroomlaw3.RefsUsers', WHERE WHAT IT READS IS OF BULK AT MOST 1048576: true; the input reads as it did. -/
def refsUsersUptoRow : OpenClaim := { program := "ytlaenhohjcjilaadoor", sum := "d0ecded806d614d744bda016ae1efea9ff336e75da2ba3cbd8ef1c5dbff2e3bf", func := "stillroom/stillroomlaw3.RefsUsers", spec := "refsUsers", inPlace := ["internal/reflectlite.ValueOf", "(internal/reflectlite.Value).Type", "(internal/reflectlite.Value).IsNil", "internal/reflectlite.TypeOf", "(internal/reflectlite.Value).Elem", "(internal/reflectlite.Value).Set"], unfollowed := true, recurses := true, named := ["stillroom/api.ErrNone", "stillroom/api.ErrFull", "stillroom/api.ErrName", "stillroom/api.ErrExist", "stillroom/api.ErrOrder", "stillroom/api.ErrText", "stillroom/api.ErrBound", "stillroom/api.ErrShape", "stillroom/api.ErrKind", "stillroom/api.ErrDeep", "stillroom/api.ErrSum", "stillroom/api.ErrInUse", "stillroom/api.ErrOff", "errors.errorType"], loops := true, apart := false, laid := [("errors.errorType", laid_errors_errorType), ("stillroom/api.ErrText", laid_stillroom_api_ErrText), ("stillroom/api.ErrBound", laid_stillroom_api_ErrBound), ("stillroom/api.ErrShape", laid_stillroom_api_ErrShape), ("stillroom/api.ErrKind", laid_stillroom_api_ErrKind), ("stillroom/api.ErrName", laid_stillroom_api_ErrName), ("stillroom/api.ErrNone", laid_stillroom_api_ErrNone), ("stillroom/api.ErrExist", laid_stillroom_api_ErrExist), ("stillroom/api.ErrFull", laid_stillroom_api_ErrFull), ("stillroom/api.ErrDeep", laid_stillroom_api_ErrDeep), ("stillroom/api.ErrOrder", laid_stillroom_api_ErrOrder), ("stillroom/api.ErrSum", laid_stillroom_api_ErrSum), ("stillroom/api.ErrInUse", laid_stillroom_api_ErrInUse), ("stillroom/api.ErrOff", laid_stillroom_api_ErrOff)], narrowed := true }
def RefsUsersUptoSaid : Prop := refsUsersUptoRow.holds Tryd.pinned (OpenSpec.upto refsUsersSpec)

end Rows
end Go.Proofs.YtlaenhohjcjilaaDoor
