/- SvC, joined. Conditions: as each states. -/
import Derived.Test.YtaaimbpnogkngaaGreatDoorCards
import Derived.JoinedOf
import Derived.SevenTiedAt
import Derived.Test.YtaaimbpnogkngaaGreatDoorQ01
namespace Go.Proofs.YtaaimbpnogkngaaGreatDoor
set_option maxRecDepth 100000
section
open Go.ChangeShapes Go.WideShapes

theorem Mh:OpenClaim.wf (OpenSpec.ofChange Rows.storeOnceSpec) Rows.storeOnceRow=true:=by kernel_rfl
theorem LJ:laidOutB Tryz.checked.prog=true:=by kernel_rfl
theorem LK:mapsRowed Tryz.checked.prog=true:=by kernel_rfl
theorem L8:namedTie Tryz.checked.prog Rows.storeOnceRow.named Rows.storeOnceSpec.vars=true:=by kernel_rfl
theorem Mi:(Rows.storeOnceRow.inPlace==Program.inPlace Tryz.checked.prog 3)=true:=by kernel_rfl
theorem Mj:(Rows.storeOnceRow.unfollowed==Program.unfollowed Tryz.checked.prog 3)=true:=by kernel_rfl
theorem L9:(Rows.storeOnceRow.recurses==Program.recurses Tryz.checked.prog 3)=true:=by kernel_rfl
theorem Mb:(Rows.storeOnceRow.named==Program.varsNamed Tryz.checked.prog 3)=true:=by kernel_rfl
theorem LL:(Rows.storeOnceRow.plainKeys==Program.plainKeys Tryz.checked.prog)=true:=by kernel_rfl
theorem Kv:Program.stopsHeard Tryz.checked.prog=true:=by kernel_rfl
theorem Kw:Program.mayEnter Tryz.checked.prog=true:=by kernel_rfl
theorem LM:(Rows.storeOnceRow.lifted==Program.liftsFinal Tryz.checked.prog)=true:=by kernel_rfl
theorem LN:(Program.make Tryz.checked.prog==some Rows.storeOnceRow.make)=true:=by kernel_rfl
theorem IG:joinedFacts Tryz.checked.prog 3 Tryz.f3 Rows.storeOnceSpec Rows.storeOnceRow=true:=by
 unfold joinedFacts;rw [Mh,LJ,LK,L8,Mi,Mj,L9,Mb,LL,Kv,Kw,LM,LN]
 kernel_rfl
theorem LO:false=OpenClaim.goesBy Rows.storeOnceRow Tryz.checked.prog:=by kernel_rfl
end
end Go.Proofs.YtaaimbpnogkngaaGreatDoor
