/-
  The law: its walk, and the contracts put into it.
  Conditions: those that each states.
-/
import Derived.Test.YtpjjpmikhjlgnaaGreatDoorBoxes
import Derived.Deep.RegionHeld3
import Derived.Deep.DrawnRows
import Derived.Deep.DeepCutAuto
import Derived.Deep.DeepFit
import Derived.Test.YtpjjpmikhjlgnaaGreatDoorYCode
import Derived.Test.YtpjjpmikhjlgnaaGreatDoorYPut
import Derived.Test.YtpjjpmikhjlgnaaGreatDoorDropM
import Derived.Test.YtpjjpmikhjlgnaaGreatDoorPGet
import Derived.Test.YtpjjpmikhjlgnaaGreatDoorYDifK
import Derived.Test.YtpjjpmikhjlgnaaGreatDoorYDocA
import Derived.Test.YtpjjpmikhjlgnaaGreatDoorYDocD
import Derived.Test.YtpjjpmikhjlgnaaGreatDoorYLaid
namespace Go.Proofs.YtpjjpmikhjlgnaaGreatDoor
set_option maxHeartbeats 1500000
set_option maxRecDepth 100000
open Go.RowKit
attribute [local go_sem ↓] Go.wp_at_zero Go.wp_at_succ

def DtEnd (k d:ByteArray) (x:Bool) (ua:Option Addr) (un uc:Nat) (k3 d3:ByteArray) (x3:Bool) (a3:Option Addr) (n3 c3:Nat) (la:Option Addr) (ln lc:Nat) (ev:Value) (b3:Nat) (R:World->Prop) (w:World):Prop :=
 Calls Tryz.prog 28 #[.agg #[.string k,.string d,.bool x,.slice ua un uc],.slice la ln lc] w fun e w1=>∃k4 d4 x4 a4 n4 c4 fc fp,e = .returned (.tuple #[.agg #[.string k4,.string d4,.bool x4,.slice a4 n4 c4],.agg #[.int .i64 fc,.int .i64 fp]])/\∀w2 b4 b5,w2=(w1.alloc (.cells #[.string k4,.string d4,.bool x4,.slice a4 n4 c4] 24)).alloc (.cells #[.int .i64 fc,.int .i64 fp] 59)->b4=w1.heap.size->b5=w1.heap.size+1 ->
  (w2.cell? ⟨b5,0,none⟩=some (.int .i64 fc)/\w2.cell? ⟨b5,1,none⟩=some (.int .i64 fp)) /\
  Calls Tryz.prog 29 #[ev,.agg #[.int .i64 fc,.int .i64 fp]] w2 fun e w3=>e = .returned (.bool true)/\w3.cell? ⟨b3,0,none⟩=some (.string k3)/\w3.cell? ⟨b3,1,none⟩=some (.string d3)/\w3.cell? ⟨b3,2,none⟩=some (.bool x3)/\w3.cell? ⟨b3,3,none⟩=some (.slice a3 n3 c3)/\w3.cell? ⟨b4,0,none⟩=some (.string k4)/\w3.cell? ⟨b4,1,none⟩=some (.string d4)/\w3.cell? ⟨b4,2,none⟩=some (.bool x4)/\w3.cell? ⟨b4,3,none⟩=some (.slice a4 n4 c4) /\
   Calls Tryz.prog 14 #[.agg #[.string k3,.string d3,.bool x3,.slice a3 n3 c3],.agg #[.string k4,.string d4,.bool x4,.slice a4 n4 c4]] w3 fun e w4=>e = .returned (.bool true)/\R w4
def DtApp (k d:ByteArray) (x:Bool) (ua:Option Addr) (un uc:Nat) (la:Option Addr) (ln lc:Nat) (G R:World->Prop) (w:World):Prop :=
 Calls Tryz.prog 7 #[.agg #[.string k,.string d,.bool x,.slice ua un uc]] w fun e w1=>∃xa xc,e = .returned (.agg #[.string k,.string d,.bool x,.slice xa un xc])/\G w1 /\
  Calls Tryz.prog 27 #[.slice la ln lc] w1 fun e w2=>∃oa on oc,e = .returned (.slice oa on oc)/\G w2 /\
   Calls Tryz.prog 26 #[.agg #[.string k,.string d,.bool x,.slice xa un xc],.slice oa on oc] w2 fun e w3=>∃k3 d3 x3 a3 n3 c3 ev,e = .returned (.tuple #[.agg #[.string k3,.string d3,.bool x3,.slice a3 n3 c3],ev])/\∀w4 b3,w4=w3.alloc (.cells #[.string k3,.string d3,.bool x3,.slice a3 n3 c3] 24)->b3=w3.heap.size->G w4/\DtEnd k d x ua un uc k3 d3 x3 a3 n3 c3 la ln lc ev b3 R w4
def DtAll (k d:ByteArray) (x:Bool) (ua:Option Addr) (un uc:Nat) (k2 d2:ByteArray) (x2:Bool) (ub:Option Addr) (vn vc:Nat) (la:Option Addr) (ln lc:Nat) (G R:World->Prop) (w:World):Prop :=
 Calls Tryz.prog 7 #[.agg #[.string k,.string d,.bool x,.slice ua un uc]] w fun e w1=>∃xa xc,e = .returned (.agg #[.string k,.string d,.bool x,.slice xa un xc])/\G w1 /\
  Calls Tryz.prog 7 #[.agg #[.string k2,.string d2,.bool x2,.slice ub vn vc]] w1 fun e w2=>∃yb yc,e = .returned (.agg #[.string k2,.string d2,.bool x2,.slice yb vn yc])/\G w2 /\
   Calls Tryz.prog 23 #[.agg #[.string k,.string d,.bool x,.slice xa un xc],.agg #[.string k2,.string d2,.bool x2,.slice yb vn yc]] w2 fun e w3=>∃da dn dc ev,e = .returned (.tuple #[.slice da dn dc,ev])/\G w3 /\
    Calls Tryz.prog 24 #[.agg #[.string k,.string d,.bool x,.slice ua un uc],.agg #[.string k2,.string d2,.bool x2,.slice ub vn vc]] w3 fun e w4=>∃fa fn fc er,e = .returned (.tuple #[.slice fa fn fc,.int .i64 er])/\G w4 /\
     Calls Tryz.prog 10 #[ev,.int .i64 er] w4 fun e w5=>e = .returned (.bool true)/\G w5 /\
      Calls Tryz.prog 25 #[.slice da dn dc,.slice fa fn fc] w5 fun e w6=>e = .returned (.bool true)/\G w6/\DtApp k d x ua un uc la ln lc G R w6

theorem dt_skel (k d:ByteArray) (x:Bool) (ua:Option Addr) (un uc:Nat) (k2 d2:ByteArray) (x2:Bool) (ub:Option Addr) (vn vc:Nat) (la:Option Addr) (ln lc:Nat) (w:World) (ga gb:Int) (hga:ga=0∨ga=1) (hgb:gb=0∨gb=1) (LC:Bool)
  (R G:World->Prop) (HR:Hid (∀w',G w'->R w'))
  (HT:Hid (Calls Tryz.prog 21 #[] ((w.alloc (.cells #[.string k,.string d,.bool x,.slice ua un uc] 24)).alloc (.cells #[.string k2,.string d2,.bool x2,.slice ub vn vc] 24)) fun e w'=>e = .returned (.bool true)/\G w'))
  (HD:Hid (∀w',G w'->G w'.drew))
  (HK:Hid (∀w',G w'->w'.cell? ⟨w.heap.size,0,none⟩=some (.string k)/\w'.cell? ⟨w.heap.size,1,none⟩=some (.string d)/\w'.cell? ⟨w.heap.size,2,none⟩=some (.bool x)/\w'.cell? ⟨w.heap.size,3,none⟩=some (.slice ua un uc)/\w'.cell? ⟨w.heap.size+1,0,none⟩=some (.string k2)/\w'.cell? ⟨w.heap.size+1,1,none⟩=some (.string d2)/\w'.cell? ⟨w.heap.size+1,2,none⟩=some (.bool x2)/\w'.cell? ⟨w.heap.size+1,3,none⟩=some (.slice ub vn vc)))
  (HGS:Hid (∀w',G w'->Calls Tryz.prog 6 #[.agg #[.string k,.string d,.bool x,.slice ua un uc],.int .i64 60] w' fun e w''=>e = .returned (.int .i64 ga)/\G w''))
  (HGT:Hid (∀w',G w'->Calls Tryz.prog 6 #[.agg #[.string k2,.string d2,.bool x2,.slice ub vn vc],.int .i64 60] w' fun e w''=>e = .returned (.int .i64 gb)/\G w''))
  (HLC:Hid (∀w',G w'->Calls Tryz.prog 22 #[.slice la ln lc] w' fun e w''=>e = .returned (.bool LC)/\G w''))
  (HO:Hid (ga+gb=0->LC=false->∀w',G w'->DtAll k d x ua un uc k2 d2 x2 ub vn vc la ln lc G R w')) :
  Calls Tryz.prog 4 #[.agg #[.string k,.string d,.bool x,.slice ua un uc],.agg #[.string k2,.string d2,.bool x2,.slice ub vn vc],.slice la ln lc] w fun e w'=>e = .returned (.bool true)/\R w':=by
 go_enter Tryz.func4,Tryz.ntmps4
 go_wp2_with fail
 refine Calls.mono HT.out ?_
 rintro e w2 ⟨rfl,hg2⟩
 have wk:IntKind.i64.wrap (ga+gb)=ga+gb:=by
  rcases hga with rfl|rfl <;> rcases hgb with rfl|rfl <;> decide
 have hlo:0<=ga+gb:=by omega
 clear hga hgb HT
 go_upto_region 2 with fail
 go_cut [29] (fun c wx=>c = .bool (decide (0<ga+gb)||LC)/\G wx)
 case first =>
  refine wp_region_held_drew (S:=fun w'=>w'.cell? ⟨w.heap.size,0,none⟩=some (.string k)/\w'.cell? ⟨w.heap.size,1,none⟩=some (.string d)/\w'.cell? ⟨w.heap.size,2,none⟩=some (.bool x)/\w'.cell? ⟨w.heap.size,3,none⟩=some (.slice ua un uc)/\w'.cell? ⟨w.heap.size+1,0,none⟩=some (.string k2)/\w'.cell? ⟨w.heap.size+1,1,none⟩=some (.string d2)/\w'.cell? ⟨w.heap.size+1,2,none⟩=some (.bool x2)/\w'.cell? ⟨w.heap.size+1,3,none⟩=some (.slice ub vn vc)) (by kernel_rfl) (HK.out _ (HD.out _ hg2)) (fun hHeld=>?_)
  refine wpAnyH_take (i:=0) (v:=(.bool true)) rfl (by kernel_rfl) (by kernel_rfl) (by kernel_rfl) (fun _ _ _ h=>h) (Or.inl ⟨by rfl,?_⟩) hHeld ?_
  ·intro w hSw;(try dsimp only at hSw);simp only [List.getElem_toArray,List.getElem_cons_zero];go_simp
  simp only [List.getElem_toArray,List.getElem_cons_zero,Act.put,List.setIfInBounds_toArray,List.set_cons_zero,List.set_cons_succ]
  refine wpAnyH_take (i:=1) (v:=(.bool false)) rfl (by kernel_rfl) (by kernel_rfl) (by kernel_rfl) (fun _ _ _ h=>h) (Or.inl ⟨by rfl,?_⟩) hHeld ?_
  ·intro w hSw;(try dsimp only at hSw);simp only [List.getElem_toArray,List.getElem_cons_zero,List.getElem_cons_succ];go_simp
  simp only [List.getElem_toArray,List.getElem_cons_zero,List.getElem_cons_succ,Act.put,List.setIfInBounds_toArray,List.set_cons_zero,List.set_cons_succ]
  refine wpAnyH_take (i:=2) (v:=(.bool false)) rfl (by kernel_rfl) (by kernel_rfl) (by kernel_rfl) (fun _ _ _ h=>h) (Or.inl ⟨by rfl,?_⟩) hHeld ?_
  ·intro w hSw;(try dsimp only at hSw);simp only [List.getElem_toArray,List.getElem_cons_zero,List.getElem_cons_succ];go_simp
  simp only [List.getElem_toArray,List.getElem_cons_zero,List.getElem_cons_succ,Act.put,List.setIfInBounds_toArray,List.set_cons_zero,List.set_cons_succ]
  refine wpAnyH_take (i:=3) (v:=.agg #[.string k,.string d,.bool x,.slice ua un uc]) rfl (by kernel_rfl) (by kernel_rfl) (by kernel_rfl) (fun _ _ _ h=>h) (Or.inl ⟨by rfl,?_⟩) hHeld ?_
  ·intro w hSw;(try dsimp only at hSw);simp only [List.getElem_toArray,List.getElem_cons_zero,List.getElem_cons_succ];go_simp
  simp only [List.getElem_toArray,List.getElem_cons_zero,List.getElem_cons_succ,Act.put,List.setIfInBounds_toArray,List.set_cons_zero,List.set_cons_succ]
  refine wpAnyH_take (i:=5) (v:=.agg #[.string k2,.string d2,.bool x2,.slice ub vn vc]) rfl (by kernel_rfl) (by kernel_rfl) (by kernel_rfl) (fun _ _ _ h=>h) (Or.inl ⟨by rfl,?_⟩) hHeld ?_
  ·intro w hSw;(try dsimp only at hSw);simp only [List.getElem_toArray,List.getElem_cons_zero,List.getElem_cons_succ];go_simp
  simp only [List.getElem_toArray,List.getElem_cons_zero,List.getElem_cons_succ,Act.put,List.setIfInBounds_toArray,List.set_cons_zero,List.set_cons_succ]
  refine wpAnyH_ready (rs:=[4]) (by kernel_rfl) (by simp) ?_
  refine AllReadyH.cons rfl (fun K' hK=>?_) AllReadyH.nil
  simp only [List.getElem_toArray,List.getElem_cons_zero,List.getElem_cons_succ]
  go_simp
  refine Calls.mono (HGS.out _ (HD.out _ hg2)) ?_
  rintro e wx ⟨rfl,hg⟩
  go_wp2_with fail
  refine hK.out _ _ (HK.out _ hg) (fun hHeld'=>?_)
  clear hK K' hHeld
  have hHeld:=hHeld'
  clear hHeld'
  refine wpAnyH_ready (rs:=[6]) (by kernel_rfl) (by simp) ?_
  refine AllReadyH.cons rfl (fun K' hK=>?_) AllReadyH.nil
  simp only [List.getElem_toArray,List.getElem_cons_zero,List.getElem_cons_succ]
  go_simp
  refine Calls.mono (HGT.out _ hg) ?_
  rintro e wx ⟨rfl,hg'⟩
  go_wp2_with fail
  refine hK.out _ _ (HK.out _ hg') (fun hHeld'=>?_)
  clear hK K' hHeld
  have hHeld:=hHeld'
  clear hHeld'
  refine wpAnyH_take (i:=7) (v:=(.int .i64 (ga+gb))) rfl (by kernel_rfl) (by kernel_rfl) (by kernel_rfl) (fun _ _ _ h=>h) (Or.inl ⟨by rfl,?_⟩) hHeld ?_
  ·intro w hSw;(try dsimp only at hSw);simp only [List.getElem_toArray,List.getElem_cons_zero,List.getElem_cons_succ];go_simp
  simp only [List.getElem_toArray,List.getElem_cons_zero,List.getElem_cons_succ,Act.put,List.setIfInBounds_toArray,List.set_cons_zero,List.set_cons_succ]
  by_cases hbig:0<ga+gb
  ·skip
   refine wpAnyH_take (i:=8) (v:=(.bool true)) rfl (by kernel_rfl) (by kernel_rfl) (by kernel_rfl) (fun _ _ _ h=>h) (Or.inl ⟨by rfl,?_⟩) hHeld ?_
   ·intro w hSw;(try dsimp only at hSw);simp only [List.getElem_toArray,List.getElem_cons_zero,List.getElem_cons_succ];go_simp
   simp only [List.getElem_toArray,List.getElem_cons_zero,List.getElem_cons_succ,Act.put,List.setIfInBounds_toArray,List.set_cons_zero,List.set_cons_succ]
   refine wpAnyH_take (i:=9) (v:=(.bool true)) rfl (by kernel_rfl) (by kernel_rfl) (by kernel_rfl) (fun _ _ _ h=>h) (Or.inl ⟨by rfl,?_⟩) hHeld ?_
   ·intro w hSw;(try dsimp only at hSw);simp only [List.getElem_toArray,List.getElem_cons_zero,List.getElem_cons_succ];go_simp
   simp only [List.getElem_toArray,List.getElem_cons_zero,List.getElem_cons_succ,Act.put,List.setIfInBounds_toArray,List.set_cons_zero,List.set_cons_succ]
   refine wpAnyH_take (i:=10) (v:=(.bool true)) rfl (by kernel_rfl) (by kernel_rfl) (by kernel_rfl) (fun _ _ _ h=>h) (Or.inl ⟨by rfl,?_⟩) hHeld ?_
   ·intro w hSw;(try dsimp only at hSw);simp only [List.getElem_toArray,List.getElem_cons_zero,List.getElem_cons_succ];go_simp
   simp only [List.getElem_toArray,List.getElem_cons_zero,List.getElem_cons_succ,Act.put,List.setIfInBounds_toArray,List.set_cons_zero,List.set_cons_succ]
   refine wpAnyH_take (i:=11) (v:=undef) rfl (by kernel_rfl) (by kernel_rfl) (by kernel_rfl) (fun _ _ _ h=>h) (Or.inr ⟨by rfl,rfl⟩) hHeld ?_
   simp only [List.getElem_toArray,List.getElem_cons_zero,List.getElem_cons_succ,Act.put,List.setIfInBounds_toArray,List.set_cons_zero,List.set_cons_succ]
   refine wpAnyH_take (i:=12) (v:=undef) rfl (by kernel_rfl) (by kernel_rfl) (by kernel_rfl) (fun _ _ _ h=>h) (Or.inr ⟨by rfl,rfl⟩) hHeld ?_
   simp only [List.getElem_toArray,List.getElem_cons_zero,List.getElem_cons_succ,Act.put,List.setIfInBounds_toArray,List.set_cons_zero,List.set_cons_succ]
   refine wpAnyH_take (i:=13) (v:=(.bool true)) rfl (by kernel_rfl) (by kernel_rfl) (by kernel_rfl) (fun _ _ _ h=>h) (Or.inl ⟨by rfl,?_⟩) hHeld ?_
   ·intro w hSw;(try dsimp only at hSw);simp only [List.getElem_toArray,List.getElem_cons_zero,List.getElem_cons_succ];go_simp
   simp only [List.getElem_toArray,List.getElem_cons_zero,List.getElem_cons_succ,Act.put,List.setIfInBounds_toArray,List.set_cons_zero,List.set_cons_succ]
   refine wpAnyH_done (by kernel_rfl) ?_ _
   go_wp2_with fail
   go_meet
   case rel=>exact ⟨by rw [decide_eq_true (p:=0<ga+gb) (by omega)];rfl,hg'⟩
  ·skip
   refine wpAnyH_take (i:=8) (v:=(.bool false)) rfl (by kernel_rfl) (by kernel_rfl) (by kernel_rfl) (fun _ _ _ h=>h) (Or.inl ⟨by rfl,?_⟩) hHeld ?_
   ·intro w hSw;(try dsimp only at hSw);simp only [List.getElem_toArray,List.getElem_cons_zero,List.getElem_cons_succ];go_simp
   simp only [List.getElem_toArray,List.getElem_cons_zero,List.getElem_cons_succ,Act.put,List.setIfInBounds_toArray,List.set_cons_zero,List.set_cons_succ]
   refine wpAnyH_take (i:=9) (v:=(.bool false)) rfl (by kernel_rfl) (by kernel_rfl) (by kernel_rfl) (fun _ _ _ h=>h) (Or.inl ⟨by rfl,?_⟩) hHeld ?_
   ·intro w hSw;(try dsimp only at hSw);simp only [List.getElem_toArray,List.getElem_cons_zero,List.getElem_cons_succ];go_simp
   simp only [List.getElem_toArray,List.getElem_cons_zero,List.getElem_cons_succ,Act.put,List.setIfInBounds_toArray,List.set_cons_zero,List.set_cons_succ]
   refine wpAnyH_take (i:=10) (v:=(.bool false)) rfl (by kernel_rfl) (by kernel_rfl) (by kernel_rfl) (fun _ _ _ h=>h) (Or.inl ⟨by rfl,?_⟩) hHeld ?_
   ·intro w hSw;(try dsimp only at hSw);simp only [List.getElem_toArray,List.getElem_cons_zero,List.getElem_cons_succ];go_simp
   simp only [List.getElem_toArray,List.getElem_cons_zero,List.getElem_cons_succ,Act.put,List.setIfInBounds_toArray,List.set_cons_zero,List.set_cons_succ]
   refine wpAnyH_take (i:=11) (v:=(.slice la ln lc)) rfl (by kernel_rfl) (by kernel_rfl) (by kernel_rfl) (fun _ _ _ h=>h) (Or.inl ⟨by rfl,?_⟩) hHeld ?_
   ·intro w hSw;(try dsimp only at hSw);simp only [List.getElem_toArray,List.getElem_cons_zero,List.getElem_cons_succ];go_simp
   simp only [List.getElem_toArray,List.getElem_cons_zero,List.getElem_cons_succ,Act.put,List.setIfInBounds_toArray,List.set_cons_zero,List.set_cons_succ]
   refine wpAnyH_ready (rs:=[12]) (by kernel_rfl) (by simp) ?_
   refine AllReadyH.cons rfl (fun K' hK=>?_) AllReadyH.nil
   simp only [List.getElem_toArray,List.getElem_cons_zero,List.getElem_cons_succ]
   go_simp
   refine Calls.mono (HLC.out _ hg') ?_
   rintro e wx ⟨rfl,hg3⟩
   go_wp2_with fail
   refine hK.out _ _ (HK.out _ hg3) (fun hHeld'=>?_)
   clear hK K' hHeld
   have hHeld:=hHeld'
   clear hHeld'
   refine wpAnyH_take (i:=13) (v:=(.bool LC)) rfl (by kernel_rfl) (by kernel_rfl) (by kernel_rfl) (fun _ _ _ h=>h) (Or.inl ⟨by rfl,?_⟩) hHeld ?_
   ·intro w hSw;(try dsimp only at hSw);simp only [List.getElem_toArray,List.getElem_cons_zero,List.getElem_cons_succ];go_simp
   simp only [List.getElem_toArray,List.getElem_cons_zero,List.getElem_cons_succ,Act.put,List.setIfInBounds_toArray,List.set_cons_zero,List.set_cons_succ]
   refine wpAnyH_done (by kernel_rfl) ?_ _
   go_wp2_with fail
   go_meet
   case rel=>exact ⟨by rw [decide_eq_false (p:=0<ga+gb) (by omega)];cases LC <;> rfl,hg3⟩
 case rest =>
  obtain ⟨rfl,hg⟩:=hcut
  cases hend:(decide (0<ga+gb)||LC) with
  | true =>
   go_wp2_with fail
   go_ret
   exact ⟨rfl,HR.out _ hg⟩
  | false =>
   have hend':¬0<ga+gb/\LC=false:=by
    rw [Bool.or_eq_false_iff,decide_eq_false_iff_not] at hend
    exact hend
   have HX:Hid (∀w',G w'->DtAll k d x ua un uc k2 d2 x2 ub vn vc la ln lc G R w'):=HO.out (by omega) hend'.2
   clear HGS HGT HLC HO hend hend' wk hlo HR hg2 w2
   go_upto_region 4 with fail
   refine wp_region_held_drew (S:=fun w'=>w'.cell? ⟨w.heap.size,0,none⟩=some (.string k)/\w'.cell? ⟨w.heap.size,1,none⟩=some (.string d)/\w'.cell? ⟨w.heap.size,2,none⟩=some (.bool x)/\w'.cell? ⟨w.heap.size,3,none⟩=some (.slice ua un uc)/\w'.cell? ⟨w.heap.size+1,0,none⟩=some (.string k2)/\w'.cell? ⟨w.heap.size+1,1,none⟩=some (.string d2)/\w'.cell? ⟨w.heap.size+1,2,none⟩=some (.bool x2)/\w'.cell? ⟨w.heap.size+1,3,none⟩=some (.slice ub vn vc)) (by kernel_rfl) (HK.out _ (HD.out _ hg)) (fun hHeld=>?_)
   refine wpAnyH_take (i:=0) (v:=.agg #[.string k,.string d,.bool x,.slice ua un uc]) rfl (by kernel_rfl) (by kernel_rfl) (by kernel_rfl) (fun _ _ _ h=>h) (Or.inl ⟨by rfl,?_⟩) hHeld ?_
   ·intro w hSw;(try dsimp only at hSw);simp only [List.getElem_toArray,List.getElem_cons_zero];go_simp
   simp only [List.getElem_toArray,List.getElem_cons_zero,Act.put,List.setIfInBounds_toArray,List.set_cons_zero,List.set_cons_succ]
   refine wpAnyH_take (i:=2) (v:=.agg #[.string k2,.string d2,.bool x2,.slice ub vn vc]) rfl (by kernel_rfl) (by kernel_rfl) (by kernel_rfl) (fun _ _ _ h=>h) (Or.inl ⟨by rfl,?_⟩) hHeld ?_
   ·intro w hSw;(try dsimp only at hSw);simp only [List.getElem_toArray,List.getElem_cons_zero,List.getElem_cons_succ];go_simp
   simp only [List.getElem_toArray,List.getElem_cons_zero,List.getElem_cons_succ,Act.put,List.setIfInBounds_toArray,List.set_cons_zero,List.set_cons_succ]
   refine wpAnyH_ready (rs:=[1]) (by kernel_rfl) (by simp) ?_
   refine AllReadyH.cons rfl (fun K' hK=>?_) AllReadyH.nil
   simp only [List.getElem_toArray,List.getElem_cons_zero,List.getElem_cons_succ]
   go_simp
   refine Calls.mono (HX.out _ (HD.out _ hg)) ?_
   rintro e wx ⟨xa,xc,rfl,hg1,hc1⟩
   go_wp2_with fail
   refine hK.out _ _ (HK.out _ hg1) (fun hHeld'=>?_)
   clear hK K' hHeld
   have hHeld:=hHeld'
   clear hHeld'
   refine wpAnyH_ready (rs:=[3]) (by kernel_rfl) (by simp) ?_
   refine AllReadyH.cons rfl (fun K' hK=>?_) AllReadyH.nil
   simp only [List.getElem_toArray,List.getElem_cons_zero,List.getElem_cons_succ]
   go_simp
   refine Calls.mono (hc1) ?_
   rintro e wx ⟨yb,yc,rfl,hg2',hc2⟩
   go_wp2_with fail
   refine hK.out _ _ (HK.out _ hg2') (fun hHeld'=>?_)
   clear hK K' hHeld
   have hHeld:=hHeld'
   clear hHeld'
   refine wpAnyH_ready (rs:=[4]) (by kernel_rfl) (by simp) ?_
   refine AllReadyH.cons rfl (fun K' hK=>?_) AllReadyH.nil
   simp only [List.getElem_toArray,List.getElem_cons_zero,List.getElem_cons_succ]
   go_simp
   refine Calls.mono (hc2) ?_
   rintro e wx ⟨da,dn,dc,ev,rfl,hg3,hc3⟩
   go_wp2_with fail
   refine hK.out _ _ (HK.out _ hg3) (fun hHeld'=>?_)
   clear hK K' hHeld
   have hHeld:=hHeld'
   clear hHeld'
   refine wpAnyH_take (i:=5) (v:=(.tuple #[.slice da dn dc,ev])) rfl (by kernel_rfl) (by kernel_rfl) (by kernel_rfl) (fun _ _ _ h=>h) (Or.inl ⟨by rfl,?_⟩) hHeld ?_
   ·intro w hSw;(try dsimp only at hSw);simp only [List.getElem_toArray,List.getElem_cons_zero,List.getElem_cons_succ];go_simp
   simp only [List.getElem_toArray,List.getElem_cons_zero,List.getElem_cons_succ,Act.put,List.setIfInBounds_toArray,List.set_cons_zero,List.set_cons_succ]
   refine wpAnyH_take (i:=6) (v:=(.slice da dn dc)) rfl (by kernel_rfl) (by kernel_rfl) (by kernel_rfl) (fun _ _ _ h=>h) (Or.inl ⟨by rfl,?_⟩) hHeld ?_
   ·intro w hSw;(try dsimp only at hSw);simp only [List.getElem_toArray,List.getElem_cons_zero,List.getElem_cons_succ];go_simp
   simp only [List.getElem_toArray,List.getElem_cons_zero,List.getElem_cons_succ,Act.put,List.setIfInBounds_toArray,List.set_cons_zero,List.set_cons_succ]
   refine wpAnyH_take (i:=7) (v:=ev) rfl (by kernel_rfl) (by kernel_rfl) (by kernel_rfl) (fun _ _ _ h=>h) (Or.inl ⟨by rfl,?_⟩) hHeld ?_
   ·intro w hSw;(try dsimp only at hSw);simp only [List.getElem_toArray,List.getElem_cons_zero,List.getElem_cons_succ];go_simp
   simp only [List.getElem_toArray,List.getElem_cons_zero,List.getElem_cons_succ,Act.put,List.setIfInBounds_toArray,List.set_cons_zero,List.set_cons_succ]
   refine wpAnyH_take (i:=8) (v:=(.slice da dn dc)) rfl (by kernel_rfl) (by kernel_rfl) (by kernel_rfl) (fun _ _ _ h=>h) (Or.inl ⟨by rfl,?_⟩) hHeld ?_
   ·intro w hSw;(try dsimp only at hSw);simp only [List.getElem_toArray,List.getElem_cons_zero,List.getElem_cons_succ];go_simp
   simp only [List.getElem_toArray,List.getElem_cons_zero,List.getElem_cons_succ,Act.put,List.setIfInBounds_toArray,List.set_cons_zero,List.set_cons_succ]
   refine wpAnyH_take (i:=9) (v:=ev) rfl (by kernel_rfl) (by kernel_rfl) (by kernel_rfl) (fun _ _ _ h=>h) (Or.inl ⟨by rfl,?_⟩) hHeld ?_
   ·intro w hSw;(try dsimp only at hSw);simp only [List.getElem_toArray,List.getElem_cons_zero,List.getElem_cons_succ];go_simp
   simp only [List.getElem_toArray,List.getElem_cons_zero,List.getElem_cons_succ,Act.put,List.setIfInBounds_toArray,List.set_cons_zero,List.set_cons_succ]
   refine wpAnyH_done (by kernel_rfl) ?_ _
   have HK3:=HK.out _ hg3
   obtain ⟨e0,e1,e2,e3,f0,f1,f2,f3⟩:=HK3
   have HC3:Hid _:=hc3
   clear HX hg hg1 hc1 hg2' hc2 hc3 hg3
   go_wp2_with fail
   refine Calls.mono HC3.out ?_
   clear HC3 e0 e1 e2 e3 f0 f1 f2 f3
   rintro e w4 ⟨fa,fn,fc,er,rfl,hg4,hc4⟩
   obtain ⟨e0,e1,e2,e3,f0,f1,f2,f3⟩:=HK.out _ hg4
   go_wp2_with fail
   refine Calls.mono hc4 ?_
   clear hc4 hg4 e0 e1 e2 e3 f0 f1 f2 f3
   rintro e w5 ⟨rfl,hg5,hc5⟩
   go_wp2_with fail
   refine Calls.mono hc5 ?_
   clear hc5 hg5
   rintro e w6 ⟨rfl,hg6,hc6⟩
   obtain ⟨e0,e1,e2,e3,f0,f1,f2,f3⟩:=HK.out _ hg6
   have HC6:Hid (DtApp k d x ua un uc la ln lc G R w6):=hc6
   clear hc6 hg6
   go_wp2_with fail
   refine Calls.mono HC6.out ?_
   clear HC6 e0 e1 e2 e3 f0 f1 f2 f3
   rintro e w7 ⟨xa',xc',rfl,hg7,hc7⟩
   go_wp2_with fail
   refine Calls.mono hc7 ?_
   clear hc7 hg7
   rintro e w8 ⟨oa,on,oc,rfl,hg8,hc8⟩
   go_wp2_with fail
   refine Calls.mono hc8 ?_
   clear hc8 hg8
   rintro e w9 ⟨k3,d3,x3,a3,n3,c3,ev9,rfl,hc9⟩
   obtain ⟨W9,HW9⟩:∃W9,Hid (W9=w9.alloc (.cells #[.string k3,.string d3,.bool x3,.slice a3 n3 c3] 24)):=⟨_,(rfl:w9.alloc (.cells #[.string k3,.string d3,.bool x3,.slice a3 n3 c3] 24)=_)⟩
   obtain ⟨b3,HB3⟩:∃b3,Hid (b3=w9.heap.size):=⟨_,(rfl:w9.heap.size=_)⟩
   obtain ⟨hg9,hc10⟩:=hc9 W9 b3 HW9.out HB3.out
   have HC10:Hid (DtEnd k d x ua un uc k3 d3 x3 a3 n3 c3 la ln lc ev9 b3 R W9):=hc10
   obtain ⟨e0,e1,e2,e3,f0,f1,f2,f3⟩:=HK.out _ hg9
   clear hc9 hc10 hg9
   go_upto_region 9 with fail
   rw [<-HW9.out,<-HB3.out]
   go_wp2_with fail
   refine Calls.mono HC10.out ?_
   clear HC10 e0 e1 e2 e3 f0 f1 f2 f3
   rintro e w10 ⟨k4,d4,x4,a4,n4,c4,fc10,fp10,rfl,hc11⟩
   obtain ⟨W10,HW10⟩:∃W10,Hid (W10=(w10.alloc (.cells #[.string k4,.string d4,.bool x4,.slice a4 n4 c4] 24)).alloc (.cells #[.int .i64 fc10,.int .i64 fp10] 59)):=⟨_,(rfl:(w10.alloc (.cells #[.string k4,.string d4,.bool x4,.slice a4 n4 c4] 24)).alloc (.cells #[.int .i64 fc10,.int .i64 fp10] 59)=_)⟩
   obtain ⟨b4,HB4⟩:∃b4,Hid (b4=w10.heap.size):=⟨_,(rfl:w10.heap.size=_)⟩
   obtain ⟨b5,HB5⟩:∃b5,Hid (b5=w10.heap.size+1):=⟨_,(rfl:w10.heap.size+1=_)⟩
   obtain ⟨⟨g0,g1⟩,hc12⟩:=hc11 W10 b4 b5 HW10.out HB4.out HB5.out
   have HC12:Hid _:=hc12
   clear hc11 hc12
   go_upto_region 10 with fail
   rw [<-HW10.out,<-HB5.out,<-HB4.out]
   go_wp2_with fail
   refine Calls.mono HC12.out ?_
   clear HC12 g0 g1
   rintro e w11 ⟨rfl,h30,h31,h32,h33,h40,h41,h42,h43,hc13⟩
   have HC13:Hid _:=hc13
   clear hc13
   go_wp2_with fail
   refine Calls.mono HC13.out ?_
   clear HC13 h30 h31 h32 h33 h40 h41 h42 h43
   rintro e w12 ⟨rfl,hr12⟩
   go_wp2_with fail
   go_ret
   exact ⟨rfl,hr12⟩
end Go.Proofs.YtpjjpmikhjlgnaaGreatDoor
namespace Go.Proofs.YtpjjpmikhjlgnaaGreatDoor
open Go.RowKit

theorem treeErr_lt {d e:Nat} {t:Tree} (h:treeErr d t=some e):e<13:=errOf_lt _ 0 h
theorem getR_lt {d er:Nat} {t:Tree} {s:ByteArray} (h:getR d t s = .error er):er<13:=by
 unfold getR at h
 cases ht:treeErr d t with
 | some e=>rw [ht] at h;injection h with h;rw [<-h];exact treeErr_lt ht
 | none =>
  rw [ht] at h
  simp only at h
  split at h
  ·injection h with h;omega
  ·split at h
   ·injection h with h;omega
   ·cases h
theorem putR_lt {d e er:Nat} {t X:Tree} {s:ByteArray} (h:putR d e t s X = .error er):er<13:=by
 unfold putR at h
 cases ht:treeErr d t with
 | some e=>rw [ht] at h;injection h with h;rw [<-h];exact treeErr_lt ht
 | none =>
  rw [ht] at h
  simp only at h
  split at h
  ·injection h with h;omega
  ·split at h
   ·rename_i l _ _
    cases h9:treeErr e (setAt X l t) with
    | some e9=>rw [h9] at h;injection h with h;rw [<-h];exact treeErr_lt h9
    | none=>rw [h9] at h;cases h
   ·injection h with h;omega
theorem dropR_lt {d er:Nat} {t:Tree} {s:ByteArray} (h:dropR d t s = .error er):er<13:=by
 unfold dropR at h
 cases ht:treeErr d t with
 | some e=>rw [ht] at h;injection h with h;rw [<-h];exact treeErr_lt ht
 | none =>
  rw [ht] at h
  simp only at h
  split at h
  ·injection h with h;omega
  ·split at h
   ·injection h with h;omega
   ·split at h
    ·injection h with h;omega
    ·cases h
end Go.Proofs.YtpjjpmikhjlgnaaGreatDoor
namespace Go.Proofs.YtpjjpmikhjlgnaaGreatDoor
set_option maxRecDepth 100000
open Go.RowKit

theorem applyR_lt {dc er:Nat} {t:Tree} {c:Chg} (h:applyR dc t c = .error er):er<13:=by
 unfold applyR at h
 split at h
 ·cases hg:getR 9 t c.path with
  | ok _=>rw [hg] at h;simp only at h;injection h with h;omega
  | error e=>rw [hg] at h;simp only at h;exact putR_lt h
 ·split at h
  ·cases hg:getR 9 t c.path with
   | ok _=>rw [hg] at h;simp only at h;exact putR_lt h
   | error e=>rw [hg] at h;simp only at h;injection h with h;rw [<-h];exact getR_lt hg
  ·split at h
   ·split at h
    ·exact dropR_lt h
    ·injection h with h;omega
   ·injection h with h;omega
theorem appliesR_lt {dc:Nat}:∀ {l:List Chg} {i j er:Nat} {t:Tree},appliesR dc i t l = .error (j,er)->er<13
 | [],_,_,_,_,h=>by simp [appliesR] at h
 | c :: l,i,j,er,t,h=>by
  rw [appliesR] at h
  cases hc:applyR dc t c with
  | error e =>
   rw [hc] at h
   simp only [Except.error.injEq,Prod.mk.injEq] at h
   rw [<-h.2];exact applyR_lt hc
  | ok t' =>
   rw [hc] at h
   exact appliesR_lt h
theorem largeChanges_long (ad:Option Addr) (n c:Nat) (h:20<(n:Int)) (w:World):Calls Tryz.prog 22 #[.slice ad n c] w fun e w'=>e = .returned (.bool true)/\Below w.heap.size w w':=by
 go_enter Tryz.func22,Tryz.ntmps22
 go_wp2_with fail
 go_ret
 exact ⟨rfl,Below.refl _ _⟩
theorem ChgsIn.at {w:World} {d:Nat} {l:List Chg} {v:Value} (h:ChgsIn w d l v) (hl:l.length<=1000000):ChgsAt w w.heap.size d l v:=by
 obtain ⟨ad,cap,e,_,hc⟩:=h
 exact ⟨ad,cap,e,hl,hc⟩
theorem chgs_none (w:World) (B d:Nat):ChgsAt w B d [] (.slice none 0 0):=⟨none,0,rfl,by simp,fun i c h=>by simp at h⟩
theorem ChgsAt.form {w:World} {B d:Nat} {l:List Chg} {v:Value} (h:ChgsAt w B d l v):∃ad c,v = .slice ad l.length c:=by
 obtain ⟨ad,cap,e,_⟩:=h
 exact ⟨ad,cap,e⟩
def Codes (ev:Value) (c p:Int) (w:World):Prop:=∀w',Below w.heap.size w w'->Calls Tryz.prog 36 #[ev] w' fun e w''=>e = .returned (.tuple #[.int .i64 c,.int .i64 p])/\Below w'.heap.size w' w''
theorem codes_nil (w:World):Codes .nilIface 0 (-1) w:=fun w' _=>(code_nil w').mono fun e w'' ⟨he,hw⟩=>⟨he,by rw [hw];exact Below.refl _ _⟩
theorem codes_sent {a:Nat->Addr} {er:Nat} {w:World} (S:Sents a w) (h:er<13):Codes (.iface 181 (.pointer (some (a er)))) ((er:Int)+1) (-1) w:=fun w' hb=>by
 have S':=S.below hb
 have:=code_plain a (a er) er w' S' (by omega) (fun k hk=>S'.ne er k h (by omega) (by omega)) (fun _=>rfl) (S'.row er h)
 rw [if_pos h] at this
 exact this
theorem codes_fault {a:Nat->Addr} {er fb:Nat} {i:Int} {w:World} (S:Sents a w) (h:er<13) (hf:w.heap[fb]? = some (.cells #[.int .i64 i,.iface 181 (.pointer (some (a er)))] 103 (0,0))):Codes (.iface 101 (.pointer (some ⟨fb,0,none⟩))) ((er:Int)+1) i w:=fun w' hb=>by
 have hf':=(hb.block fb (lt_of_row hf)).trans hf
 exact code_fault a fb 0 i er w' (S.below hb) h (by rw [cell_of_row _ _ _ _ _ _ hf'];rfl) (by rw [cell_of_row _ _ _ _ _ _ hf'];rfl)
theorem all_one {a:Nat->Addr} {d dc:Nat} {t:Tree} {l:List Chg} {w w':World} {e:Ending} (h:AllPost a d dc t l w e w') (S:Sents a w'):∃(K:Tree) (ka:Option Addr) (kc:Nat) (ev:Value) (c p:Int),e = .returned (.tuple #[.agg #[.string K.kind,.string K.data,.bool K.exec,.slice ka K.kids.length kc],ev])/\Below w.heap.size w w'/\Lies w' w'.heap.size 9 K.kids (.slice ka K.kids.length kc)/\Codes ev c p w' /\
  ((∃er:Nat,treeErr d t=some er/\K=zeroT/\c=(er:Int)+1/\p = -1)∨(treeErr d t=none/\∃i er:Nat,appliesR dc 0 t l = .error (i,er)/\K=zeroT/\c=(er:Int)+1/\p=(i:Int))∨(treeErr d t=none/\appliesR dc 0 t l = .ok K/\c=0/\p = -1)):=by
 obtain ⟨hb,h|h|h⟩:=h
 ·obtain ⟨er,h1,rfl⟩:=h
  exact ⟨zeroT,none,0,_,_,_,rfl,hb,lies_none _ _ _,codes_sent S (treeErr_lt h1),.inl ⟨er,h1,rfl,rfl,rfl⟩⟩
 ·obtain ⟨h0,i,er,fb,h1,rfl,hf⟩:=h
  exact ⟨zeroT,none,0,_,_,_,rfl,hb,lies_none _ _ _,codes_fault S (appliesR_lt h1) hf,.inr (.inl ⟨h0,i,er,h1,rfl,rfl,rfl⟩)⟩
 ·obtain ⟨h0,Y,u,h1,_,rfl,hl⟩:=h
  obtain ⟨ka,kc,rfl⟩:=hl.form
  exact ⟨Y,ka,kc,_,_,_,rfl,hb,hl,codes_nil _,.inr (.inr ⟨h0,h1,rfl,rfl⟩)⟩
theorem ao_one {d dc:Nat} {t:Tree} {l:List Chg} {w w':World} {e:Ending} (h:AoPost d dc t l w e w'):∃(K:Tree) (ka:Option Addr) (kc:Nat) (c p:Int),e = .returned (.tuple #[.agg #[.string K.kind,.string K.data,.bool K.exec,.slice ka K.kids.length kc],.agg #[.int .i64 c,.int .i64 p]])/\Below w.heap.size w w'/\Lies w' w'.heap.size 9 K.kids (.slice ka K.kids.length kc) /\
  ((∃er:Nat,treeErr d t=some er/\K=zeroT/\c=(er:Int)+1/\p = -1)∨(treeErr d t=none/\∃i er:Nat,appliesR dc 0 t l = .error (i,er)/\K=zeroT/\c=(er:Int)+1/\p=(i:Int))∨(treeErr d t=none/\appliesR dc 0 t l = .ok K/\c=0/\p = -1)):=by
 obtain ⟨hb,h|h|h⟩:=h
 ·obtain ⟨er,h1,rfl⟩:=h
  exact ⟨zeroT,none,0,_,_,rfl,hb,lies_none _ _ _,.inl ⟨er,h1,rfl,rfl,rfl⟩⟩
 ·obtain ⟨h0,i,er,h1,rfl⟩:=h
  exact ⟨zeroT,none,0,_,_,rfl,hb,lies_none _ _ _,.inr (.inl ⟨h0,i,er,h1,rfl,rfl,rfl⟩)⟩
 ·obtain ⟨h0,Y,u,h1,rfl,hl⟩:=h
  obtain ⟨ka,kc,rfl⟩:=hl.form
  exact ⟨Y,ka,kc,_,_,rfl,hb,hl,.inr (.inr ⟨h0,h1,rfl,rfl⟩)⟩
theorem one_same {d dc:Nat} {t:Tree} {l:List Chg} {K K':Tree} {c p c' p':Int}
  (h:(∃er:Nat,treeErr d t=some er/\K=zeroT/\c=(er:Int)+1/\p = -1)∨(treeErr d t=none/\∃i er:Nat,appliesR dc 0 t l = .error (i,er)/\K=zeroT/\c=(er:Int)+1/\p=(i:Int))∨(treeErr d t=none/\appliesR dc 0 t l = .ok K/\c=0/\p = -1))
  (h':(∃er:Nat,treeErr d t=some er/\K'=zeroT/\c'=(er:Int)+1/\p' = -1)∨(treeErr d t=none/\∃i er:Nat,appliesR dc 0 t l = .error (i,er)/\K'=zeroT/\c'=(er:Int)+1/\p'=(i:Int))∨(treeErr d t=none/\appliesR dc 0 t l = .ok K'/\c'=0/\p' = -1)):K=K'/\c=c'/\p=p':=by
 rcases h with ⟨er,h1,rfl,rfl,rfl⟩|⟨h0,i,er,h1,rfl,rfl,rfl⟩|⟨h0,h1,rfl,rfl⟩ <;> rcases h' with ⟨er',k1,rfl,rfl,rfl⟩|⟨k0,i',er',k1,rfl,rfl,rfl⟩|⟨k0,k1,rfl,rfl⟩
 ·rw [h1] at k1;injection k1 with k1;subst k1;exact ⟨rfl,rfl,rfl⟩
 ·rw [h1] at k0;cases k0
 ·rw [h1] at k0;cases k0
 ·rw [k1] at h0;cases h0
 ·rw [h1] at k1;injection k1 with k1;injection k1 with k1 k2;subst k1;subst k2;exact ⟨rfl,rfl,rfl⟩
 ·rw [h1] at k1;cases k1
 ·rw [k1] at h0;cases h0
 ·rw [h1] at k1;cases k1
 ·rw [h1] at k1;injection k1 with k1;subst k1;exact ⟨rfl,rfl,rfl⟩
theorem box_row {w w':World} {N:Array Value} {x0 x1 x2 x3:Value} (hN:N = #[x0,x1,x2,x3]) (h:Below (w.alloc (.cells N 24)).heap.size (w.alloc (.cells N 24)) w'):w'.cell? ⟨w.heap.size,0,none⟩=some x0/\w'.cell? ⟨w.heap.size,1,none⟩=some x1/\w'.cell? ⟨w.heap.size,2,none⟩=some x2/\w'.cell? ⟨w.heap.size,3,none⟩=some x3:=by
 subst hN
 exact (row4b ((h.block w.heap.size (by simp)).trans (row_alloc' w _ _))).1

theorem dt_end (d dl:Nat) (s:Tree) (l:List Chg) (sa la:Option Addr) (sc lc:Nat) (W0 w9:World) (K:Tree) (ka:Option Addr) (kc:Nat) (ev:Value) (c p:Int) (R:World->Prop) (hR:∀w',Below W0.heap.size W0 w'->R w')
  (h9:Below W0.heap.size W0 w9) (lA:Lies W0 W0.heap.size d s.kids (.slice sa s.kids.length sc)) (okS:OkT 12 s) (hch:∀w',Below W0.heap.size W0 w'->ChgsAt w' W0.heap.size dl l (.slice la l.length lc)) (hok:∀c∈l,OkT 12 c.node/\c.path.size<=1000000)
  (lK:Lies w9 w9.heap.size 9 K.kids (.slice ka K.kids.length kc)) (hcd:Codes ev c p w9)
  (hres:(∃er:Nat,treeErr d s=some er/\K=zeroT/\c=(er:Int)+1/\p = -1)∨(treeErr d s=none/\∃i er:Nat,appliesR dl 0 s l = .error (i,er)/\K=zeroT/\c=(er:Int)+1/\p=(i:Int))∨(treeErr d s=none/\appliesR dl 0 s l = .ok K/\c=0/\p = -1)) :
  DtEnd s.kind s.data s.exec sa s.kids.length sc K.kind K.data K.exec ka K.kids.length kc la l.length lc ev w9.heap.size R (w9.alloc (.cells #[.string K.kind,.string K.data,.bool K.exec,.slice ka K.kids.length kc] 24)):=by
 have go:∀ {w' w''},Below W0.heap.size W0 w'->Below w'.heap.size w' w''->Below W0.heap.size W0 w'':=fun h h2=>h.trans (h2.mono h.size)
 have g9:Below w9.heap.size w9 (w9.alloc (.cells #[.string K.kind,.string K.data,.bool K.exec,.slice ka K.kids.length kc] 24)):=(Below.refl _ _).alloc (Nat.le_refl _) _
 have hB9:=go h9 g9
 have hbox:∀w',Below (w9.alloc (.cells #[.string K.kind,.string K.data,.bool K.exec,.slice ka K.kids.length kc] 24)).heap.size (w9.alloc (.cells #[.string K.kind,.string K.data,.bool K.exec,.slice ka K.kids.length kc] 24)) w'->_:=fun w' h=>box_row (N:=#[.string K.kind,.string K.data,.bool K.exec,.slice ka K.kids.length kc]) rfl h
 generalize w9.alloc (.cells #[.string K.kind,.string K.data,.bool K.exec,.slice ka K.kids.length kc] 24)=W9 at *
 refine (applyOf_any (M:=2001) W0.heap.size d 12 dl s l _ _ W9 hB9.size (lA.below hB9 (Nat.le_refl _)) okS.dats (by omega) (hch _ hB9) hok).mono ?_
 intro e w10 hao
 obtain ⟨K4,ka4,kc4,c4,p4,rfl,hb10,lK4,hres4⟩:=ao_one hao
 obtain ⟨rfl,rfl,rfl⟩:=one_same hres hres4
 refine ⟨_,_,_,_,_,_,c,p,rfl,?_⟩
 intro w2 b4 b5 e2 e4 e5
 have hba:Below w10.heap.size w10 (w10.alloc (.cells #[.string K.kind,.string K.data,.bool K.exec,.slice ka4 K.kids.length kc4] 24)):=(Below.refl _ _).alloc (Nat.le_refl _) _
 have hbb:Below (w10.alloc (.cells #[.string K.kind,.string K.data,.bool K.exec,.slice ka4 K.kids.length kc4] 24)).heap.size (w10.alloc (.cells #[.string K.kind,.string K.data,.bool K.exec,.slice ka4 K.kids.length kc4] 24)) w2:=by rw [e2];exact (Below.refl _ _).alloc (Nat.le_refl _) _
 have hb2:Below w10.heap.size w10 w2:=hba.trans (hbb.mono hba.size)
 have h9x:Below w9.heap.size w9 w2:=g9.trans ((hb10.trans (hb2.mono hb10.size)).mono g9.size)
 have hr5:w2.heap[b5]? = some (.cells #[.int .i64 c,.int .i64 p] 59 (0,0)):=by
  rw [e2,e5]
  have:=row_alloc' (w10.alloc (.cells #[.string K.kind,.string K.data,.bool K.exec,.slice ka4 K.kids.length kc4] 24)) #[.int .i64 c,.int .i64 p] 59
  rw [World.size_alloc] at this
  exact this
 refine ⟨(row2 hr5).1,?_⟩
 refine (faulted_any ev c p w2 (fun w' h=>hcd w' (h9x.trans (h.mono h9x.size)))).mono ?_
 rintro e w3 ⟨rfl,hb3⟩
 have h3:=hbox w3 (hb10.trans ((hb2.trans (hb3.mono hb2.size)).mono hb10.size))
 have h4:=box_row (w':=w3) (N:=#[.string K.kind,.string K.data,.bool K.exec,.slice ka4 K.kids.length kc4]) rfl (hbb.trans (hb3.mono hbb.size))
 rw [<-e4] at h4
 refine ⟨rfl,h3.1,h3.2.1,h3.2.2.1,h3.2.2.2,h4.1,h4.2.1,h4.2.2.1,h4.2.2.2,?_⟩
 have l3:Lies w3 w3.heap.size 9 K.kids (.slice ka K.kids.length kc):=by
  have h:=h9x.trans (hb3.mono h9x.size)
  exact (lK.below h (Nat.le_refl _)).up h.size (Nat.le_refl _)
 have l4:Lies w3 w3.heap.size 9 K.kids (.slice ka4 K.kids.length kc4):=by
  have h:=hb2.trans (hb3.mono hb2.size)
  exact (lK4.below h (Nat.le_refl _)).up h.size (Nat.le_refl _)
 refine (sameTree_any w3.heap.size 9 K K _ _ w3 (Nat.le_refl _) l3 l4).mono ?_
 rintro e w4 ⟨rfl,hb4⟩
 exact ⟨by rw [sameB_refl l3.fit],hR _ (go (go (go (go hB9 hb10) hb2) hb3) hb4)⟩
theorem diffTells_any (a:Nat->Addr) (d dl:Nat) (s t:Tree) (us ut v:Value) (l:List Chg) (w:World) (S0:Sents a w) (hm0:DSen a w) (hls:Lies w w.heap.size d s.kids us) (hlt:Lies w w.heap.size d t.kids ut) (hll:ChgsIn w dl l v) :
  Calls Tryz.prog 4 #[.agg #[.string s.kind,.string s.data,.bool s.exec,us],.agg #[.string t.kind,.string t.data,.bool t.exec,ut],v] w fun e w'=>e = .returned (.bool true)/\Below w.heap.size w w':=by
 obtain ⟨sa,sc,rfl⟩:=hls.form
 obtain ⟨ta,tc,rfl⟩:=hlt.form
 have hll0:=hll
 obtain ⟨la,lc,rfl,hsz,_⟩:=hll
 have gW:Below w.heap.size w ((w.alloc (.cells #[.string s.kind,.string s.data,.bool s.exec,.slice sa s.kids.length sc] 24)).alloc (.cells #[.string t.kind,.string t.data,.bool t.exec,.slice ta t.kids.length tc] 24)):=((Below.refl _ _).alloc (Nat.le_refl _) _).alloc (by simp) _
 have hx:=row4b (show ((w.alloc (.cells #[.string s.kind,.string s.data,.bool s.exec,.slice sa s.kids.length sc] 24)).alloc (.cells #[.string t.kind,.string t.data,.bool t.exec,.slice ta t.kids.length tc] 24)).heap[w.heap.size]? = _ by rw [Below.heap_alloc _ _ _ (by simp)];exact row_alloc' _ _ _)
 have hy:=row4b (show ((w.alloc (.cells #[.string s.kind,.string s.data,.bool s.exec,.slice sa s.kids.length sc] 24)).alloc (.cells #[.string t.kind,.string t.data,.bool t.exec,.slice ta t.kids.length tc] 24)).heap[w.heap.size+1]? = some (.cells #[.string t.kind,.string t.data,.bool t.exec,.slice ta t.kids.length tc] 24 (0,0)) by
  have:=row_alloc' (w.alloc (.cells #[.string s.kind,.string s.data,.bool s.exec,.slice sa s.kids.length sc] 24)) #[.string t.kind,.string t.data,.bool t.exec,.slice ta t.kids.length tc] 24
  simpa using this)
 have z1:((w.alloc (.cells #[.string s.kind,.string s.data,.bool s.exec,.slice sa s.kids.length sc] 24)).alloc (.cells #[.string t.kind,.string t.data,.bool t.exec,.slice ta t.kids.length tc] 24)).heap.size=w.heap.size+2:=by simp
 obtain ⟨W0,hW0⟩:∃W0,W0=(w.alloc (.cells #[.string s.kind,.string s.data,.bool s.exec,.slice sa s.kids.length sc] 24)).alloc (.cells #[.string t.kind,.string t.data,.bool t.exec,.slice ta t.kids.length tc] 24):=⟨_,rfl⟩
 rw [<-hW0] at hx hy gW z1
 have S:=S0.below gW
 have D:=hm0.below gW
 have lA:=(hls.below gW (Nat.le_refl _)).up gW.size (Nat.le_refl _)
 have lB:=(hlt.below gW (Nat.le_refl _)).up gW.size (Nat.le_refl _)
 have hR:∀w',Below W0.heap.size W0 w'->Below w.heap.size w w':=fun w' h=>gW.trans (h.mono gW.size)
 have go:∀ {w' w''},Below W0.heap.size W0 w'->Below w'.heap.size w' w''->Below W0.heap.size W0 w'':=fun h h2=>h.trans (h2.mono h.size)
 have b1:=largeN_bounds 60 s
 have b2:=largeN_bounds 60 t
 have hchs:l.length<=1000000->∀w',Below W0.heap.size W0 w'->ChgsAt w' W0.heap.size dl l (.slice la l.length lc):=fun hl w' h=>(((hll0.at hl).below gW (Nat.le_refl _)).up gW.size).below h (Nat.le_refl _)
 refine dt_skel s.kind s.data s.exec sa s.kids.length sc t.kind t.data t.exec ta t.kids.length tc la l.length lc w (largeN 60 s) (largeN 60 t) (by omega) (by omega) (largeC l) (fun w'=>Below w.heap.size w w') (fun w'=>Below W0.heap.size W0 w') hR ?_ (fun w' h=>h.drew) ?_ ?_ ?_ ?_ ?_
 ·rw [<-hW0];exact differed_any a W0 D.is
 ·intro w' h
  have h1:=box_keeps h (by omega) hx.1
  have h2:=box_keeps h (by omega) hy.1
  exact ⟨h1.1,h1.2.1,h1.2.2.1,h1.2.2.2,h2⟩
 ·exact fun w' h=>(large_any W0.heap.size d 60 s _ w' h.size (lA.below h (Nat.le_refl _)) (by omega)).mono fun e w'' ⟨h1,h2⟩=>⟨h1,go h h2⟩
 ·exact fun w' h=>(large_any W0.heap.size d 60 t _ w' h.size (lB.below h (Nat.le_refl _)) (by omega)).mono fun e w'' ⟨h1,h2⟩=>⟨h1,go h h2⟩
 ·intro w' h
  by_cases hl20:20<(l.length:Int)
  ·have e:largeC l=true:=by unfold largeC;rw [decide_eq_true (p:=20<l.length) (by omega),Bool.true_or]
   rw [e]
   exact (largeChanges_long la l.length lc hl20 w').mono fun e w'' ⟨h1,h2⟩=>⟨h1,go h h2⟩
  ·exact (largeChanges_any W0.heap.size dl l _ w' h.size (hchs (by omega) w' h) hsz).mono fun e w'' ⟨h1,h2⟩=>⟨h1,go h h2⟩
 ·intro h0 hLC w' h
  have smS:=largeN_zero (n:=60) (t:=s) (by omega)
  have smT:=largeN_zero (n:=60) (t:=t) (by omega)
  have okS:OkT 12 s:=OkT.small lA.fit smS
  have okT':OkT 12 t:=OkT.small lB.fit smT
  unfold largeC at hLC
  rw [Bool.or_eq_false_iff] at hLC
  obtain ⟨hl20,hany⟩:=hLC
  have hl20':l.length<=20:=by have:=of_decide_eq_false hl20;omega
  have hch:=hchs (by omega)
  have hok:∀c∈l,OkT 12 c.node/\c.path.size<=150:=fun c hc=>by
   have h1:=List.any_eq_false.1 hany c hc
   unfold largeC1 at h1
   simp only [Bool.not_eq_true,Bool.or_eq_false_iff] at h1
   obtain ⟨⟨_,h3⟩,h4⟩:=h1
   obtain ⟨i,hi⟩:=List.getElem?_of_mem hc
   obtain ⟨_,_,_,_,hcc⟩:=hch W0 (Below.refl _ _)
   obtain ⟨_,_,_,_,_,_,_,_,_,_,_,hlc⟩:=hcc i c hi
   exact ⟨OkT.small hlc.fit h4,by have:=of_decide_eq_false h3;omega⟩
  have happ:∀w6,Below W0.heap.size W0 w6->DtApp s.kind s.data s.exec sa s.kids.length sc la l.length lc (fun w'=>Below W0.heap.size W0 w') (fun w'=>Below w.heap.size w w') w6:=fun w6 h6=>by
   refine (own_any W0.heap.size d s _ w6 h6.size (lA.below h6 (Nat.le_refl _))).mono ?_
   rintro e w7 ⟨u7,rfl,hq7,hb7⟩
   obtain ⟨xa,xc,rfl⟩:=hq7.form
   have h7:=go h6 hb7
   refine ⟨xa,xc,rfl,h7,?_⟩
   refine (ownChanges_any W0.heap.size dl l _ w7 h7.size (hch w7 h7)).mono ?_
   rintro e w8 ⟨v8,rfl,hc8,hb8⟩
   obtain ⟨oa,oc,rfl⟩:=hc8.form
   have h8:=go h7 hb8
   refine ⟨oa,_,oc,rfl,h8,?_⟩
   have lX:Lies w8 w8.heap.size d s.kids (.slice xa s.kids.length xc):=((hq7.lies fun k hk=>hk.2).below hb8 (Nat.le_refl _)).up hb8.size (Nat.le_refl _)
   refine (all_any a d dl w8.heap.size s l _ _ w8 (D.below h8) (Nat.le_refl _) lX (okS.alive (by omega)) hc8 (fun c hc=>⟨(hok c hc).1,by have:=(hok c hc).2;omega⟩)).mono ?_
   intro e w9 hap
   obtain ⟨K,ka,kc,ev,c,p,rfl,hb9,lK,hcd,hres⟩:=all_one hap (S.below (go h8 hap.1))
   have h9:=go h8 hb9
   refine ⟨_,_,_,_,_,_,ev,rfl,?_⟩
   intro w4 b3 e4 e3
   subst e4;subst e3
   exact ⟨go h9 ((Below.refl _ _).alloc (Nat.le_refl _) _),dt_end d dl s l sa la sc lc W0 w9 K ka kc ev c p _ hR h9 lA okS hch (fun c hc=>⟨(hok c hc).1,by have:=(hok c hc).2;omega⟩) lK hcd hres⟩
  refine (own_own W0.heap.size d s _ w' h.size (lA.below h (Nat.le_refl _))).mono ?_
  rintro e w1 ⟨u1,rfl,ho1,hb1⟩
  obtain ⟨xa,xc,rfl⟩:=ho1.form
  have hB1:=go h hb1
  refine ⟨xa,xc,rfl,hB1,?_⟩
  refine (own_own W0.heap.size d t _ w1 hB1.size (lB.below hB1 (Nat.le_refl _))).mono ?_
  rintro e w2 ⟨u2,rfl,ho2,hb2⟩
  obtain ⟨yb,yc,rfl⟩:=ho2.form
  have hB2:=go hB1 hb2
  refine ⟨yb,yc,rfl,hB2,?_⟩
  have cX:LiesC w2 w2.heap.size d s.kids (.slice xa s.kids.length xc):=((ho1.liesC fun q hq=>hq.2).below hb2 (Nat.le_refl _)).up hb2.size
  have cY:LiesC w2 w2.heap.size d t.kids (.slice yb t.kids.length yc):=ho2.liesC fun q hq=>hq.2
  refine (diff_any a d w2.heap.size s t _ _ w2 (D.below hB2).is (Nat.le_refl _) cX cY (okS.alive (by omega)) (okT'.alive (by omega))).mono ?_
  intro e w3 hdp
  have hB3:=go hB2 hdp.1
  have hdo:=docDiff_any (M:=2001) W0.heap.size d 12 12 s t _ _ w3 hB3.size (lA.below hB3 (Nat.le_refl _)) (lB.below hB3 (Nat.le_refl _)) okS.dats okT'.dats (by omega)
  rcases hdp.2 with ⟨er,hcase,rfl⟩|⟨es,et,v3,rfl,hch3⟩
  ·refine ⟨none,0,0,_,rfl,hB3,hdo.mono ?_⟩
   intro e w4 hop
   have hB4:=go hB3 hop.1
   rcases hop.2 with ⟨er',hcase',rfl⟩|⟨es',et',_⟩
   ·have hee:er=er':=by
     rcases hcase with k1|⟨k1,k2⟩ <;> rcases hcase' with k3|⟨k3,k4⟩
     ·rw [k1] at k3;injection k3
     ·rw [k1] at k3;cases k3
     ·rw [k1] at k3;cases k3
     ·rw [k2] at k4;injection k4
    subst hee
    have her:er<13:=by
     rcases hcase with k1|⟨_,k1⟩ <;> exact treeErr_lt k1
    refine ⟨none,0,0,_,rfl,hB4,(coded_sent a er _ w4 (S.below hB4) her).mono ?_⟩
    rintro e w5 ⟨rfl,hb5⟩
    have hB5:=go hB4 hb5
    refine ⟨by rw [decide_eq_true rfl],hB5,(sameChanges_any w5.heap.size 9 [] _ _ w5 (Nat.le_refl _) (chgs_none _ _ _) (chgs_none _ _ _)).mono ?_⟩
    rintro e w6 ⟨rfl,hb6⟩
    exact ⟨rfl,go hB5 hb6,happ _ (go hB5 hb6)⟩
   ·rcases hcase with k1|⟨k1,k2⟩
    ·rw [es'] at k1;cases k1
    ·rw [et'] at k2;cases k2
  ·obtain ⟨da,dc,rfl⟩:=hch3.form
   refine ⟨da,_,dc,_,rfl,hB3,hdo.mono ?_⟩
   intro e w4 hop
   have hB4:=go hB3 hop.1
   rcases hop.2 with ⟨er',hcase',_⟩|⟨_,_,v4,rfl,hch4⟩
   ·rcases hcase' with k1|⟨_,k2⟩
    ·rw [es] at k1;cases k1
    ·rw [et] at k2;cases k2
   ·obtain ⟨fa,fc,rfl⟩:=hch4.form
    refine ⟨fa,_,fc,_,rfl,hB4,(coded_nil 0 w4).mono ?_⟩
    rintro e w5 ⟨rfl,hw5⟩
    subst hw5
    have hc3:=(hch3.below hop.1 (Nat.le_refl _)).up hop.1.size
    refine ⟨rfl,hB4,(sameChanges_any _ 9 _ _ _ _ (Nat.le_refl _) hc3 hch4).mono ?_⟩
    rintro e w6 ⟨rfl,hb6⟩
    exact ⟨rfl,go hB4 hb6,happ _ (go hB4 hb6)⟩
end Go.Proofs.YtpjjpmikhjlgnaaGreatDoor
