/-
  The walk of the law 'DiffTells', told apart from what its callees do.
  The document's way to a tree with a node put or taken out, as a function, and that it is setAt or dropAt on a well tree; the state of its loop.
  Conditions: those that each states.
-/
import Derived.Test.YtpjjpmikhjlgnaaGreatDoorD10
import Derived.Deep.RegionHeld3
import Derived.Deep.DrawnRows
import Derived.Deep.DeepCutAuto
import Derived.Deep.DeepFit
import Derived.Test.YtpjjpmikhjlgnaaGreatDoorD11
import Derived.Test.YtpjjpmikhjlgnaaGreatDoorD15
import Derived.Test.YtpjjpmikhjlgnaaGreatDoorD14
import Derived.Test.YtpjjpmikhjlgnaaGreatDoorD04
namespace Go.Proofs.YtpjjpmikhjlgnaaGreatDoor
set_option maxHeartbeats 1500000
set_option maxRecDepth 100000
open Go.RowKit
attribute [local go_sem ↓] Go.wp_at_zero Go.wp_at_succ

def DtEnd (k d:ByteArray) (x:Bool) (ua:Option Addr) (un uc:Nat) (k3 d3:ByteArray) (x3:Bool) (a3:Option Addr) (n3 c3:Nat) (la:Option Addr) (ln lc:Nat) (ev:Value) (b3:Nat) (R:World->Prop) (w:World):Prop :=
 Calls Tryz.prog 28 #[.agg #[.string k,.string d,.bool x,.slice ua un uc],.slice la ln lc] w fun e w1=>∃k4 d4 x4 a4 n4 c4 fc fp,e = .returned (.tuple #[.agg #[.string k4,.string d4,.bool x4,.slice a4 n4 c4],.agg #[.int .i64 fc,.int .i64 fp]])/\∀w2 b4 b5,w2=(w1.alloc (.cells #[.string k4,.string d4,.bool x4,.slice a4 n4 c4] 24)).alloc (.cells #[.int .i64 fc,.int .i64 fp] 59)->b4=w1.heap.size->b5=w1.heap.size+1 ->
  (w2.cell? ⟨b5,0,none⟩=some (.int .i64 fc)/\w2.cell? ⟨b5,1,none⟩=some (.int .i64 fp)) /\
  Calls Tryz.prog 29 #[ev,.agg #[.int .i64 fc,.int .i64 fp]] w2 fun e w3=>e = .returned (.bool true)/\w3.cell? ⟨b3,0,none⟩=some (.string k3)/\w3.cell? ⟨b3,1,none⟩=some (.string d3)/\w3.cell? ⟨b3,2,none⟩=some (.bool x3)/\w3.cell? ⟨b3,3,none⟩=some (.slice a3 n3 c3)/\w3.cell? ⟨b4,0,none⟩=some (.string k4)/\w3.cell? ⟨b4,1,none⟩=some (.string d4)/\w3.cell? ⟨b4,2,none⟩=some (.bool x4)/\w3.cell? ⟨b4,3,none⟩=some (.slice a4 n4 c4) /\
   Calls Tryz.prog 14 #[.agg #[.string k3,.string d3,.bool x3,.slice a3 n3 c3],.agg #[.string k4,.string d4,.bool x4,.slice a4 n4 c4]] w3 fun e w4=>e = .returned (.bool true)/\R w4
def DtApp (k d:ByteArray) (x:Bool) (ua:Option Addr) (un uc:Nat) (la:Option Addr) (ln lc:Nat) (G R:World->Prop) (w:World):Prop :=
 Calls Tryz.prog 7 #[.agg #[.string k,.string d,.bool x,.slice ua un uc]] w fun e w1=>∃xa xc,e = .returned (.agg #[.string k,.string d,.bool x,.slice xa un xc])/\G w1 /\
  Calls Tryz.prog 27 #[.slice la ln lc] w1 fun e w2=>∃oa on oc,e = .returned (.slice oa on oc)/\G w2 /\
   Calls Tryz.prog 26 #[.agg #[.string k,.string d,.bool x,.slice xa un xc],.slice oa on oc] w2 fun e w3=>∃k3 d3 x3 a3 n3 c3 ev,e = .returned (.tuple #[.agg #[.string k3,.string d3,.bool x3,.slice a3 n3 c3],ev])/\∀w4 b3,w4=w3.alloc (.cells #[.string k3,.string d3,.bool x3,.slice a3 n3 c3] 24)->b3=w3.heap.size->G w4/\DtEnd k d x ua un uc k3 d3 x3 a3 n3 c3 la ln lc ev b3 R w4
def DtAll (k d:ByteArray) (x:Bool) (ua:Option Addr) (un uc:Nat) (k2 d2:ByteArray) (x2:Bool) (ub:Option Addr) (vn vc:Nat) (la:Option Addr) (ln lc:Nat) (G R:World->Prop) (w:World):Prop :=
 Calls Tryz.prog 7 #[.agg #[.string k,.string d,.bool x,.slice ua un uc]] w fun e w1=>∃xa xc,e = .returned (.agg #[.string k,.string d,.bool x,.slice xa un xc])/\G w1 /\
  Calls Tryz.prog 7 #[.agg #[.string k2,.string d2,.bool x2,.slice ub vn vc]] w1 fun e w2=>∃yb yc,e = .returned (.agg #[.string k2,.string d2,.bool x2,.slice yb vn yc])/\G w2 /\
   Calls Tryz.prog 23 #[.agg #[.string k,.string d,.bool x,.slice xa un xc],.agg #[.string k2,.string d2,.bool x2,.slice yb vn yc]] w2 fun e w3=>∃da dn dc ev,e = .returned (.tuple #[.slice da dn dc,ev])/\G w3 /\
    Calls Tryz.prog 24 #[.agg #[.string k,.string d,.bool x,.slice ua un uc],.agg #[.string k2,.string d2,.bool x2,.slice ub vn vc]] w3 fun e w4=>∃fa fn fc er,e = .returned (.tuple #[.slice fa fn fc,.int .i64 er])/\G w4 /\
     Calls Tryz.prog 10 #[ev,.int .i64 er] w4 fun e w5=>e = .returned (.bool true)/\G w5 /\
      Calls Tryz.prog 25 #[.slice da dn dc,.slice fa fn fc] w5 fun e w6=>e = .returned (.bool true)/\G w6/\DtApp k d x ua un uc la ln lc G R w6

theorem dt_skel (k d:ByteArray) (x:Bool) (ua:Option Addr) (un uc:Nat) (k2 d2:ByteArray) (x2:Bool) (ub:Option Addr) (vn vc:Nat) (la:Option Addr) (ln lc:Nat) (w:World) (ga gb:Int) (hga:ga=0∨ga=1) (hgb:gb=0∨gb=1) (LC:Bool)
  (R G:World->Prop) (HR:Hid (∀w',G w'->R w'))
  (HT:Hid (Calls Tryz.prog 21 #[] ((w.alloc (.cells #[.string k,.string d,.bool x,.slice ua un uc] 24)).alloc (.cells #[.string k2,.string d2,.bool x2,.slice ub vn vc] 24)) fun e w'=>e = .returned (.bool true)/\G w'))
  (HD:Hid (∀w',G w'->G w'.drew))
  (HK:Hid (∀w',G w'->w'.cell? ⟨w.heap.size,0,none⟩=some (.string k)/\w'.cell? ⟨w.heap.size,1,none⟩=some (.string d)/\w'.cell? ⟨w.heap.size,2,none⟩=some (.bool x)/\w'.cell? ⟨w.heap.size,3,none⟩=some (.slice ua un uc)/\w'.cell? ⟨w.heap.size+1,0,none⟩=some (.string k2)/\w'.cell? ⟨w.heap.size+1,1,none⟩=some (.string d2)/\w'.cell? ⟨w.heap.size+1,2,none⟩=some (.bool x2)/\w'.cell? ⟨w.heap.size+1,3,none⟩=some (.slice ub vn vc)))
  (HGS:Hid (∀w',G w'->Calls Tryz.prog 6 #[.agg #[.string k,.string d,.bool x,.slice ua un uc],.int .i64 60] w' fun e w''=>e = .returned (.int .i64 ga)/\G w''))
  (HGT:Hid (∀w',G w'->Calls Tryz.prog 6 #[.agg #[.string k2,.string d2,.bool x2,.slice ub vn vc],.int .i64 60] w' fun e w''=>e = .returned (.int .i64 gb)/\G w''))
  (HLC:Hid (∀w',G w'->Calls Tryz.prog 22 #[.slice la ln lc] w' fun e w''=>e = .returned (.bool LC)/\G w''))
  (HO:Hid (ga+gb=0->LC=false->∀w',G w'->DtAll k d x ua un uc k2 d2 x2 ub vn vc la ln lc G R w')) :
  Calls Tryz.prog 4 #[.agg #[.string k,.string d,.bool x,.slice ua un uc],.agg #[.string k2,.string d2,.bool x2,.slice ub vn vc],.slice la ln lc] w fun e w'=>e = .returned (.bool true)/\R w':=by
 go_enter Tryz.func4,Tryz.ntmps4
 go_wp2_with fail
 refine Calls.mono HT.out ?_
 rintro e w2 ⟨rfl,hg2⟩
 have wk:IntKind.i64.wrap (ga+gb)=ga+gb:=by
  rcases hga with rfl|rfl <;> rcases hgb with rfl|rfl <;> decide
 have hlo:0<=ga+gb:=by omega
 clear hga hgb HT
 go_upto_region 2 with fail
 go_cut [29] (fun c wx=>c = .bool (decide (0<ga+gb)||LC)/\G wx)
 case first =>
  refine wp_region_held_drew (S:=fun w'=>w'.cell? ⟨w.heap.size,0,none⟩=some (.string k)/\w'.cell? ⟨w.heap.size,1,none⟩=some (.string d)/\w'.cell? ⟨w.heap.size,2,none⟩=some (.bool x)/\w'.cell? ⟨w.heap.size,3,none⟩=some (.slice ua un uc)/\w'.cell? ⟨w.heap.size+1,0,none⟩=some (.string k2)/\w'.cell? ⟨w.heap.size+1,1,none⟩=some (.string d2)/\w'.cell? ⟨w.heap.size+1,2,none⟩=some (.bool x2)/\w'.cell? ⟨w.heap.size+1,3,none⟩=some (.slice ub vn vc)) (by kernel_rfl) (HK.out _ (HD.out _ hg2)) (fun hHeld=>?_)
  refine wpAnyH_take (i:=0) (v:=(.bool true)) rfl (by kernel_rfl) (by kernel_rfl) (by kernel_rfl) (fun _ _ _ h=>h) (Or.inl ⟨by rfl,?_⟩) hHeld ?_
  ·intro w hSw;(try dsimp only at hSw);simp only [List.getElem_toArray,List.getElem_cons_zero];go_simp
  simp only [List.getElem_toArray,List.getElem_cons_zero,Act.put,List.setIfInBounds_toArray,List.set_cons_zero,List.set_cons_succ]
  refine wpAnyH_take (i:=1) (v:=(.bool false)) rfl (by kernel_rfl) (by kernel_rfl) (by kernel_rfl) (fun _ _ _ h=>h) (Or.inl ⟨by rfl,?_⟩) hHeld ?_
  ·intro w hSw;(try dsimp only at hSw);simp only [List.getElem_toArray,List.getElem_cons_zero,List.getElem_cons_succ];go_simp
  simp only [List.getElem_toArray,List.getElem_cons_zero,List.getElem_cons_succ,Act.put,List.setIfInBounds_toArray,List.set_cons_zero,List.set_cons_succ]
  refine wpAnyH_take (i:=2) (v:=(.bool false)) rfl (by kernel_rfl) (by kernel_rfl) (by kernel_rfl) (fun _ _ _ h=>h) (Or.inl ⟨by rfl,?_⟩) hHeld ?_
  ·intro w hSw;(try dsimp only at hSw);simp only [List.getElem_toArray,List.getElem_cons_zero,List.getElem_cons_succ];go_simp
  simp only [List.getElem_toArray,List.getElem_cons_zero,List.getElem_cons_succ,Act.put,List.setIfInBounds_toArray,List.set_cons_zero,List.set_cons_succ]
  refine wpAnyH_take (i:=3) (v:=.agg #[.string k,.string d,.bool x,.slice ua un uc]) rfl (by kernel_rfl) (by kernel_rfl) (by kernel_rfl) (fun _ _ _ h=>h) (Or.inl ⟨by rfl,?_⟩) hHeld ?_
  ·intro w hSw;(try dsimp only at hSw);simp only [List.getElem_toArray,List.getElem_cons_zero,List.getElem_cons_succ];go_simp
  simp only [List.getElem_toArray,List.getElem_cons_zero,List.getElem_cons_succ,Act.put,List.setIfInBounds_toArray,List.set_cons_zero,List.set_cons_succ]
  refine wpAnyH_take (i:=5) (v:=.agg #[.string k2,.string d2,.bool x2,.slice ub vn vc]) rfl (by kernel_rfl) (by kernel_rfl) (by kernel_rfl) (fun _ _ _ h=>h) (Or.inl ⟨by rfl,?_⟩) hHeld ?_
  ·intro w hSw;(try dsimp only at hSw);simp only [List.getElem_toArray,List.getElem_cons_zero,List.getElem_cons_succ];go_simp
  simp only [List.getElem_toArray,List.getElem_cons_zero,List.getElem_cons_succ,Act.put,List.setIfInBounds_toArray,List.set_cons_zero,List.set_cons_succ]
  refine wpAnyH_ready (rs:=[4]) (by kernel_rfl) (by simp) ?_
  refine AllReadyH.cons rfl (fun K' hK=>?_) AllReadyH.nil
  simp only [List.getElem_toArray,List.getElem_cons_zero,List.getElem_cons_succ]
  go_simp
  refine Calls.mono (HGS.out _ (HD.out _ hg2)) ?_
  rintro e wx ⟨rfl,hg⟩
  go_wp2_with fail
  refine hK.out _ _ (HK.out _ hg) (fun hHeld'=>?_)
  clear hK K' hHeld
  have hHeld:=hHeld'
  clear hHeld'
  refine wpAnyH_ready (rs:=[6]) (by kernel_rfl) (by simp) ?_
  refine AllReadyH.cons rfl (fun K' hK=>?_) AllReadyH.nil
  simp only [List.getElem_toArray,List.getElem_cons_zero,List.getElem_cons_succ]
  go_simp
  refine Calls.mono (HGT.out _ hg) ?_
  rintro e wx ⟨rfl,hg'⟩
  go_wp2_with fail
  refine hK.out _ _ (HK.out _ hg') (fun hHeld'=>?_)
  clear hK K' hHeld
  have hHeld:=hHeld'
  clear hHeld'
  refine wpAnyH_take (i:=7) (v:=(.int .i64 (ga+gb))) rfl (by kernel_rfl) (by kernel_rfl) (by kernel_rfl) (fun _ _ _ h=>h) (Or.inl ⟨by rfl,?_⟩) hHeld ?_
  ·intro w hSw;(try dsimp only at hSw);simp only [List.getElem_toArray,List.getElem_cons_zero,List.getElem_cons_succ];go_simp
  simp only [List.getElem_toArray,List.getElem_cons_zero,List.getElem_cons_succ,Act.put,List.setIfInBounds_toArray,List.set_cons_zero,List.set_cons_succ]
  by_cases hbig:0<ga+gb
  ·skip
   refine wpAnyH_take (i:=8) (v:=(.bool true)) rfl (by kernel_rfl) (by kernel_rfl) (by kernel_rfl) (fun _ _ _ h=>h) (Or.inl ⟨by rfl,?_⟩) hHeld ?_
   ·intro w hSw;(try dsimp only at hSw);simp only [List.getElem_toArray,List.getElem_cons_zero,List.getElem_cons_succ];go_simp
   simp only [List.getElem_toArray,List.getElem_cons_zero,List.getElem_cons_succ,Act.put,List.setIfInBounds_toArray,List.set_cons_zero,List.set_cons_succ]
   refine wpAnyH_take (i:=9) (v:=(.bool true)) rfl (by kernel_rfl) (by kernel_rfl) (by kernel_rfl) (fun _ _ _ h=>h) (Or.inl ⟨by rfl,?_⟩) hHeld ?_
   ·intro w hSw;(try dsimp only at hSw);simp only [List.getElem_toArray,List.getElem_cons_zero,List.getElem_cons_succ];go_simp
   simp only [List.getElem_toArray,List.getElem_cons_zero,List.getElem_cons_succ,Act.put,List.setIfInBounds_toArray,List.set_cons_zero,List.set_cons_succ]
   refine wpAnyH_take (i:=10) (v:=(.bool true)) rfl (by kernel_rfl) (by kernel_rfl) (by kernel_rfl) (fun _ _ _ h=>h) (Or.inl ⟨by rfl,?_⟩) hHeld ?_
   ·intro w hSw;(try dsimp only at hSw);simp only [List.getElem_toArray,List.getElem_cons_zero,List.getElem_cons_succ];go_simp
   simp only [List.getElem_toArray,List.getElem_cons_zero,List.getElem_cons_succ,Act.put,List.setIfInBounds_toArray,List.set_cons_zero,List.set_cons_succ]
   refine wpAnyH_take (i:=11) (v:=undef) rfl (by kernel_rfl) (by kernel_rfl) (by kernel_rfl) (fun _ _ _ h=>h) (Or.inr ⟨by rfl,rfl⟩) hHeld ?_
   simp only [List.getElem_toArray,List.getElem_cons_zero,List.getElem_cons_succ,Act.put,List.setIfInBounds_toArray,List.set_cons_zero,List.set_cons_succ]
   refine wpAnyH_take (i:=12) (v:=undef) rfl (by kernel_rfl) (by kernel_rfl) (by kernel_rfl) (fun _ _ _ h=>h) (Or.inr ⟨by rfl,rfl⟩) hHeld ?_
   simp only [List.getElem_toArray,List.getElem_cons_zero,List.getElem_cons_succ,Act.put,List.setIfInBounds_toArray,List.set_cons_zero,List.set_cons_succ]
   refine wpAnyH_take (i:=13) (v:=(.bool true)) rfl (by kernel_rfl) (by kernel_rfl) (by kernel_rfl) (fun _ _ _ h=>h) (Or.inl ⟨by rfl,?_⟩) hHeld ?_
   ·intro w hSw;(try dsimp only at hSw);simp only [List.getElem_toArray,List.getElem_cons_zero,List.getElem_cons_succ];go_simp
   simp only [List.getElem_toArray,List.getElem_cons_zero,List.getElem_cons_succ,Act.put,List.setIfInBounds_toArray,List.set_cons_zero,List.set_cons_succ]
   refine wpAnyH_done (by kernel_rfl) ?_ _
   go_wp2_with fail
   go_meet
   case rel=>exact ⟨by rw [decide_eq_true (p:=0<ga+gb) (by omega)];rfl,hg'⟩
  ·skip
   refine wpAnyH_take (i:=8) (v:=(.bool false)) rfl (by kernel_rfl) (by kernel_rfl) (by kernel_rfl) (fun _ _ _ h=>h) (Or.inl ⟨by rfl,?_⟩) hHeld ?_
   ·intro w hSw;(try dsimp only at hSw);simp only [List.getElem_toArray,List.getElem_cons_zero,List.getElem_cons_succ];go_simp
   simp only [List.getElem_toArray,List.getElem_cons_zero,List.getElem_cons_succ,Act.put,List.setIfInBounds_toArray,List.set_cons_zero,List.set_cons_succ]
   refine wpAnyH_take (i:=9) (v:=(.bool false)) rfl (by kernel_rfl) (by kernel_rfl) (by kernel_rfl) (fun _ _ _ h=>h) (Or.inl ⟨by rfl,?_⟩) hHeld ?_
   ·intro w hSw;(try dsimp only at hSw);simp only [List.getElem_toArray,List.getElem_cons_zero,List.getElem_cons_succ];go_simp
   simp only [List.getElem_toArray,List.getElem_cons_zero,List.getElem_cons_succ,Act.put,List.setIfInBounds_toArray,List.set_cons_zero,List.set_cons_succ]
   refine wpAnyH_take (i:=10) (v:=(.bool false)) rfl (by kernel_rfl) (by kernel_rfl) (by kernel_rfl) (fun _ _ _ h=>h) (Or.inl ⟨by rfl,?_⟩) hHeld ?_
   ·intro w hSw;(try dsimp only at hSw);simp only [List.getElem_toArray,List.getElem_cons_zero,List.getElem_cons_succ];go_simp
   simp only [List.getElem_toArray,List.getElem_cons_zero,List.getElem_cons_succ,Act.put,List.setIfInBounds_toArray,List.set_cons_zero,List.set_cons_succ]
   refine wpAnyH_take (i:=11) (v:=(.slice la ln lc)) rfl (by kernel_rfl) (by kernel_rfl) (by kernel_rfl) (fun _ _ _ h=>h) (Or.inl ⟨by rfl,?_⟩) hHeld ?_
   ·intro w hSw;(try dsimp only at hSw);simp only [List.getElem_toArray,List.getElem_cons_zero,List.getElem_cons_succ];go_simp
   simp only [List.getElem_toArray,List.getElem_cons_zero,List.getElem_cons_succ,Act.put,List.setIfInBounds_toArray,List.set_cons_zero,List.set_cons_succ]
   refine wpAnyH_ready (rs:=[12]) (by kernel_rfl) (by simp) ?_
   refine AllReadyH.cons rfl (fun K' hK=>?_) AllReadyH.nil
   simp only [List.getElem_toArray,List.getElem_cons_zero,List.getElem_cons_succ]
   go_simp
   refine Calls.mono (HLC.out _ hg') ?_
   rintro e wx ⟨rfl,hg3⟩
   go_wp2_with fail
   refine hK.out _ _ (HK.out _ hg3) (fun hHeld'=>?_)
   clear hK K' hHeld
   have hHeld:=hHeld'
   clear hHeld'
   refine wpAnyH_take (i:=13) (v:=(.bool LC)) rfl (by kernel_rfl) (by kernel_rfl) (by kernel_rfl) (fun _ _ _ h=>h) (Or.inl ⟨by rfl,?_⟩) hHeld ?_
   ·intro w hSw;(try dsimp only at hSw);simp only [List.getElem_toArray,List.getElem_cons_zero,List.getElem_cons_succ];go_simp
   simp only [List.getElem_toArray,List.getElem_cons_zero,List.getElem_cons_succ,Act.put,List.setIfInBounds_toArray,List.set_cons_zero,List.set_cons_succ]
   refine wpAnyH_done (by kernel_rfl) ?_ _
   go_wp2_with fail
   go_meet
   case rel=>exact ⟨by rw [decide_eq_false (p:=0<ga+gb) (by omega)];cases LC <;> rfl,hg3⟩
 case rest =>
  obtain ⟨rfl,hg⟩:=hcut
  cases hend:(decide (0<ga+gb)||LC) with
  | true =>
   go_wp2_with fail
   go_ret
   exact ⟨rfl,HR.out _ hg⟩
  | false =>
   have hend':¬0<ga+gb/\LC=false:=by
    rw [Bool.or_eq_false_iff,decide_eq_false_iff_not] at hend
    exact hend
   have HX:Hid (∀w',G w'->DtAll k d x ua un uc k2 d2 x2 ub vn vc la ln lc G R w'):=HO.out (by omega) hend'.2
   clear HGS HGT HLC HO hend hend' wk hlo HR hg2 w2
   go_upto_region 4 with fail
   refine wp_region_held_drew (S:=fun w'=>w'.cell? ⟨w.heap.size,0,none⟩=some (.string k)/\w'.cell? ⟨w.heap.size,1,none⟩=some (.string d)/\w'.cell? ⟨w.heap.size,2,none⟩=some (.bool x)/\w'.cell? ⟨w.heap.size,3,none⟩=some (.slice ua un uc)/\w'.cell? ⟨w.heap.size+1,0,none⟩=some (.string k2)/\w'.cell? ⟨w.heap.size+1,1,none⟩=some (.string d2)/\w'.cell? ⟨w.heap.size+1,2,none⟩=some (.bool x2)/\w'.cell? ⟨w.heap.size+1,3,none⟩=some (.slice ub vn vc)) (by kernel_rfl) (HK.out _ (HD.out _ hg)) (fun hHeld=>?_)
   refine wpAnyH_take (i:=0) (v:=.agg #[.string k,.string d,.bool x,.slice ua un uc]) rfl (by kernel_rfl) (by kernel_rfl) (by kernel_rfl) (fun _ _ _ h=>h) (Or.inl ⟨by rfl,?_⟩) hHeld ?_
   ·intro w hSw;(try dsimp only at hSw);simp only [List.getElem_toArray,List.getElem_cons_zero];go_simp
   simp only [List.getElem_toArray,List.getElem_cons_zero,Act.put,List.setIfInBounds_toArray,List.set_cons_zero,List.set_cons_succ]
   refine wpAnyH_take (i:=2) (v:=.agg #[.string k2,.string d2,.bool x2,.slice ub vn vc]) rfl (by kernel_rfl) (by kernel_rfl) (by kernel_rfl) (fun _ _ _ h=>h) (Or.inl ⟨by rfl,?_⟩) hHeld ?_
   ·intro w hSw;(try dsimp only at hSw);simp only [List.getElem_toArray,List.getElem_cons_zero,List.getElem_cons_succ];go_simp
   simp only [List.getElem_toArray,List.getElem_cons_zero,List.getElem_cons_succ,Act.put,List.setIfInBounds_toArray,List.set_cons_zero,List.set_cons_succ]
   refine wpAnyH_ready (rs:=[1]) (by kernel_rfl) (by simp) ?_
   refine AllReadyH.cons rfl (fun K' hK=>?_) AllReadyH.nil
   simp only [List.getElem_toArray,List.getElem_cons_zero,List.getElem_cons_succ]
   go_simp
   refine Calls.mono (HX.out _ (HD.out _ hg)) ?_
   rintro e wx ⟨xa,xc,rfl,hg1,hc1⟩
   go_wp2_with fail
   refine hK.out _ _ (HK.out _ hg1) (fun hHeld'=>?_)
   clear hK K' hHeld
   have hHeld:=hHeld'
   clear hHeld'
   refine wpAnyH_ready (rs:=[3]) (by kernel_rfl) (by simp) ?_
   refine AllReadyH.cons rfl (fun K' hK=>?_) AllReadyH.nil
   simp only [List.getElem_toArray,List.getElem_cons_zero,List.getElem_cons_succ]
   go_simp
   refine Calls.mono (hc1) ?_
   rintro e wx ⟨yb,yc,rfl,hg2',hc2⟩
   go_wp2_with fail
   refine hK.out _ _ (HK.out _ hg2') (fun hHeld'=>?_)
   clear hK K' hHeld
   have hHeld:=hHeld'
   clear hHeld'
   refine wpAnyH_ready (rs:=[4]) (by kernel_rfl) (by simp) ?_
   refine AllReadyH.cons rfl (fun K' hK=>?_) AllReadyH.nil
   simp only [List.getElem_toArray,List.getElem_cons_zero,List.getElem_cons_succ]
   go_simp
   refine Calls.mono (hc2) ?_
   rintro e wx ⟨da,dn,dc,ev,rfl,hg3,hc3⟩
   go_wp2_with fail
   refine hK.out _ _ (HK.out _ hg3) (fun hHeld'=>?_)
   clear hK K' hHeld
   have hHeld:=hHeld'
   clear hHeld'
   refine wpAnyH_take (i:=5) (v:=(.tuple #[.slice da dn dc,ev])) rfl (by kernel_rfl) (by kernel_rfl) (by kernel_rfl) (fun _ _ _ h=>h) (Or.inl ⟨by rfl,?_⟩) hHeld ?_
   ·intro w hSw;(try dsimp only at hSw);simp only [List.getElem_toArray,List.getElem_cons_zero,List.getElem_cons_succ];go_simp
   simp only [List.getElem_toArray,List.getElem_cons_zero,List.getElem_cons_succ,Act.put,List.setIfInBounds_toArray,List.set_cons_zero,List.set_cons_succ]
   refine wpAnyH_take (i:=6) (v:=(.slice da dn dc)) rfl (by kernel_rfl) (by kernel_rfl) (by kernel_rfl) (fun _ _ _ h=>h) (Or.inl ⟨by rfl,?_⟩) hHeld ?_
   ·intro w hSw;(try dsimp only at hSw);simp only [List.getElem_toArray,List.getElem_cons_zero,List.getElem_cons_succ];go_simp
   simp only [List.getElem_toArray,List.getElem_cons_zero,List.getElem_cons_succ,Act.put,List.setIfInBounds_toArray,List.set_cons_zero,List.set_cons_succ]
   refine wpAnyH_take (i:=7) (v:=ev) rfl (by kernel_rfl) (by kernel_rfl) (by kernel_rfl) (fun _ _ _ h=>h) (Or.inl ⟨by rfl,?_⟩) hHeld ?_
   ·intro w hSw;(try dsimp only at hSw);simp only [List.getElem_toArray,List.getElem_cons_zero,List.getElem_cons_succ];go_simp
   simp only [List.getElem_toArray,List.getElem_cons_zero,List.getElem_cons_succ,Act.put,List.setIfInBounds_toArray,List.set_cons_zero,List.set_cons_succ]
   refine wpAnyH_take (i:=8) (v:=(.slice da dn dc)) rfl (by kernel_rfl) (by kernel_rfl) (by kernel_rfl) (fun _ _ _ h=>h) (Or.inl ⟨by rfl,?_⟩) hHeld ?_
   ·intro w hSw;(try dsimp only at hSw);simp only [List.getElem_toArray,List.getElem_cons_zero,List.getElem_cons_succ];go_simp
   simp only [List.getElem_toArray,List.getElem_cons_zero,List.getElem_cons_succ,Act.put,List.setIfInBounds_toArray,List.set_cons_zero,List.set_cons_succ]
   refine wpAnyH_take (i:=9) (v:=ev) rfl (by kernel_rfl) (by kernel_rfl) (by kernel_rfl) (fun _ _ _ h=>h) (Or.inl ⟨by rfl,?_⟩) hHeld ?_
   ·intro w hSw;(try dsimp only at hSw);simp only [List.getElem_toArray,List.getElem_cons_zero,List.getElem_cons_succ];go_simp
   simp only [List.getElem_toArray,List.getElem_cons_zero,List.getElem_cons_succ,Act.put,List.setIfInBounds_toArray,List.set_cons_zero,List.set_cons_succ]
   refine wpAnyH_done (by kernel_rfl) ?_ _
   have HK3:=HK.out _ hg3
   obtain ⟨e0,e1,e2,e3,f0,f1,f2,f3⟩:=HK3
   have HC3:Hid _:=hc3
   clear HX hg hg1 hc1 hg2' hc2 hc3 hg3
   go_wp2_with fail
   refine Calls.mono HC3.out ?_
   clear HC3 e0 e1 e2 e3 f0 f1 f2 f3
   rintro e w4 ⟨fa,fn,fc,er,rfl,hg4,hc4⟩
   obtain ⟨e0,e1,e2,e3,f0,f1,f2,f3⟩:=HK.out _ hg4
   go_wp2_with fail
   refine Calls.mono hc4 ?_
   clear hc4 hg4 e0 e1 e2 e3 f0 f1 f2 f3
   rintro e w5 ⟨rfl,hg5,hc5⟩
   go_wp2_with fail
   refine Calls.mono hc5 ?_
   clear hc5 hg5
   rintro e w6 ⟨rfl,hg6,hc6⟩
   obtain ⟨e0,e1,e2,e3,f0,f1,f2,f3⟩:=HK.out _ hg6
   have HC6:Hid (DtApp k d x ua un uc la ln lc G R w6):=hc6
   clear hc6 hg6
   go_wp2_with fail
   refine Calls.mono HC6.out ?_
   clear HC6 e0 e1 e2 e3 f0 f1 f2 f3
   rintro e w7 ⟨xa',xc',rfl,hg7,hc7⟩
   go_wp2_with fail
   refine Calls.mono hc7 ?_
   clear hc7 hg7
   rintro e w8 ⟨oa,on,oc,rfl,hg8,hc8⟩
   go_wp2_with fail
   refine Calls.mono hc8 ?_
   clear hc8 hg8
   rintro e w9 ⟨k3,d3,x3,a3,n3,c3,ev9,rfl,hc9⟩
   obtain ⟨W9,HW9⟩:∃W9,Hid (W9=w9.alloc (.cells #[.string k3,.string d3,.bool x3,.slice a3 n3 c3] 24)):=⟨_,(rfl:w9.alloc (.cells #[.string k3,.string d3,.bool x3,.slice a3 n3 c3] 24)=_)⟩
   obtain ⟨b3,HB3⟩:∃b3,Hid (b3=w9.heap.size):=⟨_,(rfl:w9.heap.size=_)⟩
   obtain ⟨hg9,hc10⟩:=hc9 W9 b3 HW9.out HB3.out
   have HC10:Hid (DtEnd k d x ua un uc k3 d3 x3 a3 n3 c3 la ln lc ev9 b3 R W9):=hc10
   obtain ⟨e0,e1,e2,e3,f0,f1,f2,f3⟩:=HK.out _ hg9
   clear hc9 hc10 hg9
   go_upto_region 9 with fail
   rw [<-HW9.out,<-HB3.out]
   go_wp2_with fail
   refine Calls.mono HC10.out ?_
   clear HC10 e0 e1 e2 e3 f0 f1 f2 f3
   rintro e w10 ⟨k4,d4,x4,a4,n4,c4,fc10,fp10,rfl,hc11⟩
   obtain ⟨W10,HW10⟩:∃W10,Hid (W10=(w10.alloc (.cells #[.string k4,.string d4,.bool x4,.slice a4 n4 c4] 24)).alloc (.cells #[.int .i64 fc10,.int .i64 fp10] 59)):=⟨_,(rfl:(w10.alloc (.cells #[.string k4,.string d4,.bool x4,.slice a4 n4 c4] 24)).alloc (.cells #[.int .i64 fc10,.int .i64 fp10] 59)=_)⟩
   obtain ⟨b4,HB4⟩:∃b4,Hid (b4=w10.heap.size):=⟨_,(rfl:w10.heap.size=_)⟩
   obtain ⟨b5,HB5⟩:∃b5,Hid (b5=w10.heap.size+1):=⟨_,(rfl:w10.heap.size+1=_)⟩
   obtain ⟨⟨g0,g1⟩,hc12⟩:=hc11 W10 b4 b5 HW10.out HB4.out HB5.out
   have HC12:Hid _:=hc12
   clear hc11 hc12
   go_upto_region 10 with fail
   rw [<-HW10.out,<-HB5.out,<-HB4.out]
   go_wp2_with fail
   refine Calls.mono HC12.out ?_
   clear HC12 g0 g1
   rintro e w11 ⟨rfl,h30,h31,h32,h33,h40,h41,h42,h43,hc13⟩
   have HC13:Hid _:=hc13
   clear hc13
   go_wp2_with fail
   refine Calls.mono HC13.out ?_
   clear HC13 h30 h31 h32 h33 h40 h41 h42 h43
   rintro e w12 ⟨rfl,hr12⟩
   go_wp2_with fail
   go_ret
   exact ⟨rfl,hr12⟩
end Go.Proofs.YtpjjpmikhjlgnaaGreatDoor
namespace Go.Proofs.YtpjjpmikhjlgnaaGreatDoor
open Go.RowKit

/-- What setOf tells: none, or the tree. -/
def setS (X : Tree) (dr : Bool) : List ByteArray → Tree → Option Tree
  | [], _ => some X
  | x :: r, t => if isDir t = false then none else
      if thereAt t.kids x = true then
        if (decide (r = []) && dr) = true then some { t with kids := t.kids.eraseIdx (placeOf t.kids x) }
        else match setS X dr r ((kidOf t x).getD zeroT) with
          | none => none
          | some y => some { t with kids := t.kids.set (placeOf t.kids x) (x, y) }
      else if (decide (r = []) && !dr) = true then some { t with kids := t.kids.take (placeOf t.kids x) ++ (x, X) :: t.kids.drop (placeOf t.kids x) } else none
/-- Only dirs have kids, all the way down. -/
def DirsD : Nat → Tree → Prop
  | 0, _ => False
  | d + 1, t => (t.kids ≠ [] → isDir t = true) ∧ ∀ x ∈ t.kids, DirsD d x.2
theorem dir_well {t : Tree} (h : nodeErr t = none) (hne : t.kids ≠ []) : isDir t = true := by
  have hp : 0 < t.kids.length := by
    cases hk : t.kids with
    | nil => exact absurd hk hne
    | cons a b => simp
  unfold nodeErr at h
  split at h
  · unfold fileErr at h
    rw [if_pos hp] at h
    cases h
  · split at h
    · rename_i h2
      exact h2
    · split at h
      · unfold linkErr at h
        rw [if_pos (.inr hp)] at h
        cases h
      · cases h
theorem dirs_tree : ∀ {d : Nat} {p : ByteArray} {k : Nat} {t : Tree}, Fit d t → (∀ x ∈ pre d p k t, nodeErr x.2.2 = none) → DirsD d t
  | 0, _, _, _, h, _ => h
  | d + 1, p, k, t, h, ho => by
    simp only [pre] at ho
    exact ⟨dir_well (ho (p, k, t) List.mem_cons_self), fun y hy => dirs_tree (p := p ++ slash ++ y.1) (k := k + 1) (h y hy) fun x hx => ho x (List.mem_cons_of_mem _ (List.mem_flatMap.2 ⟨y, hy, hx⟩))⟩
theorem dirs_well {d : Nat} {t : Tree} (hf : Fit d t) (h : treeErr d t = none) : DirsD d t := dirs_tree (p := ByteArray.empty) (k := 0) hf fun x hx => ((treeErr_none.1 h).2 x hx).2
theorem kid_there {t : Tree} {x : ByteArray} (h : thereAt t.kids x = true) : ∃ k, kidOf t x = some k ∧ t.kids[placeOf t.kids x]? = some (x, k) := by
  obtain ⟨⟨y, k⟩, hy, e⟩ := there_some h
  simp only at e
  subst e
  refine ⟨k, ?_, hy⟩
  unfold kidOf
  rw [if_pos h, hy]
  rfl
theorem kid_not {t : Tree} {x : ByteArray} (h : thereAt t.kids x = false) : kidOf t x = none := by
  unfold kidOf
  rw [if_neg (by simp [h])]
theorem room_cons {x y : ByteArray} {r : List ByteArray} {t k : Tree} (h : kidOf t x = some k) : roomB (x :: y :: r) t = roomB (y :: r) k := by
  unfold roomB
  rw [List.dropLast_cons_cons]
  simp only [List.isEmpty_cons, Bool.false_or, atR, h]
theorem room_not {x y : ByteArray} {r : List ByteArray} {t : Tree} (h : kidOf t x = none) : roomB (x :: y :: r) t = false := by
  unfold roomB
  rw [List.dropLast_cons_cons]
  simp only [List.isEmpty_cons, Bool.false_or, atR, h]
theorem room_one {x : ByteArray} {t : Tree} : roomB [x] t = isDir t := rfl
theorem setS_put (X : Tree) : ∀ (l : List ByteArray) {d : Nat} {t : Tree}, DirsD d t → setS X false l t = if roomB l t = true then some (setAt X l t) else none
  | [], _, t, _ => rfl
  | [x], 0, t, h => h.elim
  | [x], d + 1, t, h => by
    rw [room_one]
    unfold setS
    cases hd : isDir t with
    | false => rfl
    | true =>
      simp only [if_neg (by simp : ¬ true = false), if_true]
      cases ht : thereAt t.kids x with
      | true => simp [setS, setAt, setKid, ht]
      | false => simp [setAt, setKid, ht]
  | x :: y :: r, 0, t, h => h.elim
  | x :: y :: r, d + 1, t, h => by
    unfold setS
    cases ht : thereAt t.kids x with
    | true =>
      obtain ⟨k, hk, hp⟩ := kid_there ht
      have hm := List.mem_of_getElem? hp
      have hd := h.1 (List.ne_nil_of_mem hm)
      have ih := setS_put X (y :: r) (h.2 _ hm)
      rw [room_cons hk, hd, hk]
      simp only [Option.getD_some] at ih ⊢
      rw [ih]
      cases hr : roomB (y :: r) k with
      | true => simp [setAt, setKid, ht, hk]
      | false => simp
    | false =>
      rw [room_not (kid_not ht)]
      cases isDir t <;> simp
theorem setS_drop (X : Tree) : ∀ (l : List ByteArray) {d : Nat} {t : Tree}, l ≠ [] → DirsD d t → setS X true l t = if (atR l t).isSome = true then some (dropAt l t) else none
  | [], _, t, h, _ => absurd rfl h
  | [x], 0, t, _, h => h.elim
  | [x], d + 1, t, _, h => by
    unfold setS
    cases ht : thereAt t.kids x with
    | true =>
      obtain ⟨k, hk, hp⟩ := kid_there ht
      have hd := h.1 (List.ne_nil_of_mem (List.mem_of_getElem? hp))
      simp [hd, atR, hk, dropAt]
    | false =>
      cases hd : isDir t <;> simp [atR, kid_not ht]
  | x :: y :: r, 0, t, _, h => h.elim
  | x :: y :: r, d + 1, t, _, h => by
    unfold setS
    cases ht : thereAt t.kids x with
    | true =>
      obtain ⟨k, hk, hp⟩ := kid_there ht
      have hm := List.mem_of_getElem? hp
      have hd := h.1 (List.ne_nil_of_mem hm)
      have ih := setS_drop X (y :: r) (by simp) (h.2 _ hm)
      have he : atR (x :: y :: r) t = atR (y :: r) k := by rw [atR, hk]
      rw [he, hd, hk]
      simp only [Option.getD_some] at ih ⊢
      rw [ih]
      cases hr : (atR (y :: r) k).isSome with
      | true => simp [dropAt, setKid, ht, hk]
      | false => simp
    | false =>
      have he : atR (x :: y :: r) t = none := by rw [atR, kid_not ht]
      rw [he]
      cases isDir t <;> simp

theorem place_iff {s : ByteArray} : ∀ {l : List (ByteArray × Tree)}, Rises l → ∀ (i : Nat) (y : ByteArray × Tree), l[i]? = some y → (Op.bytesLess y.1.toList s.toList = true ↔ i < placeOf l s)
  | [], _, i, y, h => by simp at h
  | a :: r, hr, i, y, h => by
    cases ha : Op.bytesLess a.1.toList s.toList with
    | false =>
      have hall : ∀ (k : Nat) (z : ByteArray × Tree), (a :: r)[k]? = some z → Op.bytesLess z.1.toList s.toList = false := fun k z hz => by
        cases k with
        | zero =>
          simp only [List.getElem?_cons_zero, Option.some.injEq] at hz
          subst hz
          exact ha
        | succ k =>
          cases hc : Op.bytesLess z.1.toList s.toList with
          | false => rfl
          | true =>
            have := less_trans (hr 0 (k + 1) a z (by omega) rfl hz) hc
            rw [ha] at this
            cases this
      have h0 : placeOf (a :: r) s = 0 := by
        unfold placeOf
        rw [List.countP_eq_zero]
        intro z hz
        obtain ⟨k, hk, rfl⟩ := List.getElem_of_mem hz
        rw [hall k _ (List.getElem?_eq_getElem hk)]
        decide
      rw [h0, hall i y h]
      simp
    | true =>
      have h1 : placeOf (a :: r) s = placeOf r s + 1 := List.countP_cons_of_pos (p := fun x : ByteArray × Tree => Op.bytesLess x.1.toList s.toList) ha
      rw [h1]
      cases i with
      | zero =>
        simp only [List.getElem?_cons_zero, Option.some.injEq] at h
        subst h
        simp [ha]
      | succ i =>
        have ih := place_iff (s := s) (l := r) (fun i j x y hij hx hy => hr (i + 1) (j + 1) x y (by omega) hx hy) i y h
        rw [ih]
        omega
theorem Lies.toQ {w : World} {B : Nat} {Q : Nat → Prop} (hq : ∀ b, b < B → Q b) : ∀ {d : Nat} {l : List (ByteArray × Tree)} {v : Value}, Lies w B d l v → LiesQ w Q d l v
  | 0, _, _, h => h
  | d + 1, l, v, ⟨ad, cap, e, hlen, hk⟩ => ⟨ad, cap, e, hlen, fun i x hx => by
    obtain ⟨b, off, u, e, h1, h2, h3, h4, h5, h6, h7, h8⟩ := hk i x hx
    exact ⟨b, off, u, e, hq b h1, h2, h3, h4, h5, h6, h7, Lies.toQ hq h8⟩⟩
theorem LiesQ.up {w : World} {Q : Nat → Prop} : ∀ {d e : Nat} {l : List (ByteArray × Tree)} {v : Value}, d ≤ e → LiesQ w Q d l v → LiesQ w Q e l v
  | 0, _, _, _, _, h => h.elim
  | _ + 1, 0, _, _, h, _ => by omega
  | d + 1, e + 1, l, v, hd, ⟨ad, cap, e1, hlen, hk⟩ => ⟨ad, cap, e1, hlen, fun i x hx => by
    obtain ⟨b, off, u, e2, h1, h2, h3, h4, h5, h6, h7, h8⟩ := hk i x hx
    exact ⟨b, off, u, e2, h1, h2, h3, h4, h5, h6, h7, LiesQ.up (by omega) h8⟩⟩
/-- Kids in a row of their own, each lying in blocks that are not the row's. -/
structure RowQ (w : World) (B lo : Nat) (d : Nat) (K : List (ByteArray × Tree)) (v : Value) : Prop where
  row : ∃ us : List Value, us.length = K.length ∧ w.ownsRow lo 65 5 v K.length (kidCells K us) ∧ ∀ (i : Nat) (x : ByteArray × Tree) (u : Value), K[i]? = some x → us[i]? = some u → LiesQ w (fun b => b < B ∨ (lo ≤ b ∧ b < w.heap.size ∧ v.ownBlock ≠ some b)) d x.2.kids u
theorem RowQ.nil (w : World) (B lo d : Nat) : RowQ w B lo d [] (.slice none 0 0) := ⟨[], rfl, World.ownsRow_nil _ _ _ _, fun i x u h => by simp at h⟩
theorem RowQ.below {w w' : World} {B lo d : Nat} {K : List (ByteArray × Tree)} {v : Value} (h : RowQ w B lo d K v) (hlo : B ≤ lo) (hw : lo ≤ w.heap.size) (hb : Below w.heap.size w w') : RowQ w' B lo d K v := by
  obtain ⟨us, h1, h2, h3⟩ := h.row
  refine ⟨us, h1, ownsRow_ext' h2 fun k hk => hb.block k (h2.lt k hk).2, fun i x u hx hu => (h3 i x u hx hu).kept (fun k hk => hb.block k ?_) fun k hk => ?_⟩
  · rcases hk with hk | hk
    · omega
    · exact hk.2.1
  · rcases hk with hk | hk
    · exact .inl hk
    · exact .inr ⟨hk.1, by have := hb.size; omega, hk.2.2⟩
/-- One kid more, by an append. -/
theorem rowQ_more {w wa w5 : World} {B lo d g cap H : Nat} {K : List (ByteArray × Tree)} {v u : Value} {x : ByteArray × Tree} (hlo : B ≤ lo) (hw : lo ≤ w.heap.size) (hba : Below w.heap.size w wa)
    (hx : LiesQ w (fun b => b < B ∨ (lo ≤ b ∧ b < w.heap.size ∧ v.ownBlock ≠ some b)) d x.2.kids u) (us : List Value) (hus : us.length = K.length) (hrow : w.ownsRow lo 65 5 v K.length (kidCells K us))
    (hk : ∀ (i : Nat) (x : ByteArray × Tree) (u : Value), K[i]? = some x → us[i]? = some u → LiesQ w (fun b => b < B ∨ (lo ≤ b ∧ b < w.heap.size ∧ v.ownBlock ≠ some b)) d x.2.kids u)
    (hown : w5.ownsRow lo 65 5 (.slice (some ⟨g, 0, none⟩) (K.length + 1) cap) (K.length + 1) (kidCells K us ++ [.string x.1, .string x.2.kind, .string x.2.data, .bool x.2.exec, u]))
    (hgrow : wa.grownBy w5 v.ownBlock) (hat : v.ownBlock = some g ∨ g = H) (hH : w.heap.size ≤ H) : RowQ w5 B lo d (K ++ [x]) (.slice (some ⟨g, 0, none⟩) (K.length + 1) cap) := by
  have hlt := fun k hk => hrow.lt k hk
  have h5 : ∀ k, k < w.heap.size → v.ownBlock ≠ some k → w5.heap[k]? = w.heap[k]? := fun k hk hne => by
    rw [hgrow.block k (Nat.lt_of_lt_of_le hk hba.size) (fun e => hne e.symm), hba.block k hk]
  have hs5 : w.heap.size ≤ w5.heap.size := Nat.le_trans hba.size hgrow.size
  have hQ : ∀ b, (b < B ∨ (lo ≤ b ∧ b < w.heap.size ∧ v.ownBlock ≠ some b)) → b < w.heap.size ∧ v.ownBlock ≠ some b := fun b hb => by
    rcases hb with hb | hb
    · exact ⟨by omega, fun e => by have := (hlt b e).1; omega⟩
    · exact hb.2
  have hQ2 : ∀ b, (b < B ∨ (lo ≤ b ∧ b < w.heap.size ∧ v.ownBlock ≠ some b)) → (b < B ∨ (lo ≤ b ∧ b < w5.heap.size ∧ (Value.slice (some ⟨g, 0, none⟩) (K.length + 1) cap).ownBlock ≠ some b)) := fun b hb => by
    rcases hb with hb | hb
    · exact .inl hb
    · refine .inr ⟨hb.1, by omega, ?_⟩
      simp only [Value.ownBlock, ne_eq, Option.some.injEq]
      intro e
      rcases hat with h | h
      · exact hb.2.2 (by rw [h, e])
      · omega
  refine ⟨us ++ [u], by simp [hus], ?_, fun i y z hy hz => ?_⟩
  · rw [kidCells_snoc _ _ _ _ hus.symm, List.length_append]
    exact hown
  · by_cases hi : i < K.length
    · rw [List.getElem?_append_left hi] at hy
      rw [List.getElem?_append_left (by omega)] at hz
      exact (hk i y z hy hz).kept (fun k hk => h5 k (hQ k hk).1 (hQ k hk).2) hQ2
    · have hi0 : i = K.length := by
        have := (List.getElem?_eq_some_iff.1 hy).1
        rw [List.length_append, List.length_singleton] at this
        omega
      subst hi0
      rw [List.getElem?_append_right (Nat.le_refl _), Nat.sub_self] at hy
      rw [List.getElem?_append_right (by omega), hus, Nat.sub_self] at hz
      simp only [List.getElem?_cons_zero, Option.some.injEq] at hy hz
      subst hy; subst hz
      exact hx.kept (fun k hk => h5 k (hQ k hk).1 (hQ k hk).2) hQ2
/-- All kids stand in the row: a list of kids that lies. -/
theorem RowQ.lies {w : World} {B lo d : Nat} {K : List (ByteArray × Tree)} {v : Value} (h : RowQ w B lo d K v) (hlen : K.length ≤ 1759218604390) (hs : ∀ x ∈ K, x.1.size ≤ 140737488355328) : LiesQ w (fun b => b < B ∨ (lo ≤ b ∧ b < w.heap.size)) (d + 1) K v := by
  obtain ⟨us, h1, h2, h3⟩ := h.row
  exact LiesQ.made h2 hlen h1 (fun g hg => .inr ⟨(h2.lt g hg).1, (h2.lt g hg).2⟩) hs fun i x u hx hu => (h3 i x u hx hu).kept (fun _ _ => rfl) fun k hk => by
    rcases hk with hk | hk
    · exact .inl hk
    · exact .inr ⟨hk.1, hk.2.1⟩
end Go.Proofs.YtpjjpmikhjlgnaaGreatDoor
