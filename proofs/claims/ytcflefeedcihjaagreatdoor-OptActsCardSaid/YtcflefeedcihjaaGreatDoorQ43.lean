/-
  Oh Mh Gx Gy, joined.
  Conditions: those that each states.
-/
import Derived.Test.YtcflefeedcihjaaGreatDoorQ42
namespace Go.Proofs.YtcflefeedcihjaaGreatDoor
set_option maxHeartbeats 4000000
section
set_option maxRecDepth 100000
open Go.RowKit Go.Maps

theorem om (G:Nat->Nat) (L:List (Nat×ByteArray×Nat)) {i k:Nat} (h:i<=k):cz G (L.take i)<=cz G (L.take k):=by
 rw [show L.take i=(L.take k).take i by rw [List.take_take,yu h]];exact ((List.take_sublist i _).filter _).length_le
section
variable {a : Nat → Addr} {w0 W W' : World} {N d dp tb bb sp sb cap mb m1 m2 mw mt md j : Nat} {s : ay} {tr : List (Option ah)} {pt : List ab}
theorem Ii (E:fS a w0) (S:gg w0 N d dp tb bb sp sb cap mb m1 m2 mw mt md j s tr pt W) (hj:j<=900) (hd:d<=900) (hsum:∃p,w0.cell? ⟨2,0,none⟩=some (.iface 329 p)) :
  Cl 9 #[.pointer (some ⟨dp,0,none⟩)] W fun e w1=>∃bv:Bool,e = .returned (.tuple #[.bool bv,.nilIface])/\aZ w0.heap.size dp W w1/\Cl 33 #[.pointer (some ⟨mw,0,none⟩)] w1 fun e2 w2=>e2 = .returned (.bool bv)/\bH w0.heap.size w1 w2/\eA w0 N d dp tb bb sp sb cap mb m1 m2 mw mt md j w2:=by
 refine (CB E S hj hd hsum).mono fun e w1 ⟨z,he,i,s',tr',S1,hb,_,⟨_,hrun⟩,hi,hz,hend,hP⟩=>⟨_,he,hP,?_⟩;refine (CG S.I S.few S.tl hb.symm hj hd (jq _) (s8 S1)).mono fun e2 w2 h=>?_;have h0:cz (gW s) ((ai tr).take 0)=0:=rfl
 rcases h with ⟨he2,hA,hc,hD⟩|⟨m,f,_,hf,hne,he2,hA,hc,hD⟩
 ·have h1:=om (gW s) (ai tr) hi
  rw [jS] at h1;obtain rfl:z=0:=by omega
  refine ⟨he2,hD,s',tr',pt,?_⟩
  rcases hend with ⟨rfl,_⟩|⟨h2,_⟩
  ·unfold fX at hA
   rw [<-hrun] at hA;exact hA
  ·exact absurd h2 (by decide)
 ·have h1:=kJ (G:=gW s) hf
  rw [zi hne] at h1;have hml:=(jb.1 hf).1
  rcases hend with ⟨rfl,h2⟩|⟨h2,k,rfl,h3⟩
  ·have h4:=om (gW s) (ai tr) (i:=m+1) (k:=(ai tr).length) (by omega)
   omega
  ·obtain rfl:z=1:=by omega
   obtain rfl:k=m:=by
    rcases Nat.lt_trichotomy k m with h5|h5|h5
    ·have h4:=om (gW s) (ai tr) (i:=k+1) (k:=m) (by omega)
     omega
    ·exact h5
    ·have h4:=om (gW s) (ai tr) (i:=m+1) (k:=k) (by omega)
     omega
   refine ⟨he2,hD,s',tr',pt,?_⟩;unfold fX at hA;rw [<-hrun] at hA;exact hA
theorem IK (E:fS a w0) (S:gg w0 N d dp tb bb sp sb cap mb m1 m2 mw mt md j s tr pt W) (hj:j<=900) (hd:d<=900) (hsum:∃p,w0.cell? ⟨2,0,none⟩=some (.iface 329 p)) :
  Cl 10 #[.pointer (some ⟨dp,0,none⟩)] W fun e w1=>∃z:Int,e = .returned (.tuple #[.int .i64 z,.nilIface])/\aZ w0.heap.size dp W w1/\Cl 34 #[.pointer (some ⟨mw,0,none⟩)] w1 fun e2 w2=>e2 = .returned (.int .i64 z)/\bH w0.heap.size w1 w2/\eA w0 N d dp tb bb sp sb cap mb m1 m2 mw mt md j w2:=by
 have hlen:(ai tr).length<=40000:=by
  have h1:=congrArg List.length S.I.fl;rw [jB,jB] at h1;rw [h1];exact S.refs (by omega)
 refine (CC E S hj hd hsum).mono fun e w1 ⟨z,he,i,s',tr',S1,hb,_,⟨_,hrun⟩,hi,hz,hend,hP⟩=>⟨_,he,hP,?_⟩;have h1:=wX (gW s) ((ai tr).take i);rw [js] at h1
 rcases hend with ⟨rfl,_⟩|⟨h2,_⟩
 ·refine (CH S.I S.few S.tl hb.symm hj hd hlen (s8 S1)).mono fun e2 w2 ⟨he2,hA,hD⟩=>?_
  rw [jS] at hz;refine ⟨by rw [he2,hz],hD,s',tr',pt,?_⟩;unfold fX at hA;rw [<-hrun] at hA;exact hA
 ·omega
theorem eA.up {j':Nat} (h:eA w0 N d dp tb bb sp sb cap mb m1 m2 mw mt md j W) (hj:j<=j'):eA w0 N d dp tb bb sp sb cap mb m1 m2 mw mt md j' W:=by
 obtain ⟨s,tr,pt,S⟩:=h;exact ⟨s,tr,pt,S.up hj⟩
theorem wY (E:fS a w0) (hsum:w0.cell? ⟨2,0,none⟩=some (.iface 329 (.pointer (some (a 10))))) (SN:bC a w0) (S:gg w0 N d dp tb bb sp sb cap mb m1 m2 mw mt md j s tr pt W) (hj:j<=50) (hd:d<=900) (hN5:N<=512) (x:ed) (ua:Option Addr) (uc:Nat) (hk:(Lit.int .i64 x.k).wf=true) (hn:(Lit.int .i64 x.n).wf=true) (hp:x.path.size<=100) (hsm:fQ d x.node) (hl:aA w0 w0.heap.size (d+1) x.node.kids (.slice ua x.node.kids.length uc)) :
  Cl 35 #[.pointer (some ⟨dp,0,none⟩),.pointer (some ⟨mw,0,none⟩),.agg #[.string x.kind,.string x.path,.string x.s,.string x.node.kind,.string x.node.data,.bool x.node.exec,.slice ua x.node.kids.length uc,.int .i64 x.k,.int .i64 x.n,.int .i64 x.bit]] W fun e w'=>e = .returned (.bool true)/\eA w0 N d dp tb bb sp sb cap mb m1 m2 mw mt md (j+1) w':=by
 by_cases hkk:(x.kind.toList == [112,117,116]||x.kind.toList == [100,114,111,112]||x.kind.toList == [115,104,97,114,101])=true
 ·exact xR E hsum SN S hj hd hN5 x ua uc hk hn hp hsm hl hkk
 ·rw [Bool.not_eq_true,qh,qh] at hkk
  obtain ⟨⟨kp,kd⟩,ks⟩:=hkk;have hbw:Bl W (W.alloc (.cells #[.string x.kind,.string x.path,.string x.s,.string x.node.kind,.string x.node.data,.bool x.node.exec,.slice ua x.node.kids.length uc,.int .i64 x.k,.int .i64 x.n,.int .i64 x.bit] 34)):=(je _ W).alloc (jd _) _;have hbx:dM x ua uc W.heap.size (W.alloc (.cells #[.string x.kind,.string x.path,.string x.s,.string x.node.kind,.string x.node.data,.bool x.node.exec,.slice ua x.node.kids.length uc,.int .i64 x.k,.int .i64 x.n,.int .i64 x.bit] 34)):=heap_alloc_last W _;have HE:Hid (eA w0 N d dp tb bb sp sb cap mb m1 m2 mw mt md (j+1) (W.alloc (.cells #[.string x.kind,.string x.path,.string x.s,.string x.node.kind,.string x.node.data,.bool x.node.exec,.slice ua x.node.kids.length uc,.int .i64 x.k,.int .i64 x.n,.int .i64 x.bit] 34))):=⟨s,tr,pt,(S.below hbw).up (by omega)⟩
  cases kr:(x.kind.toList == [114,111,116]) with
  | false =>
   clear E hsum SN S hsm hl hbw hbx;go_enter Tryz.func35,Tryz.ntmps35;go_wp2_with fail
   go_ret;exact ⟨rfl,HE.out⟩
  | true =>
   have HC0:Hid (∀w',Bl (W.alloc (.cells #[.string x.kind,.string x.path,.string x.s,.string x.node.kind,.string x.node.data,.bool x.node.exec,.slice ua x.node.kids.length uc,.int .i64 x.k,.int .i64 x.n,.int .i64 x.bit] 34)) w'->(w'.cell? ⟨mw,0,none⟩=some (.pointer (some ⟨mt,0,none⟩))/\w'.cell? ⟨W.heap.size,0,none⟩=some (.string x.kind)/\w'.cell? ⟨W.heap.size,8,none⟩=some (.int .i64 x.n)/\w'.cell? ⟨W.heap.size,9,none⟩=some (.int .i64 x.bit))):=fun w' h=>by
    obtain ⟨_,_,_,_,M⟩:=((S.below hbw).below h).M;have k:=hbx.below h;exact ⟨M.cells.1,k.cell 0,k.cell 8,k.cell 9⟩
   have HTB:Hid (∀w',Bl (W.alloc (.cells #[.string x.kind,.string x.path,.string x.s,.string x.node.kind,.string x.node.data,.bool x.node.exec,.slice ua x.node.kids.length uc,.int .i64 x.k,.int .i64 x.n,.int .i64 x.bit] 34)) w'->Cl 29 #[.pointer (some ⟨dp,0,none⟩)] w' fun e w2=>e = .returned (.pointer (some ⟨tb,0,none⟩))/\w2=w'):=fun w' h=>by
    obtain ⟨_,_,_,D⟩:=((S.below hbw).below h).D;exact gO D
   have HRF:Hid (∀w',Bl (W.alloc (.cells #[.string x.kind,.string x.path,.string x.s,.string x.node.kind,.string x.node.data,.bool x.node.exec,.slice ua x.node.kids.length uc,.int .i64 x.k,.int .i64 x.n,.int .i64 x.bit] 34)) w'->Cl 18 #[.pointer (some ⟨tb,0,none⟩),.pointer (some ⟨mt,0,none⟩),.agg #[.string x.kind,.string { data:=#[] },.bool false,.int .i64 x.n,.int .i64 x.bit]] w' fun e w2=>e = .returned (.bool true)/\eA w0 N d dp tb bb sp sb cap mb m1 m2 mw mt md (j+1) w2/\(w2.cell? ⟨mw,0,none⟩=some (.pointer (some ⟨mt,0,none⟩))/\w2.cell? ⟨W.heap.size,0,none⟩=some (.string x.kind)/\w2.cell? ⟨W.heap.size,8,none⟩=some (.int .i64 x.n)/\w2.cell? ⟨W.heap.size,9,none⟩=some (.int .i64 x.bit))):=fun w' h =>
    (xU SN ((S.below hbw).below h) x.kind kr x.n x.bit).mono fun e w2 ⟨he,hE,hF⟩=>by
     have hbk:=hbx.below h
     have hne:W.heap.size≠dp:=by
      obtain ⟨_,_,_,D⟩:=S.D
      have:=(ja.1 D.box).1
      omega
     have hb2:dM x ua uc W.heap.size w2:=hF _ _ hbk hne rfl rfl;obtain ⟨s2,tr2,pt2,E2⟩:=hE;obtain ⟨_,_,_,_,M⟩:=E2.M;exact ⟨he,⟨s2,tr2,pt2,E2.up (by omega)⟩,M.cells.1,hb2.cell 0,hb2.cell 8,hb2.cell 9⟩
   clear E hsum SN S hsm hl hbw hbx HE;go_enter Tryz.func35,Tryz.ntmps35;go_wp2_with fail
   refine zh (S:=fun w'=>w'.cell? ⟨mw,0,none⟩=some (.pointer (some ⟨mt,0,none⟩))/\w'.cell? ⟨W.heap.size,0,none⟩=some (.string x.kind)/\w'.cell? ⟨W.heap.size,8,none⟩=some (.int .i64 x.n)/\w'.cell? ⟨W.heap.size,9,none⟩=some (.int .i64 x.bit)) (by kernel_rfl) (HC0.out _ (cW _)) (fun hHeld=>?_);refine bm [(0,pZ dp 0),(2,pZ mw 0),(3,pZ mw 0),(4,pZ mw 0),(5,pZ mt 0),(6,pZ W.heap.size 0),(7,.string x.kind),(8,pZ W.heap.size 8),(9,iZ x.n),(10,pZ W.heap.size 9),(11,iZ x.bit),(12,.agg #[.string x.kind,.string { data:=#[] },.bool false,.int .i64 x.n,.int .i64 x.bit])] hHeld ?_;refine aQ 1 rfl (fun K' hK=>?_);simp only [ap];go_simp;refine jk (HTB.out _ (cW _)) ?_;rintro e wx ⟨rfl,hw⟩;rw [hw];clear hw wx;go_wp2_with fail
   refine hK.out _ _ (HC0.out _ (cW _)) (fun hHeld=>?_);clear hK K';refine aQ 13 rfl (fun K' hK=>?_);simp only [ap];go_simp;refine jk (HRF.out _ (cW _)) ?_;rintro e wx ⟨rfl,HQ,hS⟩;go_wp2_with fail
   refine hK.out _ _ (by exact hS) (fun hHeld=>?_);clear hK K';refine aQ 14 rfl (fun K' hK=>?_);simp only [ap];go_simp;go_wp2_with fail
   refine hK.out _ _ (by exact hS) (fun hHeld=>?_);clear hK K';refine zk (by kernel_rfl) ?_ _;go_wp2_with fail
   go_ret;exact ⟨rfl,HQ⟩
end
end
section
set_option maxRecDepth 100000
open Go.RowKit

section
variable {w0 W : World} {T0 tb bb mt md i N : Nat} {bl : List (List UInt8)} {u : List Bool} {tab : List (Option am)} {a : Nat → Addr}
theorem Ij (k:Nat) (x:am) (hx:af tab k=some x) (Q:ow w0 T0 tb bb mt md i bl u tab W) (P:pv N i bl u tab) (S:bC a w0) :
  Cl 66 #[.pointer (some ⟨tb,0,none⟩),.int .i64 (k:Int)] W fun e w1=>∃s ev c,e = .returned (.tuple #[.string s,ev])/\Bl W w1/\Cl 62 #[.pointer (some ⟨mt,0,none⟩),.int .i64 (k:Int)] w1 fun e2 w2=>e2 = .returned (.tuple #[.string s,.int .i64 c])/\Bl W w2/\Cl 11 #[ev,.int .i64 c] w2 fun e3 w3=>e3 = .returned (.bool true)/\Bl W w3:=by
 have SW:=Q.sents S;obtain ⟨sp,sb,cap,mb,n,hn,T⟩:=Q.t;obtain ⟨la,lc,ia,ic,vs,M⟩:=Q.m;obtain ⟨p1,p2,p3,p4⟩:=P.need hx;by_cases hc:aR (aq bl x.blocks x.bytes)=x.sum
 ·refine (tA k x _ hx hc W T p4 p1 (by omega) SW.c10).mono fun e w1 ⟨he,hb⟩=>⟨_,_,0,he,hb,?_⟩
  refine (lU k x hx w1 (M.below hb) p4 T.disk.bl16 p1 p3).mono fun e2 w2 ⟨he2,hb2⟩=>⟨?_,hb.trans (hb2.mono hb.size),?_⟩
  ·rw [he2];unfold bp;rw [zj hc]
  ·refine (uD 0 w2).mono fun e3 w3 ⟨he3,h3⟩=>⟨by rw [he3];rfl,by rw [h3];exact hb.trans (hb2.mono hb.size)⟩
 ·refine (mn k x _ hx hc W T p4 p1 (by omega) SW.c10).mono fun e w1 ⟨he,hb⟩=>⟨_,_,11,he,hb,?_⟩
  refine (lU k x hx w1 (M.below hb) p4 T.disk.bl16 p1 p3).mono fun e2 w2 ⟨he2,hb2⟩=>⟨?_,hb.trans (hb2.mono hb.size),?_⟩
  ·rw [he2];unfold bp;rw [zi hc]
  ·have hb12:=hb.trans (hb2.mono hb.size)
   refine (sN a 10 11 w2 (SW.below hb12) (by decide)).mono fun e3 w3 ⟨he3,h3⟩=>⟨by rw [he3];rfl,hb12.trans (h3.mono hb12.size)⟩
theorem xV (hi:i<=4000) (Q:ow w0 T0 tb bb mt md i bl u tab W) (P:pv N i bl u tab) (S:bC a w0) :
  Cl 24 #[.pointer (some ⟨tb,0,none⟩),.pointer (some ⟨mt,0,none⟩)] W fun e w'=>e = .returned (.int .i64 1)/\Bl W w':=by
 obtain ⟨sp,sb,cap,mb,n,hn,T⟩:=Q.t;obtain ⟨la,lc,ia,ic,vs,M⟩:=Q.m;have hlen:=Q.len.1;have hO:=P.ok (by omega);have hbl:bl.length<=512:=by rw [P.sp.lbl];exact P.n5
 have hF:=P.sp.freeM;rw [<-P.sp.lbl] at hF
 have HAL:Hid (Cl 64 #[.pointer (some ⟨tb,0,none⟩)] W fun e w1=>∃ad vc,e = .returned (.slice ad (bq tab).length vc)/\aU w1 (.slice ad (bq tab).length vc) (aD (bq tab))/\Bl W w1):=(BI W T).mono fun e w1 ⟨v,he,ho,hb⟩=>by
  obtain ⟨ad,vc,rfl⟩:=fq ho;exact ⟨ad,vc,he,ho.t,hb⟩
 have HFM:Hid (∀w1,Bl W w1->Cl 40 #[.pointer (some ⟨mt,0,none⟩)] w1 fun e w2=>∃ad vc,e = .returned (.slice ad (aE u).length vc)/\Bl w1 w2/\Bl W w2):=fun w1 h1=>(pk w1 (M.below h1) hO hbl).mono fun e w2 ⟨v,he,ho,hb⟩=>by
  rw [hF] at ho;obtain ⟨ad,vc,rfl⟩:=fq ho;exact ⟨ad,vc,he,hb,h1.trans (hb.mono h1.size)⟩
 have HMA:Hid (∀w1,Bl W w1->Cl 65 #[.pointer (some ⟨mt,0,none⟩)] w1 fun e w2=>∃ad vc,e = .returned (.slice ad (bq tab).length vc)/\aU w2 (.slice ad (bq tab).length vc) (aD (bq tab))/\Bl w1 w2/\Bl W w2):=fun w1 h1=>(IC w1 (M.below h1) (by omega)).mono fun e w2 ⟨v,he,ho,hb⟩=>by
  have ho2:bR w2 w1.heap.size v (bq tab):=ho;obtain ⟨ad,vc,rfl⟩:=fq ho2;exact ⟨ad,vc,he,ho2.t,hb,h1.trans (hb.mono h1.size)⟩
 have HFR:Hid (∀w1,Bl W w1->Cl 30 #[.pointer (some ⟨tb,0,none⟩)] w1 fun e w2=>e = .returned (.int .i64 ((aE u).length:Int))/\Bl w1 w2/\Bl W w2):=fun w1 h1=>(pz w1 (T.below h1)).mono fun e w2 ⟨he,hb⟩=>⟨he,hb,h1.trans (hb.mono h1.size)⟩;have HSI:Hid (∀w1 v1 v2 l,aU w1 v1 l->aU w1 v2 l->l.length<=100000->Cl 21 #[v1,v2] w1 fun e w2=>e = .returned (.bool true)/\Bl w1 w2):=fun w1 v1 v2 l h1 h2 hl=>wb v1 v2 l w1 h1.at h2.at hl
 have HST:Hid (∀w1 k x,af tab k=some x->Bl W w1->Cl 39 #[.pointer (some ⟨tb,0,none⟩),.int .i64 (k:Int)] w1 fun e w2=>∃ad vc,e = .returned (.tuple #[.agg #[.int .i64 (x.bytes:Int),.int .i64 (x.links:Int),.bool x.exec,.slice ad x.blocks.length vc,.int .u32 (x.sum:Int)],.bool true])/\aU w2 (.slice ad x.blocks.length vc) (aD x.blocks)/\Bl w1 w2):=fun w1 k x hx h1=>(mP k x hx (by have:=(P.need hx).1;omega) w1 (T.below h1)).mono fun e w2 ⟨v,he,hv,hb⟩=>by
  obtain ⟨ad,vc,rfl,h⟩:=id hv;rw [cU] at hv he;exact ⟨ad,vc,he,hv,hb⟩
 have HSL:Hid (∀w1 k x,af tab k=some x->Bl W w1->w1.cell? ⟨mt,1,none⟩=some (.slice ia tab.length ic)/\∃g ad vc,ia=some ⟨g,0,none⟩/\w1.cell? ⟨g,k*6,none⟩=some (.bool true)/\w1.cell? ⟨g,k*6+1,none⟩=some (.int .i64 (x.bytes:Int))/\w1.cell? ⟨g,k*6+2,none⟩=some (.int .i64 (x.links:Int))/\w1.cell? ⟨g,k*6+3,none⟩=some (.bool x.exec)/\w1.cell? ⟨g,k*6+4,none⟩=some (.slice ad x.blocks.length vc)/\w1.cell? ⟨g,k*6+5,none⟩=some (.int .i64 (x.sum:Int))/\aU w1 (.slice ad x.blocks.length vc) (aD x.blocks)):=fun w1 k x hx h1=>by
  have M1:=M.below h1;refine ⟨M1.cells.2.1,?_⟩;obtain ⟨v,g,hv,e,hc,_⟩:=M1.slot (cO hx);have iv:=M1.its k x v (cO hx) hv;obtain ⟨ad,vc,rfl,h⟩:=id iv;rw [cU] at iv hc;exact ⟨g,ad,vc,e,hc 0 _ rfl,hc 1 _ rfl,hc 2 _ rfl,hc 3 _ rfl,hc 4 _ rfl,hc 5 _ rfl,iv⟩
 have HRD:Hid (∀w1 k x,af tab k=some x->Bl W w1->Cl 66 #[.pointer (some ⟨tb,0,none⟩),.int .i64 (k:Int)] w1 fun e w2=>∃s ev c,e = .returned (.tuple #[.string s,ev])/\Bl w1 w2/\Cl 62 #[.pointer (some ⟨mt,0,none⟩),.int .i64 (k:Int)] w2 fun e2 w3=>e2 = .returned (.tuple #[.string s,.int .i64 c])/\Bl w1 w3/\Cl 11 #[ev,.int .i64 c] w3 fun e3 w4=>e3 = .returned (.bool true)/\Bl w1 w4):=fun w1 k x hx h1=>Ij k x hx (Q.below h1) P S
 have HSM:Hid (∀j,j<(bq tab).length->∃k x,(bq tab)[j]? = some k/\af tab k=some x/\k<tab.length/\x.blocks.length<=1000/\x.sum<4294967296):=fun j hj=>by
  obtain ⟨x,hx⟩:=fw.1 (List.getElem_mem hj);exact ⟨_,x,jc hj,hx,aK hx,(P.need hx).1,(P.li _ x hx).2⟩
 have hal:=DN tab
 have HIA:Hid (∀ {w1:World} {ad:Option Addr} {vc j k:Nat},aU w1 (.slice ad (bq tab).length vc) (aD (bq tab))->(bq tab)[j]? = some k->∃b off,ad=some ⟨b,off,none⟩/\w1.cell? ⟨b,off+j,none⟩=some (.int .i64 (k:Int))):=fun h hk=>by
  obtain ⟨ad',c',e,hc⟩:=h.at;simp only [jo] at e;obtain ⟨b,off,e2,hc2⟩:=hc _ _ (by unfold aD;rw [jx,hk];rfl);exact ⟨b,off,by rw [e.1,e2],hc2⟩
 clear M T Q P S hO hF hn;obtain ⟨al,Hal⟩:∃al,Hid (al=aD (bq tab)):=⟨_,(rfl:_=_)⟩;rw [<-Hal.out] at HAL HMA HIA;obtain ⟨LL,HLL⟩:∃LL,Hid (LL=(bq tab).length):=⟨_,(rfl:_=_)⟩;have hal2:al.length<=100000:=by rw [Hal.out,cU];omega
 rw [<-HLL.out] at HAL HMA HIA HSM hal;clear HLL Hal;generalize (aE u).length=FR at *;go_enter Tryz.func24,Tryz.ntmps24
 go_wp2_with (first
  | (go_at_call 64;refine HAL.out.mono ?_;rintro e w1 ⟨ad1,vc1,rfl,i1,b1⟩;clear HAL)
  | (go_at_call 40;refine (HFM.out _ b1).mono ?_;rintro e w2 ⟨ad2,vc2,rfl,b12,b2⟩;clear HFM)
  | (go_at_call 65;refine (HMA.out _ b2).mono ?_;rintro e w3 ⟨ad3,vc3,rfl,i3,b23,b3⟩;clear HMA)
  | (go_at_call 21;refine (HSI.out _ _ _ al (i1.below (b12.trans (b23.mono b12.size))) i3 hal2).mono ?_;rintro e w4 ⟨rfl,b34⟩)
  | (go_at_call 30;refine (HFR.out _ (b3.trans (b34.mono b3.size))).mono ?_;rintro e w5 ⟨rfl,b45,b5⟩;clear HFR))
 have I5:aU w5 (.slice ad1 LL vc1) al:=i1.below ((b12.trans (b23.mono b12.size)).trans ((b34.trans (b45.mono b34.size)).mono (jm b12.size b23.size)));have HI5:=kH I5;have HB5:=kH b5;clear I5 b5 i1 i3 b1 b2 b3 b12 b23 b34 b45
 go_loopw [7] (fun i wr=>∃j:Nat,j<=LL/\i = .int .i64 j/\Bl w5 wr) (fun i _=>LL-(intOf i).toNat)
 case atStart=>exact ⟨0,jq _,rfl,je _ _⟩
 case round =>
  obtain ⟨j,hj,rfl,hb⟩:=hrel;have HB:=kH hb;clear hb;by_cases hlt:j<LL
  ·obtain ⟨k,x,hk,hx,hkl,hbl2,hsum⟩:=HSM.out j hlt
   have HBW:=kH (HB5.out.trans (HB.out.mono HB5.out.size));obtain ⟨b0,off,rfl,c0⟩:=HIA.out (HI5.out.below HB.out) hk;have HX:=HST.out wr k x hx HBW.out;have HIL:Hid ((aD x.blocks).length<=100000):=by show _<=_;rw [cU];omega
   have HXX:=kH hx;clear hk hx
   go_wp2_with (first
    | (go_at_call 39;refine HX.mono ?_;rintro e w6 ⟨ad6,vc6,rfl,i6,b6⟩;(have HB6:Hid (Bl W (w6.alloc (.cells #[.int .i64 (x.bytes:Int),.int .i64 (x.links:Int),.bool x.exec,.slice ad6 x.blocks.length vc6,.int .u32 (x.sum:Int)] 92))):=((HBW.out.trans (b6.mono HBW.out.size)).alloc (HBW.out.trans (b6.mono HBW.out.size)).size _));(obtain ⟨cm1,g,ad7,vc7,rfl,d0,d1,d2,d3,d4,d5,i7⟩:=HSL.out (w6.alloc (.cells #[.int .i64 (x.bytes:Int),.int .i64 (x.links:Int),.bool x.exec,.slice ad6 x.blocks.length vc6,.int .u32 (x.sum:Int)] 92)) k x HXX.out HB6.out);(have HI6:=kH i6);(have HI7:=kH i7);(have HBB6:=kH b6);clear i6 i7 b6 HX)
    | (go_at_call 21;refine (HSI.out _ _ _ (aD x.blocks) (HI6.out.below (((je _ w6).alloc (jd _) _).alloc (by simp) _)) (HI7.out.below ((je _ _).alloc (jd _) _)) HIL.out).mono ?_;rintro e w8 ⟨rfl,b8⟩;(have HB8:Hid (Bl W w8):=(HB6.out.alloc HB6.out.size _).trans (b8.mono (by have:=HB6.out.size;simp at this ⊢;omega)));(have HC8:Hid (Bl wr w8):=(((HBB6.out.alloc HBB6.out.size _).alloc (by have:=HBB6.out.size;simp;omega) _).trans (b8.mono (by have:=HBB6.out.size;simp;omega))));(have HR8:=HRD.out w8 k x HXX.out HB8.out);clear b8)
    | (go_at_call 66;refine HR8.mono ?_;rintro e w9 ⟨s,ev,c,rfl,b9,HR9⟩;clear b9 HR8)
    | (go_at_call 62;refine HR9.mono ?_;rintro e w10 ⟨rfl,b10,HR10⟩;clear b10 HR9)
    | (go_at_call 11;refine HR10.mono ?_;rintro e w11 ⟨rfl,b11⟩;clear HR10))
   have hb11:=HC8.out.trans (b11.mono HC8.out.size);exact ⟨⟨j+1,by omega,by simp,HB.out.trans (hb11.mono HB.out.size)⟩,by simp [intOf];omega⟩
  ·obtain rfl:j=LL:=by omega
   go_wp2_with fail
   go_ret;exact ⟨rfl,HB5.out.trans (HB.out.mono HB5.out.size)⟩
end
end
section
set_option maxRecDepth 100000
open Go.RowKit Go.Maps

structure Yi (d dp tb mw mt:Nat) (la:Option Addr) (lc LL:Nat) (ks:List Int) (W:World):Prop where
 ll:LL<=1000
 trees:Cl 41 #[.pointer (some ⟨dp,0,none⟩)] W fun e w1=>∃ad vc,e = .returned (.slice ad LL vc)/\aU w1 (.slice ad LL vc) ks/\Bl W w1
 table:∀w1,Bl W w1->Cl 29 #[.pointer (some ⟨dp,0,none⟩)] w1 fun e w2=>e = .returned (.pointer (some ⟨tb,0,none⟩))/\w2=w1
 asT:∀w1,Bl W w1->Cl 24 #[.pointer (some ⟨tb,0,none⟩),.pointer (some ⟨mt,0,none⟩)] w1 fun e w2=>e = .returned (.int .i64 1)/\Bl w1 w2
 box:∀w1,Bl W w1->w1.cell? ⟨mw,0,none⟩=some (.pointer (some ⟨mt,0,none⟩))/\w1.cell? ⟨mw,1,none⟩=some (.slice la LL lc)
 tree:∀i,i<LL->∃(k g:Nat) (va:Option Addr) (vc n:Nat),ks[i]? = some (k:Int)/\(Lit.int .i64 (k:Int)).wf=true/\la=some ⟨g,0,none⟩/\n<=40/\(∀w1,Bl W w1->w1.cell? ⟨g,i*6,none⟩=some (.int .i64 (k:Int))/\w1.cell? ⟨g,i*6+5,none⟩=some (.slice va n vc)) /\
  ∀r,r<n->∃(b:Nat) (p:ByteArray) (q:Nat),va=some ⟨b,0,none⟩/\∀w1,Bl W w1->w1.cell? ⟨b,r*2,none⟩=some (.string p)/\w1.cell? ⟨b,r*2+1,none⟩=some (.int .i64 (q:Int))/\Cl 45 #[.pointer (some ⟨dp,0,none⟩),.int .i64 (k:Int),.string p] w1 fun e w2=>e = .returned (.tuple #[.int .i64 (q:Int),.nilIface])/\Bl w1 w2
 get:∀w1 (k:Int),(Lit.int .i64 k).wf=true->Bl W w1->Cl 42 #[.pointer (some ⟨dp,0,none⟩),.int .i64 k] w1 fun e w2=>∃(t:ab) (v:Value) (c:Int) (ad:Option Addr) (cp:Nat),e = .returned (.tuple #[.agg #[.string t.kind,.string t.data,.bool t.exec,.slice ad t.kids.length cp],v])/\aA w2 w2.heap.size (d+1) t.kids (.slice ad t.kids.length cp)/\Bl w1 w2 /\
  ∀W2,Bl w2 W2->Cl 43 #[.pointer (some ⟨mw,0,none⟩),.int .i64 k] W2 fun e2 w3=>∃(ad2:Option Addr) (cp2:Nat),e2 = .returned (.tuple #[.agg #[.string t.kind,.string t.data,.bool t.exec,.slice ad2 t.kids.length cp2],.int .i64 c])/\aA w3 w3.heap.size (d+1) t.kids (.slice ad2 t.kids.length cp2)/\Bl W2 w3 /\
   ∀w4,Bl w3 w4->Cl 11 #[v,.int .i64 c] w4 fun e4 w5=>e4 = .returned (.bool true)/\Bl w4 w5
theorem CK {d:Nat} {t:ab} {v1 v2:Value} {w:World} (h1:aA w w.heap.size (d+1) t.kids v1) (h2:aA w w.heap.size (d+1) t.kids v2):Cl 44 #[.agg #[.string t.kind,.string t.data,.bool t.exec,v1],.agg #[.string t.kind,.string t.data,.bool t.exec,v2]] w fun e w'=>e = .returned (.bool true)/\Bl w w' :=
 (wu w.heap.size (d+1) t t v1 v2 w (jd _) h1 h2).mono fun e w' ⟨he,hb⟩=>⟨by rw [he,rX h1.fit],hb⟩
section
variable {a : Nat → Addr} {w0 W W' : World} {N d dp tb bb sp sb cap mb m1 m2 mw mt md j : Nat} {s s' : ay} {tr tr' : List (Option ah)} {pt pt' : List ab}
theorem B2.asD (E:fS a w0) (hsum:w0.cell? ⟨2,0,none⟩=some (.iface 329 (.pointer (some (a 10))))) (SN:bC a w0) (S:gg w0 N d dp tb bb sp sb cap mb m1 m2 mw mt md j s tr pt W) (hj:j<=50) (hd:d<=900) (hN5:N<=512) :
  ∃la lc,Yi d dp tb mw mt la lc (cf (d+1) 0 tr pt).length (aD (bK tr)) W:=by
 obtain ⟨la,lc,us,vs,M⟩:=S.M;have hR:=S.refs (by omega);have hkeys:=rA (D:=d+1) tr.length tr pt rfl S.I.len;have hlen:(bK tr).length=(cf (d+1) 0 tr pt).length:=by rw [<-hkeys,jB]
 have hR2:(bD (d+1) tr pt).length<=40*j:=by
  have h1:=kF (D:=d+1) (M:=40) (tr:=tr) (pt:=pt) fun t ht=>(S.few.2 t ht).files;have h2:=S.few.1;omega
 have hPI:pv N (40*j) s.bl s.u s.tab:=⟨S.I.rf.sp,hN5,fun q y hy=>⟨by have:=S.I.lk hy;omega,S.I.rf.sm q y hy⟩⟩;refine ⟨la,lc,S.few_mt (by omega),?_,fun w1 h1=>?_,fun w1 h1=>?_,fun w1 h1=>?_,fun i hi=>?_,fun w1 k hk h1=>?_⟩
 ·obtain ⟨n1,fb,hn1,D⟩:=S.D
  refine (rV D).mono ?_;rintro e w1 ⟨v,he,ho,hb⟩;have ht:=ho.t;obtain ⟨ad,vc,rfl⟩:=fq ho;rw [hlen] at he ht;exact ⟨ad,vc,he,ht,hb⟩
 ·obtain ⟨n1,fb,hn1,D⟩:=(S.below h1).D
  exact gO D
 ·have S1:=S.below h1
  obtain ⟨n,hn,T⟩:=S1.T;exact xV (N:=N) (i:=40*j) (by omega) ⟨⟨sp,sb,cap,mb,n,hn,T⟩,S1.Mt,S1.low,rfl,S1.ge.2.2,S1.ge.2.1⟩ hPI SN
 ·exact ⟨(M.below h1).cells.1,(M.below h1).cells.2.1⟩
 ·obtain ⟨y,hy⟩:∃y,(cf (d+1) 0 tr pt)[i]? = some y:=⟨_,jc hi⟩
  obtain ⟨jj,x,t,e1,e2,e3⟩:=gk _ _ _ _ (jg hy);have hfs:=S.few_fs y (jg hy);obtain ⟨g,ua,uc,va,vc,hla,_,hv,_⟩:=M.at hy;have hjl:jj<tr.length:=(jb.1 e1).1;have hky:y.k=jj:=by rw [e3];show 0+jj=jj;omega
  have hjs:jj<=1000000:=(by have h1:=S.I.len;have h2:=S.few.1;omega);refine ⟨y.k,g,va,vc,y.fs.length,?_,by rw [hky];exact dK hjs,hla,hfs,fun w1 h1=>?_,fun r hr=>?_⟩
  ·rw [<-hkeys]
   unfold aD;rw [jx,jx,hy];rfl
  ·obtain ⟨g',_,_,va',vc',hla',_,hv',c0,_,_,_,_,c5⟩:=(M.below h1).at hy
   rw [hla] at hla';rw [hv] at hv';cases hla'
   cases hv'
   exact ⟨c0,c5⟩
  ·obtain ⟨f,hf⟩:∃f,y.fs[r]? = some f:=⟨_,jc hr⟩
   obtain ⟨b,cp,ev,_⟩:=gJ (M.files i y _ hy hv) hf;simp only [jo] at ev;have hx:aY tr (jj:Int)=some x:=by rw [cD,e1];rfl
   have hfx:x.fs[r]? = some f:=(by rw [e3] at hf;exact hf);obtain ⟨t',et,hw,hft,hxt,hfp⟩:=S.I.tree jj x hx;rw [e2] at et;cases et
   have hp:f.1∈(aj (d+1) t).map (·.1):=(by rw [<-hfp];exact jv.2 ⟨f,jg hfx,rfl⟩);obtain ⟨z,hz,hzf⟩:=jv.1 hp;obtain ⟨q,k1,_,_,k4⟩:=S.I.ino hx e2 hz;rw [hzf] at k1 k4;have hq:q=f.2:=uz (S.I.cnt hx (by omega)).2 (dC x.fs k1) (jg hfx);subst hq;have hps:f.1.size<=1000000:=by rw [<-hzf];have:=(gU hw (by omega) z hz).2;omega
   refine ⟨b,f.1,f.2,ev.1,fun w1 h1=>?_⟩;obtain ⟨b',cp',ev',_,c0,c1⟩:=gJ ((M.below h1).files i y _ hy hv) hf;simp only [jo] at ev';have eb:=ev.1.symm.trans ev'.1;cases eb
   refine ⟨c0,c1,?_⟩;have S1:=S.below h1;obtain ⟨PS,SB⟩:=S1.sents E;obtain ⟨n1,fb,hn1,D⟩:=S1.D
   have:=nI a (y.k:Int) f.1 (by rw [hky];exact dK hjs) hps PS D
   rw [hky,k4] at this;rw [hky];exact this
 ·have S1:=S.below h1
  refine (IJ E hsum S1 (by omega) hd k hk).mono ?_;rintro e w2 ⟨t,v,c,⟨ad,cp,he,hl⟩,hc,hb,hg⟩;refine ⟨t,v,c,ad,cp,he,hl,hb,fun W2 h2=>(hg W2 h2).mono ?_⟩;rintro e2 w3 ⟨⟨ad2,cp2,he2,hl2⟩,hb2⟩;exact ⟨ad2,cp2,he2,hl2,hb2,fun w4 h4=>lr SN ((((S1.below hb).below h2).below hb2).below h4).low hc⟩
end
end
section
set_option maxRecDepth 100000
open Go.RowKit Go.Maps

section
variable {W : World} {d dp tb mw mt lc LL : Nat} {la : Option Addr} {ks : List Int}
theorem GJ {w1:World} {ad:Option Addr} {vc j:Nat} {k:Int} (h:aU w1 (.slice ad LL vc) ks) (hk:ks[j]? = some k):∃b off,ad=some ⟨b,off,none⟩/\w1.cell? ⟨b,off+j,none⟩=some (.int .i64 k):=by
 obtain ⟨ad',c',e,hc⟩:=h.at;simp only [jo] at e;obtain ⟨b,off,e2,hc2⟩:=hc _ _ hk;exact ⟨b,off,by rw [e.1,e2],hc2⟩
theorem AZ (A:Yi d dp tb mw mt la lc LL ks W) :
  Cl 14 #[.pointer (some ⟨dp,0,none⟩),.pointer (some ⟨mw,0,none⟩)] W fun e w'=>e = .returned (.int .i64 1)/\Bl W w':=by
 have hll:=A.ll;have HTR:=A.trees;have HBX:Hid _:=A.box;have HTB:Hid _:=A.table;have HAT:Hid _:=A.asT;have HTE:Hid _:=A.tree;have HGT:Hid _:=A.get;clear A;go_enter Tryz.func14,Tryz.ntmps14
 go_wp2_with (first
  | (go_at_call 41;refine HTR.mono ?_;rintro e w1 ⟨ad1,vc1,rfl,i1,b1⟩;(have HI1:=kH i1);(have HB1:=kH b1);clear HTR i1 b1))
 have HBD:=kH (HB1.out.trans ((cW w1).mono HB1.out.size));refine zh (S:=fun w'=>w'.cell? ⟨mw,0,none⟩=some (.pointer (some ⟨mt,0,none⟩))/\w'.cell? ⟨mw,1,none⟩=some (.slice la LL lc)) (by kernel_rfl) (HBX.out _ HBD.out) (fun hHeld=>?_);refine bm [(0,.slice ad1 LL vc1),(1,iZ LL),(2,pZ mw 0),(3,pZ mw 0),(4,pZ mw 1),(5,.slice la LL lc),(6,iZ LL),(7,.bool false),(8,.bool false),(9,pZ dp 0),(11,pZ mw 0),(12,pZ mw 0),(13,pZ mw 0),(14,pZ mt 0)] hHeld ?_;refine aQ 10 rfl fun K' hK=>?_;simp only [ap];go_simp;refine jk (HTB.out _ HBD.out) ?_;rintro e wx ⟨rfl,hw⟩;rw [hw];clear hw;go_wp2_with fail
 refine hK.out _ _ (HBX.out _ HBD.out) (fun hHeld=>?_);clear hK K';refine aQ 15 rfl fun K' hK=>?_;simp only [ap];go_simp;refine jk (HAT.out _ HBD.out) ?_;rintro e wx ⟨rfl,b2⟩;go_wp2_with fail
 refine hK.out _ _ (HBX.out _ (HBD.out.trans (b2.mono HBD.out.size))) (fun hHeld=>?_);clear hK K';refine bm [(16,.bool false),(17,.bool false)] hHeld ?_;refine zk (by kernel_rfl) ?_ _;go_wp2_with fail
 have HI2:=kH ((HI1.out.below (cW w1)).below b2);have HB2:=kH (HBD.out.trans (b2.mono HBD.out.size));clear HI1 HB1 HBD HTB HAT b2
 go_loopw [6] (fun i wr=>∃j:Nat,j<=LL/\i = .int .i64 j/\Bl wx wr) (fun i _=>LL-(intOf i).toNat)
 case atStart=>exact ⟨0,jq _,rfl,je _ _⟩
 case round =>
  obtain ⟨j,hj,rfl,hb⟩:=hrel;have HB:=kH hb;have HBW:=kH (HB2.out.trans (hb.mono HB2.out.size));clear hb;by_cases hlt:j<LL
  ·obtain ⟨k,g,va,vc,n,hk,hkw,rfl,hn,hcl,hfl⟩:=HTE.out j hlt
   obtain ⟨b0,off,rfl,c0⟩:=GJ HI2.out hk;have HIX0:Hid (∀w',Bl wx w'->w'.cell? ⟨b0,off+j,none⟩=some (.int .i64 (k:Int))):=fun w' h=>(h.cell (p:=⟨b0,off+j,none⟩) (ji wx _ c0)).trans c0;have HCL:Hid _:=hcl;have HFL:Hid _:=hfl;have HKW:Hid _:=hkw;clear hk hcl hfl c0 hkw HTE;obtain ⟨cm0,cm1⟩:=HBX.out wr HBW.out;obtain ⟨cg0,cg5⟩:=HCL.out wr HBW.out;have ci:=HIX0.out wr HB.out;go_wp2_with fail
   go_quiet (fail)
   go_wp2_with fail
   have HBN:=kH (HBW.out.trans ((gD wr nq).mono HBW.out.size));have HBM:=kH (HB.out.trans ((gD wr nq).mono HB.out.size));refine (HGT.out _ _ HKW.out HBN.out).mono ?_;rintro e w2 ⟨t,v,c,ad,cp,rfl,l2,b2,hg⟩;have HL2:=kH l2;have HG:Hid _:=hg;have HBC:=kH (HBM.out.trans (b2.mono HBM.out.size));clear l2 hg b2 cm0 cm1 cg0 cg5 ci HBN HBM;have HB3:Hid (Bl w2 (w2.alloc (.cells #[.string t.kind,.string t.data,.bool t.exec,.slice ad t.kids.length cp] 32))):=(je _ w2).alloc (jd _) _;have ci:=HIX0.out _ (HBC.out.trans (HB3.out.mono HBC.out.size));go_wp2_with fail
   refine (HG.out _ HB3.out).mono ?_;rintro e w4 ⟨ad2,cp2,rfl,l4,b4,hcd⟩;have HL4:=kH l4;have HCD:Hid _:=hcd;have HB24:=kH (HB3.out.trans (b4.mono HB3.out.size));have HB5:Hid (Bl w4 (w4.alloc (.cells #[.string t.kind,.string t.data,.bool t.exec,.slice ad2 t.kids.length cp2] 32))):=(je _ w4).alloc (jd _) _;have HB25:=kH (HB24.out.trans (HB5.out.mono HB24.out.size));have hs3:(w2.alloc (.cells #[.string t.kind,.string t.data,.bool t.exec,.slice ad t.kids.length cp] 32)).heap[w2.heap.size]? = some (.cells #[.string t.kind,.string t.data,.bool t.exec,.slice ad t.kids.length cp] 32 (0,0)):=heap_alloc_last w2 _;have hs4:=(b4.block _ (ja.1 hs3).1).trans hs3;have hs5:=(HB5.out.block _ (ja.1 hs4).1).trans hs4;have g0:(w4.alloc (.cells #[.string t.kind,.string t.data,.bool t.exec,.slice ad2 t.kids.length cp2] 32)).cell? ⟨w2.heap.size,0,none⟩=some (.string t.kind):=by rw [ze _ _ _ _ _ _ hs5];rfl
   have g1:(w4.alloc (.cells #[.string t.kind,.string t.data,.bool t.exec,.slice ad2 t.kids.length cp2] 32)).cell? ⟨w2.heap.size,1,none⟩=some (.string t.data):=(by rw [ze _ _ _ _ _ _ hs5];rfl);have g2:(w4.alloc (.cells #[.string t.kind,.string t.data,.bool t.exec,.slice ad2 t.kids.length cp2] 32)).cell? ⟨w2.heap.size,2,none⟩=some (.bool t.exec):=by rw [ze _ _ _ _ _ _ hs5];rfl
   have g3:(w4.alloc (.cells #[.string t.kind,.string t.data,.bool t.exec,.slice ad2 t.kids.length cp2] 32)).cell? ⟨w2.heap.size,3,none⟩=some (.slice ad t.kids.length cp):=(by rw [ze _ _ _ _ _ _ hs5];rfl);have HL25:Hid (aA (w4.alloc (.cells #[.string t.kind,.string t.data,.bool t.exec,.slice ad2 t.kids.length cp2] 32)) (w4.alloc (.cells #[.string t.kind,.string t.data,.bool t.exec,.slice ad2 t.kids.length cp2] 32)).heap.size (d+1) t.kids (.slice ad t.kids.length cp)):=(HL2.out.below HB25.out (jd _)).up HB25.out.size (jd _);have HL45:Hid (aA (w4.alloc (.cells #[.string t.kind,.string t.data,.bool t.exec,.slice ad2 t.kids.length cp2] 32)) (w4.alloc (.cells #[.string t.kind,.string t.data,.bool t.exec,.slice ad2 t.kids.length cp2] 32)).heap.size (d+1) t.kids (.slice ad2 t.kids.length cp2)):=(HL4.out.below HB5.out (jd _)).up HB5.out.size (jd _);have HBE:=kH (HBC.out.trans (HB25.out.mono HBC.out.size));clear hs3 hs4 hs5 l4 hcd b4 ci HG HL2 HL4
   go_wp2_with (first
    | (go_at_call 44;refine (CK HL25.out HL45.out).mono ?_;rintro e w6 ⟨rfl,b6⟩;(have HB56:=kH (HB5.out.trans (b6.mono HB5.out.size)));(have HBF:=kH (HBE.out.trans (b6.mono HBE.out.size)));clear b6)
    | (go_at_call 11;refine (HCD.out _ HB56.out).mono ?_;rintro e w7 ⟨rfl,b7⟩;(have HBQ:=kH (HBF.out.trans (b7.mono HBF.out.size)));clear b7))
   clear HCD HL25 HL45 HBE HBF HB56 HB5 HB25 HB24 HB3 g0 g1 g2 g3 HGT
   go_loopw [12] (fun i wr=>∃m:Nat,m<=n/\i = .int .i64 m/\Bl w7 wr) (fun i _=>n-(intOf i).toNat)
   case atStart=>exact ⟨0,jq _,rfl,je _ _⟩
   case round =>
    obtain ⟨m,hm,rfl,hbv⟩:=hrel;have HBR:=kH (HBQ.out.trans (hbv.mono HBQ.out.size));have HBS:Hid (∀w',Bl wx w'->Bl W w'):=fun w' h=>HB2.out.trans (h.mono HB2.out.size);have HB7:=kH hbv;clear hbv;obtain ⟨cm0,cm1⟩:=HBX.out wr (HBS.out _ HBR.out);obtain ⟨_,cg5⟩:=HCL.out wr (HBS.out _ HBR.out);by_cases hmn:m<n
    ·obtain ⟨bf,p,q,rfl,hf⟩:=HFL.out m hmn
     have HF:Hid _:=hf;clear hf;have HBV:=kH (HBR.out.trans ((cW wr).mono HBR.out.size));have HS19:Hid (∀w',Bl wx w'->w'.cell? ⟨b0,off+j,none⟩=some (.int .i64 (k:Int))/\w'.cell? ⟨mw,1,none⟩=some (.slice (some ⟨g,0,none⟩) LL lc)/\w'.cell? ⟨g,j*6+5,none⟩=some (.slice (some ⟨bf,0,none⟩) n vc)/\w'.cell? ⟨bf,m*2,none⟩=some (.string p)):=fun w' h=>⟨HIX0.out w' h,(HBX.out w' (HBS.out _ h)).2,(HCL.out w' (HBS.out _ h)).2,(HF.out w' (HBS.out _ h)).1⟩;go_wp2_with fail
     refine zh (S:=fun w'=>w'.cell? ⟨b0,off+j,none⟩=some (.int .i64 (k:Int))/\w'.cell? ⟨mw,1,none⟩=some (.slice (some ⟨g,0,none⟩) LL lc)/\w'.cell? ⟨g,j*6+5,none⟩=some (.slice (some ⟨bf,0,none⟩) n vc)/\w'.cell? ⟨bf,m*2,none⟩=some (.string p)) (by kernel_rfl) (HS19.out _ HBV.out) (fun hHeld=>?_);refine bm [(0,pZ dp 0),(1,.slice (some ⟨b0,off,none⟩) LL vc1),(2,iZ j),(3,pZ b0 (off+j)),(4,iZ k),(5,pZ mw 0),(6,pZ mw 0),(7,pZ mw 1),(8,.slice (some ⟨g,0,none⟩) LL lc),(9,iZ j),(10,pZ g (j*6)),(11,pZ g (j*6+5)),(12,.slice (some ⟨bf,0,none⟩) n vc),(13,iZ m),(14,pZ bf (m*2)),(15,pZ bf (m*2)),(16,.string p)] hHeld ?_;refine aQ 17 rfl fun K' hK=>?_;simp only [ap];go_simp;refine jk ((HF.out _ (HBS.out _ HBV.out)).2.2) ?_;rintro e wx ⟨rfl,b20⟩;go_wp2_with fail
     refine hK.out _ _ (HS19.out _ (HBV.out.trans (b20.mono HBV.out.size))) (fun hHeld=>?_);clear hK K';refine bm [(18,.tuple #[.int .i64 (q:Int),.nilIface]),(19,iZ q),(20,.nilIface)] hHeld ?_;refine aQ 21 rfl fun K' hK=>?_;simp only [ap];go_simp;go_wp2_with fail
     refine hK.out _ _ (HS19.out _ (HBV.out.trans (b20.mono HBV.out.size))) (fun hHeld=>?_);clear hK K';refine aQ 22 rfl fun K' hK=>?_;simp only [ap];go_simp;go_wp2_with fail
     refine hK.out _ _ (HS19.out _ (HBV.out.trans (b20.mono HBV.out.size))) (fun hHeld=>?_);clear hK K';refine zk (by kernel_rfl) ?_ _;have HBZ:Hid _:=HBV.out.trans (b20.mono HBV.out.size);have HBU:=HB7.out.trans ((cW wr).mono HB7.out.size);have HBY:=kH (HBU.trans (b20.mono HBU.size));obtain ⟨z0,z1⟩:=HBX.out _ (HBS.out _ HBZ.out);obtain ⟨_,z5⟩:=HCL.out _ (HBS.out _ HBZ.out);obtain ⟨_,zf,_⟩:=HF.out _ (HBS.out _ HBZ.out);clear b20 cm0 cm1 cg5 HBU;go_wp2_with fail
     exact ⟨⟨m+1,by omega,by simp,HBY.out⟩,by simp [intOf];omega⟩
    ·obtain rfl:m=n:=by omega
     go_wp2_with fail
     exact ⟨⟨j+1,by omega,by simp,HBR.out⟩,by simp [intOf];omega⟩
  ·obtain rfl:j=LL:=by omega
   go_wp2_with fail
   go_ret;exact ⟨rfl,HBW.out⟩
end
end
end Go.Proofs.YtcflefeedcihjaaGreatDoor
