/-
  Oi Oj Shaped LaidOp, joined.
  Conditions: those that each states.
-/
import Derived.Test.YtcflefeedcihjaaGreatDoorQ43
import Derived.Handed
import Derived.Shelf.Vars
import Derived.Deep.Strs
import Derived.Lay
namespace Go.Proofs.YtcflefeedcihjaaGreatDoor
set_option maxHeartbeats 4000000
section
set_option maxRecDepth 100000
open Go.RowKit Go.Maps

theorem td (er:Value) (M:Int) (w:World) (hE:w.cell? ⟨0,0,none⟩=some er):Cl 36 #[.pointer none,.int .i64 M] w fun e w'=>e = .returned (.tuple #[.int .i64 0,er])/\Bl w w':=by
 go_enter Tryz.func36,Tryz.ntmps36;go_wp2_with fail
 go_region
 all_goals
  go_wp2_with fail
  go_ret2;exact ⟨rfl,(je _ _).drew⟩
theorem E7 (er:Value) (w:World) (hE:w.cell? ⟨0,0,none⟩=some er):Cl 9 #[.pointer none] w fun e w'=>e = .returned (.tuple #[.bool false,er])/\Bl w w':=by
 have HS:=td er 1 w hE;clear hE;go_enter Tryz.func9,Tryz.ntmps9
 go_wp2_with (go_at_call 36;refine HS.mono ?_;rintro e w1 ⟨rfl,hb⟩)
 go_ret2;exact ⟨rfl,hb⟩
theorem all_nil (er:Value) (w:World) (hE:w.cell? ⟨0,0,none⟩=some er):Cl 10 #[.pointer none] w fun e w'=>e = .returned (.tuple #[.int .i64 0,er])/\Bl w w':=by
 have HS:=td er 9223372036854775807 w hE;clear hE;go_enter Tryz.func10,Tryz.ntmps10
 go_wp2_with (go_at_call 36;refine HS.mono ?_;rintro e w1 ⟨rfl,hb⟩)
 go_ret2;exact ⟨rfl,hb⟩
theorem CL (w:World):Cl 38 #[.pointer none] w fun e w'=>e = .returned (.slice none 0 0)/\Bl w w':=by
 have HF:Hid (∀W,Cl 41 #[.pointer none] W fun e w'=>e = .returned (.slice none 0 0)/\Bl W w'):=fun W=>by
  go_enter Tryz.func41,Tryz.ntmps41;go_wp2_with fail
  go_ret;exact ⟨rfl,je _ _⟩
 go_enter Tryz.func38,Tryz.ntmps38
 go_wp2_with (go_at_call 41;refine jk (HF.out _) ?_;rintro e w1 ⟨rfl,hb⟩)
 go_loopw [3,11] (fun lv iv wr=>lv = .slice none 0 0/\iv = .int .i64 0/\Bl w wr) (fun _ _ _=>0)
 case atStart=>exact ⟨rfl,rfl,hb⟩
 case round =>
  obtain ⟨rfl,rfl,hbr⟩:=hrel;go_wp2_with fail
  go_ret;exact ⟨rfl,hbr⟩
theorem CM (w:World):Cl 12 #[.pointer none] w fun e w'=>e = .returned (.int .i64 0)/\Bl w w':=by
 have HF:Hid (∀W,Cl 38 #[.pointer none] W fun e w'=>e = .returned (.slice none 0 0)/\Bl W w'):=fun W=>CL W;have hmm := @run_makeMap Tryz.prog;go_enter Tryz.func12,Tryz.ntmps12
 go_wp2_with (go_at_call 38;refine jk (HF.out _) ?_;rintro e w1 ⟨rfl,hb⟩)
 have hb2:Bl w w1:=((je _ w).alloc (jd _) (.map #[] 0)).trans (hb.mono (by simp));clear hb
 go_loopw [3,15] (fun sv iv wr=>sv = .int .i64 0/\iv = .int .i64 0/\Bl w wr) (fun _ _ _=>0)
 case atStart=>exact ⟨rfl,rfl,hb2⟩
 case round =>
  obtain ⟨rfl,rfl,hbr⟩:=hrel;go_wp2_with fail
  go_ret;exact ⟨rfl,hbr⟩
section
variable {a : Nat → Addr} {w0 W W' : World} {N d dp tb bb sp sb cap mb m1 m2 mw mt md j : Nat} {s : ay} {tr : List (Option ah)} {pt : List ab}
theorem GK (E:fS a w0) (S:gg w0 N d dp tb bb sp sb cap mb m1 m2 mw mt md j s tr pt W) (hj:j<=100) (hd:d<=900) (hN:N<=512) :
  Cl 12 #[.pointer (some ⟨dp,0,none⟩)] W fun e w1=>∃z:Int,e = .returned (.int .i64 z)/\Bl W w1/\∀W2,Bl w1 W2->Cl 13 #[.pointer (some ⟨mw,0,none⟩)] W2 fun e2 w2=>e2 = .returned (.int .i64 z)/\Bl W2 w2:=by
 obtain ⟨n1,fb,hn1,D⟩:=S.D;obtain ⟨n,hn,T⟩:=S.T;obtain ⟨PS,_⟩:=S.sents E;have O:=S.ok (by omega) hd;have hO:=S.tok (by omega);have hR:=S.refs (by omega);have hfl:=congrArg List.length S.I.fl;rw [jB,jB] at hfl
 have han:(bK tr).length<=1000000:=by
  have h1:(bK tr).length<=tr.length:=(by unfold bK;exact jm (qu _ _) (by rw [List.length_range];exact jd _));have h2:=S.I.len;have h3:=S.few.1;omega
 have hsv:=S.I.saved;have hFM:=S.I.rf.sp.freeM;have hbl:=S.I.rf.sp.lbl;have hfr:(aE s.u).length<=N:=by have:=S.I.rf.sp.free_len;omega
 have hbm:ol s.tab (cf (d+1) 0 tr pt)=(((ai tr).map (·.2.2)).map (bI s.tab)).sum:=by rw [<-AV,oj S.I.len]
 have hsm:(((ai tr).map (·.2.2)).map (bI s.tab)).sum<=100000000:=by
  have h:∀l:List (Nat×ByteArray×Nat),(∀f∈l,bI s.tab f.2.2<=1000)->((l.map (·.2.2)).map (bI s.tab)).sum<=l.length*1000:=fun l=>by
   induction l with
   | nil=>intro _;exact jd _
   | cons f l ih =>
    intro h;have h1:=ih fun g hg=>h g (jw _ hg);have h2:=h f jy;simp only [jH,List.sum_cons,jz];omega
  have h1:=h (ai tr) fun f hf=>by
   obtain ⟨_,_,_,_,y,hy⟩:=S.I.file (k:=f.1) (p:=f.2.1) (q:=f.2.2) O hf;unfold bI;rw [hy];exact (hO.ino _ y hy).2.1
  omega
 refine (uo PS D T O (by omega) han fun f hf=>?_).mono fun e w1 ⟨he,hb⟩=>⟨_,he,hb,fun W2 h2=>?_⟩
 ·obtain ⟨_,_,_,_,y,hy⟩:=S.I.file (k:=f.1) (p:=f.2.1) (q:=f.2.2) O hf
  exact ⟨by have:=aK hy;have:=S.tl;omega,y,hy,(hO.ino _ y hy).2.1⟩
 ·have S2:=(S.below hb).below h2
  obtain ⟨la,lc,us,vs,M⟩:=S2.M;obtain ⟨la2,lc2,ia,ic,vs2,Mt⟩:=S2.Mt;have htl:=S.tl;refine (E1 M Mt ⟨by omega,fun q y hy=>(hO.ino q y hy).2.1⟩ (by omega) (S.few_mt (by omega)) (fun y hy=>jm (S.few_fs y hy) (by omega)) (fun y hy f hf=>?_) (by rw [hbm];exact hsm)).mono fun e2 w2 ⟨he2,hb2⟩=>⟨?_,hb2⟩
  ·obtain ⟨i,x,t,h1,h2,h3⟩:=gk _ _ _ _ hy
   rw [h3] at hf;obtain ⟨_,_,_,_,h⟩:=S.I.file O (lm.2 ⟨x,by rw [cD,h1];rfl,hf⟩);exact h
  ·rw [he2,hbm,hbl,hFM]
   congr 2
   omega
theorem xW (E:fS a w0) (SN:bC a w0) (S:gg w0 N d dp tb bb sp sb cap mb m1 m2 mw mt md j s tr pt W) (hj:j<=50) (hd:d<=900) (hN5:N<=512) (x:ed) (ua:Option Addr) (uc:Nat) (hk:(Lit.int .i64 x.k).wf=true) (hn:(Lit.int .i64 x.n).wf=true) (hp:x.path.size<=100) (hsm:fQ d x.node) (hl:aA w0 w0.heap.size (d+1) x.node.kids (.slice ua x.node.kids.length uc)) :
  Cl 8 #[.pointer (some ⟨dp,0,none⟩),.pointer (some ⟨mw,0,none⟩),.agg #[.string x.kind,.string x.path,.string x.s,.string x.node.kind,.string x.node.data,.bool x.node.exec,.slice ua x.node.kids.length uc,.int .i64 x.k,.int .i64 x.n,.int .i64 x.bit]] W fun e w'=>e = .returned (.bool true)/\eA w0 N d dp tb bb sp sb cap mb m1 m2 mw mt md (j+1) w':=by
 have hbw:Bl W (W.alloc (.cells #[.string x.kind,.string x.path,.string x.s,.string x.node.kind,.string x.node.data,.bool x.node.exec,.slice ua x.node.kids.length uc,.int .i64 x.k,.int .i64 x.n,.int .i64 x.bit] 34)):=(je _ W).alloc (jd _) _;have S1:=S.below hbw;have HPT:=kH (wY E SN.c10 SN S1 hj hd hN5 x ua uc hk hn hp hsm hl)
 have HSP:Hid (Cl 9 #[.pointer (some ⟨dp,0,none⟩)] (W.alloc (.cells #[.string x.kind,.string x.path,.string x.s,.string x.node.kind,.string x.node.data,.bool x.node.exec,.slice ua x.node.kids.length uc,.int .i64 x.k,.int .i64 x.n,.int .i64 x.bit] 34)) fun e w1=>∃bv:Bool,e = .returned (.tuple #[.bool bv,.nilIface])/\Cl 33 #[.pointer (some ⟨mw,0,none⟩)] w1 fun e2 w2=>e2 = .returned (.bool bv)/\eA w0 N d dp tb bb sp sb cap mb m1 m2 mw mt md (j+1) w2) :=
  (Ii E S1 (by omega) hd ⟨_,SN.c10⟩).mono fun e w1 ⟨bv,he,_,h⟩=>⟨bv,he,h.mono fun e2 w2 ⟨he2,_,hE⟩=>⟨he2,hE.up (by omega)⟩⟩
 have HAP:Hid (Cl 10 #[.pointer (some ⟨dp,0,none⟩)] (W.alloc (.cells #[.string x.kind,.string x.path,.string x.s,.string x.node.kind,.string x.node.data,.bool x.node.exec,.slice ua x.node.kids.length uc,.int .i64 x.k,.int .i64 x.n,.int .i64 x.bit] 34)) fun e w1=>∃z:Int,e = .returned (.tuple #[.int .i64 z,.nilIface])/\Cl 34 #[.pointer (some ⟨mw,0,none⟩)] w1 fun e2 w2=>e2 = .returned (.int .i64 z)/\eA w0 N d dp tb bb sp sb cap mb m1 m2 mw mt md (j+1) w2) :=
  (IK E S1 (by omega) hd ⟨_,SN.c10⟩).mono fun e w1 ⟨bv,he,_,h⟩=>⟨bv,he,h.mono fun e2 w2 ⟨he2,_,hE⟩=>⟨he2,hE.up (by omega)⟩⟩
 clear E SN S S1 hbw hl hsm;go_enter Tryz.func8,Tryz.ntmps8
 cases kst:(x.kind.toList == [115,116,101,112]) with
 | true =>
  go_wp2_with (first
   | (go_at_call 9;refine HSP.out.mono ?_;rintro e w1 ⟨bv,rfl,H2⟩;clear HSP)
   | (go_at_call 33;refine H2.mono ?_;rintro e w2 ⟨rfl,HE⟩;clear H2))
  go_ret;exact ⟨by simp,HE⟩
 | false =>
  cases kal:(x.kind.toList == [97,108,108]) with
  | true =>
   go_wp2_with (first
    | (go_at_call 10;refine HAP.out.mono ?_;rintro e w1 ⟨z,rfl,H2⟩;clear HAP)
    | (go_at_call 34;refine H2.mono ?_;rintro e w2 ⟨rfl,HE⟩;clear H2))
   go_ret;exact ⟨by simp,HE⟩
  | false =>
   go_wp2_with (go_at_call 35;refine HPT.out.mono ?_;rintro e w1 ⟨rfl,HE⟩;clear HPT)
   go_ret;exact ⟨rfl,HE⟩
end
end
section
set_option maxRecDepth 100000
open Go.RowKit Go.Maps

theorem xX (a:Nat->Addr) (M:Int) (nA:Nat) (v:Value) (l:List ed) (w:World) (hv:ir w nA l v) (E:fS a w) (SN:bC a w) :
  Cl 3 #[.int .i64 M,v] w fun e w'=>e = .returned (.bool true)/\Bl w w':=by
 have HDR:Hid (Cl 5 #[] w fun e w'=>e = .returned (.bool true)/\Bl w w'):=AX a E ⟨_,SN.c10⟩;have HLT:Hid (∀W,Bl w W->Cl 6 #[v] W fun e w'=>(∃r,e = .returned (.bool r)/\(r=false->sg l))/\Bl W w'):=fun W hW=>u0 nA l v W (hv.below hW);obtain ⟨ad,vcap,rfl,_⟩:=id hv;have HV:Hid (sg l->∀i c,l[i]? = some c->∃ua uc,An w ad i c ua uc):=fun hs i c hc=>FT hv hs hc;have HE:=kH E;have HSN:=kH SN;clear hv E SN;by_cases hM:1<=M/\M<=60
 ·obtain ⟨N,rfl⟩:∃N:Nat,M=(N:Int):=⟨M.toNat,by omega⟩
  have hN1:1<=N:=(by omega);have hN2:N<=60:=(by omega);have hi1:¬(N:Int)<1:=(by omega);have hi2:¬(60:Int)<(N:Int):=by omega
  have HTO:Hid (∀W,Bl w W->Cl 7 #[.int .i64 (N:Int)] W fun e w'=>∃dp tb bb sp sb cap mb m1 m2 mw mt md,e = .returned (.tuple #[.pointer (some ⟨dp,0,none⟩),.pointer (some ⟨mw,0,none⟩),.bool true])/\eA w N 11 dp tb bb sp sb cap mb m1 m2 mw mt md 0 w'):=fun W hW =>
   (sf w.heap.size N 11 (fun _=>0) hN1 (by omega) W hW.size).mono fun e w' ⟨dp,tb,bb,sp,sb,cap,mb,m1,m2,md,mt,mw,he,D,T,⟨⟨la,lc,Mk⟩,hmt,hmw,l1,l2,l3⟩,hb⟩ =>
    ⟨dp,tb,bb,sp,sb,cap,mb,m1,m2,mw,mt,md,he,⟨List.replicate N zb,List.replicate N false,[]⟩,[],[],⟨0,_,jd _,D⟩,⟨0,jq _,T⟩,⟨none,0,[],[],hmw,rfl,rfl,qt _ _ _ _,fun i x u h=>by simp [cf] at h,fun i x u h=>by simp [cf] at h,fun i j u u' b h=>by simp at h⟩,⟨la,lc,none,0,[],hmt,Mk,qt _ _ _ _,rfl,fun k x u h=>by simp at h⟩,cM.start N 12,⟨jd _,fun t ht=>by cases ht⟩,hW.trans (hb.mono hW.size),⟨jm hW.size l3,jm hW.size l2,jm hW.size l1⟩,jq _⟩
  clear hM;go_enter Tryz.func3,Tryz.ntmps3
  go_wp2_with (first
   | (go_at_call 5;refine HDR.out.mono ?_;rintro e w1 ⟨rfl,hb1⟩;clear HDR)
   | (go_at_call 6;refine (HLT.out _ hb1).mono ?_;rintro e w2 ⟨⟨r,rfl,hr⟩,hb2⟩;(have HB2:=kH (hb1.trans (hb2.mono hb1.size)));(have HR:=kH hr);clear hr hb1 hb2 HLT;cases r))
  ·obtain ⟨hl25,hsh⟩:=HR.out (by first|rfl|trivial)
   have HVV:Hid (∀i c,l[i]? = some c->∃ua uc,An w ad i c ua uc):=HV.out (HR.out (by first|rfl|trivial));refine jk (HTO.out _ HB2.out) ?_;rintro e w3 ⟨dp,tb,bb,sp,sb,cap,mb,m1,m2,mw,mt,md,rfl,L0⟩;have HL0:=kH L0;clear L0 hsh HTO HB2 HR HV;go_wp2_with fail
   clear hi1 hi2;generalize decide ((N:Int)<1)=z1;generalize decide ((60:Int)<(N:Int))=z2
   go_loopw [9] (fun i wr=>∃j:Nat,j<=l.length/\i = .int .i64 j/\eA w N 11 dp tb bb sp sb cap mb m1 m2 mw mt md j wr) (fun i _=>l.length-(intOf i).toNat)
   case atStart=>exact ⟨0,jq _,rfl,HL0.out⟩
   case round =>
    obtain ⟨j,hj,rfl,L⟩:=hrel;have HL:=kH L;clear L HL0;by_cases hlt:j<l.length
    ·obtain ⟨c,hc⟩:∃c,l[j]? = some c:=⟨_,jc hlt⟩
     obtain ⟨ua,uc,k1,k2,hp,hsm,hlies,b,off,rfl,hcell⟩:=HVV.out j c hc;obtain ⟨s0,tr0,pt0,S0⟩:=HL.out;obtain ⟨hbw,c0,c1,c2,c3,c4,c5,c6,c7,c8,c9⟩:=hcell wr S0.low;have HPT:Hid (Cl 8 #[.pointer (some ⟨dp,0,none⟩),.pointer (some ⟨mw,0,none⟩),.agg #[.string c.kind,.string c.path,.string c.s,.string c.node.kind,.string c.node.data,.bool c.node.exec,.slice ua c.node.kids.length uc,.int .i64 c.k,.int .i64 c.n,.int .i64 c.bit]] wr fun e w'=>e = .returned (.bool true)/\eA w N 11 dp tb bb sp sb cap mb m1 m2 mw mt md (j+1) w'):=xW HE.out HSN.out S0 (by omega) (by omega) (by omega) c ua uc k1 k2 hp hsm hlies;clear hcell hc HL S0 k1 k2 hp hsm hlies
     go_wp2_with (go_at_call 8;refine HPT.out.mono ?_;rintro e w4 ⟨rfl,L4⟩;(have HL4:=kH L4);clear L4 HPT)
     exact ⟨⟨j+1,by omega,by simp,HL4.out⟩,by simp [intOf];omega⟩
    ·obtain rfl:j=l.length:=by omega
     clear HVV;obtain ⟨s,tr,pt,S⟩:=HL.out;have HSV:Hid _:=fun W h=>GK HE.out (S.below (W':=W) h) (by omega) (by omega) (by omega)
     have HAS:Hid (∀W,Bl wr W->Cl 14 #[.pointer (some ⟨dp,0,none⟩),.pointer (some ⟨mw,0,none⟩)] W fun e w'=>e = .returned (.int .i64 1)/\Bl W w'):=fun W h=>by
      obtain ⟨la,lc,A⟩:=(S.below h).asD HE.out HSN.out.c10 HSN.out (by omega) (by omega) (by omega);exact AZ A
     have HSN1:Hid (∀W,Bl wr W->Cl 9 #[.pointer none] W fun e w'=>e = .returned (.tuple #[.bool false,.iface 329 (.pointer (some (a 2)))])/\Bl W w'):=fun W h=>E7 _ W (HSN.out.below (S.below h).low).c2;have HAN1:Hid (∀W,Bl wr W->Cl 10 #[.pointer none] W fun e w'=>e = .returned (.tuple #[.int .i64 0,.iface 329 (.pointer (some (a 2)))])/\Bl W w'):=fun W h=>all_nil _ W (HSN.out.below (S.below h).low).c2;have HSV0:Hid (∀W,Bl wr W->Cl 12 #[.pointer none] W fun e w'=>e = .returned (.int .i64 0)/\Bl W w'):=fun W h=>CM W;have HCD:Hid (∀W,Bl wr W->Cl 11 #[.iface 329 (.pointer (some (a 2))),.int .i64 3] W fun e w'=>e = .returned (.bool true)/\Bl W w'):=fun W h=>lr HSN.out (S.below h).low (.inr ⟨2,by decide,rfl,rfl⟩);have HLW:=kH S.low;clear S HL
     go_wp2_with (first
      | (go_at_call 9;refine (HSN1.out _ (je _ _)).mono ?_;rintro e w5 ⟨rfl,b5⟩;(have HB5:=kH b5);clear HSN1 b5)
      | (go_at_call 10;refine (HAN1.out _ HB5.out).mono ?_;rintro e w6 ⟨rfl,b6⟩;(have HB6:=kH (HB5.out.trans (b6.mono HB5.out.size)));clear HAN1 b6 HB5)
      | (go_at_call 11;first
       | (refine (HCD.out _ HB6.out).mono ?_;rintro e w7 ⟨rfl,b7⟩;(have HB7:=kH (HB6.out.trans (b7.mono HB6.out.size)));clear b7 HB6)
       | (refine (HCD.out _ HB7.out).mono ?_;rintro e w8 ⟨rfl,b8⟩;(have HB8:=kH (HB7.out.trans (b8.mono HB7.out.size)));clear b8 HB7 HCD))
      | (go_at_call 12;first
       | (refine (HSV0.out _ HB8.out).mono ?_;rintro e w9 ⟨rfl,b9⟩;(have HB9:=kH (HB8.out.trans (b9.mono HB8.out.size)));clear b9 HB8 HSV0)
       | (refine (HSV.out _ HB9.out).mono ?_;rintro e w10 ⟨z,rfl,b10,h2⟩;(have HM2:=h2 w10 (je _ w10));(have HB10:=kH (HB9.out.trans (b10.mono HB9.out.size)));clear b10 h2 HB9 HSV))
      | (go_at_call 13;refine HM2.mono ?_;rintro e w11 ⟨rfl,b11⟩;(have HB11:=kH (HB10.out.trans (b11.mono HB10.out.size)));clear b11 HM2 HB10)
      | (go_at_call 14;refine (HAS.out _ HB11.out).mono ?_;rintro e w12 ⟨rfl,b12⟩;(have HB12:=kH ((HLW.out.trans (HB11.out.mono HLW.out.size)).trans (b12.mono (HLW.out.trans (HB11.out.mono HLW.out.size)).size)));clear HAS b12))
     go_ret;exact ⟨by simp,HB12.out⟩
  ·go_ret
   exact ⟨rfl,HB2.out⟩
 ·go_enter Tryz.func3,Tryz.ntmps3
  by_cases hM1:M<1
  ·go_wp2_with (go_at_call 5;refine HDR.out.mono ?_;rintro e w1 ⟨rfl,hb1⟩;clear HDR)
   go_ret;exact ⟨rfl,hb1⟩
  ·have hM2:(60:Int)<M:=by omega
   go_wp2_with (go_at_call 5;refine HDR.out.mono ?_;rintro e w1 ⟨rfl,hb1⟩;clear HDR)
   go_ret;exact ⟨rfl,hb1⟩
end
section
set_option maxRecDepth 100000
open Go.ChangeShapes Go.WideShapes Go.RowKit

theorem pP {H:Type} {enc:TypeId×Value->H} {a:Assume} {C:Checked} {os:Os} {f:FuncId} {fn:Func} {s:ChangeSpec} {conds:List PathCond} {apart fresh handsOn again:Bool} {X:World->Array Value->Prop}
  (hX:∀(w w':World) (args:Array Value),w.heap=w'.heap->X w args->X w' args)
  (own:ownKnob C.prog.godebug=none) (started:os.Started) (noInit:C.prog.inits.idxOf? f=none) (hfn:C.prog.funcs[f]? = some fn)
  (witness:∃(w:World) (tape:Tape) (i:Input),w.os=os/\(w.forCall tape i).Shaped C.prog/\i.vars = []/\Input.okWide C.prog (w.forCall tape i) .any w.heap.size f i /\
   ((s.pre enc C.prog fn conds apart (w.forCall tape i).memory i.args/\X (w.forCall tape i).memory i.args)/\sizedMet enc C.prog fn (OpenSpec.ofChange s) apart (w.forCall tape i).memory i.args)/\a.holds C.prog (lone (Frame.enter C.prog f i.args .normal) [] (w.forCall tape i)))
  (contract:∀(W:World) (base:Nat) (args:Array Value) (ds gs:List (DataW H)) (before:List MemPlace),
   (∀(j:Nat) t v,fn.params[j]? = some t->args[j]? = some v->Value.okWide C.prog W .any base t v) ->
   DataW.Whole enc C.prog fn.params.toList s.vars apart W args.toList ds gs before ->
   (DataW.weightsEach C.prog (fn.params.toList++s.plain.varTypes C.prog) (ds++gs)).all (· <= reachBytes)=true->X W args->W.ShapedOpen C.prog ->
   Calls C.prog f args W fun e W'=>∃v,e = .returned v/\s.post enc C.prog fn apart fresh handsOn again W args v W') :
  ReturnsInHanded a C os f .any (fun w args=>(s.pre enc C.prog fn conds apart w args/\X w args)/\sizedMet enc C.prog fn (OpenSpec.ofChange s) apart w args) (s.post enc C.prog fn apart fresh handsOn again):=by
 refine returnsInHanded_of_calls own started noInit witness ?_;intro w tape i _ hsh _ hok hpre _;obtain ⟨_,_,_,fn',hfn',_,_,_,_,hval⟩:=hok;obtain rfl:fn'=fn:=Option.some.inj (hfn'.symm.trans hfn);obtain ⟨⟨⟨ds,gs,before,hw,_⟩,hx⟩,hz⟩:=hpre;have hw':=DataW.Whole.of_heap (w':=w.forCall tape i) (by rfl) hw;refine (contract (w.forCall tape i) w.heap.size i.args ds gs before hval hw' (hz.weights hw) (hX _ _ _ (by rfl) hx) hsh).mono fun e W' ⟨v,he,hp⟩=>?_;subst he;exact ChangeSpec.post_blind hp

theorem u9 {W:World} (h:W.ShapedOpen Tryz.prog):∃m,W.cell? ⟨15,0,none⟩=some (.int .i64 m) :=
 Go.Proofs.cell_of_shapedOpen_int (zero:=#[.int .i64 0]) (t:=3) h (of_decide_eq_true (by kernel_rfl)) (by kernel_rfl) rfl (by kernel_rfl) (by kernel_rfl) Tryz.underlying3

theorem ox {P:Program} {w:World}:∀(l m:List (String×DataW Unit)) (ps:List MemPlace),DataW.LaidVars P w (l++m) ps->∃qs,DataW.LaidVars P w l qs/\qs.Sublist ps
 | [],_,ps,_=>⟨[],rfl,List.nil_sublist ps⟩
 | (n,d) :: l,m,ps,h=>by
  obtain ⟨g,t,cs,fuel,p,q,h1,h2,h3,h4,hq,rfl⟩:=h;obtain ⟨qs,hqs,hsub⟩:=ox l m q hq;exact ⟨_,⟨g,t,cs,fuel,p,qs,h1,h2,h3,h4,hqs,rfl⟩,(List.append_sublist_append_left _).2 hsub⟩
theorem wZ {P:Program} {w:World} {l m:List (String×DataW Unit)} (h:laidMet P (l++m) w):laidMet P l w:=by
 obtain ⟨ps,hv,hnd,hrows⟩:=h;obtain ⟨qs,hqs,hsub⟩:=ox l m ps hv;exact ⟨qs,hqs,List.Nodup.sublist hsub hnd,fun b off hm=>hrows b off (hsub.subset hm)⟩
end
section
set_option maxRecDepth 100000
open Go.ChangeShapes Go.WideShapes Go.RowKit

def kM:List (String×Nat×List UInt8):=(((Rows.optActsRow.laid.drop 2).take 13).zip Fj).map fun x=>(x.1.1,x.2,GP x.1.2)
theorem A0 (W:World):laidMetH Tryz.prog Rows.optActsRow.laid W =
  (laidMet Tryz.prog (("unicode/utf8.acceptRanges",Rows.laid_unicode_utf8_acceptRanges) :: ((kM.map fun x=>(x.1,.iface "*errors.errorString" (.ptr (.agg [.lit (.string x.2.2)])))) ++ [("unicode/utf8.first",Rows.laid_unicode_utf8_first)])) W∧handlesMet Tryz.prog ((Rows.optActsRow.laid.drop 1).take 1) W):=by kernel_rfl
theorem xd:(kM.all fun x=>decide (Tryz.prog.globalNamed x.1=some x.2.1)&&decide ((Tryz.prog.globals[x.2.1]?).map (·.type)=some 36))=true:=by kernel_rfl
theorem xY:kM.map (·.2.1)=Fj:=by kernel_rfl
theorem IL:∀i,i<13->Fj[i]? = some (gv i):=by decide
theorem GL:(Rows.optActsRow.laid.drop 1).take 1 = [("errors.errorType",Rows.laid_errors_errorType)]:=by kernel_rfl
theorem Jp:Tryz.prog.globalNamed "errors.errorType" = some 13:=by kernel_rfl
theorem GM:(Tryz.prog.cutTypes.find? (·.1 == "internal/reflectlite.rtype")).map (·.2)=some 258:=by kernel_rfl
theorem Ik:((List.range 359).filter fun t=>Tryz.prog.rowNamed t [101,114,114,111,114]) = [36]:=by kernel_rfl
theorem CN:Tryz.prog.types.size=359:=by kernel_rfl

theorem CO {W:World} (h:handlesMet Tryz.prog ((Rows.optActsRow.laid.drop 1).take 1) W):W.cell? ⟨13,0,none⟩=some (.iface 258 (.agg #[.pointer (some ⟨20,36,none⟩)])):=by
 rw [GL] at h;obtain ⟨name,u,ty,e1,e2,e3,e4,e5⟩:=h _ (jF.2 rfl);have en:name = [101,114,114,111,114]:=(jO e1).symm;subst en;obtain rfl:=jO (GM.symm.trans e2);have hm:ty∈(List.range 359).filter fun t=>Tryz.prog.rowNamed t [101,114,114,111,114]:=qK.2 ⟨qR.2 (by rw [<-CN];exact e3),e4⟩;rw [Ik] at hm;obtain rfl:=jF.1 hm;have hh:typeHandle Tryz.prog 36 = .pointer (some ⟨20,36,none⟩):=by kernel_rfl
 rw [hh] at e5
 simpa using World.var?_cell Jp e5 0

theorem vb {W:World} (h:laidMetH Tryz.prog Rows.optActsRow.laid W):∃a,bC a W:=by
 rw [A0] at h;obtain ⟨hpl,hh⟩:=h;obtain ⟨ps,hv,hnd,hrows⟩:=wZ hpl.tail
 have hx:∀x∈kM,Tryz.prog.globalNamed x.1=some x.2.1/\(Tryz.prog.globals[x.2.1]?).map (·.type)=some 36:=fun x hx=>by
  have:=qy.1 xd x hx
  simpa using this
 obtain ⟨la,h1,h2⟩:=tM Tryz.underlying36 IP Tryz.underlying329 Tryz.underlying347 rfl rfl Tryz.underlying9 Fk m9 kM hv hx hrows;rw [xY] at h1;have hat:∀i,i<13->∃a,la[i]? = some a/\W.cell? ⟨gv i,0,none⟩=some (.iface 329 (.pointer (some a)))/\∃c t,W.heap[a.block]? = some (.cells c t (0,0)):=fun i hi=>h1.at (IL i hi);refine ⟨fun i=>(la[i]?).getD ⟨0,0,none⟩,⟨fun i hi=>?_,fun i hi=>?_,fun i j hi hj hij=>?_,CO hh⟩⟩
 ·obtain ⟨a,e,hc,_⟩:=hat i hi
  rw [e];exact hc
 ·obtain ⟨a,e,_,hc⟩:=hat i hi
  rw [e];exact hc
 ·obtain ⟨a,e,_,_⟩:=hat i hi
  obtain ⟨b,e',_,_⟩:=hat j hj;rw [e,e'];intro hab;have hab:a=b:=hab;subst hab;have hn:(la.map fun a=>MemPlace.cell a.block a.off).Nodup:=List.Nodup.sublist h2 hnd
  have hlt:i<(la.map fun a=>MemPlace.cell a.block a.off).length:=by
   have:=(jb.1 e).1
   simpa using this
  exact hij ((List.getElem?_inj hlt hn).1 (by simp [e,e']))
def cC:List (String×DataW Unit):=Rows.optActsRow.laid.filter fun x=>x.2.handleName?.isNone
theorem vd (os:Os):(((World.holding Tryz.prog os ⟨#[],#[],[]⟩).setCell ⟨13,0,none⟩ (.iface 258 (.agg #[.pointer (some ⟨20,36,none⟩)]))).layVars Tryz.prog cC).os=os:=World.layVars_os _ _ _
theorem A3 (os:Os):((World.holding Tryz.prog os ⟨#[],#[],[]⟩).setCell ⟨13,0,none⟩ (.iface 258 (.agg #[.pointer (some ⟨20,36,none⟩)]))).layFits Tryz.prog cC []=true:=by kernel_rfl
theorem xe (os:Os):((World.holding Tryz.prog os ⟨#[],#[],[]⟩).setCell ⟨13,0,none⟩ (.iface 258 (.agg #[.pointer (some ⟨20,36,none⟩)]))).layIfaces Tryz.prog cC (((World.holding Tryz.prog os ⟨#[],#[],[]⟩).setCell ⟨13,0,none⟩ (.iface 258 (.agg #[.pointer (some ⟨20,36,none⟩)]))).layVars Tryz.prog cC)=true:=by kernel_rfl
theorem xZ (os:Os) (args:Array Value):laidMet Tryz.prog cC ((((World.holding Tryz.prog os ⟨#[],#[],[]⟩).setCell ⟨13,0,none⟩ (.iface 258 (.agg #[.pointer (some ⟨20,36,none⟩)]))).layVars Tryz.prog cC).forCall (fun _ _=>0) ⟨#[],args,[]⟩).memory:=by
 have e1:(cC.filter fun x=>(cC.map (·.1)).contains x.1)=cC:=List.filter_eq_self.2 fun x hx=>List.contains_iff_mem.2 (jv.2 ⟨x,hx,rfl⟩);have e2:(cC.filter fun x=>!(cC.map (·.1)).contains x.1) = []:=List.filter_eq_nil_iff.2 fun x hx=>by rw [List.contains_iff_mem.2 (jv.2 ⟨x,hx,rfl⟩)];simp
 have h:laidMet Tryz.prog cC (((World.holding Tryz.prog os ⟨#[],#[],[]⟩).setCell ⟨13,0,none⟩ (.iface 258 (.agg #[.pointer (some ⟨20,36,none⟩)]))).layVars Tryz.prog cC):=laidMet_layVars (w0:=((World.holding Tryz.prog os ⟨#[],#[],[]⟩).setCell ⟨13,0,none⟩ (.iface 258 (.agg #[.pointer (some ⟨20,36,none⟩)])))) (cC.map (·.1)) [] (by rw [e1]) (by rw [e1];exact A3 os) (by rw [e1];exact xe os) (by rw [e2];exact LaidIn.none);exact h.of_heap (by simp [World.memory,World.forCall,Input.heap])
theorem xf (os:Os) (args:Array Value):laidMetH Tryz.prog Rows.optActsRow.laid ((((World.holding Tryz.prog os ⟨#[],#[],[]⟩).setCell ⟨13,0,none⟩ (.iface 258 (.agg #[.pointer (some ⟨20,36,none⟩)]))).layVars Tryz.prog cC).forCall (fun _ _=>0) ⟨#[],args,[]⟩).memory :=
 laidMetH_of_parts3 (fuel:=8) (xZ os args) (by kernel_rfl) (by kernel_rfl)
end
end Go.Proofs.YtcflefeedcihjaaGreatDoor
