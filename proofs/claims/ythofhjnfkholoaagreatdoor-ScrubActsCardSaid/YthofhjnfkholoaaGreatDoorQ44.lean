/-
  Xe Shaped LaidSr ArgI, joined.
  Conditions: those that each states.
-/
import Derived.Test.YthofhjnfkholoaaGreatDoorQ43
import Derived.Handed
import Derived.Shelf.Vars
import Derived.Deep.Strs
import Derived.Lib.LaidTab
import Derived.Lay
import Derived.ChangeSlices
import Derived.Carry
namespace Go.Proofs.YthofhjnfkholoaaGreatDoor
section
set_option maxHeartbeats 8000000
set_option maxRecDepth 100000
open Go.RowKit Go.Maps

theorem uC (l:List ByteArray):iK l l=true:=by
 unfold iK iJ
 simp
theorem uD (n:Int) (A B:List (Nat×ByteArray×Nat)):aH n (A++B)=aH n A++aH n B:=by
 unfold aH;rw [yy,jR]
theorem C7 {n:Int} {A:List (Nat×ByteArray×Nat)} {kk:Nat} {fs:List (ByteArray×Nat)} {i:Nat} {f:ByteArray×Nat} (h:fs[i]? = some f):aH n (A++(fs.take (i+1)).map fun f=>(kk,f.1,f.2))=aH n (A++(fs.take i).map fun f=>(kk,f.1,f.2))++(if (f.2:Int)=n then [bs (Lib.decDigits kk)++f.1] else []):=by
 have e:fs.take (i+1)=fs.take i ++ [f]:=by rw [List.take_add_one,h];rfl
 rw [e,jR,<-jK,uD]
 congr 1
 unfold aH;by_cases hf:(f.2:Int)=n <;> simp [hf,rY]
theorem xQ {L:List bA} {i:Nat} {y:bA} (h:L[i]? = some y):bh (L.take (i+1))=bh (L.take i)++y.fs.map fun f=>(y.k,f.1,f.2):=by
 have e:L.take (i+1)=L.take i ++ [y]:=by rw [List.take_add_one,h];rfl
 rw [e];unfold bh;rw [qp,jZ,List.flatMap_nil,qz]
theorem uF (a:Nat->Addr) (M:Int) (l:List lr) (v:Value) (nA:Nat) (v2:Value) (l2:List dT) (k:Int) (w:World) (hv:iG w v l) (hv2:gV w nA l2 v2) (E:kj a w) (SN:aV a w) (hT:oZ w.heap.size w) :
  Cl 3 #[.int .i64 M,v,v2,.int .i64 k] w fun e w'=>e = .returned (.bool true)/\Bl w w':=by
 have HMD:=wM a w SN;have HLF:Hid (∀W,Bl w W->Cl 5 #[v] W fun e w'=>(∃r,e = .returned (.bool r)/\(r=false->vo l))/\w'=W):=fun W hW=>uh v l W (hv.below hW);have HLT:Hid (∀W,Bl w W->Cl 6 #[v2] W fun e w'=>(∃r,e = .returned (.bool r)/\(r=false->mO l2))/\Bl W w'):=fun W hW=>ur nA l2 v2 W (hv2.below hW);obtain ⟨ad,vcap,rfl,hcs⟩:=id hv;obtain ⟨ad2,vcap2,rfl,_⟩:=id hv2
 have HV:Hid (∀(i:Nat) (x:lr),l[i]? = some x->(Lit.int .i64 x.n).wf=true/\∃b off,ad=some ⟨b,off,none⟩/\∀W,Bl w W->(W.cell? ⟨b,off+i*5,none⟩=some (.string x.kind)/\W.cell? ⟨b,off+i*5+1,none⟩=some (.string x.s)/\W.cell? ⟨b,off+i*5+2,none⟩=some (.bool x.exec)/\W.cell? ⟨b,off+i*5+3,none⟩=some (.int .i64 x.n)/\W.cell? ⟨b,off+i*5+4,none⟩=some (.int .i64 x.bit))):=fun i x ha=>by
  obtain ⟨h1,_,_,b,off,e,c0,c1,c2,c3,c4⟩:=hcs i x ha;have hlt:b<w.heap.size:=ji w _ c0;refine ⟨h1,b,off,e,fun W hW=>⟨?_,?_,?_,?_,?_⟩⟩
  ·rw [hW.cell (p:=⟨b,off+i*5,none⟩) hlt];exact c0
  ·rw [hW.cell (p:=⟨b,off+i*5+1,none⟩) hlt];exact c1
  ·rw [hW.cell (p:=⟨b,off+i*5+2,none⟩) hlt];exact c2
  ·rw [hW.cell (p:=⟨b,off+i*5+3,none⟩) hlt];exact c3
  ·rw [hW.cell (p:=⟨b,off+i*5+4,none⟩) hlt];exact c4
 have HV2:Hid (mO l2->∀i c,l2[i]? = some c->∃ua uc,Ar w ad2 i c ua uc):=fun hs i c hc=>GN hv2 hs hc;have HE:Hid (kj a w):=E;have HS:Hid (aV a w):=SN;have HTX:Hid (oZ w.heap.size w):=hT;clear hv hv2 hcs E SN hT;by_cases hM:1<=M/\M<=40
 ·obtain ⟨N,rfl⟩:∃N:Nat,M=(N:Int):=⟨M.toNat,by omega⟩
  have hN1:1<=N:=(by omega);have hN2:N<=40:=(by omega);have hi1:¬(N:Int)<1:=(by omega);have hi2:¬(40:Int)<(N:Int):=by omega
  have HTO:Hid (∀W,Bl w W->Cl 17 #[.int .i64 (N:Int)] W fun e w'=>∃dp tb bb sp sb cap mb m1 m2 mw mt md,e = .returned (.tuple #[.pointer (some ⟨dp,0,none⟩),.pointer (some ⟨mw,0,none⟩),.bool true])/\dG w N 11 dp tb bb sp sb cap mb m1 m2 mw mt md 0 w'):=fun W hW =>
   (Ao w.heap.size N 11 (fun _=>0) hN1 (by omega) W hW.size).mono fun e w' ⟨dp,tb,bb,sp,sb,cap,mb,m1,m2,md,mt,mw,he,D,T,⟨⟨la,lc,Mk⟩,hmt,hmw,l1,l2,l3⟩,hb⟩ =>
    ⟨dp,tb,bb,sp,sb,cap,mb,m1,m2,mw,mt,md,he,⟨List.replicate N zb,List.replicate N false,[]⟩,[],[],⟨0,_,jd _,D⟩,⟨0,jq _,T⟩,⟨none,0,[],[],hmw,rfl,rfl,qt _ _ _ _,fun i x u h=>by simp [bP] at h,fun i x u h=>by simp [bP] at h,fun i j u u' b h=>by simp at h⟩,⟨la,lc,none,0,[],hmt,Mk,qt _ _ _ _,rfl,fun k x u h=>by simp at h⟩,cL.start N 12,⟨jd _,fun t ht=>by cases ht⟩,hW.trans (hb.mono hW.size),⟨jm hW.size l3,jm hW.size l2,jm hW.size l1⟩,jq _⟩
  clear hM;go_enter Tryz.func3,Tryz.ntmps3
  go_wp2_with (first
   | (go_at_call 4;refine HMD.mono ?_;rintro e w1 ⟨rfl,hb1⟩;(have HB1:Hid (Bl w w1):=hb1);clear HMD hb1)
   | (go_at_call 5;refine (HLF.out _ HB1.out).mono ?_;rintro e w2 ⟨⟨r,rfl,hr⟩,hw⟩;rw [hw];clear hw;(have HR:Hid (r=false->vo l):=hr);clear hr HLF;cases r)
   | (go_at_call 6;refine (HLT.out _ HB1.out).mono ?_;rintro e w2 ⟨⟨r2,rfl,hr⟩,hb2⟩;(have HB2:Hid (Bl w w2):=HB1.out.trans (hb2.mono HB1.out.size));(have HR2:Hid (r2=false->mO l2):=hr);clear hr hb2 HLT;cases r2))
  ·obtain ⟨hl40,hsh⟩:=HR.out (by first|rfl|trivial)
   have HSH:Hid (∀x∈l,x.s.size<=120∨x.s.size=2001):=hsh;have HSH2:Hid (mO l2):=HR2.out (by first|rfl|trivial);refine jk (Fj hN1 (by omega) w2) ?_;rintro e w3 ⟨tb,bb,mt,md,rfl,Q0⟩;obtain ⟨T0,HT0⟩:∃T0,Hid (T0=w2.heap.size):=⟨_,(rfl:w2.heap.size=_)⟩;rw [<-HT0.out] at Q0;have HQ0:Hid (dc w2 T0 tb bb mt md N 0 w3):=Q0;have HS1:Hid (aV a w2):=HS.out.below HB2.out;have HUP:Hid (∀i W,dc w2 T0 tb bb mt md N i W->Bl w W):=fun i W ⟨_,_,_,Q,_⟩=>HB2.out.trans (Q.b.mono (by rw [HT0.out];exact HB2.out.size));clear Q0 hsh HR HR2 hi1 hi2;go_wp2_with fail
   generalize decide ((N:Int)<1)=z1;generalize decide ((40:Int)<(N:Int))=z2
   go_loopw [13] (fun i wr=>∃j:Nat,j<=l.length/\i = .int .i64 j/\dc w2 T0 tb bb mt md N j wr) (fun i _=>l.length-(intOf i).toNat)
   case atStart=>exact ⟨0,jq _,rfl,HQ0.out⟩
   case round =>
    obtain ⟨j,hj,rfl,hq⟩:=hrel;have HQ:Hid (dc w2 T0 tb bb mt md N j wr):=hq;clear hq;by_cases hlt:j<l.length
    ·obtain ⟨x,hx⟩:∃x,l[j]? = some x:=⟨_,jc hlt⟩
     obtain ⟨hn,b,off,rfl,hc⟩:=HV.out j x hx;obtain ⟨c0,c1,c2,c3,c4⟩:=hc wr (HUP.out _ _ HQ.out);have hs:=HSH.out x (jg hx)
     have HA:Hid (Cl 8 #[.pointer (some ⟨tb,0,none⟩),.pointer (some ⟨mt,0,none⟩),.agg #[.string x.kind,.string x.s,.bool x.exec,.int .i64 x.n,.int .i64 x.bit]] wr fun e w'=>e = .returned (.bool true)/\dc w2 T0 tb bb mt md N (j+1) w'):=by
      obtain ⟨bl,u,tab,Q,P⟩:=HQ.out;exact F8 x hn (by omega) (by omega) Q P HS1.out
     have HM:Hid (∀W,dc w2 T0 tb bb mt md N (j+1) W->Cl 10 #[.pointer (some ⟨tb,0,none⟩),.int .i64 x.n,.string x.s] W fun e w1=>∃ev,e = .returned ev/\Below T0 w2 w1/\Cl 11 #[.pointer (some ⟨mt,0,none⟩),.int .i64 x.n,.string x.s] w1 fun e2 w2'=>∃c,e2 = .returned (.int .i64 c)/\Below T0 w2 w2'/\Cl 9 #[ev,.int .i64 c] w2' fun e3 w3=>e3 = .returned (.bool true)/\Below T0 w2 w3/\dc w2 T0 tb bb mt md N (j+1) w3):=fun W ⟨bl,u,tab,Q,P⟩=>Iq x.n hn x.s (by omega) Q P HS1.out;have HSC:Hid (∀W,dc w2 T0 tb bb mt md N (j+1) W->Cl 13 #[.pointer (some ⟨tb,0,none⟩)] W fun e w1=>∃v,e = .returned v/\Bl W w1/\Cl 14 #[.pointer (some ⟨mt,0,none⟩)] w1 fun e2 w2'=>∃v2,e2 = .returned v2/\Bl W w2'/\Cl 12 #[v,v2] w2' fun e3 w3=>e3 = .returned (.bool true)/\Bl W w3):=fun W ⟨bl,u,tab,Q,P⟩=>Ip (by omega) Q P HS1.out
     have HC:Hid (∀W,dc w2 T0 tb bb mt md N (j+1) W->W.cell? ⟨b,off+j*5,none⟩=some (.string x.kind)/\W.cell? ⟨b,off+j*5+1,none⟩=some (.string x.s)/\W.cell? ⟨b,off+j*5+3,none⟩=some (.int .i64 x.n)):=fun W hW=>by
      obtain ⟨d0,d1,_,d3,_⟩:=hc W (HUP.out _ _ hW);exact ⟨d0,d1,d3⟩
     have HC3:∀W,Below T0 w2 W->W.cell? ⟨b,off+j*5+1,none⟩=some (.string x.s)/\W.cell? ⟨b,off+j*5+3,none⟩=some (.int .i64 x.n):=fun W hW=>by
      obtain ⟨_,d1,_,d3,_⟩:=hc W (HB2.out.trans (hW.mono (by rw [HT0.out];exact HB2.out.size)));exact ⟨d1,d3⟩
     clear hx hc hn hs
     cases km:(x.kind.toList == [109,101,110,100]) with
     | true =>
      go_wp2_with (go_at_call 8;refine HA.out.mono ?_;rintro e w4 ⟨rfl,hq4⟩;(have HQ4:Hid (dc w2 T0 tb bb mt md N (j+1) w4):=hq4);(obtain ⟨d0,d1,d3⟩:=HC.out w4 hq4);clear hq4)
      have HQ4d:Hid (dc w2 T0 tb bb mt md N (j+1) w4.drew):=HQ4.out.below (cV _);have HD4:Hid (Below T0 w2 w4.drew):=by obtain ⟨_,_,_,Q,_⟩:=HQ4d.out;exact Q.b
      have HC2:Hid (∀W,Below T0 w2 W->W.cell? ⟨b,off+j*5+1,none⟩=some (.string x.s)/\W.cell? ⟨b,off+j*5+3,none⟩=some (.int .i64 x.n)):=HC3;clear d0 d1 d3;refine zh (S:=fun W=>W.cell? ⟨b,off+j*5+1,none⟩=some (.string x.s)/\W.cell? ⟨b,off+j*5+3,none⟩=some (.int .i64 x.n)) (by kernel_rfl) (HC2.out _ HD4.out) (fun hHeld=>?_);refine aW [(0,pZ tb 0),(1,.slice (some ⟨b,off,none⟩) l.length vcap),(2,iZ j),(3,pZ b (off+j*5)),(4,pZ b (off+j*5+3)),(5,iZ x.n),(6,.slice (some ⟨b,off,none⟩) l.length vcap),(7,iZ j),(8,pZ b (off+j*5)),(9,pZ b (off+j*5+1)),(10,.string x.s),(12,pZ mt 0),(13,.slice (some ⟨b,off,none⟩) l.length vcap),(14,iZ j),(15,pZ b (off+j*5)),(16,pZ b (off+j*5+3)),(17,iZ x.n),(18,.slice (some ⟨b,off,none⟩) l.length vcap),(19,iZ j),(20,pZ b (off+j*5)),(21,pZ b (off+j*5+1)),(22,.string x.s)] hHeld ?_;refine aC 11 rfl fun K' hK=>?_;simp only [ai];go_simp;refine jk (HM.out _ HQ4d.out) ?_;rintro e wx11 ⟨ev,rfl,bx,h2⟩;go_wp2_with fail
      refine hK.out _ _ (HC2.out _ bx) (fun hHeld=>?_);clear hK K';refine aC 23 rfl fun K' hK=>?_;simp only [ai];go_simp;refine jk (h2) ?_;rintro e wx23 ⟨cc,rfl,bx2,h3⟩;go_wp2_with fail
      refine hK.out _ _ (HC2.out _ bx2) (fun hHeld=>?_);clear hK K';refine aC 24 rfl fun K' hK=>?_;simp only [ai];go_simp;refine jk (h3) ?_;rintro e wx24 ⟨rfl,bx3,hq3⟩;go_wp2_with fail
      refine hK.out _ _ (HC2.out _ bx3) (fun hHeld=>?_);clear hK K';refine tk 25 (.bool true) rfl hHeld ?_;simp only [ai,Act.put,bj];refine zk (by kernel_rfl) ?_ _;have HQ5:Hid (dc w2 T0 tb bb mt md N (j+1) wx24):=hq3;clear hq3 bx bx2 bx3 HC2 HM
      go_wp2_with (first
       | (go_at_call 13;refine (HSC.out _ HQ5.out).mono ?_;rintro e w5 ⟨v5,rfl,b5,h5⟩)
       | (go_at_call 14;refine h5.mono ?_;rintro e w6 ⟨v6,rfl,b6,h6⟩)
       | (go_at_call 12;refine h6.mono ?_;rintro e w7 ⟨rfl,b7⟩))
      exact ⟨⟨j+1,by omega,by simp,HQ5.out.below b7⟩,by simp [intOf];omega⟩
     | false =>
      go_wp2_with (first
       | (go_at_call 8;refine HA.out.mono ?_;rintro e w4 ⟨rfl,hq4⟩;(have HQ4:Hid (dc w2 T0 tb bb mt md N (j+1) w4):=hq4);(obtain ⟨d0,d1,d3⟩:=HC.out w4 hq4);clear hq4)
       | (go_at_call 13;refine (HSC.out _ HQ4.out).mono ?_;rintro e w5 ⟨v5,rfl,b5,h5⟩)
       | (go_at_call 14;refine h5.mono ?_;rintro e w6 ⟨v6,rfl,b6,h6⟩)
       | (go_at_call 12;refine h6.mono ?_;rintro e w7 ⟨rfl,b7⟩))
      exact ⟨⟨j+1,by omega,by simp,HQ4.out.below b7⟩,by simp [intOf];omega⟩
    ·obtain rfl:j=l.length:=by omega
     obtain ⟨bl,u,tab,Q,P⟩:=id HQ.out;have SW:=Q.sents HS1.out;have HBW:Hid (Bl w wr):=HUP.out _ _ HQ.out;have HAS:Hid (Cl 15 #[.pointer (some ⟨tb,0,none⟩),.pointer (some ⟨mt,0,none⟩)] wr fun e w'=>e = .returned (.int .i64 1)/\Bl wr w'):=xk (by omega) Q P HS1.out;have HMN:Hid (∀W,Bl wr W->Cl 10 #[.pointer none,.int .i64 0,.string { data:=#[] }] W fun e w'=>e = .returned (.iface 319 (.pointer (some (a 2))))/\w'=W):=fun W h=>DY 0 { data:=#[] } _ W (SW.below h).c2;have HCD:Hid (∀W,Bl wr W->Cl 9 #[.iface 319 (.pointer (some (a 2))),.int .i64 3] W fun e w'=>e = .returned (.bool true)/\Bl W w'):=fun W h=>(ib a 2 3 W (SW.below h) (by decide)).mono fun e w' ⟨he,hb⟩=>⟨by rw [he];rfl,hb⟩;have HVV:Hid (∀i c,l2[i]? = some c->∃ua uc,Ar w ad2 i c ua uc):=HV2.out HSH2.out;have hl25:l2.length<=25:=HSH2.out.1;clear Q P SW HQ HQ0 HV HSH HUP HV2 HSH2
     go_wp2_with (first
      | (go_at_call 15;refine HAS.out.mono ?_;rintro e w4 ⟨rfl,b4⟩;(have HB4:Hid (Bl wr w4):=b4);clear b4 HAS)
      | (go_at_call 13;refine (CY _).mono ?_;rintro e w5 ⟨rfl,hw⟩;rw [hw];clear hw)
      | (go_at_call 10;refine (HMN.out _ HB4.out).mono ?_;rintro e w6 ⟨rfl,hw⟩;rw [hw];clear hw HMN)
      | (go_at_call 9;refine (HCD.out _ HB4.out).mono ?_;rintro e w7 ⟨rfl,b7⟩;(have HB7:Hid (Bl wr w7):=HB4.out.trans (b7.mono HB4.out.size));clear b7 HB4 HCD)
      | (go_at_call 16;refine (CX _ _).mono ?_;rintro e w8 ⟨rfl,b8⟩;(have HB8:Hid (Bl w w8):=(HBW.out.trans (HB7.out.mono HBW.out.size)).trans (b8.mono (HBW.out.trans (HB7.out.mono HBW.out.size)).size));clear b8 HB7))
     refine jk (HTO.out _ HB8.out) ?_;rintro e w9 ⟨dp,tb2,bb2,sp,sb,cap,mb,m1,m2,mw,mt2,md2,rfl,L0⟩;have HL0:Hid (dG w N 11 dp tb2 bb2 sp sb cap mb m1 m2 mw mt2 md2 0 w9):=L0;clear L0 HTO HB8 HBW;go_wp2_with fail
     go_loopw [17] (fun i wr=>∃j:Nat,j<=l2.length/\i = .int .i64 j/\dG w N 11 dp tb2 bb2 sp sb cap mb m1 m2 mw mt2 md2 j wr) (fun i _=>l2.length-(intOf i).toNat)
     case atStart=>exact ⟨0,jq _,rfl,HL0.out⟩
     case round =>
      obtain ⟨j,hj,rfl,L⟩:=hrel;rename World=>wq;have HL:Hid (dG w N 11 dp tb2 bb2 sp sb cap mb m1 m2 mw mt2 md2 j wq):=L;clear L HL0;by_cases hlt:j<l2.length
      ·obtain ⟨c,hc⟩:∃c,l2[j]? = some c:=⟨_,jc hlt⟩
       obtain ⟨ua,uc,k1,k2,hp,hsm,hlies,b,off,rfl,hcell⟩:=HVV.out j c hc;obtain ⟨s0,tr0,pt0,S0⟩:=HL.out;obtain ⟨hbw,c0,c1,c2,c3,c4,c5,c6,c7,c8,c9⟩:=hcell wq S0.low;have HPT:Hid (Cl 18 #[.pointer (some ⟨dp,0,none⟩),.pointer (some ⟨mw,0,none⟩),.agg #[.string c.kind,.string c.path,.string c.s,.string c.node.kind,.string c.node.data,.bool c.node.exec,.slice ua c.node.kids.length uc,.int .i64 c.k,.int .i64 c.n,.int .i64 c.bit]] wq fun e w'=>e = .returned (.bool true)/\dG w N 11 dp tb2 bb2 sp sb cap mb m1 m2 mw mt2 md2 (j+1) w'):=xP HE.out HS.out S0 (by omega) (by omega) (by omega) c ua uc k1 k2 hp hsm hlies;clear hcell hc HL S0 k1 k2 hp hsm hlies
       go_wp2_with (go_at_call 18;refine HPT.out.mono ?_;rintro e w4 ⟨rfl,L4⟩;(have HL4:Hid (dG w N 11 dp tb2 bb2 sp sb cap mb m1 m2 mw mt2 md2 (j+1) w4):=L4);clear L4 HPT)
       exact ⟨⟨j+1,by omega,by simp,HL4.out⟩,by simp [intOf];omega⟩
      ·obtain rfl:j=l2.length:=by omega
       clear HVV;obtain ⟨s,tr,pt,S⟩:=HL.out;have HBQ:Hid (Bl w wq):=S.low;go_wp2_with fail
       obtain ⟨la,lc,us,vs,M⟩:=S.M
       have hLL:(bP 12 0 tr pt).length<=1000:=by
        have h1:=mX (D:=12) tr pt 0;have h2:=S.I.len;have h3:=S.few.1;omega
       have hFF:∀f∈bh (bP 12 0 tr pt),f.1<=1000000/\f.2.1.size<=1000000:=by
        have O:=S.ok (by omega) (by omega);intro f hf;rw [iu S.I.len] at hf;obtain ⟨x,h1,h2⟩:=kV.1 hf;obtain ⟨hk,_,_,_,_,hsz⟩:=O f.1 x h1;exact ⟨hk,jm (hsz _ h2) (by omega)⟩
       have hFL:(bh (bP 12 0 tr pt)).length<=100000:=by
        have hR:=S.refs (by omega);have hfl:=congrArg List.length S.I.fl;rw [jB,jB] at hfl;rw [iu S.I.len];omega
       have hKB:∀y∈bP 12 0 tr pt,y.k<=1000000:=fun y hy=>by
        obtain ⟨j,x,t,h1,_,rfl⟩:=gx tr pt 0 y hy;have h2:=(jb.1 h1).1;have h3:=S.I.len;have h4:=S.few.1;show 0+j<=1000000;omega
       have HWH:Hid (∀W,Bl wq W->Cl 16 #[.pointer (some ⟨dp,0,none⟩),.int .i64 k] W fun e w1=>∃v,e = .returned v/\w1.ownsRow W.heap.size 9 1 v (aH k (bh (bP 12 0 tr pt))).length ((aH k (bh (bP 12 0 tr pt))).map Value.string)/\Bl W w1):=fun W hW =>
        G5 k HE.out (S.below hW) (by omega) (by omega) fun w' h'=>HTX.out w' (HBQ.out.trans ((hW.trans (h'.mono hW.size)).mono HBQ.out.size))
       obtain ⟨L,HL12⟩:∃L,Hid (L=bP 12 0 tr pt):=⟨_,rfl⟩;rw [<-HL12.out] at M hLL hFF hFL hKB HWH;obtain ⟨nl,HNL⟩:∃nl,Hid (nl=L.length):=⟨_,rfl⟩;have HMW:Hid (∀W,Bl wq W->W.cell? ⟨mw,1,none⟩=some (.slice la nl lc)):=fun W hW=>by rw [HNL.out];exact (M.below hW).cells.2.1
       have HY:Hid (∀i y,L[i]? = some y->y.k<=1000000/\y.fs.length<=100000/\(∀f∈y.fs,f.1.size<=1000000)/\∃g va vc,la=some ⟨g,0,none⟩/\(∀W,Bl wq W->W.cell? ⟨g,i*6,none⟩=some (.int .i64 (y.k:Int))/\W.cell? ⟨g,i*6+5,none⟩=some (.slice va y.fs.length vc))/\∀q f,y.fs[q]? = some f->∃fg,va=some ⟨fg,0,none⟩/\∀W,Bl wq W->W.cell? ⟨fg,q*2,none⟩=some (.string f.1)/\W.cell? ⟨fg,q*2+1,none⟩=some (.int .i64 (f.2:Int))):=fun i y hy=>by
        obtain ⟨g,ua,uc,va,vc,hla,hua,hva,k0,_,_,_,_,k5⟩:=M.at hy;have hrow:=M.files i y _ hy hva;have hsp:=ir hy
        have hmem:∀f∈y.fs,(y.k,f.1,f.2)∈bh L:=fun f hf=>by
         rw [hsp];exact List.mem_append_right _ (yD _ (jv.2 ⟨f,hf,rfl⟩))
        have hlen:y.fs.length<=(bh L).length:=(by rw [hsp,jt,jt,jB];omega);refine ⟨?_,by omega,fun f hf=>(hFF _ (hmem f hf)).2,g,va,vc,hla,fun W hW=>⟨?_,?_⟩,fun q f hf=>?_⟩
        ·exact hKB y (jg hy)
        ·rw [hW.cell (p:=⟨g,i*6,none⟩) (ji wq _ k0)];exact k0
        ·rw [hW.cell (p:=⟨g,i*6+5,none⟩) (ji wq _ k5)];exact k5
        ·obtain ⟨fg,fcp,ef,_,f0,f1⟩:=iR hrow hf
         simp only [jo] at ef;exact ⟨fg,ef.1,fun W hW=>⟨by rw [hW.cell (p:=⟨fg,q*2,none⟩) (ji wq _ f0)];exact f0,by rw [hW.cell (p:=⟨fg,q*2+1,none⟩) (ji wq _ f1)];exact f1⟩⟩
       have hnl:nl<=1000:=(by rw [HNL.out];exact hLL);have HFL:Hid ((bh L).length<=100000):=hFL;have HDD:Hid (∀n:Nat,n<=1000000->∀W,Cl 19 #[.int .i64 (n:Int)] W fun e w'=>e = .returned (.string (bs (Lib.decDigits n)))/\Bl W w'):=fun n hn W=>vX n W (by omega);obtain ⟨i0,hi0,hz0,hz1,hz2⟩:=info_parts FA;clear S M hFF hFL hKB HL12 hLL HE HS HTX HL
       go_loopw [19,20] (fun sv iv wl=>∃i:Nat,i<=nl/\iv = .int .i64 i/\wl.ownsRow wq.heap.size 9 1 sv (aH k (bh (L.take i))).length ((aH k (bh (L.take i))).map Value.string)/\Bl wq wl) (fun _ iv _=>nl-(intOf iv).toNat)
       case atStart=>exact ⟨0,jq _,rfl,qt _ _ _ _,je _ _⟩
       case round =>
        obtain ⟨i,hi,rfl,ho,hb⟩:=hrel;rename World=>wl;have HB:Hid (Bl wq wl):=hb;obtain ⟨sa,sc,rfl⟩:=dA ho;obtain ⟨m0,HM0⟩:∃m0,Hid (m0=(aH k (bh (L.take i))).length):=⟨_,rfl⟩;rw [<-HM0.out] at ho ⊢;have HO:Hid (wl.ownsRow wq.heap.size 9 1 (.slice sa m0 sc) m0 ((aH k (bh (L.take i))).map Value.string)):=ho;clear ho hb;have d1:=HMW.out wl HB.out;by_cases hlt:i<nl
        ·obtain ⟨y,hy⟩:∃y,L[i]? = some y:=⟨_,jc (by rw [<-HNL.out];exact hlt)⟩
         obtain ⟨hk6,hnf,hps,g,va,vc,hla,hcy,hcf⟩:=HY.out i y hy;have HTK:Hid (bh (L.take (i+1))=bh (L.take i)++y.fs.map fun f=>(y.k,f.1,f.2)):=xQ hy
         have hAl:(bh (L.take i)).length<=100000:=by
          have h1:=HFL.out;rw [ir hy,jt] at h1;omega
         have HCY:Hid (∀W,Bl wq W->W.cell? ⟨mw,1,none⟩=some (.slice (some ⟨g,0,none⟩) nl lc)/\W.cell? ⟨g,i*6,none⟩=some (.int .i64 (y.k:Int))/\W.cell? ⟨g,i*6+5,none⟩=some (.slice va y.fs.length vc)):=fun W hW=>⟨by rw [<-hla];exact HMW.out W hW,(hcy W hW).1,(hcy W hW).2⟩;have HCF:Hid _:=hcf;have HPS:Hid (∀f∈y.fs,f.1.size<=1000000):=hps;have HDY:=HDD.out y.k hk6;have HDE:Hid (∀W,Cl 19 #[.int .i64 (y.k:Int)] W fun e w'=>e = .returned (.string (bs (Lib.decDigits y.k)))/\Bl W w'):=HDY;have hHF:=HFL.out;rw [ir hy,jt,jt,jB] at hHF;have hAF:(bh (L.take i)).length+y.fs.length<=100000:=(by omega);subst hla;clear HY hy hcy hcf hps HDY HDD hHF hAl d1 HMW HFL;generalize bh (L.take i)=A at *;generalize y.fs=fs at *;generalize y.k=kk at *;have HO0:Hid (wl.ownsRow wq.heap.size 9 1 (.slice sa m0 sc) (aH k (A++(fs.take 0).map fun f=>(kk,f.1,f.2))).length ((aH k (A++(fs.take 0).map fun f=>(kk,f.1,f.2))).map Value.string)):=by show World.ownsRow _ _ _ _ _ _ _;rw [qY,List.map_nil,qz,<-HM0.out];exact HO.out
         obtain ⟨c1,c2,c3⟩:=HCY.out wl HB.out;go_wp2_with fail
         go_loopw [19,21] (fun sv jv wk=>∃jj:Nat,jj<=fs.length/\jv = .int .i64 jj/\wk.ownsRow wq.heap.size 9 1 sv (aH k (A++(fs.take jj).map fun f=>(kk,f.1,f.2))).length ((aH k (A++(fs.take jj).map fun f=>(kk,f.1,f.2))).map Value.string)/\Bl wq wk) (fun _ jv _=>fs.length-(intOf jv).toNat)
         case atStart=>exact ⟨0,jq _,rfl,HO0.out,HB.out⟩
         case round =>
          clear HO HO0 HB HM0 c1 c2 c3;clear wl;obtain ⟨jj,hj,rfl,ho,hb⟩:=hrel;rename World=>wl;obtain ⟨sa,sc,rfl⟩:=dA ho;have HBL:Hid (Bl wq wl):=hb;have HO:Hid (wl.ownsRow wq.heap.size 9 1 (.slice sa (aH k (A++(fs.take jj).map fun f=>(kk,f.1,f.2))).length sc) (aH k (A++(fs.take jj).map fun f=>(kk,f.1,f.2))).length ((aH k (A++(fs.take jj).map fun f=>(kk,f.1,f.2))).map Value.string)):=ho;clear ho hb;obtain ⟨c1,c2,c3⟩:=HCY.out wl HBL.out;by_cases hltj:jj<fs.length
          ·obtain ⟨f,hf⟩:∃f,fs[jj]? = some f:=⟨_,jc hltj⟩
           obtain ⟨fg,rfl,hff⟩:=HCF.out jj f hf;obtain ⟨f0,f1⟩:=hff wl HBL.out;have hp6:=HPS.out f (jg hf);have HN:Hid (aH k (A++(fs.take (jj+1)).map fun f=>(kk,f.1,f.2))=aH k (A++(fs.take jj).map fun f=>(kk,f.1,f.2))++(if (f.2:Int)=k then [bs (Lib.decDigits kk)++f.1] else [])):=C7 hf;have HML:Hid ((aH k (A++(fs.take jj).map fun f=>(kk,f.1,f.2))).length<=100000):=jm (nU _ _) (by rw [jt,jB,js];omega);obtain ⟨p,q⟩:=f
           simp only at f0 f1 hp6 HN hff
           obtain ⟨nf,HNF⟩:∃nf,Hid (nf=fs.length):=⟨_,rfl⟩;have hnf2:jj<nf:=by rw [HNF.out];exact hltj
           have hnf3:nf<=100000:=(by rw [HNF.out];exact hnf);rw [<-HNF.out] at c3 HCY
           have HC4:Hid (∀W,Bl wl W->W.cell? ⟨mw,1,none⟩=some (.slice (some ⟨g,0,none⟩) nl lc)/\W.cell? ⟨g,i*6,none⟩=some (.int .i64 (kk:Int))/\W.cell? ⟨g,i*6+5,none⟩=some (.slice (some ⟨fg,0,none⟩) nf vc)/\W.cell? ⟨fg,jj*2,none⟩=some (.string p)):=fun W hW=>by
            have hq:=HBL.out.trans (hW.mono HBL.out.size);obtain ⟨z1,z2,z3⟩:=HCY.out W hq;exact ⟨z1,z2,z3,(hff W hq).1⟩
           have HC4Q:Hid (∀W,Bl wq W->W.cell? ⟨mw,1,none⟩=some (.slice (some ⟨g,0,none⟩) nl lc)/\W.cell? ⟨g,i*6,none⟩=some (.int .i64 (kk:Int))/\W.cell? ⟨g,i*6+5,none⟩=some (.slice (some ⟨fg,0,none⟩) nf vc)/\W.cell? ⟨fg,jj*2,none⟩=some (.string p)):=fun W hW=>by
            obtain ⟨z1,z2,z3⟩:=HCY.out W hW;exact ⟨z1,z2,z3,(hff W hW).1⟩
           obtain ⟨m,xs,HMX⟩:∃m xs,Hid (m=(aH k (A++(fs.take jj).map fun f=>(kk,f.1,f.2))).length/\xs=(aH k (A++(fs.take jj).map fun f=>(kk,f.1,f.2))).map Value.string):=⟨_,_,⟨rfl,rfl⟩⟩;rw [<-HMX.out.1,<-HMX.out.2] at HO;have hml:=HML.out;rw [<-HMX.out.1] at hml ⊢;have HOX:Hid (∀wx,Bl wl wx->∀X,(wx.alloc X).ownsRow wq.heap.size 9 1 (.slice sa m sc) m xs):=fun wx hx X=>jG (dC HO.out hx) X;have hsz1:wq.heap.size<=wl.heap.size:=HBL.out.size
           have hcat:(bs (Lib.decDigits kk)).size+p.size<=9223372036854775807:=by
            have h1:=vW kk (by omega);have h2:(bs (Lib.decDigits kk)).size=(Lib.decDigits kk).length:=rfl;rw [h2,Lib.decDigits_length];omega
           clear hff hf HML HPS HCF HCY;by_cases hq:(q:Int)=k
           ·have HN2:Hid (aH k (A++(fs.take (jj+1)).map fun f=>(kk,f.1,f.2))=aH k (A++(fs.take jj).map fun f=>(kk,f.1,f.2)) ++ [bs (Lib.decDigits kk)++p]):=by show _=_;rw [HN.out,zj hq]
            have hqb:((q:Int)==k)=true:=beq_iff_eq.2 hq;clear HN hq;go_wp2_with fail
            refine zh (S:=fun W=>W.cell? ⟨mw,1,none⟩=some (.slice (some ⟨g,0,none⟩) nl lc)/\W.cell? ⟨g,i*6,none⟩=some (.int .i64 (kk:Int))/\W.cell? ⟨g,i*6+5,none⟩=some (.slice (some ⟨fg,0,none⟩) nf vc)/\W.cell? ⟨fg,jj*2,none⟩=some (.string p)) (by kernel_rfl) (HC4.out _ (cV wl)) (fun hHeld=>?_);refine aW [(0,.slice sa m sc),(1,pZ mw 0),(2,pZ mw 0),(3,pZ mw 1),(4,.slice (some ⟨g,0,none⟩) nl lc),(5,iZ i),(6,pZ g (i*6)),(7,pZ g (i*6)),(8,iZ kk),(10,pZ mw 0),(11,pZ mw 0),(12,pZ mw 1),(13,.slice (some ⟨g,0,none⟩) nl lc),(14,iZ i),(15,pZ g (i*6)),(16,pZ g (i*6+5)),(17,.slice (some ⟨fg,0,none⟩) nf vc),(18,iZ jj),(19,pZ fg (jj*2)),(20,pZ fg (jj*2)),(21,.string p)] hHeld ?_;refine aC 9 rfl fun K' hK=>?_;simp only [ai];go_simp;refine jk (HDE.out _) ?_;rintro e wx ⟨rfl,bx⟩;have HBX:Hid (Bl wl wx):=(cV wl).trans bx;have hsx:wl.heap.size<=wx.heap.size:=HBX.out.size;clear bx;go_wp2_with fail
            refine hK.out _ _ (HC4.out _ HBX.out) (fun hHeld=>?_);clear hK K';refine zr (i:=22) (v:=(.string (bs (Lib.decDigits kk)++p))) rfl (by kernel_rfl) (by kernel_rfl) (by kernel_rfl) (fun _ _ _ h=>h) (Or.inl ⟨by rfl,?_⟩) hHeld ?_
            ·intro w hSw;(try dsimp only at hSw);simp only [ai];go_simp;(try exact hcat)
            simp only [ai,Act.put,bj];refine aC 23 rfl fun K' hK=>?_;simp only [ai];go_simp;go_wp2_with fail
            refine hK.out _ _ (HC4.out _ (HBX.out.alloc HBX.out.size _)) (fun hHeld=>?_);clear hK K';refine aC 24 rfl fun K' hK=>?_;refine step_append_lies _ (by rfl) _ _ _ (by rfl) wq.heap.size 9 i0 _ 1 16 Tryz.underlying44 hi0 hz0 hz1 hz2 rfl (by omega) (.slice sa m sc) m xs (by rfl) (HOX.out wx HBX.out _) ⟨wx.heap.size,0,none⟩ 1 1 [.string (bs (Lib.decDigits kk)++p)] (by rfl) (by rfl) (cell_one_new _ _ _) (by simp [Value.oneCell']) (by omega) (by unfold maxLen;omega) (by omega) (by simp;omega) (wx.heap.size+1) (by simp) ?_;intro g2 cap w5 hown5 hgrow hat hlt5;have HEND:Hid (w5.ownsRow wq.heap.size 9 1 (.slice (some ⟨g2,0,none⟩) (m+1) cap) (m+1) (xs ++ [.string (bs (Lib.decDigits kk)++p)])/\Bl wq w5):=⟨hown5,((HBL.out.trans (HBX.out.mono HBL.out.size)).alloc (by omega) _).grown hgrow (by rw [jE];omega) (fun k hk=>(qj (HOX.out wx HBX.out (.cells #[] 9)) k hk).1)⟩;have HS5:=HC4Q.out w5 HEND.out.2;clear hown5 hgrow hat hlt5;simp only [ai,Act.put,bj];refine hK.out _ _ HS5 (fun hHeld=>?_);clear hK K';refine tk 25 (.slice (some ⟨g2,0,none⟩) (m+1) cap) rfl hHeld ?_;simp only [ai,Act.put,bj];refine zk (by kernel_rfl) ?_ _;go_wp2_with fail
            refine ⟨⟨jj+1,by omega,by simp,?_,HEND.out.2⟩,by simp [intOf];omega⟩;have h5:=HEND.out.1;rw [HN2.out,jt,jR,<-HMX.out.1,<-HMX.out.2];exact h5
           ·have HN2:Hid (aH k (A++(fs.take (jj+1)).map fun f=>(kk,f.1,f.2))=aH k (A++(fs.take jj).map fun f=>(kk,f.1,f.2))):=by show _=_;rw [HN.out,zi hq,qz]
            have hqb:((q:Int)==k)=false:=zl.2 hq;clear HN;go_wp2_with fail
            refine ⟨⟨jj+1,by omega,by simp,?_,HBL.out⟩,by simp [intOf];omega⟩;rw [HN2.out,<-HMX.out.1,<-HMX.out.2];exact HO.out
          ·obtain rfl:jj=fs.length:=by omega
           have HE5:Hid (wl.ownsRow wq.heap.size 9 1 (.slice sa (aH k (bh (L.take (i+1)))).length sc) (aH k (bh (L.take (i+1)))).length ((aH k (bh (L.take (i+1)))).map Value.string)):=by
            have h1:=HO.out;rw [jS,<-HTK.out] at h1;exact h1
           have HTL:Hid (aH k (A++(fs.take fs.length).map fun f=>(kk,f.1,f.2))=aH k (bh (L.take (i+1)))):=(by show _=_;rw [jS,HTK.out]);clear HO;rw [HTL.out];go_wp2_with fail
           exact ⟨⟨i+1,by omega,by simp,HE5.out,HBL.out⟩,by simp [intOf];omega⟩
        ·obtain rfl:i=nl:=by omega
         have HEQ:Hid (wl.ownsRow wq.heap.size 9 1 (.slice sa m0 sc) (aH k (bh L)).length ((aH k (bh L)).map Value.string)):=by
          have h1:=HO.out;have h2:=HM0.out;rw [HNL.out,jS] at h1 h2;rw [<-h2];exact h1
         obtain ⟨fm,HFM⟩:∃fm,Hid (fm=aH k (bh L)):=⟨_,rfl⟩;have hfm:fm.length<=1000000000:=by rw [HFM.out];exact jm (nU _ _) (jm HFL.out (by omega))
         rw [<-HFM.out] at HEQ HWH;have HST:Hid (∀W v1 v2,fL W v1 fm->fL W v2 fm->Cl 20 #[v1,v2] W fun e w'=>e = .returned (.bool true)/\Bl W w'):=fun W v1 v2 h1 h2=>(uB v1 v2 fm fm W h1 h2 hfm).mono fun e w' ⟨he,hb⟩=>⟨by rw [he,uC],hb⟩;have HLW:Hid (Bl w wl):=HBQ.out.trans (HB.out.mono HBQ.out.size);clear HY HMW HO HFM HFL HDD HM0
         go_wp2_with (go_at_call 16;refine (HWH.out _ HB.out).mono ?_;rintro e wv ⟨vv,rfl,hov,hbv⟩)
         have HBV:Hid (Bl w wv):=HLW.out.trans (hbv.mono HLW.out.size);have hT1:=fL.of_own hov;have hT2:=fL.of_own (dC HEQ.out hbv);have HSS:Hid _:=HST.out wv _ _ hT1 hT2;clear hT1 hT2 hov hbv;refine jk HSS.out ?_;rintro e wz ⟨rfl,hbz⟩;go_wp2_with fail
         go_ret;exact ⟨rfl,HBV.out.trans (hbz.mono HBV.out.size)⟩
  ·go_ret
   exact ⟨rfl,HB2.out⟩
  ·go_ret
   exact ⟨rfl,HB1.out⟩
 ·go_enter Tryz.func3,Tryz.ntmps3
  by_cases hM1:M<1
  ·go_wp2_with (go_at_call 4;refine HMD.mono ?_;rintro e w1 ⟨rfl,hb1⟩;clear HMD)
   go_ret;exact ⟨rfl,hb1⟩
  ·have hM2:(40:Int)<M:=by omega
   go_wp2_with (go_at_call 4;refine HMD.mono ?_;rintro e w1 ⟨rfl,hb1⟩;clear HMD)
   go_ret;exact ⟨rfl,hb1⟩
end
section
set_option maxRecDepth 100000
open Go.ChangeShapes Go.WideShapes Go.RowKit

theorem pE {H:Type} {enc:TypeId×Value->H} {a:Assume} {C:Checked} {os:Os} {f:FuncId} {fn:Func} {s:ChangeSpec} {conds:List PathCond} {apart fresh handsOn again:Bool} {X:World->Array Value->Prop}
  (hX:∀(w w':World) (args:Array Value),w.heap=w'.heap->X w args->X w' args)
  (own:ownKnob C.prog.godebug=none) (started:os.Started) (noInit:C.prog.inits.idxOf? f=none) (hfn:C.prog.funcs[f]? = some fn)
  (witness:∃(w:World) (tape:Tape) (i:Input),w.os=os/\(w.forCall tape i).Shaped C.prog/\i.vars = []/\Input.okWide C.prog (w.forCall tape i) .any w.heap.size f i /\
   ((s.pre enc C.prog fn conds apart (w.forCall tape i).memory i.args/\X (w.forCall tape i).memory i.args)/\sizedMet enc C.prog fn (OpenSpec.ofChange s) apart (w.forCall tape i).memory i.args)/\a.holds C.prog (lone (Frame.enter C.prog f i.args .normal) [] (w.forCall tape i)))
  (contract:∀(W:World) (base:Nat) (args:Array Value) (ds gs:List (DataW H)) (before:List MemPlace),
   (∀(j:Nat) t v,fn.params[j]? = some t->args[j]? = some v->Value.okWide C.prog W .any base t v) ->
   DataW.Whole enc C.prog fn.params.toList s.vars apart W args.toList ds gs before ->
   (DataW.weightsEach C.prog (fn.params.toList++s.plain.varTypes C.prog) (ds++gs)).all (· <= reachBytes)=true->X W args->W.ShapedOpen C.prog ->
   Calls C.prog f args W fun e W'=>∃v,e = .returned v/\s.post enc C.prog fn apart fresh handsOn again W args v W') :
  ReturnsInHanded a C os f .any (fun w args=>(s.pre enc C.prog fn conds apart w args/\X w args)/\sizedMet enc C.prog fn (OpenSpec.ofChange s) apart w args) (s.post enc C.prog fn apart fresh handsOn again):=by
 refine returnsInHanded_of_calls own started noInit witness ?_;intro w tape i _ hsh _ hok hpre _;obtain ⟨_,_,_,fn',hfn',_,_,_,_,hval⟩:=hok;obtain rfl:fn'=fn:=Option.some.inj (hfn'.symm.trans hfn);obtain ⟨⟨⟨ds,gs,before,hw,_⟩,hx⟩,hz⟩:=hpre;have hw':=DataW.Whole.of_heap (w':=w.forCall tape i) (by rfl) hw;refine (contract (w.forCall tape i) w.heap.size i.args ds gs before hval hw' (hz.weights hw) (hX _ _ _ (by rfl) hx) hsh).mono fun e W' ⟨v,he,hp⟩=>?_;subst he;exact ChangeSpec.post_blind hp

theorem uG {W:World} (h:W.ShapedOpen Tryz.prog):∃m,W.cell? ⟨17,0,none⟩=some (.int .i64 m) :=
 Go.Proofs.cell_of_shapedOpen_int (zero:=#[.int .i64 0]) (t:=3) h (of_decide_eq_true (by kernel_rfl)) (by kernel_rfl) rfl (by kernel_rfl) (by kernel_rfl) Tryz.underlying3

theorem oh {P:Program} {w:World}:∀(l m:List (String×DataW Unit)) (ps:List MemPlace),DataW.LaidVars P w (l++m) ps->∃qs,DataW.LaidVars P w l qs/\qs.Sublist ps
 | [],_,ps,_=>⟨[],rfl,List.nil_sublist ps⟩
 | (n,d) :: l,m,ps,h=>by
  obtain ⟨g,t,cs,fuel,p,q,h1,h2,h3,h4,hq,rfl⟩:=h;obtain ⟨qs,hqs,hsub⟩:=oh l m q hq;exact ⟨_,⟨g,t,cs,fuel,p,qs,h1,h2,h3,h4,hqs,rfl⟩,(List.append_sublist_append_left _).2 hsub⟩
theorem wN {P:Program} {w:World} {l m:List (String×DataW Unit)} (h:laidMet P (l++m) w):laidMet P l w:=by
 obtain ⟨ps,hv,hnd,hrows⟩:=h;obtain ⟨qs,hqs,hsub⟩:=oh l m ps hv;exact ⟨qs,hqs,List.Nodup.sublist hsub hnd,fun b off hm=>hrows b off (hsub.subset hm)⟩
end
section
set_option maxRecDepth 100000
open Go.ChangeShapes Go.WideShapes Go.RowKit

def kx:List (String×Nat×List UInt8):=(((Rows.scrubActsRow.laid.drop 5).take 13).zip Fv).map fun x=>(x.1.1,x.2,Is x.1.2)
theorem AZ (W:World):laidMetH Tryz.prog Rows.scrubActsRow.laid W =
  (laidMet Tryz.prog (("math/bits.deBruijn32tab",Rows.laid_math_bits_deBruijn32tab) :: ("math/bits.deBruijn64tab",Rows.laid_math_bits_deBruijn64tab) :: ("internal/strconv.uint64pow10",Lib.tabData .u64 Lib.pow10Tab) :: ("unicode/utf8.acceptRanges",Rows.laid_unicode_utf8_acceptRanges) :: ((kx.map fun x=>(x.1,.iface "*errors.errorString" (.ptr (.agg [.lit (.string x.2.2)])))) ++ [("unicode/utf8.first",Rows.laid_unicode_utf8_first)])) W∧handlesMet Tryz.prog ((Rows.scrubActsRow.laid.drop 4).take 1) W):=by kernel_rfl
theorem wO:(kx.all fun x=>decide (Tryz.prog.globalNamed x.1=some x.2.1)&&decide ((Tryz.prog.globals[x.2.1]?).map (·.type)=some 36))=true:=by kernel_rfl
theorem xR:kx.map (·.2.1)=Fv:=by kernel_rfl
theorem Jz:∀i,i<13->Fv[i]? = some (gv i):=by decide
theorem G8:(Rows.scrubActsRow.laid.drop 4).take 1 = [("errors.errorType",Rows.laid_errors_errorType)]:=by kernel_rfl
theorem Kb:Tryz.prog.globalNamed "errors.errorType" = some 13:=by kernel_rfl
theorem G9:(Tryz.prog.cutTypes.find? (·.1 == "internal/reflectlite.rtype")).map (·.2)=some 231:=by kernel_rfl
theorem IZ:((List.range 349).filter fun t=>Tryz.prog.rowNamed t [101,114,114,111,114]) = [36]:=by kernel_rfl
theorem C8:Tryz.prog.types.size=349:=by kernel_rfl

theorem C9 {W:World} (h:handlesMet Tryz.prog ((Rows.scrubActsRow.laid.drop 4).take 1) W):W.cell? ⟨13,0,none⟩=some (.iface 231 (.agg #[.pointer (some ⟨20,36,none⟩)])):=by
 rw [G8] at h;obtain ⟨name,u,ty,e1,e2,e3,e4,e5⟩:=h _ (jF.2 rfl);have en:name = [101,114,114,111,114]:=(jO e1).symm;subst en;obtain rfl:=jO (G9.symm.trans e2);have hm:ty∈(List.range 349).filter fun t=>Tryz.prog.rowNamed t [101,114,114,111,114]:=qK.2 ⟨qR.2 (by rw [<-C8];exact e3),e4⟩;rw [IZ] at hm;obtain rfl:=jF.1 hm;have hh:typeHandle Tryz.prog 36 = .pointer (some ⟨20,36,none⟩):=by kernel_rfl
 rw [hh] at e5
 simpa using World.var?_cell Kb e5 0

theorem uH {W:World} (h:laidMetH Tryz.prog Rows.scrubActsRow.laid W):∃a,aV a W/\oZ W.heap.size W:=by
 rw [AZ] at h;obtain ⟨hpl,hh⟩:=h;have hp2:=hpl.tail.tail;have hT:Lib.TabIs Tryz.prog W "internal/strconv.uint64pow10" .u64 Lib.pow10Tab:=Lib.tabIs_of_head (g:=14) (t:=286) (e:=253) (n:=20) (by kernel_rfl) (by kernel_rfl) Tryz.underlying286 Tryz.underlying253 (by kernel_rfl) (by kernel_rfl) hp2;obtain ⟨ps,hv,hnd,hrows⟩:=wN hp2.tail.tail
 have hx:∀x∈kx,Tryz.prog.globalNamed x.1=some x.2.1/\(Tryz.prog.globals[x.2.1]?).map (·.type)=some 36:=fun x hx=>by
  have:=qy.1 wO x hx
  simpa using this
 obtain ⟨la,h1,h2⟩:=tG Tryz.underlying36 JG Tryz.underlying319 Tryz.underlying337 rfl rfl Tryz.underlying9 F9 ny kx hv hx hrows;rw [xR] at h1;have hat:∀i,i<13->∃a,la[i]? = some a/\W.cell? ⟨gv i,0,none⟩=some (.iface 319 (.pointer (some a)))/\∃c t,W.heap[a.block]? = some (.cells c t (0,0)):=fun i hi=>h1.at (Jz i hi);refine ⟨fun i=>(la[i]?).getD ⟨0,0,none⟩,?_,Lib.tabBelow_of_tabIs hT⟩;refine ⟨fun i hi=>?_,fun i hi=>?_,fun i j hi hj hij=>?_,C9 hh⟩
 ·obtain ⟨a,e,hc,_⟩:=hat i hi
  rw [e];exact hc
 ·obtain ⟨a,e,_,hc⟩:=hat i hi
  rw [e];exact hc
 ·obtain ⟨a,e,_,_⟩:=hat i hi
  obtain ⟨b,e',_,_⟩:=hat j hj;rw [e,e'];intro hab;have hab:a=b:=hab;subst hab;have hn:(la.map fun a=>MemPlace.cell a.block a.off).Nodup:=List.Nodup.sublist h2 hnd
  have hlt:i<(la.map fun a=>MemPlace.cell a.block a.off).length:=by
   have:=(jb.1 e).1
   simpa using this
  exact hij ((List.getElem?_inj hlt hn).1 (by simp [e,e']))
def cq:List (String×DataW Unit):=Rows.scrubActsRow.laid.filter fun x=>x.2.handleName?.isNone
theorem uI (os:Os):(((World.holding Tryz.prog os ⟨#[],#[],[]⟩).setCell ⟨13,0,none⟩ (.iface 231 (.agg #[.pointer (some ⟨20,36,none⟩)]))).layVars Tryz.prog cq).os=os:=World.layVars_os _ _ _
theorem A5 (os:Os):((World.holding Tryz.prog os ⟨#[],#[],[]⟩).setCell ⟨13,0,none⟩ (.iface 231 (.agg #[.pointer (some ⟨20,36,none⟩)]))).layFits Tryz.prog cq []=true:=by kernel_rfl
theorem wP (os:Os):((World.holding Tryz.prog os ⟨#[],#[],[]⟩).setCell ⟨13,0,none⟩ (.iface 231 (.agg #[.pointer (some ⟨20,36,none⟩)]))).layIfaces Tryz.prog cq (((World.holding Tryz.prog os ⟨#[],#[],[]⟩).setCell ⟨13,0,none⟩ (.iface 231 (.agg #[.pointer (some ⟨20,36,none⟩)]))).layVars Tryz.prog cq)=true:=by kernel_rfl
theorem xS (os:Os) (args:Array Value):laidMet Tryz.prog cq ((((World.holding Tryz.prog os ⟨#[],#[],[]⟩).setCell ⟨13,0,none⟩ (.iface 231 (.agg #[.pointer (some ⟨20,36,none⟩)]))).layVars Tryz.prog cq).forCall (fun _ _=>0) ⟨#[],args,[]⟩).memory:=by
 have e1:(cq.filter fun x=>(cq.map (·.1)).contains x.1)=cq:=List.filter_eq_self.2 fun x hx=>List.contains_iff_mem.2 (jv.2 ⟨x,hx,rfl⟩);have e2:(cq.filter fun x=>!(cq.map (·.1)).contains x.1) = []:=List.filter_eq_nil_iff.2 fun x hx=>by rw [List.contains_iff_mem.2 (jv.2 ⟨x,hx,rfl⟩)];simp
 have h:laidMet Tryz.prog cq (((World.holding Tryz.prog os ⟨#[],#[],[]⟩).setCell ⟨13,0,none⟩ (.iface 231 (.agg #[.pointer (some ⟨20,36,none⟩)]))).layVars Tryz.prog cq):=laidMet_layVars (w0:=((World.holding Tryz.prog os ⟨#[],#[],[]⟩).setCell ⟨13,0,none⟩ (.iface 231 (.agg #[.pointer (some ⟨20,36,none⟩)])))) (cq.map (·.1)) [] (by rw [e1]) (by rw [e1];exact A5 os) (by rw [e1];exact wP os) (by rw [e2];exact LaidIn.none);exact h.of_heap (by simp [World.memory,World.forCall,Input.heap])
theorem s8 (os:Os) (args:Array Value):laidMetH Tryz.prog Rows.scrubActsRow.laid ((((World.holding Tryz.prog os ⟨#[],#[],[]⟩).setCell ⟨13,0,none⟩ (.iface 231 (.agg #[.pointer (some ⟨20,36,none⟩)]))).layVars Tryz.prog cq).forCall (fun _ _=>0) ⟨#[],args,[]⟩).memory :=
 laidMetH_of_parts3 (fuel:=8) (xS os args) (by kernel_rfl) (by kernel_rfl)
end
section
set_option maxRecDepth 100000
open Go.ChangeShapes Go.WideShapes Go.RowKit

theorem I0:Tryz.prog.cellsOf 3=1:=by kernel_rfl
section
variable {H : Type} {enc : TypeId × Value → H} {w : World}
end
end
end Go.Proofs.YthofhjnfkholoaaGreatDoor
