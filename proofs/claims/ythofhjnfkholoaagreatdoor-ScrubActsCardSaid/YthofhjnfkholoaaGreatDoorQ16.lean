/-
  Mh Xb LaidA Data Arg ArgT Lists, joined.
  Conditions: those that each states.
-/
import Derived.Test.YthofhjnfkholoaaGreatDoorQ11
import Derived.Test.YthofhjnfkholoaaGreatDoorQ15
import Derived.Test.YthofhjnfkholoaaGreatDoorRows
import Derived.LaidLaws
import Derived.LaidHandle
import Derived.LaidMore
import Derived.Stop.LaidErr
import Derived.ProofKit
import Derived.SizedLaws
import Derived.Deep.Slices
import Derived.Lib.SmallJoins
import Derived.ChangeSame
import Derived.ChangeVars
namespace Go.Proofs.YthofhjnfkholoaaGreatDoor
section
set_option maxHeartbeats 4000000
set_option maxRecDepth 100000
open Go.RowKit

section
variable {w0 W : World} {T0 tb bb mt md i N : Nat} {bl : List (List UInt8)} {u : List Bool} {tab : List (Option ak)} {a : Nat → Addr}
theorem Io (k:Nat) (x:ak) (hx:af tab k=some x) (Q:dZ w0 T0 tb bb mt md i bl u tab W) (P:fG N i bl u tab) (S:aV a w0) :
  Cl 46 #[.pointer (some ⟨tb,0,none⟩),.int .i64 (k:Int)] W fun e w1=>∃s ev c,e = .returned (.tuple #[.string s,ev])/\Bl W w1/\Cl 40 #[.pointer (some ⟨mt,0,none⟩),.int .i64 (k:Int)] w1 fun e2 w2=>e2 = .returned (.tuple #[.string s,.int .i64 c])/\Bl W w2/\Cl 9 #[ev,.int .i64 c] w2 fun e3 w3=>e3 = .returned (.bool true)/\Bl W w3:=by
 have SW:=Q.sents S;obtain ⟨sp,sb,cap,mb,n,hn,T⟩:=Q.t;obtain ⟨la,lc,ia,ic,vs,M⟩:=Q.m;obtain ⟨p1,p2,p3,p4⟩:=P.need hx;by_cases hc:aQ (au bl x.blocks x.bytes)=x.sum
 ·refine (pn k x _ hx hc W T p4 p1 (by omega) SW.c10).mono fun e w1 ⟨he,hb⟩=>⟨_,_,0,he,hb,?_⟩
  refine (jP k x hx w1 (M.below hb) p4 T.disk.bl16 p1 p3).mono fun e2 w2 ⟨he2,hb2⟩=>⟨?_,hb.trans (hb2.mono hb.size),?_⟩
  ·rw [he2];unfold bm;rw [zj hc]
  ·refine (j4 0 w2).mono fun e3 w3 ⟨he3,h3⟩=>⟨by rw [he3];rfl,by rw [h3];exact hb.trans (hb2.mono hb.size)⟩
 ·refine (iT k x _ hx hc W T p4 p1 (by omega) SW.c10).mono fun e w1 ⟨he,hb⟩=>⟨_,_,11,he,hb,?_⟩
  refine (jP k x hx w1 (M.below hb) p4 T.disk.bl16 p1 p3).mono fun e2 w2 ⟨he2,hb2⟩=>⟨?_,hb.trans (hb2.mono hb.size),?_⟩
  ·rw [he2];unfold bm;rw [zi hc]
  ·have hb12:=hb.trans (hb2.mono hb.size)
   refine (ib a 10 11 w2 (SW.below hb12) (by decide)).mono fun e3 w3 ⟨he3,h3⟩=>⟨by rw [he3];rfl,hb12.trans (h3.mono hb12.size)⟩
theorem xk (hi:i<=4000) (Q:dZ w0 T0 tb bb mt md i bl u tab W) (P:fG N i bl u tab) (S:aV a w0) :
  Cl 15 #[.pointer (some ⟨tb,0,none⟩),.pointer (some ⟨mt,0,none⟩)] W fun e w'=>e = .returned (.int .i64 1)/\Bl W w':=by
 obtain ⟨sp,sb,cap,mb,n,hn,T⟩:=Q.t;obtain ⟨la,lc,ia,ic,vs,M⟩:=Q.m;have hlen:=Q.len.1;have hO:=P.ok (by omega);have hbl:bl.length<=512:=by rw [P.sp.lbl];exact P.n5
 have hF:=P.sp.freeM;rw [<-P.sp.lbl] at hF
 have HAL:Hid (Cl 42 #[.pointer (some ⟨tb,0,none⟩)] W fun e w1=>∃ad vc,e = .returned (.slice ad (bJ tab).length vc)/\aP w1 (.slice ad (bJ tab).length vc) (ar (bJ tab))/\Bl W w1):=(vf W T).mono fun e w1 ⟨v,he,ho,hb⟩=>by
  obtain ⟨ad,vc,rfl⟩:=d8 ho;exact ⟨ad,vc,he,ho.t,hb⟩
 have HFM:Hid (∀w1,Bl W w1->Cl 44 #[.pointer (some ⟨mt,0,none⟩)] w1 fun e w2=>∃ad vc,e = .returned (.slice ad (aF u).length vc)/\Bl w1 w2/\Bl W w2):=fun w1 h1=>(ox w1 (M.below h1) hO hbl).mono fun e w2 ⟨v,he,ho,hb⟩=>by
  rw [hF] at ho;obtain ⟨ad,vc,rfl⟩:=d8 ho;exact ⟨ad,vc,he,hb,h1.trans (hb.mono h1.size)⟩
 have HMA:Hid (∀w1,Bl W w1->Cl 43 #[.pointer (some ⟨mt,0,none⟩)] w1 fun e w2=>∃ad vc,e = .returned (.slice ad (bJ tab).length vc)/\aP w2 (.slice ad (bJ tab).length vc) (ar (bJ tab))/\Bl w1 w2/\Bl W w2):=fun w1 h1=>(Fp w1 (M.below h1) (by omega)).mono fun e w2 ⟨v,he,ho,hb⟩=>by
  have ho2:bw w2 w1.heap.size v (bJ tab):=ho;obtain ⟨ad,vc,rfl⟩:=d8 ho2;exact ⟨ad,vc,he,ho2.t,hb,h1.trans (hb.mono h1.size)⟩
 have HFR:Hid (∀w1,Bl W w1->Cl 45 #[.pointer (some ⟨tb,0,none⟩)] w1 fun e w2=>e = .returned (.int .i64 ((aF u).length:Int))/\Bl w1 w2/\Bl W w2):=fun w1 h1=>(sE w1 (T.below h1)).mono fun e w2 ⟨he,hb⟩=>⟨he,hb,h1.trans (hb.mono h1.size)⟩;have HSI:Hid (∀w1 v1 v2 l,aP w1 v1 l->aP w1 v2 l->l.length<=100000->Cl 12 #[v1,v2] w1 fun e w2=>e = .returned (.bool true)/\Bl w1 w2):=fun w1 v1 v2 l h1 h2 hl=>lq v1 v2 l w1 h1.at h2.at hl
 have HST:Hid (∀w1 k x,af tab k=some x->Bl W w1->Cl 34 #[.pointer (some ⟨tb,0,none⟩),.int .i64 (k:Int)] w1 fun e w2=>∃ad vc,e = .returned (.tuple #[.agg #[.int .i64 (x.bytes:Int),.int .i64 (x.links:Int),.bool x.exec,.slice ad x.blocks.length vc,.int .u32 (x.sum:Int)],.bool true])/\aP w2 (.slice ad x.blocks.length vc) (ar x.blocks)/\Bl w1 w2):=fun w1 k x hx h1=>(mE k x hx (by have:=(P.need hx).1;omega) w1 (T.below h1)).mono fun e w2 ⟨v,he,hv,hb⟩=>by
  obtain ⟨ad,vc,rfl,h⟩:=id hv;rw [bQ] at hv he;exact ⟨ad,vc,he,hv,hb⟩
 have HSL:Hid (∀w1 k x,af tab k=some x->Bl W w1->w1.cell? ⟨mt,1,none⟩=some (.slice ia tab.length ic)/\∃g ad vc,ia=some ⟨g,0,none⟩/\w1.cell? ⟨g,k*6,none⟩=some (.bool true)/\w1.cell? ⟨g,k*6+1,none⟩=some (.int .i64 (x.bytes:Int))/\w1.cell? ⟨g,k*6+2,none⟩=some (.int .i64 (x.links:Int))/\w1.cell? ⟨g,k*6+3,none⟩=some (.bool x.exec)/\w1.cell? ⟨g,k*6+4,none⟩=some (.slice ad x.blocks.length vc)/\w1.cell? ⟨g,k*6+5,none⟩=some (.int .i64 (x.sum:Int))/\aP w1 (.slice ad x.blocks.length vc) (ar x.blocks)):=fun w1 k x hx h1=>by
  have M1:=M.below h1;refine ⟨M1.cells.2.1,?_⟩;obtain ⟨v,g,hv,e,hc,_⟩:=M1.slot (cM hx);have iv:=M1.its k x v (cM hx) hv;obtain ⟨ad,vc,rfl,h⟩:=id iv;rw [bQ] at iv hc;exact ⟨g,ad,vc,e,hc 0 _ rfl,hc 1 _ rfl,hc 2 _ rfl,hc 3 _ rfl,hc 4 _ rfl,hc 5 _ rfl,iv⟩
 have HRD:Hid (∀w1 k x,af tab k=some x->Bl W w1->Cl 46 #[.pointer (some ⟨tb,0,none⟩),.int .i64 (k:Int)] w1 fun e w2=>∃s ev c,e = .returned (.tuple #[.string s,ev])/\Bl w1 w2/\Cl 40 #[.pointer (some ⟨mt,0,none⟩),.int .i64 (k:Int)] w2 fun e2 w3=>e2 = .returned (.tuple #[.string s,.int .i64 c])/\Bl w1 w3/\Cl 9 #[ev,.int .i64 c] w3 fun e3 w4=>e3 = .returned (.bool true)/\Bl w1 w4):=fun w1 k x hx h1=>Io k x hx (Q.below h1) P S
 have HSM:Hid (∀j,j<(bJ tab).length->∃k x,(bJ tab)[j]? = some k/\af tab k=some x/\k<tab.length/\x.blocks.length<=1000/\x.sum<4294967296):=fun j hj=>by
  obtain ⟨x,hx⟩:=iF.1 (List.getElem_mem hj);exact ⟨_,x,jc hj,hx,aO hx,(P.need hx).1,(P.li _ x hx).2⟩
 have hal:=nr tab
 have HIA:Hid (∀ {w1:World} {ad:Option Addr} {vc j k:Nat},aP w1 (.slice ad (bJ tab).length vc) (ar (bJ tab))->(bJ tab)[j]? = some k->∃b off,ad=some ⟨b,off,none⟩/\w1.cell? ⟨b,off+j,none⟩=some (.int .i64 (k:Int))):=fun h hk=>by
  obtain ⟨ad',c',e,hc⟩:=h.at;simp only [jo] at e;obtain ⟨b,off,e2,hc2⟩:=hc _ _ (by unfold ar;rw [jx,hk];rfl);exact ⟨b,off,by rw [e.1,e2],hc2⟩
 clear M T Q P S hO hF hn;obtain ⟨al,Hal⟩:∃al,Hid (al=ar (bJ tab)):=⟨_,(rfl:_=_)⟩;rw [<-Hal.out] at HAL HMA HIA;obtain ⟨LL,HLL⟩:∃LL,Hid (LL=(bJ tab).length):=⟨_,(rfl:_=_)⟩;have hal2:al.length<=100000:=by rw [Hal.out,bQ];omega
 rw [<-HLL.out] at HAL HMA HIA HSM hal;clear HLL Hal;generalize (aF u).length=FR at *;go_enter Tryz.func15,Tryz.ntmps15
 go_wp2_with (first
  | (go_at_call 42;refine HAL.out.mono ?_;rintro e w1 ⟨ad1,vc1,rfl,i1,b1⟩;clear HAL)
  | (go_at_call 44;refine (HFM.out _ b1).mono ?_;rintro e w2 ⟨ad2,vc2,rfl,b12,b2⟩;clear HFM)
  | (go_at_call 43;refine (HMA.out _ b2).mono ?_;rintro e w3 ⟨ad3,vc3,rfl,i3,b23,b3⟩;clear HMA)
  | (go_at_call 12;refine (HSI.out _ _ _ al (i1.below (b12.trans (b23.mono b12.size))) i3 hal2).mono ?_;rintro e w4 ⟨rfl,b34⟩)
  | (go_at_call 45;refine (HFR.out _ (b3.trans (b34.mono b3.size))).mono ?_;rintro e w5 ⟨rfl,b45,b5⟩;clear HFR))
 have I5:aP w5 (.slice ad1 LL vc1) al:=i1.below ((b12.trans (b23.mono b12.size)).trans ((b34.trans (b45.mono b34.size)).mono (jm b12.size b23.size)));have HI5:=kH I5;have HB5:=kH b5;clear I5 b5 i1 i3 b1 b2 b3 b12 b23 b34 b45
 go_loopw [7] (fun i wr=>∃j:Nat,j<=LL/\i = .int .i64 j/\Bl w5 wr) (fun i _=>LL-(intOf i).toNat)
 case atStart=>exact ⟨0,jq _,rfl,je _ _⟩
 case round =>
  obtain ⟨j,hj,rfl,hb⟩:=hrel;have HB:=kH hb;clear hb;by_cases hlt:j<LL
  ·obtain ⟨k,x,hk,hx,hkl,hbl2,hsum⟩:=HSM.out j hlt
   have HBW:=kH (HB5.out.trans (HB.out.mono HB5.out.size));obtain ⟨b0,off,rfl,c0⟩:=HIA.out (HI5.out.below HB.out) hk;have HX:=HST.out wr k x hx HBW.out;have HIL:Hid ((ar x.blocks).length<=100000):=by show _<=_;rw [bQ];omega
   have HXX:=kH hx;clear hk hx
   go_wp2_with (first
    | (go_at_call 34;refine HX.mono ?_;rintro e w6 ⟨ad6,vc6,rfl,i6,b6⟩;(have HB6:Hid (Bl W (w6.alloc (.cells #[.int .i64 (x.bytes:Int),.int .i64 (x.links:Int),.bool x.exec,.slice ad6 x.blocks.length vc6,.int .u32 (x.sum:Int)] 93))):=((HBW.out.trans (b6.mono HBW.out.size)).alloc (HBW.out.trans (b6.mono HBW.out.size)).size _));(obtain ⟨cm1,g,ad7,vc7,rfl,d0,d1,d2,d3,d4,d5,i7⟩:=HSL.out (w6.alloc (.cells #[.int .i64 (x.bytes:Int),.int .i64 (x.links:Int),.bool x.exec,.slice ad6 x.blocks.length vc6,.int .u32 (x.sum:Int)] 93)) k x HXX.out HB6.out);(have HI6:=kH i6);(have HI7:=kH i7);(have HBB6:=kH b6);clear i6 i7 b6 HX)
    | (go_at_call 12;refine (HSI.out _ _ _ (ar x.blocks) (HI6.out.below (((je _ w6).alloc (jd _) _).alloc (by simp) _)) (HI7.out.below ((je _ _).alloc (jd _) _)) HIL.out).mono ?_;rintro e w8 ⟨rfl,b8⟩;(have HB8:Hid (Bl W w8):=(HB6.out.alloc HB6.out.size _).trans (b8.mono (by have:=HB6.out.size;simp at this ⊢;omega)));(have HC8:Hid (Bl wr w8):=(((HBB6.out.alloc HBB6.out.size _).alloc (by have:=HBB6.out.size;simp;omega) _).trans (b8.mono (by have:=HBB6.out.size;simp;omega))));(have HR8:=HRD.out w8 k x HXX.out HB8.out);clear b8)
    | (go_at_call 46;refine HR8.mono ?_;rintro e w9 ⟨s,ev,c,rfl,b9,HR9⟩;clear b9 HR8)
    | (go_at_call 40;refine HR9.mono ?_;rintro e w10 ⟨rfl,b10,HR10⟩;clear b10 HR9)
    | (go_at_call 9;refine HR10.mono ?_;rintro e w11 ⟨rfl,b11⟩;clear HR10))
   have hb11:=HC8.out.trans (b11.mono HC8.out.size);exact ⟨⟨j+1,by omega,by simp,HB.out.trans (hb11.mono HB.out.size)⟩,by simp [intOf];omega⟩
  ·obtain rfl:j=LL:=by omega
   go_wp2_with fail
   go_ret;exact ⟨rfl,HB5.out.trans (HB.out.mono HB5.out.size)⟩
end
end
section
set_option maxRecDepth 100000
open Go.RowKit

section
variable {w0 W : World} {T0 tb bb mt md i N : Nat} {bl : List (List UInt8)} {u : List Bool} {tab : List (Option ak)} {a : Nat → Addr}
theorem Ip (hi:i<=4000) (Q:dZ w0 T0 tb bb mt md i bl u tab W) (P:fG N i bl u tab) (S:aV a w0) :
  Cl 13 #[.pointer (some ⟨tb,0,none⟩)] W fun e w1=>∃v,e = .returned v/\Bl W w1 /\
   Cl 14 #[.pointer (some ⟨mt,0,none⟩)] w1 fun e2 w2=>∃v2,e2 = .returned v2/\Bl W w2 /\
   Cl 12 #[v,v2] w2 fun e3 w3=>e3 = .returned (.bool true)/\Bl W w3:=by
 have SW:=Q.sents S;have hl:=Q.len;obtain ⟨sp,sb,cap,mb,n,hn,T⟩:=Q.t;obtain ⟨la,lc,ia,ic,vs,M⟩:=Q.m;refine (vg _ W T P.sp SW.c10).mono fun e w1 ⟨v,he,ho,hb⟩=>⟨v,he,hb,?_⟩;refine (Ic w1 (M.below hb) (by omega) hl.2 (fun k x hx=>⟨(P.need hx).1,(P.need hx).2.2.1,(P.need hx).2.2.2⟩)).mono fun e2 w2 ⟨v2,he2,ho2,hb2⟩=>⟨v2,he2,hb.trans (hb2.mono hb.size),?_⟩
 have hlen:(ar (kL bl tab)).length<=100000:=by
  rw [bQ];have h1:(kL bl tab).length<=(bJ tab).length:=qu _ _;have h2:=nr tab;omega
 refine (lq v v2 _ w2 ((ho.t.below hb2).at) ho2.t.at hlen).mono fun e3 w3 ⟨he3,hb3⟩=>⟨he3,?_⟩;have hb12:=hb.trans (hb2.mono hb.size);exact hb12.trans (hb3.mono hb12.size)
theorem Iq (k:Int) (hk:(Lit.int .i64 k).wf=true) (s:ByteArray) (hs:s.size<=1000000) (Q:dZ w0 T0 tb bb mt md i bl u tab W) (P:fG N i bl u tab) (S:aV a w0) :
  Cl 10 #[.pointer (some ⟨tb,0,none⟩),.int .i64 k,.string s] W fun e w1=>∃ev,e = .returned ev/\Below T0 w0 w1 /\
   Cl 11 #[.pointer (some ⟨mt,0,none⟩),.int .i64 k,.string s] w1 fun e2 w2=>∃c,e2 = .returned (.int .i64 c)/\Below T0 w0 w2 /\
   Cl 9 #[ev,.int .i64 c] w2 fun e3 w3=>e3 = .returned (.bool true)/\Below T0 w0 w3/\dc w0 T0 tb bb mt md N i w3:=by
 have SW:=Q.sents S;have hup:∀W',Bl W W'->Below T0 w0 W':=fun W' h=>(Q.below h).b;have hl:=Q.len;obtain ⟨sp,sb,cap,mb,n,hn,T⟩:=Q.t;obtain ⟨la,lc,ia,ic,vs,M⟩:=Q.m
 have hsent:∀(q:Nat) (c:Int) (w2:World),q<13->c=(q:Int)+1->Bl W w2->Cl 9 #[.iface 319 (.pointer (some (a q))),.int .i64 c] w2 fun e3 w3=>e3 = .returned (.bool true)/\Below T0 w0 w3/\dc w0 T0 tb bb mt md N i w3:=fun q c w2 hq hc hW =>
  (ib a q c w2 (SW.below hW) hq).mono fun e3 w3 ⟨he3,hb3⟩=>by
   have hb:=hW.trans (hb3.mono hW.size);exact ⟨by rw [he3,decide_eq_true hc],hup _ hb,bl,u,tab,Q.below hb,P⟩
 cases hx:de tab k with
 | none =>
  refine (BB k hk hx s _ W T SW.c5).mono fun e w1 ⟨he,hb⟩=>⟨_,he,hup _ hb,?_⟩;refine (xd k hx s w1 (M.below hb)).mono fun e2 w2 ⟨he2,hw2⟩=>⟨6,he2,by rw [hw2];exact hup _ hb,?_⟩;rw [hw2];exact hsent 5 6 w1 (by decide) (by rfl) hb
 | some x =>
  obtain ⟨q,rfl,hq⟩:=kK hx;obtain ⟨p1,p2,p3,p4⟩:=P.need hq;have hg1:4<T0:=by rw [Q.s];exact aJ S.c1
  refine (vh q x hq s hs _ _ _ W T P.sp SW.c10 SW.c6 SW.c1 hg1).mono ?_;rintro e w1 (⟨hm,he,hb⟩|⟨hm,he,hb⟩|⟨hm,he,T1,B1⟩)
  ·refine ⟨_,he,hup _ hb,(vi (T0:=T0) q x hq s hs w1 (M.below hb) p4 hl.2 p1 p3 Q.l.1).mono ?_⟩
   rintro e2 w2 (⟨_,he2,hb2⟩|⟨hm2,_⟩|⟨hm2,_⟩)
   ·have hb12:=hb.trans (hb2.mono hb.size)
    exact ⟨11,he2,hup _ hb12,hsent 10 11 w2 (by decide) (by rfl) hb12⟩
   ·rw [hm] at hm2;cases hm2
   ·rw [hm] at hm2;cases hm2
  ·refine ⟨_,he,hup _ hb,(vi (T0:=T0) q x hq s hs w1 (M.below hb) p4 hl.2 p1 p3 Q.l.1).mono ?_⟩
   rintro e2 w2 (⟨hm2,_⟩|⟨_,he2,hb2⟩|⟨hm2,_⟩)
   ·rw [hm] at hm2;cases hm2
   ·have hb12:=hb.trans (hb2.mono hb.size)
    exact ⟨7,he2,hup _ hb12,hsent 6 7 w2 (by decide) (by rfl) hb12⟩
   ·rw [hm] at hm2;cases hm2
  ·refine ⟨_,he,B1.below (jd _) Q.size Q.b,(vi (T0:=T0) q x hq s hs w1 (M.tb B1) p4 hl.2 p1 p3 Q.l.1).mono ?_⟩
   rintro e2 w2 (⟨hm2,_⟩|⟨hm2,_⟩|⟨_,he2,M2,B2⟩)
   ·rw [hm] at hm2;cases hm2
   ·rw [hm] at hm2;cases hm2
   ·have Q2:dZ w0 T0 tb bb mt md i (bG bl x.blocks s) u tab w2:=Q.both ⟨sp,sb,cap,mb,n,hn,T1⟩ B1 ⟨la,lc,ia,ic,vs,M2⟩ B2
    refine ⟨0,he2,Q2.b,(j4 0 w2).mono fun e3 w3 ⟨he3,hw3⟩=>?_⟩;rw [hw3];exact ⟨by rw [he3];rfl,Q2.b,_,u,tab,Q2,P.sp.blocks (nn _ _ _),P.n5,P.li⟩
end
end
section
set_option maxRecDepth 100000
open Go.ChangeShapes Go.WideShapes Go.RowKit

def mL (W:World) (tp:TypeId):List Nat->List Addr->Prop
 | [],[]=>True
 | g :: gs,a :: la=>(W.cell? ⟨g,0,none⟩=some (.iface tp (.pointer (some a)))/\∃c t,W.heap[a.block]? = some (.cells c t (0,0)))/\mL W tp gs la
 | _,_=>False

theorem mL.at {W:World} {tp:TypeId}:∀ {gs:List Nat} {la:List Addr},mL W tp gs la->∀ {i g:Nat},gs[i]? = some g ->
  ∃a,la[i]? = some a/\W.cell? ⟨g,0,none⟩=some (.iface tp (.pointer (some a)))/\∃c t,W.heap[a.block]? = some (.cells c t (0,0))
 | [],_,_,i,g,hi=>by simp at hi
 | _ :: _,[],h,_,_,_=>by exact absurd h (by simp [mL])
 | g0 :: gs,a0 :: la,h,i,g,hi=>by
  obtain ⟨h0,h1⟩:=h
  cases i with
  | zero =>
   simp only [jJ,jh] at hi;subst hi;exact ⟨a0,rfl,h0⟩
  | succ i =>
   simp only [qo] at hi ⊢;exact mL.at h1 hi

theorem tG {P:Program} {W:World} {nm:String} {ti tp te ts:TypeId} {ms:Array (String×TypeId)} {f:Field}
    (hi:P.underlying ti=some (.interface ms)) (hrow:∀u,P.typeName? 3 u=some nm->u=tp)
    (hp:P.underlying tp=some (.pointer te)) (he:P.underlying te=some (.struct #[f])) (hft:f.type=ts) (hfo:f.offset=0) (hs:P.underlying ts=some .string) (hc:P.cellsOf te=1) (hcs:P.cellsOf ts=1) :
    ∀(l:List (String×Nat×List UInt8)) {ps:List MemPlace},DataW.LaidVars P W (l.map fun x=>(x.1,.iface nm (.ptr (.agg [.lit (.string x.2.2)])))) ps ->
      (∀x∈l,P.globalNamed x.1=some x.2.1/\(P.globals[x.2.1]?).map (·.type)=some ti) ->
      (∀b off,MemPlace.cell b off∈ps->(∃c t,W.heap[b]? = some (.cells c t (0,0)))/\∀u v,W.cell? ⟨b,off,none⟩=some (.iface u v)->Value.okWide P W .any 0 u v) ->
      ∃la:List Addr,mL W tp (l.map (·.2.1)) la/\(la.map fun a=>MemPlace.cell a.block a.off).Sublist ps
  | [],ps,_,_,_=>⟨[],trivial,List.nil_sublist _⟩
  | (n,g,text) :: l,ps,hv,hx,hrows=>by
    obtain ⟨g0,t0,cs0,f0,p0,q0,hg0,ht0,hv0,hd0,hq,e0⟩:=hv;obtain ⟨hg,ht⟩:=hx (n,g,text) (jy)
    simp only at hg ht
    obtain rfl:=jO (hg.symm.trans hg0);obtain rfl:=jO (ht.symm.trans ht0);subst e0;obtain ⟨l0⟩:=cs0
    have ok0:∀u v,l0 = [.iface u v]->Value.okWide P W .any 0 u v:=fun u v e=>by
      subst e;exact (hrows g 0 (by simp [MemPlace.row])).2 u v (by simpa using World.var?_cell hg0 hv0 0)
    obtain ⟨a0,s0,rfl,_,_,_,rfl⟩:=errorString_of_trod hi hrow hp he hft hfo hs hc hcs hd0 ok0;obtain ⟨la,h1,h2⟩:=tG hi hrow hp he hft hfo hs hc hcs l hq (fun x hx'=>hx x (jw _ hx')) (fun b off hm=>hrows b off (List.mem_append_right _ hm));refine ⟨a0 :: la,⟨⟨?_,(hrows a0.block a0.off (by simp [MemPlace.row])).1⟩,h1⟩,?_⟩
    · simpa using World.var?_cell hg0 hv0 0
    · refine List.Sublist.trans (List.Sublist.cons_cons _ h2) ?_
      have e:MemPlace.cell a0.block a0.off :: q0=MemPlace.row a0 1++q0:=(by simp [MemPlace.row]);rw [e,jK];exact List.sublist_append_right _ _

theorem Ir : "*errors.errorString" = "*" ++ "errors.errorString" := by decide
theorem JG (u:TypeId) (h:Tryz.prog.typeName? 3 u=some "*errors.errorString"):u=319 :=
 typeName_ptr_named (nm := "errors.errorString") (by rw [←Ir];kernel_rfl) (by kernel_rfl) (by decide) u (by rw [←Ir];exact h)
theorem F9:Tryz.prog.cellsOf 337=1:=by kernel_rfl
theorem ny:Tryz.prog.cellsOf 9=1:=by kernel_rfl

def Is:DataW Unit->List UInt8
 | .iface _ (.ptr (.agg [.lit (.string s)]))=>s
 | _=>[]
end
section
set_option maxRecDepth 100000
open Go.ChangeShapes Go.WideShapes Go.RowKit

theorem vp:Tryz.prog.cellsOf 141=5:=by kernel_rfl
theorem oB:Tryz.prog.cellsOf 53=4:=by kernel_rfl
theorem Er:Tryz.prog.bytesOf 141=80:=by kernel_rfl
theorem BO:Tryz.prog.cellsOf 4=1:=by kernel_rfl
theorem BP:Tryz.prog.cellsOf 51=1:=by kernel_rfl
theorem mg {H:Type} {P:Program} {e:TypeId}:∀ {l:List (DataW H)} {x:DataW H},x∈l->∀n∈x.weights P e,n∈DataW.weightsAll P e l
 | [],_,h,_,_=>by simp at h
 | d :: r,x,h,n,hn=>by
  rw [DataW.weightsAll,jT]
  rcases jN.1 h with rfl|h
  ·exact .inl hn
  ·exact .inr (mg h n hn)

section
variable {H : Type} {enc : TypeId × Value → H} {w : World}

theorem Ja {α:Type}:∀ {l:List α},l.length=2->∃a b,l = [a,b]
 | [a,b],_=>⟨a,b,rfl⟩
theorem Fw {α:Type}:∀ {l:List α},l.length=4->∃a b c d,l = [a,b,c,d]
 | [a,b,c,d],_=>⟨a,b,c,d,rfl⟩
theorem Jb {α:Type}:∀ {l:List α},l.length=5->∃a b c d e,l = [a,b,c,d,e]
 | [a,b,c,d,e],_=>⟨a,b,c,d,e,rfl⟩
theorem oC {n:Nat} {cs:List Value} {x:DataW H×List MemPlace} (h:DataW.trod enc Tryz.prog w 0 (fun _=>true) true n 53 cs=some x) (hw:∀m∈x.1.weights Tryz.prog 53,m<=reachBytes) :
  ∃(kind data:ByteArray) (exec:Bool) (u:Value) (y:DataW H×List MemPlace) (m:Nat),m<n/\cs = [.string kind,.string data,.bool exec,u]/\DataW.trod enc Tryz.prog w 0 (fun _=>true) true m 51 [u]=some y/\(∀q∈y.1.weights Tryz.prog 51,q<=reachBytes)/\data.size<=maxLen:=by
 obtain ⟨xs,m,hfuel,hx,hcl,hxl,hf⟩:=DataW.trod_struct Tryz.underlying53 h;rw [oB] at hcl;obtain ⟨c0,c1,c2,c3,rfl⟩:=Fw hcl;obtain ⟨y0,y1,y2,y3,rfl⟩:=Fw (show xs.length=4 from hxl);have h0:DataW.trod enc Tryz.prog w 0 (fun _=>true) true m 9 ([c0,c1,c2,c3].take (Tryz.prog.cellsOf 9))=some y0:=hf 0 _ rfl;have h1:DataW.trod enc Tryz.prog w 0 (fun _=>true) true m 9 ([c1,c2,c3].take (Tryz.prog.cellsOf 9))=some y1:=hf 1 _ rfl;have h2:DataW.trod enc Tryz.prog w 0 (fun _=>true) true m 4 ([c2,c3].take (Tryz.prog.cellsOf 4))=some y2:=hf 2 _ rfl;have h3:DataW.trod enc Tryz.prog w 0 (fun _=>true) true m 51 ([c3].take (Tryz.prog.cellsOf 51))=some y3:=hf 3 _ rfl;rw [ny] at h0 h1;rw [BO] at h2;rw [BP] at h3;obtain ⟨kind,e0,_,_⟩:=DataW.trod_string Tryz.underlying9 h0;obtain ⟨data,e1,_,hds⟩:=DataW.trod_string Tryz.underlying9 h1;obtain ⟨exec,e2,_⟩:=DataW.trod_bool Tryz.underlying4 h2;simp only [ye,qY,qD,and_true] at e0 e1 e2;subst e0;subst e1;subst e2;refine ⟨kind,data,exec,c3,y3,m,by omega,rfl,h3,fun q hq=>hw q ?_,hds⟩;rw [hx]
 have hwd:DataW.weights Tryz.prog 53 (.agg ([y0,y1,y2,y3].map (·.1)))=DataW.weightsEach Tryz.prog [9,9,4,51] ([y0,y1,y2,y3].map (·.1)):=by
  rw [DataW.weights];simp only [Tryz.underlying53];rfl
 rw [hwd];exact DataW.weights_mem_each (j:=3) rfl rfl q hq

theorem vq:∀(n:Nat) (v:Value) (x:DataW H×List MemPlace),DataW.trod enc Tryz.prog w 0 (fun _=>true) true n 51 [v]=some x->(∀m∈x.1.weights Tryz.prog 51,m<=reachBytes)->∃l,aE w w.heap.size n l v:=by
 intro n
 induction n using Nat.strongRecOn with
 | ind n ih =>
  intro v x h hw
  rcases DataW.trod_slice Tryz.underlying51 h with ⟨hcs,_⟩|⟨a,len,cap,elems,rest,m,hfuel,hcs,hx,_,hlc,_,hel,hE,_,_⟩
  ·simp only [qD,and_true] at hcs
   subst hcs
   cases n with
   | zero=>simp [DataW.trod] at h
   | succ n=>exact ⟨[],none,0,rfl,by simp,fun i x hx=>by simp at hx⟩
  ·simp only [qD,and_true] at hcs
   subst hcs;subst hfuel
   have hwd:x.1.weights Tryz.prog 51=((elems.map (·.1)).length+(rest.map (·.1)).length)*80 :: (DataW.weightsAll Tryz.prog 141 (elems.map (·.1))++DataW.weightsAll Tryz.prog 141 (rest.map (·.1))):=by
    rw [hx,DataW.weights];simp only [Tryz.underlying51,Er]
   have hlen:len<=1759218604390:=by
    have:=hw _ (by rw [hwd];exact jy)
    simp only [jB,hel,reachBytes] at this;omega
   have hplain:∀i,i<len->∃b off,a=⟨b,off,none⟩:=by
    intro i hi;have hb:=hE 0 (by omega);rw [vp] at hb;obtain ⟨el,he⟩:∃el,elems[0]? = some el:=⟨elems[0]'(by omega),jc (by omega)⟩;rw [he] at hb;obtain ⟨cs,hc,_⟩:=Option.bind_eq_some_iff.1 hb;obtain ⟨_,hcl,hcc⟩:=World.cells?_some hc;have k0:=hcc 0 (by omega);rw [jc (by omega)] at k0;obtain ⟨b,off,spot⟩:=a;have hsp:spot=none:=(by simpa [Addr.add] using World.cell?_spot k0);subst hsp;exact ⟨b,off,rfl⟩
   have hone:∀i,i<len->∃p:(ByteArray×ab)×Value,(∃b off,a=⟨b,off,none⟩/\b<w.heap.size/\p.1.1.size<=140737488355328 /\
     w.cell? ⟨b,off+i*5,none⟩=some (.string p.1.1)/\w.cell? ⟨b,off+i*5+1,none⟩=some (.string p.1.2.kind)/\w.cell? ⟨b,off+i*5+2,none⟩=some (.string p.1.2.data) /\
     w.cell? ⟨b,off+i*5+3,none⟩=some (.bool p.1.2.exec)/\w.cell? ⟨b,off+i*5+4,none⟩=some p.2)/\aE w w.heap.size m p.1.2.kids p.2:=by
    intro i hi;have hb:=hE i hi;rw [vp] at hb;obtain ⟨el,he⟩:∃el,elems[i]? = some el:=⟨elems[i]'(by omega),jc (by omega)⟩;rw [he] at hb;obtain ⟨cs,hc,ht⟩:=Option.bind_eq_some_iff.1 hb;obtain ⟨_,hcl,hcc⟩:=World.cells?_some hc;obtain ⟨xs,m1,hm1,hx1,_,hxl,hf⟩:=DataW.trod_struct Tryz.underlying141 ht
    have hwel:∀q∈el.1.weights Tryz.prog 141,q<=reachBytes:=fun q hq=>hw q (by
     rw [hwd];exact jw _ (yD _ (mg (jv.2 ⟨el,jg he,rfl⟩) q hq)))
    obtain ⟨z0,z1,rfl⟩:=Ja (show xs.length=2 from hxl);obtain ⟨c0,c1,c2,c3,c4,rfl⟩:=Jb hcl;have h0:DataW.trod enc Tryz.prog w 0 (fun _=>true) true m1 9 ([c0,c1,c2,c3,c4].take (Tryz.prog.cellsOf 9))=some z0:=hf 0 _ rfl;have h1:DataW.trod enc Tryz.prog w 0 (fun _=>true) true m1 53 ([c1,c2,c3,c4].take (Tryz.prog.cellsOf 53))=some z1:=hf 1 _ rfl;rw [ny] at h0;rw [oB] at h1
    have hwk:DataW.weights Tryz.prog 141 (.agg ([z0,z1].map (·.1)))=DataW.weightsEach Tryz.prog [9,53] ([z0,z1].map (·.1)):=by
     rw [DataW.weights];simp only [Tryz.underlying141];rfl
    rw [hx1] at hwel;rw [hwk] at hwel;obtain ⟨name,e0,ez,_⟩:=DataW.trod_string Tryz.underlying9 h0
    have hns:name.size<=140737488355328:=by
     have:=hwel name.data.toList.length (DataW.weights_mem_each (j:=0) (t:=9) (d:=z0.1) rfl rfl _ (by rw [ez];simp [DataW.weights]))
     simp only [reachBytes] at this;have e:name.data.toList.length=name.size:=(by simp);omega
    obtain ⟨kind,data,exec,u,y,m2,hm2,e1,hy,hwy,_⟩:=oC h1 (fun q hq=>hwel q (DataW.weights_mem_each (j:=1) (t:=53) (d:=z1.1) rfl rfl q hq));obtain ⟨l,hl⟩:=ih m2 (by omega) u y hy hwy;simp only [ye,qY,qD,and_true] at e0 e1;obtain ⟨rfl,rfl,rfl,rfl⟩:=e1;subst e0;have k0:=hcc 0 (by omega);have k1:=hcc 1 (by omega);have k2:=hcc 2 (by omega);have k3:=hcc 3 (by omega);have k4:=hcc 4 (by omega);simp only [jJ,qo] at k0 k1 k2 k3 k4;have ha:=hplain i hi;obtain ⟨b,off,rfl⟩:=ha;have hadd:∀(q o:Nat),(⟨b,q,none⟩:Addr).add o=⟨b,q+o,none⟩:=fun q o=>by unfold Addr.add;split <;> simp_all
    simp only [hadd,yh] at k0 k1 k2 k3 k4;exact ⟨((name,⟨kind,data,exec,l⟩),c4),⟨b,off,rfl,aJ k0,hns,k0,k1,k2,k3,k4⟩,hl.up (jd _) (by omega)⟩
   haveI:Inhabited ((ByteArray×ab)×Value):=⟨((ByteArray.empty,⟨ByteArray.empty,ByteArray.empty,false,[]⟩),.nilIface)⟩
   obtain ⟨f,hf⟩:=Deep.choose_lt hone;refine ⟨(List.range len).map fun i=>(f i).1,some a,cap,by simp,by simpa using hlen,fun i x hx=>?_⟩;have hi:i<len:=by have:=(jb.1 hx).1;simpa using this
   have ex:x=(f i).1:=by
    rw [jx,List.getElem?_range hi] at hx
    simpa using hx.symm
   subst ex;obtain ⟨⟨b,off,e,q1,q2,q3,q4,q5,q6,q7⟩,q8⟩:=hf i hi;exact ⟨b,off,(f i).2,by rw [e],q1,q2,q3,q4,q5,q6,q7,q8⟩
end
end
section
set_option maxRecDepth 100000
open Go.ChangeShapes Go.WideShapes Go.RowKit

theorem Es:ownKnob Tryz.prog.godebug=none:=by kernel_rfl
theorem oD:laidOutB Tryz.prog=true:=by kernel_rfl
end
section
set_option maxRecDepth 100000
open Go.ChangeShapes Go.WideShapes Go.RowKit

structure dT where
 kind:ByteArray
 path:ByteArray
 s:ByteArray
 node:ab
 k:Int
 n:Int
 bit:Int
structure oF (w:World) (d b o:Nat) (c:dT) (u:Value):Prop where
 kind:w.cell? ⟨b,o,none⟩=some (.string c.kind)
 path:w.cell? ⟨b,o+1,none⟩=some (.string c.path)
 s:w.cell? ⟨b,o+2,none⟩=some (.string c.s)
 nkind:w.cell? ⟨b,o+3,none⟩=some (.string c.node.kind)
 ndata:w.cell? ⟨b,o+4,none⟩=some (.string c.node.data)
 nexec:w.cell? ⟨b,o+5,none⟩=some (.bool c.node.exec)
 nkids:w.cell? ⟨b,o+6,none⟩=some u
 k:w.cell? ⟨b,o+7,none⟩=some (.int .i64 c.k)
 n:w.cell? ⟨b,o+8,none⟩=some (.int .i64 c.n)
 bit:w.cell? ⟨b,o+9,none⟩=some (.int .i64 c.bit)
 lies:aE w w.heap.size d c.node.kids u
def gV (w:World) (d:Nat) (l:List dT) (v:Value):Prop:=∃ad cap,v = .slice ad l.length cap/\(∀c∈l,c.kind.size<=maxLen/\c.path.size<=maxLen/\c.s.size<=maxLen/\(Lit.int .i64 c.k).wf=true/\(Lit.int .i64 c.n).wf=true/\(Lit.int .i64 c.bit).wf=true)/\∀i c,l[i]? = some c->∃b off u,ad=some ⟨b,off,none⟩/\b<w.heap.size/\oF w d b (off+i*10) c u
theorem yH:Tryz.prog.cellsOf 55=10:=by kernel_rfl
theorem Gz:Tryz.prog.bytesOf 55=136:=by kernel_rfl
theorem BQ:Tryz.prog.cellsOf 3=1:=by kernel_rfl
theorem Jc {α:Type}:∀ {l:List α},l.length=7->∃a b c d e f g,l = [a,b,c,d,e,f,g]
 | [a,b,c,d,e,f,g],_=>⟨a,b,c,d,e,f,g,rfl⟩
theorem It {α:Type}:∀ {l:List α},l.length=10->∃a b c d e f g h i j,l = [a,b,c,d,e,f,g,h,i,j]
 | [a,b,c,d,e,f,g,h,i,j],_=>⟨a,b,c,d,e,f,g,h,i,j,rfl⟩
section
variable {H : Type} {enc : TypeId × Value → H} {w : World}
theorem ui {n:Nat} {v:Value} {x:DataW H×List MemPlace} (h:DataW.trod enc Tryz.prog w 0 (fun _=>true) true n 23 [v]=some x) (hw:∀m∈x.1.weights Tryz.prog 23,m<=reachBytes):∃l,gV w n l v:=by
 rcases DataW.trod_slice Tryz.underlying23 h with ⟨hcs,_⟩|⟨a,len,cap,elems,rest,m,hfuel,hcs,hx,_,hlc,_,hel,hE,_,_⟩
 ·simp only [qD,and_true] at hcs
  subst hcs;exact ⟨[],none,0,rfl,fun c hc=>by simp at hc,fun i c hc=>by simp at hc⟩
 ·simp only [qD,and_true] at hcs
  subst hcs;subst hfuel
  have hwd:x.1.weights Tryz.prog 23=((elems.map (·.1)).length+(rest.map (·.1)).length)*136 :: (DataW.weightsAll Tryz.prog 55 (elems.map (·.1))++DataW.weightsAll Tryz.prog 55 (rest.map (·.1))):=by
   rw [hx,DataW.weights];simp only [Tryz.underlying23,Gz]
  have hone:∀i,i<len->∃p:dT,(p.kind.size<=maxLen/\p.path.size<=maxLen/\p.s.size<=maxLen/\(Lit.int .i64 p.k).wf=true/\(Lit.int .i64 p.n).wf=true/\(Lit.int .i64 p.bit).wf=true)/\∃b off u,a=⟨b,off,none⟩/\b<w.heap.size/\oF w (m+1) b (off+i*10) p u:=by
   intro i hi;have hb:=hE i hi;rw [yH] at hb;obtain ⟨el,he⟩:∃el,elems[i]? = some el:=⟨elems[i]'(by omega),jc (by omega)⟩;rw [he] at hb;obtain ⟨cs,hc,ht⟩:=Option.bind_eq_some_iff.1 hb;obtain ⟨_,hcl,hcc⟩:=World.cells?_some hc;obtain ⟨xs,m1,hm1,hx1,_,hxl,hf⟩:=DataW.trod_struct Tryz.underlying55 ht
   have hwel:∀q∈el.1.weights Tryz.prog 55,q<=reachBytes:=fun q hq=>hw q (by
    rw [hwd];exact jw _ (yD _ (mg (jv.2 ⟨el,jg he,rfl⟩) q hq)))
   obtain ⟨z0,z1,z2,z3,z4,z5,z6,rfl⟩:=Jc (show xs.length=7 from hxl);obtain ⟨c0,c1,c2,c3,c4,c5,c6,c7,c8,c9,rfl⟩:=It hcl;have h0:DataW.trod enc Tryz.prog w 0 (fun _=>true) true m1 9 ([c0,c1,c2,c3,c4,c5,c6,c7,c8,c9].take (Tryz.prog.cellsOf 9))=some z0:=hf 0 _ rfl;have h1:DataW.trod enc Tryz.prog w 0 (fun _=>true) true m1 9 ([c1,c2,c3,c4,c5,c6,c7,c8,c9].take (Tryz.prog.cellsOf 9))=some z1:=hf 1 _ rfl;have h2:DataW.trod enc Tryz.prog w 0 (fun _=>true) true m1 9 ([c2,c3,c4,c5,c6,c7,c8,c9].take (Tryz.prog.cellsOf 9))=some z2:=hf 2 _ rfl;have h3:DataW.trod enc Tryz.prog w 0 (fun _=>true) true m1 53 ([c3,c4,c5,c6,c7,c8,c9].take (Tryz.prog.cellsOf 53))=some z3:=hf 3 _ rfl;have h4:DataW.trod enc Tryz.prog w 0 (fun _=>true) true m1 3 ([c7,c8,c9].take (Tryz.prog.cellsOf 3))=some z4:=hf 4 _ rfl;have h5:DataW.trod enc Tryz.prog w 0 (fun _=>true) true m1 3 ([c8,c9].take (Tryz.prog.cellsOf 3))=some z5:=hf 5 _ rfl;have h6:DataW.trod enc Tryz.prog w 0 (fun _=>true) true m1 3 ([c9].take (Tryz.prog.cellsOf 3))=some z6:=hf 6 _ rfl;rw [ny] at h0 h1 h2;rw [oB] at h3;rw [BQ] at h4 h5 h6;obtain ⟨kind,e0,_,hk⟩:=DataW.trod_string Tryz.underlying9 h0;obtain ⟨path,e1,_,hp⟩:=DataW.trod_string Tryz.underlying9 h1;obtain ⟨str,e2,_,hs⟩:=DataW.trod_string Tryz.underlying9 h2;obtain ⟨nK,e4,_,w4⟩:=DataW.trod_int Tryz.underlying3 h4;obtain ⟨nN,e5,_,w5⟩:=DataW.trod_int Tryz.underlying3 h5;obtain ⟨nB,e6,_,w6⟩:=DataW.trod_int Tryz.underlying3 h6
   have hwn:∀q∈z3.1.weights Tryz.prog 53,q<=reachBytes:=fun q hq=>hwel q (by
    rw [hx1]
    have hwd2:DataW.weights Tryz.prog 55 (.agg ([z0,z1,z2,z3,z4,z5,z6].map (·.1)))=DataW.weightsEach Tryz.prog [9,9,9,53,3,3,3] ([z0,z1,z2,z3,z4,z5,z6].map (·.1)):=by
     rw [DataW.weights];simp only [Tryz.underlying55];rfl
    rw [hwd2];exact DataW.weights_mem_each (j:=3) rfl rfl q hq)
   have h3':DataW.trod enc Tryz.prog w 0 (fun _=>true) true m1 53 [c3,c4,c5,c6]=some z3:=h3;obtain ⟨nk,ndd,ne,u,y,m2,hm2,ee,hy,hwy,_⟩:=oC h3' hwn;obtain ⟨kl,hkl⟩:=vq m2 u y hy hwy;simp only [ye,qY,qD,and_true] at e0 e1 e2 e4 e5 e6 ee;subst e0;subst e1;subst e2;subst e4;subst e5;subst e6;obtain ⟨rfl,rfl,rfl,rfl⟩:=ee;have k0:=hcc 0 (by omega);have k1:=hcc 1 (by omega);have k2:=hcc 2 (by omega);have k3:=hcc 3 (by omega);have k4:=hcc 4 (by omega);have k5:=hcc 5 (by omega);have k6:=hcc 6 (by omega);have k7:=hcc 7 (by omega);have k8:=hcc 8 (by omega);have k9:=hcc 9 (by omega);simp only [jJ,qo] at k0 k1 k2 k3 k4 k5 k6 k7 k8 k9
   obtain ⟨b,off,rfl⟩:∃b off,a=⟨b,off,none⟩:=by
    have hb0:=hE 0 (by omega);rw [yH] at hb0;obtain ⟨el0,he0⟩:∃el,elems[0]? = some el:=⟨elems[0]'(by omega),jc (by omega)⟩;rw [he0] at hb0;obtain ⟨cs0,hc0,_⟩:=Option.bind_eq_some_iff.1 hb0;obtain ⟨_,hcl0,hcc0⟩:=World.cells?_some hc0;have j0:=hcc0 0 (by omega);rw [jc (by omega)] at j0;obtain ⟨b,off,spot⟩:=a;have hsp:spot=none:=(by simpa [Addr.add] using World.cell?_spot j0);subst hsp;exact ⟨b,off,rfl⟩
   simp only [Addr.add_mid,yh] at k0 k1 k2 k3 k4 k5 k6 k7 k8 k9;exact ⟨⟨kind,path,str,⟨nk,ndd,ne,kl⟩,nK,nN,nB⟩,⟨hk,hp,hs,w4,w5,w6⟩,b,off,_,rfl,ji w _ k0,⟨k0,k1,k2,k3,k4,k5,k6,k7,k8,k9,hkl.up (jd _) (by omega)⟩⟩
  haveI:Inhabited dT:=⟨⟨ByteArray.empty,ByteArray.empty,ByteArray.empty,⟨ByteArray.empty,ByteArray.empty,false,[]⟩,0,0,0⟩⟩
  obtain ⟨f,hf⟩:=Deep.choose_lt hone;refine ⟨(List.range len).map f,some a,cap,by simp,fun c hc=>?_,fun i y hy=>?_⟩
  ·obtain ⟨i,hi,rfl⟩:=jv.1 hc
   exact (hf i (by simpa using hi)).1
  ·have hi:i<len:=by have:=(jb.1 hy).1;simpa using this
   have ey:y=f i:=by
    rw [jx,List.getElem?_range hi] at hy
    simpa using hy.symm
   subst ey;obtain ⟨_,b,off,u,e,q⟩:=hf i hi;exact ⟨b,off,u,by rw [e],q⟩
theorem BR {base:Nat} {v:Value} {d:DataW H} {p:List MemPlace} (hval:Value.okWide Tryz.prog w .any base 23 v) (h:DataW.Trod enc Tryz.prog w 0 (fun _=>true) true 23 v d p) (hw:∀m∈d.weights Tryz.prog 23,m<=reachBytes):∃l n,gV w n l v:=by
 obtain ⟨va,vn,vc,rfl⟩:=okWide_slice Tryz.underlying23 hval;obtain ⟨fuel,hf⟩:=h;obtain ⟨l,hl⟩:=ui hf hw;exact ⟨l,fuel,hl⟩
end
end
section
set_option maxRecDepth 100000
open Go.RowKit

def bY (most:Nat) (x:ByteArray×Nat×ab):List (ByteArray×Nat×ab):=(x.2.2.kids.take (most+1)).map fun y=>(x.1++aB++y.1,x.2.1+1,y.2)
def grow (most deep:Nat) (l:List (ByteArray×Nat×ab)) (i:Nat):List (ByteArray×Nat×ab) :=
 match l[i]? with
 | none=>l
 | some x=>if deep<x.2.1 then l else l.take (i+1)++bY most x++l.drop (i+1)
def aK (most deep:Nat) (l:List (ByteArray×Nat×ab)):Nat->List (ByteArray×Nat×ab)
 | 0=>l
 | i+1=>grow most deep (aK most deep l i) i
def cN (most deep:Nat) (t:ab):List (ByteArray×Nat×ab):=aK most deep [(ByteArray.empty,0,t)] (most+1)

theorem xl {most deep : Nat} {l : List (ByteArray × Nat × ab)} {i : Nat} (h : (aK most deep l i).length ≤ i) : ∀ n, i ≤ n → aK most deep l n = aK most deep l i := by
  intro n hn
  induction n with
  | zero => have : i = 0 := by omega
            subst this; rfl
  | succ n ih =>
    rcases qO n i with hlt | hge
    · have : i = n + 1 := by omega
      subst this; rfl
    · have e := ih hge
      show grow most deep (aK most deep l n) n = _;rw [e];unfold grow;rw [qw (by omega)]
theorem kM {most deep:Nat} {l:List (ByteArray×Nat×ab)}:∀i,(aK most deep l i).length<=l.length+i*(most+1)
 | 0=>by simp [aK]
 | i+1=>by
  have ih:=kM (most:=most) (deep:=deep) (l:=l) i;have e:(i+1)*(most+1)=i*(most+1)+(most+1):=by rw [Nat.add_mul];omega
  show (grow most deep (aK most deep l i) i).length<=_;unfold grow
  split
  ·omega
  ·rename_i x hx
   split
   ·omega
   ·have hi:i<(aK most deep l i).length:=(jb.1 hx).1
    have hk:(bY most x).length<=most+1:=(by unfold bY;simp;omega);simp only [jt,js,qi];omega

def az:List ((ByteArray×Nat×ab)×Value)->List Value
 | []=>[]
 | x :: l=>.string x.1.1 :: .int .i64 (x.1.2.1:Int) :: .string x.1.2.2.kind :: .string x.1.2.2.data :: .bool x.1.2.2.exec :: x.2 :: az l
theorem iH:∀(a b:List ((ByteArray×Nat×ab)×Value)),az (a++b)=az a++az b
 | [],b=>rfl
 | x :: a,b=>by simp only [jX,az];rw [iH a b]
theorem gp:∀(a:List ((ByteArray×Nat×ab)×Value)),(az a).length=a.length*6
 | []=>rfl
 | x :: a=>by simp only [az,jz,gp a];omega
theorem ii:∀ {l:List ((ByteArray×Nat×ab)×Value)} {i:Nat} {x:(ByteArray×Nat×ab)×Value},l[i]? = some x ->
  (az l)[i*6]? = some (.string x.1.1)/\(az l)[i*6+1]? = some (.int .i64 (x.1.2.1:Int))/\(az l)[i*6+2]? = some (.string x.1.2.2.kind)/\(az l)[i*6+3]? = some (.string x.1.2.2.data)/\(az l)[i*6+4]? = some (.bool x.1.2.2.exec)/\(az l)[i*6+5]? = some x.2
 | [],i,x,h=>by simp at h
 | y :: l,0,x,h=>by
  simp only [jJ,jh] at h;subst h;exact ⟨rfl,rfl,rfl,rfl,rfl,rfl⟩
 | y :: l,i+1,x,h=>by
  simp only [qo] at h
  have:=ii h
  have e:∀k,(i+1)*6+k=(i*6+k)+1+1+1+1+1+1:=fun k=>(by omega);simp only [az];refine ⟨?_,?_,?_,?_,?_,?_⟩
  ·rw [show (i+1)*6=(i*6)+1+1+1+1+1+1 from by omega];simpa using this.1
  ·rw [e];simpa using this.2.1
  ·rw [e];simpa using this.2.2.1
  ·rw [e];simpa using this.2.2.2.1
  ·rw [e];simpa using this.2.2.2.2.1
  ·rw [e];simpa using this.2.2.2.2.2
theorem ij {l:List ((ByteArray×Nat×ab)×Value)} (h:∀x∈l,∃ad n c,x.2 = .slice ad n c):∀u∈az l,u.oneCell'=true:=by
 induction l with
 | nil=>intro u hu;simp [az] at hu
 | cons x l ih =>
  intro u hu;obtain ⟨ad,n,c,e⟩:=h x jy;simp only [az,jN] at hu
  rcases hu with rfl|rfl|rfl|rfl|rfl|rfl|hu
  ·rfl
  ·rfl
  ·rfl
  ·rfl
  ·rfl
  ·rw [e];rfl
  ·exact ih (fun y hy=>h y (jw _ hy)) u hu
theorem vr {l:List ((ByteArray×Nat×ab)×Value)} (k:Nat):az (l.take k)=(az l).take (k*6):=by
 induction l generalizing k with
 | nil=>simp [az]
 | cons x l ih =>
  cases k with
  | zero=>simp [az]
  | succ k =>
   simp only [ye,az,ih];rw [show (k+1)*6=k*6+1+1+1+1+1+1 from by omega];simp only [ye]
theorem oG {l:List ((ByteArray×Nat×ab)×Value)} (k:Nat):az (l.drop k)=(az l).drop (k*6):=by
 induction l generalizing k with
 | nil=>simp [az]
 | cons x l ih =>
  cases k with
  | zero=>simp [az]
  | succ k =>
   simp only [List.drop_succ_cons,az,ih];rw [show (k+1)*6=k*6+1+1+1+1+1+1 from by omega];simp only [List.drop_succ_cons]
theorem kD {w:World} {base base':Nat} {e:TypeId} {size:Nat} {v:Value} {n:Nat} {xs:List Value} (h:w.ownsRow base e size v n xs) (hb:base'<=base):w.ownsRow base' e size v n xs:=by
 obtain ⟨h1,h2⟩:=h;refine ⟨h1,?_⟩
 rcases h2 with h2|⟨g,cap,cur,hv,hg,hh,r⟩
 ·exact .inl h2
 ·exact .inr ⟨g,cap,cur,hv,by omega,hh,r⟩
theorem sN (w:World) (base:Nat) (e:TypeId) (size:Nat) (cs:Array Value) (hb:base<=w.heap.size) (hs:cs.size=size):(w.alloc (.cells cs e)).ownsRow base e size (.slice (some ⟨w.heap.size,0,none⟩) 1 1) 1 cs.toList:=by
 refine ⟨by simp [hs],.inr ⟨w.heap.size,1,cs,rfl,hb,heap_alloc_new w _,jd _,by unfold maxLen;omega,by omega,?_⟩⟩;rw [jr (by simp;omega)]
end
end Go.Proofs.YthofhjnfkholoaaGreatDoor
