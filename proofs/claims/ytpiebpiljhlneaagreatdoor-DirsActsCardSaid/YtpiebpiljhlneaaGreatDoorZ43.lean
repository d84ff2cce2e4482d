/-
  Mf Mh Gx Gy, joined.
  Conditions: those that each states.
-/
import Derived.Test.YtpiebpiljhlneaaGreatDoorZ42
namespace Go.Proofs.YtpiebpiljhlneaaGreatDoor
section
open Go.RowKit

structure QAt (w0:World) (T0 tb bb mt md i:Nat) (bl:List (List UInt8)) (u:List Bool) (tab:List (Option Ino)) (W:World):Prop where
 t:∃sp sb cap mb n,n<=i/\TbAt W (fun _=>False) T0 tb bb sp sb cap mb n bl u tab
 m:∃la lc ia ic vs,MtAt W T0 mt md la lc ia ic bl tab vs
 b:Below T0 w0 W
 s:T0=w0.heap.size
 l:T0<=md/\T0<=mt
structure PInv (N i:Nat) (bl:List (List UInt8)) (u:List Bool) (tab:List (Option Ino)):Prop where
 sp:SInv N bl u tab
 n5:N<=512
 li:∀k x,slotT tab k=some x->x.links<=i+1/\x.sum<4294967296
section
variable {w0 W W' : World} {T0 tb bb mt md i N : Nat} {bl bl' : List (List UInt8)} {u u' : List Bool} {tab tab' : List (Option Ino)} {a : Nat → Addr}
theorem QAt.size (Q:QAt w0 T0 tb bb mt md i bl u tab W):T0<=W.heap.size:=by rw [Q.s];exact Nat.le_trans (by rw [<-Q.s];exact Nat.le_refl _) Q.b.size
theorem QAt.below (Q:QAt w0 T0 tb bb mt md i bl u tab W) (h:Below W.heap.size W W'):QAt w0 T0 tb bb mt md i bl u tab W':=by
 obtain ⟨⟨sp,sb,cap,mb,n,hn,T⟩,⟨la,lc,ia,ic,vs,M⟩,b,s,l⟩:=id Q
 exact ⟨⟨sp,sb,cap,mb,n,hn,T.below h⟩,⟨la,lc,ia,ic,vs,M.below h⟩,b.trans (h.mono Q.size),s,l⟩
theorem QAt.sents (Q:QAt w0 T0 tb bb mt md i bl u tab W) (S:Sents a w0):Sents a W:=S.below (by rw [<-Q.s];exact Q.b)
theorem QAt.mono {i':Nat} (Q:QAt w0 T0 tb bb mt md i bl u tab W) (h:i<=i'):QAt w0 T0 tb bb mt md i' bl u tab W:=by
 obtain ⟨⟨sp,sb,cap,mb,n,hn,T⟩,m,b,s,l⟩:=Q
 exact ⟨⟨sp,sb,cap,mb,n,Nat.le_trans hn h,T⟩,m,b,s,l⟩
theorem PInv.mono {i':Nat} (P:PInv N i bl u tab) (h:i<=i'):PInv N i' bl u tab:=⟨P.sp,P.n5,fun k x hx=>⟨by have:=(P.li k x hx).1;omega,(P.li k x hx).2⟩⟩
theorem QAt.len (Q:QAt w0 T0 tb bb mt md i bl u tab W):tab.length<=i/\(∀b∈bl,b.length=16):=by
 obtain ⟨⟨sp,sb,cap,mb,n,hn,T⟩,_⟩:=Q
 exact ⟨Nat.le_trans T.low.2.2.2.2.2.1 hn,T.disk.bl16⟩
theorem PInv.need (P:PInv N i bl u tab) {k:Nat} {x:Ino} (hx:slotT tab k=some x):x.blocks.length<=1000/\x.bytes<=2000/\x.bytes<=x.blocks.length*16/\(∀b∈x.blocks,b<bl.length):=by
 obtain ⟨_,_,_,h4,h5⟩:=P.sp.own k x hx
 refine ⟨?_,h4,?_,fun b hb=>by rw [P.sp.lbl];exact P.sp.lt hx b hb⟩
 ·rw [h5];unfold needN;omega
 ·rw [h5];exact need_fits _
theorem PInv.ok (P:PInv N i bl u tab) (h:tab.length<=5000):MOk tab:=⟨h,fun _ _ hx=>(P.need hx).1⟩
theorem QAt.both (Q:QAt w0 T0 tb bb mt md i bl u tab W) {w1 w2:World} {i' mb:Nat} (ht:∃sp sb cap mb n,n<=i'/\TbAt w1 (fun _=>False) T0 tb bb sp sb cap mb n bl' u' tab') (h1:TbBut T0 mb W w1) (hm:∃la lc ia ic vs,MtAt w2 T0 mt md la lc ia ic bl' tab' vs) (h2:MtBut T0 w1 w2):QAt w0 T0 tb bb mt md i' bl' u' tab' w2:=by
 obtain ⟨sp,sb,cap,mb,n,hn,T⟩:=ht
 have hb1:Below T0 w0 w1:=h1.below (Nat.le_refl _) Q.size Q.b
 have hs1:T0<=w1.heap.size:=Nat.le_trans Q.size h1.size
 exact ⟨⟨sp,sb,cap,mb,n,hn,T.mtb h2⟩,hm,h2.below (Nat.le_refl _) hs1 hb1,Q.s,Q.l⟩
def QEnd (w0:World) (T0 tb bb mt md N i:Nat) (w':World):Prop:=∃bl u tab,QAt w0 T0 tb bb mt md i bl u tab w'/\PInv N i bl u tab
theorem QEnd.below {w1 w2:World} (h:QEnd w0 T0 tb bb mt md N i w1) (hb:Below w1.heap.size w1 w2):QEnd w0 T0 tb bb mt md N i w2:=by
 obtain ⟨bl,u,tab,Q,P⟩:=h
 exact ⟨bl,u,tab,Q.below hb,P⟩
def qTy (o:Obj):Bool:=tbTy o||mtTy o
theorem Turn.trans {p:Obj->Bool} {w1 w2 w3:World} (h:Turn p w1 w2) (h':Turn p w2 w3):Turn p w1 w3:=fun k o hk hp=>h' k o (h k o hk hp) hp
theorem TbBut.q {w1 w2:World} {mb:Nat} (h:TbBut T0 mb w1 w2):Turn qTy w1 w2:=fun k o hk hp=>h.block k o hk (.inr (by unfold qTy at hp;simp only [Bool.or_eq_false_iff] at hp;exact hp.1))
theorem MtBut.q {w1 w2:World} (h:MtBut T0 w1 w2):Turn qTy w1 w2:=fun k o hk hp=>h.block k o hk (.inr (by unfold qTy at hp;simp only [Bool.or_eq_false_iff] at hp;exact hp.2))
theorem Turn.same (p:Obj->Bool) (w:World):Turn p w w:=fun _ _ hk _=>hk
def Pair (P:Program) (f g:Nat) (fa ga:Array Value) (k:Option Int) (W:World) (R:World->Prop):Prop :=
 Calls P f fa W fun e w1=>∃ev c,e = .returned (match k with|some j=>.tuple #[.int .i64 j,ev]|none=>ev)/\Turn qTy W w1/\Calls P g ga w1 fun e2 w2=>e2 = .returned (match k with|some j=>.tuple #[.int .i64 j,.int .i64 c]|none=>.int .i64 c)/\Turn qTy W w2/\Calls P 13 #[ev,.int .i64 c] w2 fun e3 w3=>e3 = .returned (.bool true)/\Turn qTy W w3/\R w3
theorem SInv.blocks {bl':List (List UInt8)} (S:SInv N bl u tab) (h:bl'.length=bl.length):SInv N bl' u tab:=⟨by rw [h];exact S.lbl,S.lu,S.own,S.one,S.all⟩
theorem TbAt.redisk {F:Nat->Prop} {sp sb cap mb n:Nat} (T:TbAt W F T0 tb bb sp sb cap mb n bl u tab) (D:DkAt W' bb none 0 bl' []) (h:DkBut bb none W W') (hl:bl'.length=bl.length):TbAt W' F T0 tb bb sp sb cap mb n bl' u tab:=by
 have ht:=Turn.of_but T.disk h
 obtain ⟨f,Nd⟩:=T.nodes
 exact ⟨ht _ _ T.box rfl,D,T.space.turn ht (fun _ _=>rfl) (fun _ _=>rfl),⟨f,Nd.turn ht (fun _ _=>rfl) (fun _ _=>rfl) (fun _ _=>rfl)⟩,by rw [hl];exact T.low⟩
structure HAt (w0:World) (T0 tb bb mt md i:Nat) (bl bl':List (List UInt8)) (u:List Bool) (tab:List (Option Ino)) (W:World):Prop where
 t:∃sp sb cap mb n,n<=i/\TbAt W (fun _=>False) T0 tb bb sp sb cap mb n bl u tab
 m:∃la lc ia ic vs,MtAt W T0 mt md la lc ia ic bl' tab vs
 b:Below T0 w0 W
 s:T0=w0.heap.size
 l:T0<=md/\T0<=mt
theorem HAt.below (Q:HAt w0 T0 tb bb mt md i bl bl' u tab W) (h:Below W.heap.size W W'):HAt w0 T0 tb bb mt md i bl bl' u tab W':=by
 obtain ⟨⟨sp,sb,cap,mb,n,hn,T⟩,⟨la,lc,ia,ic,vs,M⟩,b,s,l⟩:=id Q
 exact ⟨⟨sp,sb,cap,mb,n,hn,T.below h⟩,⟨la,lc,ia,ic,vs,M.below h⟩,b.trans (h.mono (by rw [s];exact Nat.le_trans (by rw [<-s];exact Nat.le_refl _) b.size)),s,l⟩
end
end
section
set_option maxHeartbeats 4000000
set_option maxRecDepth 100000
open Go.RowKit

section
variable {w0 W : World} {T0 tb bb mt md i N : Nat} {bl : List (List UInt8)} {u : List Bool} {tab : List (Option Ino)} {a : Nat → Addr}
theorem q_read (k:Nat) (x:Ino) (hx:slotT tab k=some x) (Q:QAt w0 T0 tb bb mt md i bl u tab W) (P:PInv N i bl u tab) (S:Sents a w0) :
  Calls Tryz.prog 79 #[.pointer (some ⟨tb,0,none⟩),.int .i64 (k:Int)] W fun e w1=>∃s ev c,e = .returned (.tuple #[.string s,ev])/\Below W.heap.size W w1/\Calls Tryz.prog 75 #[.pointer (some ⟨mt,0,none⟩),.int .i64 (k:Int)] w1 fun e2 w2=>e2 = .returned (.tuple #[.string s,.int .i64 c])/\Below W.heap.size W w2/\Calls Tryz.prog 13 #[ev,.int .i64 c] w2 fun e3 w3=>e3 = .returned (.bool true)/\Below W.heap.size W w3:=by
 have SW:=Q.sents S
 obtain ⟨sp,sb,cap,mb,n,hn,T⟩:=Q.t
 obtain ⟨la,lc,ia,ic,vs,M⟩:=Q.m
 obtain ⟨p1,p2,p3,p4⟩:=P.need hx
 by_cases hc:crcR (readD bl x.blocks x.bytes)=x.sum
 ·refine (im_read k x _ hx hc W T p4 p1 (by omega) SW.c10).mono fun e w1 ⟨he,hb⟩=>⟨_,_,0,he,hb,?_⟩
  refine (m_read k x hx w1 (M.below hb) p4 T.disk.bl16 p1 p3).mono fun e2 w2 ⟨he2,hb2⟩=>⟨?_,hb.trans (hb2.mono hb.size),?_⟩
  ·rw [he2];unfold readM;rw [if_pos hc]
  ·refine (coded_nil 0 w2).mono fun e3 w3 ⟨he3,h3⟩=>⟨by rw [he3];rfl,by rw [h3];exact hb.trans (hb2.mono hb.size)⟩
 ·refine (im_read_bad k x _ hx hc W T p4 p1 (by omega) SW.c10).mono fun e w1 ⟨he,hb⟩=>⟨_,_,11,he,hb,?_⟩
  refine (m_read k x hx w1 (M.below hb) p4 T.disk.bl16 p1 p3).mono fun e2 w2 ⟨he2,hb2⟩=>⟨?_,hb.trans (hb2.mono hb.size),?_⟩
  ·rw [he2];unfold readM;rw [if_neg hc]
  ·have hb12:=hb.trans (hb2.mono hb.size)
   refine (coded_sent a 10 11 w2 (SW.below hb12) (by decide)).mono fun e3 w3 ⟨he3,h3⟩=>⟨by rw [he3];rfl,hb12.trans (h3.mono hb12.size)⟩
theorem asTable_any (hi:i<=4000) (Q:QAt w0 T0 tb bb mt md i bl u tab W) (P:PInv N i bl u tab) (S:Sents a w0) :
  Calls Tryz.prog 30 #[.pointer (some ⟨tb,0,none⟩),.pointer (some ⟨mt,0,none⟩)] W fun e w'=>e = .returned (.int .i64 1)/\Below W.heap.size W w':=by
 obtain ⟨sp,sb,cap,mb,n,hn,T⟩:=Q.t
 obtain ⟨la,lc,ia,ic,vs,M⟩:=Q.m
 have hlen:=Q.len.1
 have hO:=P.ok (by omega)
 have hbl:bl.length<=512:=by rw [P.sp.lbl];exact P.n5
 have hF:=P.sp.freeM
 rw [<-P.sp.lbl] at hF
 have HAL:Hid (Calls Tryz.prog 77 #[.pointer (some ⟨tb,0,none⟩)] W fun e w1=>∃ad vc,e = .returned (.slice ad (allT tab).length vc)/\IntsT w1 (.slice ad (allT tab).length vc) (ints (allT tab))/\Below W.heap.size W w1):=(im_all W T).mono fun e w1 ⟨v,he,ho,hb⟩=>by
  obtain ⟨ad,vc,rfl⟩:=own_form ho
  exact ⟨ad,vc,he,ho.t,hb⟩
 have HFM:Hid (∀w1,Below W.heap.size W w1->Calls Tryz.prog 58 #[.pointer (some ⟨mt,0,none⟩)] w1 fun e w2=>∃ad vc,e = .returned (.slice ad (freeR u).length vc)/\Below w1.heap.size w1 w2/\Below W.heap.size W w2):=fun w1 h1=>(m_free w1 (M.below h1) hO hbl).mono fun e w2 ⟨v,he,ho,hb⟩=>by
  rw [hF] at ho
  obtain ⟨ad,vc,rfl⟩:=own_form ho
  exact ⟨ad,vc,he,hb,h1.trans (hb.mono h1.size)⟩
 have HMA:Hid (∀w1,Below W.heap.size W w1->Calls Tryz.prog 78 #[.pointer (some ⟨mt,0,none⟩)] w1 fun e w2=>∃ad vc,e = .returned (.slice ad (allT tab).length vc)/\IntsT w2 (.slice ad (allT tab).length vc) (ints (allT tab))/\Below w1.heap.size w1 w2/\Below W.heap.size W w2):=fun w1 h1=>(m_all w1 (M.below h1) (by omega)).mono fun e w2 ⟨v,he,ho,hb⟩=>by
  have ho2:OwnI w2 w1.heap.size v (allT tab):=ho
  obtain ⟨ad,vc,rfl⟩:=own_form ho2
  exact ⟨ad,vc,he,ho2.t,hb,h1.trans (hb.mono h1.size)⟩
 have HFR:Hid (∀w1,Below W.heap.size W w1->Calls Tryz.prog 52 #[.pointer (some ⟨tb,0,none⟩)] w1 fun e w2=>e = .returned (.int .i64 ((freeR u).length:Int))/\Below w1.heap.size w1 w2/\Below W.heap.size W w2):=fun w1 h1=>(im_free w1 (T.below h1)).mono fun e w2 ⟨he,hb⟩=>⟨he,hb,h1.trans (hb.mono h1.size)⟩
 have HSI:Hid (∀w1 v1 v2 l,IntsT w1 v1 l->IntsT w1 v2 l->l.length<=100000->Calls Tryz.prog 27 #[v1,v2] w1 fun e w2=>e = .returned (.bool true)/\Below w1.heap.size w1 w2):=fun w1 v1 v2 l h1 h2 hl=>sameInts_any v1 v2 l w1 h1.at h2.at hl
 have HST:Hid (∀w1 k x,slotT tab k=some x->Below W.heap.size W w1->Calls Tryz.prog 57 #[.pointer (some ⟨tb,0,none⟩),.int .i64 (k:Int)] w1 fun e w2=>∃ad vc,e = .returned (.tuple #[.agg #[.int .i64 (x.bytes:Int),.int .i64 (x.links:Int),.bool x.exec,.slice ad x.blocks.length vc,.int .u32 (x.sum:Int)],.bool true])/\IntsT w2 (.slice ad x.blocks.length vc) (ints x.blocks)/\Below w1.heap.size w1 w2):=fun w1 k x hx h1=>(im_stat k x hx (by have:=(P.need hx).1;omega) w1 (T.below h1)).mono fun e w2 ⟨v,he,hv,hb⟩=>by
  obtain ⟨ad,vc,rfl,h⟩:=id hv
  rw [ints_len] at hv he
  exact ⟨ad,vc,he,hv,hb⟩
 have HSL:Hid (∀w1 k x,slotT tab k=some x->Below W.heap.size W w1->w1.cell? ⟨mt,1,none⟩=some (.slice ia tab.length ic)/\∃g ad vc,ia=some ⟨g,0,none⟩/\w1.cell? ⟨g,k*6,none⟩=some (.bool true)/\w1.cell? ⟨g,k*6+1,none⟩=some (.int .i64 (x.bytes:Int))/\w1.cell? ⟨g,k*6+2,none⟩=some (.int .i64 (x.links:Int))/\w1.cell? ⟨g,k*6+3,none⟩=some (.bool x.exec)/\w1.cell? ⟨g,k*6+4,none⟩=some (.slice ad x.blocks.length vc)/\w1.cell? ⟨g,k*6+5,none⟩=some (.int .i64 (x.sum:Int))/\IntsT w1 (.slice ad x.blocks.length vc) (ints x.blocks)):=fun w1 k x hx h1=>by
  have M1:=M.below h1
  refine ⟨M1.cells.2.1,?_⟩
  obtain ⟨v,g,hv,e,hc,_⟩:=M1.slot (slotT_get hx)
  have iv:=M1.its k x v (slotT_get hx) hv
  obtain ⟨ad,vc,rfl,h⟩:=id iv
  rw [ints_len] at iv hc
  exact ⟨g,ad,vc,e,hc 0 _ rfl,hc 1 _ rfl,hc 2 _ rfl,hc 3 _ rfl,hc 4 _ rfl,hc 5 _ rfl,iv⟩
 have HRD:Hid (∀w1 k x,slotT tab k=some x->Below W.heap.size W w1->Calls Tryz.prog 79 #[.pointer (some ⟨tb,0,none⟩),.int .i64 (k:Int)] w1 fun e w2=>∃s ev c,e = .returned (.tuple #[.string s,ev])/\Below w1.heap.size w1 w2/\Calls Tryz.prog 75 #[.pointer (some ⟨mt,0,none⟩),.int .i64 (k:Int)] w2 fun e2 w3=>e2 = .returned (.tuple #[.string s,.int .i64 c])/\Below w1.heap.size w1 w3/\Calls Tryz.prog 13 #[ev,.int .i64 c] w3 fun e3 w4=>e3 = .returned (.bool true)/\Below w1.heap.size w1 w4):=fun w1 k x hx h1=>q_read k x hx (Q.below h1) P S
 have HSM:Hid (∀j,j<(allT tab).length->∃k x,(allT tab)[j]? = some k/\slotT tab k=some x/\k<tab.length/\x.blocks.length<=1000/\x.sum<4294967296):=fun j hj=>by
  obtain ⟨x,hx⟩:=allT_mem.1 (List.getElem_mem hj)
  exact ⟨_,x,List.getElem?_eq_getElem hj,hx,slotT_lt hx,(P.need hx).1,(P.li _ x hx).2⟩
 have hal:=allT_len tab
 have HIA:Hid (∀ {w1:World} {ad:Option Addr} {vc j k:Nat},IntsT w1 (.slice ad (allT tab).length vc) (ints (allT tab))->(allT tab)[j]? = some k->∃b off,ad=some ⟨b,off,none⟩/\w1.cell? ⟨b,off+j,none⟩=some (.int .i64 (k:Int))):=fun h hk=>by
  obtain ⟨ad',c',e,hc⟩:=h.at
  simp only [Value.slice.injEq] at e
  obtain ⟨b,off,e2,hc2⟩:=hc _ _ (by unfold ints;rw [List.getElem?_map,hk];rfl)
  exact ⟨b,off,by rw [e.1,e2],hc2⟩
 clear M T Q P S hO hF hn
 obtain ⟨al,Hal⟩:∃al,Hid (al=ints (allT tab)):=⟨_,(rfl:_=_)⟩
 rw [<-Hal.out] at HAL HMA HIA
 obtain ⟨LL,HLL⟩:∃LL,Hid (LL=(allT tab).length):=⟨_,(rfl:_=_)⟩
 have hal2:al.length<=100000:=by rw [Hal.out,ints_len];omega
 rw [<-HLL.out] at HAL HMA HIA HSM hal
 clear HLL Hal
 generalize (freeR u).length=FR at *
 go_enter Tryz.func30,Tryz.ntmps30
 go_wp2_with (first
  | (go_at_call 77;refine HAL.out.mono ?_;rintro e w1 ⟨ad1,vc1,rfl,i1,b1⟩;clear HAL)
  | (go_at_call 58;refine (HFM.out _ b1).mono ?_;rintro e w2 ⟨ad2,vc2,rfl,b12,b2⟩;clear HFM)
  | (go_at_call 78;refine (HMA.out _ b2).mono ?_;rintro e w3 ⟨ad3,vc3,rfl,i3,b23,b3⟩;clear HMA)
  | (go_at_call 27;refine (HSI.out _ _ _ al (i1.below (b12.trans (b23.mono b12.size))) i3 hal2).mono ?_;rintro e w4 ⟨rfl,b34⟩)
  | (go_at_call 52;refine (HFR.out _ (b3.trans (b34.mono b3.size))).mono ?_;rintro e w5 ⟨rfl,b45,b5⟩;clear HFR))
 have I5:IntsT w5 (.slice ad1 LL vc1) al:=i1.below ((b12.trans (b23.mono b12.size)).trans ((b34.trans (b45.mono b34.size)).mono (Nat.le_trans b12.size b23.size)))
 have HI5:Hid (IntsT w5 (.slice ad1 LL vc1) al):=I5
 have HB5:Hid (Below W.heap.size W w5):=b5
 clear I5 b5 i1 i3 b1 b2 b3 b12 b23 b34 b45
 go_loopw [7] (fun i wr=>∃j:Nat,j<=LL/\i = .int .i64 j/\Below w5.heap.size w5 wr) (fun i _=>LL-(intOf i).toNat)
 case atStart=>exact ⟨0,Nat.zero_le _,rfl,Below.refl _ _⟩
 case round =>
  obtain ⟨j,hj,rfl,hb⟩:=hrel
  have HB:Hid (Below w5.heap.size w5 wr):=hb
  clear hb
  by_cases hlt:j<LL
  ·obtain ⟨k,x,hk,hx,hkl,hbl2,hsum⟩:=HSM.out j hlt
   have HBW:Hid (Below W.heap.size W wr):=HB5.out.trans (HB.out.mono HB5.out.size)
   obtain ⟨b0,off,rfl,c0⟩:=HIA.out (HI5.out.below HB.out) hk
   have HX:=HST.out wr k x hx HBW.out
   have HIL:Hid ((ints x.blocks).length<=100000):=by show _<=_;rw [ints_len];omega
   have HXX:Hid (slotT tab k=some x):=hx
   clear hk hx
   go_wp2_with (first
    | (go_at_call 57;refine HX.mono ?_;rintro e w6 ⟨ad6,vc6,rfl,i6,b6⟩;(have HB6:Hid (Below W.heap.size W (w6.alloc (.cells #[.int .i64 (x.bytes:Int),.int .i64 (x.links:Int),.bool x.exec,.slice ad6 x.blocks.length vc6,.int .u32 (x.sum:Int)] 117))):=((HBW.out.trans (b6.mono HBW.out.size)).alloc (HBW.out.trans (b6.mono HBW.out.size)).size _));(obtain ⟨cm1,g,ad7,vc7,rfl,d0,d1,d2,d3,d4,d5,i7⟩:=HSL.out (w6.alloc (.cells #[.int .i64 (x.bytes:Int),.int .i64 (x.links:Int),.bool x.exec,.slice ad6 x.blocks.length vc6,.int .u32 (x.sum:Int)] 117)) k x HXX.out HB6.out);(have HI6:Hid (IntsT w6 (.slice ad6 x.blocks.length vc6) (ints x.blocks)):=i6);(have HI7:Hid (IntsT (w6.alloc (.cells #[.int .i64 (x.bytes:Int),.int .i64 (x.links:Int),.bool x.exec,.slice ad6 x.blocks.length vc6,.int .u32 (x.sum:Int)] 117)) (.slice ad7 x.blocks.length vc7) (ints x.blocks)):=i7);(have HBB6:Hid (Below wr.heap.size wr w6):=b6);clear i6 i7 b6 HX)
    | (go_at_call 27;refine (HSI.out _ _ _ (ints x.blocks) (HI6.out.below (((Below.refl _ w6).alloc (Nat.le_refl _) _).alloc (by simp) _)) (HI7.out.below ((Below.refl _ _).alloc (Nat.le_refl _) _)) HIL.out).mono ?_;rintro e w8 ⟨rfl,b8⟩;(have HB8:Hid (Below W.heap.size W w8):=(HB6.out.alloc HB6.out.size _).trans (b8.mono (by have:=HB6.out.size;simp at this ⊢;omega)));(have HC8:Hid (Below wr.heap.size wr w8):=(((HBB6.out.alloc HBB6.out.size _).alloc (by have:=HBB6.out.size;simp;omega) _).trans (b8.mono (by have:=HBB6.out.size;simp;omega))));(have HR8:=HRD.out w8 k x HXX.out HB8.out);clear b8)
    | (go_at_call 79;refine HR8.mono ?_;rintro e w9 ⟨s,ev,c,rfl,b9,HR9⟩;clear b9 HR8)
    | (go_at_call 75;refine HR9.mono ?_;rintro e w10 ⟨rfl,b10,HR10⟩;clear b10 HR9)
    | (go_at_call 13;refine HR10.mono ?_;rintro e w11 ⟨rfl,b11⟩;clear HR10))
   have hb11:=HC8.out.trans (b11.mono HC8.out.size)
   exact ⟨⟨j+1,by omega,by simp,HB.out.trans (hb11.mono HB.out.size)⟩,by simp [intOf];omega⟩
  ·obtain rfl:j=LL:=by omega
   go_wp2_with fail
   go_ret
   exact ⟨rfl,HB5.out.trans (HB.out.mono HB5.out.size)⟩
end
end
section
open Go.RowKit Go.Maps

structure AsD (d dp tb mw mt:Nat) (la:Option Addr) (lc LL:Nat) (ks:List Int) (W:World):Prop where
 ll:LL<=1000
 trees:Calls Tryz.prog 49 #[.pointer (some ⟨dp,0,none⟩)] W fun e w1=>∃ad vc,e = .returned (.slice ad LL vc)/\IntsT w1 (.slice ad LL vc) ks/\Below W.heap.size W w1
 table:∀w1,Below W.heap.size W w1->Calls Tryz.prog 43 #[.pointer (some ⟨dp,0,none⟩)] w1 fun e w2=>e = .returned (.pointer (some ⟨tb,0,none⟩))/\w2=w1
 asT:∀w1,Below W.heap.size W w1->Calls Tryz.prog 30 #[.pointer (some ⟨tb,0,none⟩),.pointer (some ⟨mt,0,none⟩)] w1 fun e w2=>e = .returned (.int .i64 1)/\Below w1.heap.size w1 w2
 box:∀w1,Below W.heap.size W w1->w1.cell? ⟨mw,0,none⟩=some (.pointer (some ⟨mt,0,none⟩))/\w1.cell? ⟨mw,1,none⟩=some (.slice la LL lc)
 tree:∀i,i<LL->∃(k g:Nat) (va:Option Addr) (vc n:Nat),ks[i]? = some (k:Int)/\(Lit.int .i64 (k:Int)).wf=true/\la=some ⟨g,0,none⟩/\n<=40/\(∀w1,Below W.heap.size W w1->w1.cell? ⟨g,i*6,none⟩=some (.int .i64 (k:Int))/\w1.cell? ⟨g,i*6+5,none⟩=some (.slice va n vc)) /\
  ∀r,r<n->∃(b:Nat) (p:ByteArray) (q:Nat),va=some ⟨b,0,none⟩/\∀w1,Below W.heap.size W w1->w1.cell? ⟨b,r*2,none⟩=some (.string p)/\w1.cell? ⟨b,r*2+1,none⟩=some (.int .i64 (q:Int))/\Calls Tryz.prog 10 #[.pointer (some ⟨dp,0,none⟩),.int .i64 (k:Int),.string p] w1 fun e w2=>e = .returned (.tuple #[.int .i64 (q:Int),.nilIface])/\Below w1.heap.size w1 w2
 get:∀w1 (k:Int),(Lit.int .i64 k).wf=true->Below W.heap.size W w1->Calls Tryz.prog 35 #[.pointer (some ⟨dp,0,none⟩),.int .i64 k] w1 fun e w2=>∃(t:Tree) (v:Value) (c:Int) (ad:Option Addr) (cp:Nat),e = .returned (.tuple #[.agg #[.string t.kind,.string t.data,.bool t.exec,.slice ad t.kids.length cp],v])/\Lies w2 w2.heap.size (d+1) t.kids (.slice ad t.kids.length cp)/\Below w1.heap.size w1 w2 /\
  ∀W2,Below w2.heap.size w2 W2->Calls Tryz.prog 50 #[.pointer (some ⟨mw,0,none⟩),.int .i64 k] W2 fun e2 w3=>∃(ad2:Option Addr) (cp2:Nat),e2 = .returned (.tuple #[.agg #[.string t.kind,.string t.data,.bool t.exec,.slice ad2 t.kids.length cp2],.int .i64 c])/\Lies w3 w3.heap.size (d+1) t.kids (.slice ad2 t.kids.length cp2)/\Below W2.heap.size W2 w3 /\
   ∀w4,Below w3.heap.size w3 w4->Calls Tryz.prog 13 #[v,.int .i64 c] w4 fun e4 w5=>e4 = .returned (.bool true)/\Below w4.heap.size w4 w5
theorem same_lies {d:Nat} {t:Tree} {v1 v2:Value} {w:World} (h1:Lies w w.heap.size (d+1) t.kids v1) (h2:Lies w w.heap.size (d+1) t.kids v2):Calls Tryz.prog 51 #[.agg #[.string t.kind,.string t.data,.bool t.exec,v1],.agg #[.string t.kind,.string t.data,.bool t.exec,v2]] w fun e w'=>e = .returned (.bool true)/\Below w.heap.size w w' :=
 (sameTree_any w.heap.size (d+1) t t v1 v2 w (Nat.le_refl _) h1 h2).mono fun e w' ⟨he,hb⟩=>⟨by rw [he,sameB_refl h1.fit],hb⟩
section
variable {a : Nat → Addr} {w0 W W' : World} {N d dp tb bb sp sb cap mb m1 m2 mw mt md j : Nat} {s s' : TSt} {tr tr' : List (Option NTree)} {pt pt' : List Tree}
theorem B2.asD (E:DSn a w0) (hsum:w0.cell? ⟨2,0,none⟩=some (.iface 330 (.pointer (some (a 10))))) (SN:Sents a w0) (S:BSt w0 N d dp tb bb sp sb cap mb m1 m2 mw mt md j s tr pt W) (hj:j<=50) (hd:d<=900) (hN5:N<=512) :
  ∃la lc,AsD d dp tb mw mt la lc (mts (d+1) 0 tr pt).length (ints (allN tr)) W:=by
 obtain ⟨la,lc,us,vs,M⟩:=S.M
 have hR:=S.refs (by omega)
 have hkeys:=mts_keys (D:=d+1) tr.length tr pt rfl S.I.len
 have hlen:(allN tr).length=(mts (d+1) 0 tr pt).length:=by rw [<-hkeys,List.length_map]
 have hR2:(refsA (d+1) tr pt).length<=40*j:=by
  have h1:=refsA_len (D:=d+1) (M:=40) (tr:=tr) (pt:=pt) fun t ht=>(S.few.2 t ht).files
  have h2:=S.few.1
  omega
 have hPI:PInv N (40*j) s.bl s.u s.tab:=⟨S.I.rf.sp,hN5,fun q y hy=>⟨by have:=S.I.lk hy;omega,S.I.rf.sm q y hy⟩⟩
 refine ⟨la,lc,S.few_mt (by omega),?_,fun w1 h1=>?_,fun w1 h1=>?_,fun w1 h1=>?_,fun i hi=>?_,fun w1 k hk h1=>?_⟩
 ·obtain ⟨n1,fb,hn1,D⟩:=S.D
  refine (dtrees_any D).mono ?_
  rintro e w1 ⟨v,he,ho,hb⟩
  have ht:=ho.t
  obtain ⟨ad,vc,rfl⟩:=own_form ho
  rw [hlen] at he ht
  exact ⟨ad,vc,he,ht,hb⟩
 ·obtain ⟨n1,fb,hn1,D⟩:=(S.below h1).D
  exact dtable_any D
 ·have S1:=S.below h1
  obtain ⟨n,hn,T⟩:=S1.T
  exact asTable_any (N:=N) (i:=40*j) (by omega) ⟨⟨sp,sb,cap,mb,n,hn,T⟩,S1.Mt,S1.low,rfl,S1.ge.2.2,S1.ge.2.1⟩ hPI SN
 ·exact ⟨(M.below h1).cells.1,(M.below h1).cells.2.1⟩
 ·obtain ⟨y,hy⟩:∃y,(mts (d+1) 0 tr pt)[i]? = some y:=⟨_,List.getElem?_eq_getElem hi⟩
  obtain ⟨jj,x,t,e1,e2,e3⟩:=mts_mem _ _ _ _ (List.mem_of_getElem? hy)
  have hfs:=S.few_fs y (List.mem_of_getElem? hy)
  obtain ⟨g,ua,uc,va,vc,hla,_,hv,_⟩:=M.at hy
  have hjl:jj<tr.length:=(List.getElem?_eq_some_iff.1 e1).1
  have hky:y.k=jj:=by rw [e3];show 0+jj=jj;omega
  have hjs:jj<=1000000:=by have h1:=S.I.len;have h2:=S.few.1;omega
  refine ⟨y.k,g,va,vc,y.fs.length,?_,by rw [hky];exact wf_nat hjs,hla,hfs,fun w1 h1=>?_,fun r hr=>?_⟩
  ·rw [<-hkeys]
   unfold ints
   rw [List.getElem?_map,List.getElem?_map,hy]
   rfl
  ·obtain ⟨g',_,_,va',vc',hla',_,hv',c0,_,_,_,_,c5⟩:=(M.below h1).at hy
   rw [hla] at hla'
   rw [hv] at hv'
   cases hla'
   cases hv'
   exact ⟨c0,c5⟩
  ·obtain ⟨f,hf⟩:∃f,y.fs[r]? = some f:=⟨_,List.getElem?_eq_getElem hr⟩
   obtain ⟨b,cp,ev,_⟩:=fmRow_at (M.files i y _ hy hv) hf
   simp only [Value.slice.injEq] at ev
   have hx:ntI tr (jj:Int)=some x:=by rw [ntI_nat,e1];rfl
   have hfx:x.fs[r]? = some f:=by rw [e3] at hf;exact hf
   obtain ⟨t',et,hw,hft,hxt,hfp⟩:=S.I.tree jj x hx
   rw [e2] at et
   cases et
   have hp:f.1∈(filesT (d+1) t).map (·.1):=by rw [<-hfp];exact List.mem_map.2 ⟨f,List.mem_of_getElem? hfx,rfl⟩
   obtain ⟨z,hz,hzf⟩:=List.mem_map.1 hp
   obtain ⟨q,k1,_,_,k4⟩:=S.I.ino hx e2 hz
   rw [hzf] at k1 k4
   have hq:q=f.2:=nodup_val (S.I.cnt hx (by omega)).2 (findF_mem x.fs k1) (List.mem_of_getElem? hfx)
   subst hq
   have hps:f.1.size<=1000000:=by rw [<-hzf];have:=(well_small hw (by omega) z hz).2;omega
   refine ⟨b,f.1,f.2,ev.1,fun w1 h1=>?_⟩
   obtain ⟨b',cp',ev',_,c0,c1⟩:=fmRow_at ((M.below h1).files i y _ hy hv) hf
   simp only [Value.slice.injEq] at ev'
   have eb:=ev.1.symm.trans ev'.1
   cases eb
   refine ⟨c0,c1,?_⟩
   have S1:=S.below h1
   obtain ⟨PS,SB⟩:=S1.sents E
   obtain ⟨n1,fb,hn1,D⟩:=S1.D
   have:=dinode_any a (y.k:Int) f.1 (by rw [hky];exact wf_nat hjs) hps PS D
   rw [hky,k4] at this
   rw [hky]
   exact this
 ·have S1:=S.below h1
  refine (b_get E hsum S1 (by omega) hd k hk).mono ?_
  rintro e w2 ⟨t,v,c,⟨ad,cp,he,hl⟩,hc,hb,hg⟩
  refine ⟨t,v,c,ad,cp,he,hl,hb,fun W2 h2=>(hg W2 h2).mono ?_⟩
  rintro e2 w3 ⟨⟨ad2,cp2,he2,hl2⟩,hb2⟩
  exact ⟨ad2,cp2,he2,hl2,hb2,fun w4 h4=>coded_v SN ((((S1.below hb).below h2).below hb2).below h4).low hc⟩
end
end
section
set_option maxHeartbeats 4000000
set_option maxRecDepth 100000
open Go.RowKit Go.Maps

section
variable {W : World} {d dp tb mw mt lc LL : Nat} {la : Option Addr} {ks : List Int}
theorem ints_at {w1:World} {ad:Option Addr} {vc j:Nat} {k:Int} (h:IntsT w1 (.slice ad LL vc) ks) (hk:ks[j]? = some k):∃b off,ad=some ⟨b,off,none⟩/\w1.cell? ⟨b,off+j,none⟩=some (.int .i64 k):=by
 obtain ⟨ad',c',e,hc⟩:=h.at
 simp only [Value.slice.injEq] at e
 obtain ⟨b,off,e2,hc2⟩:=hc _ _ hk
 exact ⟨b,off,by rw [e.1,e2],hc2⟩
theorem asDirs_any (A:AsD d dp tb mw mt la lc LL ks W) :
  Calls Tryz.prog 14 #[.pointer (some ⟨dp,0,none⟩),.pointer (some ⟨mw,0,none⟩)] W fun e w'=>e = .returned (.int .i64 1)/\Below W.heap.size W w':=by
 have hll:=A.ll
 have HTR:=A.trees
 have HBX:Hid _:=A.box
 have HTB:Hid _:=A.table
 have HAT:Hid _:=A.asT
 have HTE:Hid _:=A.tree
 have HGT:Hid _:=A.get
 clear A
 go_enter Tryz.func14,Tryz.ntmps14
 go_wp2_with (first
  | (go_at_call 49;refine HTR.mono ?_;rintro e w1 ⟨ad1,vc1,rfl,i1,b1⟩;(have HI1:Hid (IntsT w1 (.slice ad1 LL vc1) ks):=i1);(have HB1:Hid (Below W.heap.size W w1):=b1);clear HTR i1 b1))
 have HBD:Hid (Below W.heap.size W w1.drew):=HB1.out.trans ((below_drew w1).mono HB1.out.size)
 refine wp_region_held_drew (S:=fun w'=>w'.cell? ⟨mw,0,none⟩=some (.pointer (some ⟨mt,0,none⟩))/\w'.cell? ⟨mw,1,none⟩=some (.slice la LL lc)) (by kernel_rfl) (HBX.out _ HBD.out) (fun hHeld=>?_)
 refine tk 0 (.slice ad1 LL vc1) rfl hHeld ?_
 simp only [tkB,Act.put,tkS]
 refine tk 1 (.int .i64 (LL:Int)) rfl hHeld ?_
 simp only [tkB,Act.put,tkS]
 refine tk 2 (.pointer (some ⟨mw,0,none⟩)) rfl hHeld ?_
 simp only [tkB,Act.put,tkS]
 refine tk 3 (.pointer (some ⟨mw,0,none⟩)) rfl hHeld ?_
 simp only [tkB,Act.put,tkS]
 refine tk 4 (.pointer (some ⟨mw,1,none⟩)) rfl hHeld ?_
 simp only [tkB,Act.put,tkS]
 refine tk 5 (.slice la LL lc) rfl hHeld ?_
 simp only [tkB,Act.put,tkS]
 refine tk 6 (.int .i64 (LL:Int)) rfl hHeld ?_
 simp only [tkB,Act.put,tkS]
 refine tk 7 (.bool false) rfl hHeld ?_
 simp only [tkB,Act.put,tkS]
 refine tk 8 (.bool false) rfl hHeld ?_
 simp only [tkB,Act.put,tkS]
 refine tk 9 (.pointer (some ⟨dp,0,none⟩)) rfl hHeld ?_
 simp only [tkB,Act.put,tkS]
 refine tk 11 (.pointer (some ⟨mw,0,none⟩)) rfl hHeld ?_
 simp only [tkB,Act.put,tkS]
 refine tk 12 (.pointer (some ⟨mw,0,none⟩)) rfl hHeld ?_
 simp only [tkB,Act.put,tkS]
 refine tk 13 (.pointer (some ⟨mw,0,none⟩)) rfl hHeld ?_
 simp only [tkB,Act.put,tkS]
 refine tk 14 (.pointer (some ⟨mt,0,none⟩)) rfl hHeld ?_
 simp only [tkB,Act.put,tkS]
 refine tkR 10 rfl fun K' hK=>?_
 simp only [tkB]
 go_simp
 refine Calls.mono (HTB.out _ HBD.out) ?_
 rintro e wx ⟨rfl,hw⟩
 rw [hw]
 clear hw
 go_wp2_with fail
 refine hK.out _ _ (HBX.out _ HBD.out) (fun hHeld'=>?_)
 clear hK K' hHeld
 have hHeld:=hHeld'
 clear hHeld'
 refine tkR 15 rfl fun K' hK=>?_
 simp only [tkB]
 go_simp
 refine Calls.mono (HAT.out _ HBD.out) ?_
 rintro e wx ⟨rfl,b2⟩
 go_wp2_with fail
 refine hK.out _ _ (HBX.out _ (HBD.out.trans (b2.mono HBD.out.size))) (fun hHeld'=>?_)
 clear hK K' hHeld
 have hHeld:=hHeld'
 clear hHeld'
 refine tk 16 (.bool false) rfl hHeld ?_
 simp only [tkB,Act.put,tkS]
 refine tk 17 (.bool false) rfl hHeld ?_
 simp only [tkB,Act.put,tkS]
 refine wpAnyH_done (by kernel_rfl) ?_ _
 go_wp2_with fail
 have HI2:Hid (IntsT wx (.slice ad1 LL vc1) ks):=(HI1.out.below (below_drew w1)).below b2
 have HB2:Hid (Below W.heap.size W wx):=HBD.out.trans (b2.mono HBD.out.size)
 clear HI1 HB1 HBD HTB HAT b2
 go_loopw [6] (fun i wr=>∃j:Nat,j<=LL/\i = .int .i64 j/\Below wx.heap.size wx wr) (fun i _=>LL-(intOf i).toNat)
 case atStart=>exact ⟨0,Nat.zero_le _,rfl,Below.refl _ _⟩
 case round =>
  obtain ⟨j,hj,rfl,hb⟩:=hrel
  have HB:Hid (Below wx.heap.size wx wr):=hb
  have HBW:Hid (Below W.heap.size W wr):=HB2.out.trans (hb.mono HB2.out.size)
  clear hb
  by_cases hlt:j<LL
  ·obtain ⟨k,g,va,vc,n,hk,hkw,rfl,hn,hcl,hfl⟩:=HTE.out j hlt
   obtain ⟨b0,off,rfl,c0⟩:=ints_at HI2.out hk
   have HIX0:Hid (∀w',Below wx.heap.size wx w'->w'.cell? ⟨b0,off+j,none⟩=some (.int .i64 (k:Int))):=fun w' h=>(h.cell (p:=⟨b0,off+j,none⟩) (World.block_lt_of_cell? wx _ c0)).trans c0
   have HCL:Hid _:=hcl
   have HFL:Hid _:=hfl
   have HKW:Hid _:=hkw
   clear hk hcl hfl c0 hkw HTE
   obtain ⟨cm0,cm1⟩:=HBX.out wr HBW.out
   obtain ⟨cg0,cg5⟩:=HCL.out wr HBW.out
   have ci:=HIX0.out wr HB.out
   go_wp2_with fail
   go_quiet (fail)
   go_wp2_with fail
   have HBN:Hid (Below W.heap.size W (wr.drewN nq)):=HBW.out.trans ((below_drewN1 wr nq).mono HBW.out.size)
   have HBM:Hid (Below wx.heap.size wx (wr.drewN nq)):=HB.out.trans ((below_drewN1 wr nq).mono HB.out.size)
   refine (HGT.out _ _ HKW.out HBN.out).mono ?_
   rintro e w2 ⟨t,v,c,ad,cp,rfl,l2,b2,hg⟩
   have HL2:Hid (Lies w2 w2.heap.size (d+1) t.kids (.slice ad t.kids.length cp)):=l2
   have HG:Hid _:=hg
   have HBC:Hid (Below wx.heap.size wx w2):=HBM.out.trans (b2.mono HBM.out.size)
   clear l2 hg b2 cm0 cm1 cg0 cg5 ci HBN HBM
   have HB3:Hid (Below w2.heap.size w2 (w2.alloc (.cells #[.string t.kind,.string t.data,.bool t.exec,.slice ad t.kids.length cp] 31))):=(Below.refl _ w2).alloc (Nat.le_refl _) _
   have ci:=HIX0.out _ (HBC.out.trans (HB3.out.mono HBC.out.size))
   go_wp2_with fail
   refine (HG.out _ HB3.out).mono ?_
   rintro e w4 ⟨ad2,cp2,rfl,l4,b4,hcd⟩
   have HL4:Hid (Lies w4 w4.heap.size (d+1) t.kids (.slice ad2 t.kids.length cp2)):=l4
   have HCD:Hid _:=hcd
   have HB24:Hid (Below w2.heap.size w2 w4):=HB3.out.trans (b4.mono HB3.out.size)
   have HB5:Hid (Below w4.heap.size w4 (w4.alloc (.cells #[.string t.kind,.string t.data,.bool t.exec,.slice ad2 t.kids.length cp2] 31))):=(Below.refl _ w4).alloc (Nat.le_refl _) _
   have HB25:Hid (Below w2.heap.size w2 (w4.alloc (.cells #[.string t.kind,.string t.data,.bool t.exec,.slice ad2 t.kids.length cp2] 31))):=HB24.out.trans (HB5.out.mono HB24.out.size)
   have hs3:(w2.alloc (.cells #[.string t.kind,.string t.data,.bool t.exec,.slice ad t.kids.length cp] 31)).heap[w2.heap.size]? = some (.cells #[.string t.kind,.string t.data,.bool t.exec,.slice ad t.kids.length cp] 31 (0,0)):=heap_alloc_last w2 _
   have hs4:=(b4.block _ (Array.getElem?_eq_some_iff.1 hs3).1).trans hs3
   have hs5:=(HB5.out.block _ (Array.getElem?_eq_some_iff.1 hs4).1).trans hs4
   have g0:(w4.alloc (.cells #[.string t.kind,.string t.data,.bool t.exec,.slice ad2 t.kids.length cp2] 31)).cell? ⟨w2.heap.size,0,none⟩=some (.string t.kind):=by rw [cell_of_row _ _ _ _ _ _ hs5];rfl
   have g1:(w4.alloc (.cells #[.string t.kind,.string t.data,.bool t.exec,.slice ad2 t.kids.length cp2] 31)).cell? ⟨w2.heap.size,1,none⟩=some (.string t.data):=by rw [cell_of_row _ _ _ _ _ _ hs5];rfl
   have g2:(w4.alloc (.cells #[.string t.kind,.string t.data,.bool t.exec,.slice ad2 t.kids.length cp2] 31)).cell? ⟨w2.heap.size,2,none⟩=some (.bool t.exec):=by rw [cell_of_row _ _ _ _ _ _ hs5];rfl
   have g3:(w4.alloc (.cells #[.string t.kind,.string t.data,.bool t.exec,.slice ad2 t.kids.length cp2] 31)).cell? ⟨w2.heap.size,3,none⟩=some (.slice ad t.kids.length cp):=by rw [cell_of_row _ _ _ _ _ _ hs5];rfl
   have HL25:Hid (Lies (w4.alloc (.cells #[.string t.kind,.string t.data,.bool t.exec,.slice ad2 t.kids.length cp2] 31)) (w4.alloc (.cells #[.string t.kind,.string t.data,.bool t.exec,.slice ad2 t.kids.length cp2] 31)).heap.size (d+1) t.kids (.slice ad t.kids.length cp)):=(HL2.out.below HB25.out (Nat.le_refl _)).up HB25.out.size (Nat.le_refl _)
   have HL45:Hid (Lies (w4.alloc (.cells #[.string t.kind,.string t.data,.bool t.exec,.slice ad2 t.kids.length cp2] 31)) (w4.alloc (.cells #[.string t.kind,.string t.data,.bool t.exec,.slice ad2 t.kids.length cp2] 31)).heap.size (d+1) t.kids (.slice ad2 t.kids.length cp2)):=(HL4.out.below HB5.out (Nat.le_refl _)).up HB5.out.size (Nat.le_refl _)
   have HBE:Hid (Below wx.heap.size wx (w4.alloc (.cells #[.string t.kind,.string t.data,.bool t.exec,.slice ad2 t.kids.length cp2] 31))):=HBC.out.trans (HB25.out.mono HBC.out.size)
   clear hs3 hs4 hs5 l4 hcd b4 ci HG HL2 HL4
   go_wp2_with (first
    | (go_at_call 51;refine (same_lies HL25.out HL45.out).mono ?_;rintro e w6 ⟨rfl,b6⟩;(have HB56:Hid (Below w4.heap.size w4 w6):=HB5.out.trans (b6.mono HB5.out.size));(have HBF:Hid (Below wx.heap.size wx w6):=HBE.out.trans (b6.mono HBE.out.size));clear b6)
    | (go_at_call 13;refine (HCD.out _ HB56.out).mono ?_;rintro e w7 ⟨rfl,b7⟩;(have HBQ:Hid (Below wx.heap.size wx w7):=HBF.out.trans (b7.mono HBF.out.size));clear b7))
   clear HCD HL25 HL45 HBE HBF HB56 HB5 HB25 HB24 HB3 g0 g1 g2 g3 HGT
   go_loopw [12] (fun i wr=>∃m:Nat,m<=n/\i = .int .i64 m/\Below w7.heap.size w7 wr) (fun i _=>n-(intOf i).toNat)
   case atStart=>exact ⟨0,Nat.zero_le _,rfl,Below.refl _ _⟩
   case round =>
    obtain ⟨m,hm,rfl,hbv⟩:=hrel
    have HBR:Hid (Below wx.heap.size wx wr):=HBQ.out.trans (hbv.mono HBQ.out.size)
    have HBS:Hid (∀w',Below wx.heap.size wx w'->Below W.heap.size W w'):=fun w' h=>HB2.out.trans (h.mono HB2.out.size)
    have HB7:Hid (Below w7.heap.size w7 wr):=hbv
    clear hbv
    obtain ⟨cm0,cm1⟩:=HBX.out wr (HBS.out _ HBR.out)
    obtain ⟨_,cg5⟩:=HCL.out wr (HBS.out _ HBR.out)
    by_cases hmn:m<n
    ·obtain ⟨bf,p,q,rfl,hf⟩:=HFL.out m hmn
     have HF:Hid _:=hf
     clear hf
     have HBV:Hid (Below wx.heap.size wx wr.drew):=HBR.out.trans ((below_drew wr).mono HBR.out.size)
     have HS19:Hid (∀w',Below wx.heap.size wx w'->w'.cell? ⟨b0,off+j,none⟩=some (.int .i64 (k:Int))/\w'.cell? ⟨mw,1,none⟩=some (.slice (some ⟨g,0,none⟩) LL lc)/\w'.cell? ⟨g,j*6+5,none⟩=some (.slice (some ⟨bf,0,none⟩) n vc)/\w'.cell? ⟨bf,m*2,none⟩=some (.string p)):=fun w' h=>⟨HIX0.out w' h,(HBX.out w' (HBS.out _ h)).2,(HCL.out w' (HBS.out _ h)).2,(HF.out w' (HBS.out _ h)).1⟩
     go_wp2_with fail
     refine wp_region_held_drew (S:=fun w'=>w'.cell? ⟨b0,off+j,none⟩=some (.int .i64 (k:Int))/\w'.cell? ⟨mw,1,none⟩=some (.slice (some ⟨g,0,none⟩) LL lc)/\w'.cell? ⟨g,j*6+5,none⟩=some (.slice (some ⟨bf,0,none⟩) n vc)/\w'.cell? ⟨bf,m*2,none⟩=some (.string p)) (by kernel_rfl) (HS19.out _ HBV.out) (fun hHeld=>?_)
     refine tk 0 (.pointer (some ⟨dp,0,none⟩)) rfl hHeld ?_
     simp only [tkB,Act.put,tkS]
     refine tk 1 (.slice (some ⟨b0,off,none⟩) LL vc1) rfl hHeld ?_
     simp only [tkB,Act.put,tkS]
     refine tk 2 (.int .i64 (j:Int)) rfl hHeld ?_
     simp only [tkB,Act.put,tkS]
     refine tk 3 (.pointer (some ⟨b0,off+j,none⟩)) rfl hHeld ?_
     simp only [tkB,Act.put,tkS]
     refine tk 4 (.int .i64 (k:Int)) rfl hHeld ?_
     simp only [tkB,Act.put,tkS]
     refine tk 5 (.pointer (some ⟨mw,0,none⟩)) rfl hHeld ?_
     simp only [tkB,Act.put,tkS]
     refine tk 6 (.pointer (some ⟨mw,0,none⟩)) rfl hHeld ?_
     simp only [tkB,Act.put,tkS]
     refine tk 7 (.pointer (some ⟨mw,1,none⟩)) rfl hHeld ?_
     simp only [tkB,Act.put,tkS]
     refine tk 8 (.slice (some ⟨g,0,none⟩) LL lc) rfl hHeld ?_
     simp only [tkB,Act.put,tkS]
     refine tk 9 (.int .i64 (j:Int)) rfl hHeld ?_
     simp only [tkB,Act.put,tkS]
     refine tk 10 (.pointer (some ⟨g,j*6,none⟩)) rfl hHeld ?_
     simp only [tkB,Act.put,tkS]
     refine tk 11 (.pointer (some ⟨g,j*6+5,none⟩)) rfl hHeld ?_
     simp only [tkB,Act.put,tkS]
     refine tk 12 (.slice (some ⟨bf,0,none⟩) n vc) rfl hHeld ?_
     simp only [tkB,Act.put,tkS]
     refine tk 13 (.int .i64 (m:Int)) rfl hHeld ?_
     simp only [tkB,Act.put,tkS]
     refine tk 14 (.pointer (some ⟨bf,m*2,none⟩)) rfl hHeld ?_
     simp only [tkB,Act.put,tkS]
     refine tk 15 (.pointer (some ⟨bf,m*2,none⟩)) rfl hHeld ?_
     simp only [tkB,Act.put,tkS]
     refine tk 16 (.string p) rfl hHeld ?_
     simp only [tkB,Act.put,tkS]
     refine tkR 17 rfl fun K' hK=>?_
     simp only [tkB]
     go_simp
     refine Calls.mono ((HF.out _ (HBS.out _ HBV.out)).2.2) ?_
     rintro e wx ⟨rfl,b20⟩
     go_wp2_with fail
     refine hK.out _ _ (HS19.out _ (HBV.out.trans (b20.mono HBV.out.size))) (fun hHeld'=>?_)
     clear hK K' hHeld
     have hHeld:=hHeld'
     clear hHeld'
     refine tk 18 (.tuple #[.int .i64 (q:Int),.nilIface]) rfl hHeld ?_
     simp only [tkB,Act.put,tkS]
     refine tk 19 (.int .i64 (q:Int)) rfl hHeld ?_
     simp only [tkB,Act.put,tkS]
     refine tk 20 (.nilIface) rfl hHeld ?_
     simp only [tkB,Act.put,tkS]
     refine tkR 21 rfl fun K' hK=>?_
     simp only [tkB]
     go_simp
     go_wp2_with fail
     refine hK.out _ _ (HS19.out _ (HBV.out.trans (b20.mono HBV.out.size))) (fun hHeld'=>?_)
     clear hK K' hHeld
     have hHeld:=hHeld'
     clear hHeld'
     refine tkR 22 rfl fun K' hK=>?_
     simp only [tkB]
     go_simp
     go_wp2_with fail
     refine hK.out _ _ (HS19.out _ (HBV.out.trans (b20.mono HBV.out.size))) (fun hHeld'=>?_)
     clear hK K' hHeld
     have hHeld:=hHeld'
     clear hHeld'
     refine wpAnyH_done (by kernel_rfl) ?_ _
     have HBZ:Hid _:=HBV.out.trans (b20.mono HBV.out.size)
     have HBU:=HB7.out.trans ((below_drew wr).mono HB7.out.size)
     have HBY:Hid (Below w7.heap.size w7 wx):=HBU.trans (b20.mono HBU.size)
     obtain ⟨z0,z1⟩:=HBX.out _ (HBS.out _ HBZ.out)
     obtain ⟨_,z5⟩:=HCL.out _ (HBS.out _ HBZ.out)
     obtain ⟨_,zf,_⟩:=HF.out _ (HBS.out _ HBZ.out)
     clear b20 cm0 cm1 cg5 HBU
     go_wp2_with fail
     exact ⟨⟨m+1,by omega,by simp,HBY.out⟩,by simp [intOf];omega⟩
    ·obtain rfl:m=n:=by omega
     go_wp2_with fail
     exact ⟨⟨j+1,by omega,by simp,HBR.out⟩,by simp [intOf];omega⟩
  ·obtain rfl:j=LL:=by omega
   go_wp2_with fail
   go_ret
   exact ⟨rfl,HBW.out⟩
end
end
end Go.Proofs.YtpiebpiljhlneaaGreatDoor
