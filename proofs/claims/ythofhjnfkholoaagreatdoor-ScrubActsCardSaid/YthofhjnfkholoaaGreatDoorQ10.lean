/-
  ImT Md Ha ShelfK ImO, joined.
  Conditions: those that each states.
-/
import Derived.Test.YthofhjnfkholoaaGreatDoorQ09
import Derived.Shelf.SlIterI.Nil
import Derived.Shelf.SortM.Plain
import Derived.Shelf.SortM.SortNone
import Derived.Ground.GgzProg
import Derived.Ground.SlgmProg
namespace Go.Proofs.YthofhjnfkholoaaGreatDoor
section
set_option maxHeartbeats 1000000
set_option maxRecDepth 100000
open Go.RowKit Go.Maps

section
variable {F : Nat → Prop} {T0 tb bb sp sb cap mb n : Nat} {bl : List (List UInt8)} {u : List Bool} {tab : List (Option ak)}
theorem lO (bl:List (List UInt8)) (blocks:List Nat) (bytes:Nat):(au bl blocks bytes).size<=bytes:=by
 unfold au;show (List.toArray _).size<=_;simp only [qv,js];omega
theorem kX (s:ByteArray):aQ s<4294967296:=by
 unfold aQ;exact yz (n:=32) (by omega) (mG s _)
theorem pn (k:Nat) (x:ak) (er:Value) (hx:af tab k=some x) (hcrc:aQ (au bl x.blocks x.bytes)=x.sum) (w:World) (T:aq w F T0 tb bb sp sb cap mb n bl u tab) (hin:∀k∈x.blocks,k<bl.length) (hbl:x.blocks.length<=1000) (hby:x.bytes<=1000000) (hE:w.cell? ⟨2,0,none⟩=some er) :
  Cl 46 #[.pointer (some ⟨tb,0,none⟩),.int .i64 (k:Int)] w fun e w'=>e = .returned (.tuple #[.string (au bl x.blocks x.bytes),.nilIface])/\Bl w w':=by
 obtain ⟨f,N⟩:=T.nodes;obtain ⟨b,eb,hb,S⟩:=N.some_ k x hx;have hkl:=aO hx;obtain ⟨_,_,_,_,_,hl1,hl2⟩:=T.low;have HF:=gi (k:Int) (eK (by omega)) w T N;rw [fD,eb] at HF;unfold gP at HF;simp only [qE] at HF;have hgE:2<w.heap.size:=ji w _ hE;have HE:Hid (∀W,Bl w W->W.cell? ⟨2,0,none⟩=some er):=fun W hW=>by rw [hW.cell (p:=⟨2,0,none⟩) hgE];exact hE
 obtain ⟨c0,_,_,_,c4,v,c3,iv⟩:=S.cells;have hlt:b<w.heap.size:=by obtain ⟨_,h,_⟩:=S;exact (ja.1 h).1
 have HS:Hid (∀W,Bl w W->(W.cell? ⟨b,3,none⟩=some v/\W.cell? ⟨b,0,none⟩=some (.int .i64 (x.bytes:Int))/\W.cell? ⟨b,4,none⟩=some (.int .u32 (x.sum:Int)))):=fun W hW=>⟨by rw [hW.cell (p:=⟨b,3,none⟩) hlt];exact c3,by rw [hW.cell (p:=⟨b,0,none⟩) hlt];exact c0,by rw [hW.cell (p:=⟨b,4,none⟩) hlt];exact c4⟩
 have HR:Hid (∀W,Bl w W->Cl 83 #[.pointer (some ⟨tb,0,none⟩),v,.int .i64 (x.bytes:Int)] W fun e w'=>e = .returned (.string (au bl x.blocks x.bytes))/\Bl w w'):=fun W hW =>
  (u6 v x.blocks x.bytes W (T.below hW) (iv.below hW) hin hbl hby).mono fun e w' ⟨he,hb'⟩=>⟨he,hW.trans (hb'.mono hW.size)⟩
 have HSUM:Hid (∀W,Cl 35 #[.string (au bl x.blocks x.bytes)] W fun e w'=>e = .returned (.int .u32 (aQ (au bl x.blocks x.bytes):Nat))/\w'=W):=fun W=>pk _ (jm (lO _ _ _) hby) W;have hcl:=kX (au bl x.blocks x.bytes);generalize au bl x.blocks x.bytes=s at *;generalize aQ s=c at *;obtain ⟨ad,vc,rfl⟩:∃ad vc,v = .slice ad (ar x.blocks).length vc:=by obtain ⟨ad,vc,e,_⟩:=iv;exact ⟨ad,vc,e⟩
 clear T N S hx eb hkl hl1 iv hin c0 c4 c3 hE;have hcx:((c:Int)==(x.sum:Int))=true:=by rw [hcrc];simp
 go_enter Tryz.func46,Tryz.ntmps46
 go_wp2_with (go_at_call 66;refine HF.mono ?_;rintro e w1 ⟨rfl,hw⟩;rw [hw];clear hw)
 refine zh (S:=fun w'=>w'.cell? ⟨b,3,none⟩=some (.slice ad (ar x.blocks).length vc)/\w'.cell? ⟨b,0,none⟩=some (.int .i64 (x.bytes:Int))/\w'.cell? ⟨b,4,none⟩=some (.int .u32 (x.sum:Int))) (by kernel_rfl) (HS.out _ (je _ _).drew) (fun hHeld=>?_);refine aW [(0,pZ tb 0),(1,pZ b 0),(2,pZ b 0),(3,pZ b 3),(4,.slice ad (ar x.blocks).length vc),(5,pZ b 0),(6,pZ b 0),(7,pZ b 0),(8,iZ (x.bytes:Int))] hHeld ?_;refine aC 9 rfl fun K' hK=>?_;simp only [ai];go_simp;refine jk (HR.out _ (je _ _).drew) ?_;rintro e wx ⟨rfl,h1⟩;have HB1:Hid _:=h1;go_wp2_with fail
 refine hK.out _ _ (HS.out _ h1) (fun hHeld=>?_);clear hK K';refine tk 10 (.string s) rfl hHeld ?_;simp only [ai,Act.put,bj];refine zk (by kernel_rfl) ?_ _;go_wp2_with fail
 refine zh (S:=fun w'=>w'.cell? ⟨b,3,none⟩=some (.slice ad (ar x.blocks).length vc)/\w'.cell? ⟨b,0,none⟩=some (.int .i64 (x.bytes:Int))/\w'.cell? ⟨b,4,none⟩=some (.int .u32 (x.sum:Int))) (by kernel_rfl) (HS.out _ HB1.out.drew) (fun hHeld=>?_);refine aW [(0,.string s),(2,pZ b 0),(3,pZ b 0),(4,pZ b 4),(5,.int .u32 (x.sum:Int))] hHeld ?_;refine aC 1 rfl fun K' hK=>?_;simp only [ai];go_simp;refine jk (HSUM.out _) ?_;rintro e wx ⟨rfl,hw⟩;rw [hw];clear hw;go_wp2_with fail
 refine hK.out _ _ (HS.out _ HB1.out.drew) (fun hHeld=>?_);clear hK K';refine zr (i:=6) (v:=(.bool false)) rfl (by kernel_rfl) (by kernel_rfl) (by kernel_rfl) (fun _ _ _ h=>h) (Or.inl ⟨by rfl,?_⟩) hHeld ?_
 ·intro w hSw;(try dsimp only at hSw);simp only [ai];go_simp;(try exact hcx)
 simp only [ai,Act.put,bj];refine zk (by kernel_rfl) ?_ _;go_wp2_with fail
 go_ret2;have h:=HB1.out;exact ⟨rfl,⟨h.os,h.tape,h.output,h.size,h.block⟩⟩
theorem iT (k:Nat) (x:ak) (er:Value) (hx:af tab k=some x) (hcrc:aQ (au bl x.blocks x.bytes)≠x.sum) (w:World) (T:aq w F T0 tb bb sp sb cap mb n bl u tab) (hin:∀k∈x.blocks,k<bl.length) (hbl:x.blocks.length<=1000) (hby:x.bytes<=1000000) (hE:w.cell? ⟨2,0,none⟩=some er) :
  Cl 46 #[.pointer (some ⟨tb,0,none⟩),.int .i64 (k:Int)] w fun e w'=>e = .returned (.tuple #[.string { data:=#[] },er])/\Bl w w':=by
 obtain ⟨f,N⟩:=T.nodes;obtain ⟨b,eb,hb,S⟩:=N.some_ k x hx;have hkl:=aO hx;obtain ⟨_,_,_,_,_,hl1,hl2⟩:=T.low;have HF:=gi (k:Int) (eK (by omega)) w T N;rw [fD,eb] at HF;unfold gP at HF;simp only [qE] at HF;have hgE:2<w.heap.size:=ji w _ hE;have HE:Hid (∀W,Bl w W->W.cell? ⟨2,0,none⟩=some er):=fun W hW=>by rw [hW.cell (p:=⟨2,0,none⟩) hgE];exact hE
 obtain ⟨c0,_,_,_,c4,v,c3,iv⟩:=S.cells;have hlt:b<w.heap.size:=by obtain ⟨_,h,_⟩:=S;exact (ja.1 h).1
 have HS:Hid (∀W,Bl w W->(W.cell? ⟨b,3,none⟩=some v/\W.cell? ⟨b,0,none⟩=some (.int .i64 (x.bytes:Int))/\W.cell? ⟨b,4,none⟩=some (.int .u32 (x.sum:Int)))):=fun W hW=>⟨by rw [hW.cell (p:=⟨b,3,none⟩) hlt];exact c3,by rw [hW.cell (p:=⟨b,0,none⟩) hlt];exact c0,by rw [hW.cell (p:=⟨b,4,none⟩) hlt];exact c4⟩
 have HR:Hid (∀W,Bl w W->Cl 83 #[.pointer (some ⟨tb,0,none⟩),v,.int .i64 (x.bytes:Int)] W fun e w'=>e = .returned (.string (au bl x.blocks x.bytes))/\Bl w w'):=fun W hW =>
  (u6 v x.blocks x.bytes W (T.below hW) (iv.below hW) hin hbl hby).mono fun e w' ⟨he,hb'⟩=>⟨he,hW.trans (hb'.mono hW.size)⟩
 have HSUM:Hid (∀W,Cl 35 #[.string (au bl x.blocks x.bytes)] W fun e w'=>e = .returned (.int .u32 (aQ (au bl x.blocks x.bytes):Nat))/\w'=W):=fun W=>pk _ (jm (lO _ _ _) hby) W;have hcl:=kX (au bl x.blocks x.bytes);generalize au bl x.blocks x.bytes=s at *;generalize aQ s=c at *;obtain ⟨ad,vc,rfl⟩:∃ad vc,v = .slice ad (ar x.blocks).length vc:=by obtain ⟨ad,vc,e,_⟩:=iv;exact ⟨ad,vc,e⟩
 clear T N S hx eb hkl hl1 iv hin c0 c4 c3 hE;have hcx:¬(c:Int)=(x.sum:Int):=by omega
 go_enter Tryz.func46,Tryz.ntmps46
 go_wp2_with (go_at_call 66;refine HF.mono ?_;rintro e w1 ⟨rfl,hw⟩;rw [hw];clear hw)
 refine zh (S:=fun w'=>w'.cell? ⟨b,3,none⟩=some (.slice ad (ar x.blocks).length vc)/\w'.cell? ⟨b,0,none⟩=some (.int .i64 (x.bytes:Int))/\w'.cell? ⟨b,4,none⟩=some (.int .u32 (x.sum:Int))) (by kernel_rfl) (HS.out _ (je _ _).drew) (fun hHeld=>?_);refine aW [(0,pZ tb 0),(1,pZ b 0),(2,pZ b 0),(3,pZ b 3),(4,.slice ad (ar x.blocks).length vc),(5,pZ b 0),(6,pZ b 0),(7,pZ b 0),(8,iZ (x.bytes:Int))] hHeld ?_;refine aC 9 rfl fun K' hK=>?_;simp only [ai];go_simp;refine jk (HR.out _ (je _ _).drew) ?_;rintro e wx ⟨rfl,h1⟩;have HB1:Hid _:=h1;go_wp2_with fail
 refine hK.out _ _ (HS.out _ h1) (fun hHeld=>?_);clear hK K';refine tk 10 (.string s) rfl hHeld ?_;simp only [ai,Act.put,bj];refine zk (by kernel_rfl) ?_ _;go_wp2_with fail
 refine zh (S:=fun w'=>w'.cell? ⟨b,3,none⟩=some (.slice ad (ar x.blocks).length vc)/\w'.cell? ⟨b,0,none⟩=some (.int .i64 (x.bytes:Int))/\w'.cell? ⟨b,4,none⟩=some (.int .u32 (x.sum:Int))) (by kernel_rfl) (HS.out _ HB1.out.drew) (fun hHeld=>?_);refine aW [(0,.string s),(2,pZ b 0),(3,pZ b 0),(4,pZ b 4),(5,.int .u32 (x.sum:Int))] hHeld ?_;refine aC 1 rfl fun K' hK=>?_;simp only [ai];go_simp;refine jk (HSUM.out _) ?_;rintro e wx ⟨rfl,hw⟩;rw [hw];clear hw;go_wp2_with fail
 refine hK.out _ _ (HS.out _ HB1.out.drew) (fun hHeld=>?_);clear hK K';refine zr (i:=6) (v:=(.bool true)) rfl (by kernel_rfl) (by kernel_rfl) (by kernel_rfl) (fun _ _ _ h=>h) (Or.inl ⟨by rfl,?_⟩) hHeld ?_
 ·intro w hSw;(try dsimp only at hSw);simp only [ai];go_simp;(try exact hcx)
 simp only [ai,Act.put,bj];refine zk (by kernel_rfl) ?_ _;have cE:=HE.out _ HB1.out;go_wp2_with fail
 go_quiet (fail)
 go_wp2_with fail
 go_ret2;have h:=HB1.out;exact ⟨rfl,⟨h.os,h.tape,h.output,h.size,h.block⟩⟩
end
end
section
set_option maxHeartbeats 2000000
set_option maxRecDepth 100000
open Go.RowKit

section
variable {B T0 mt md : Nat} {la : Option Addr} {lc : Nat} {ia : Option Addr} {ic : Nat} {bl : List (List UInt8)} {tab : List (Option ak)} {vs : List Value}
theorem wY (k more:Int) (hx:de tab k=none) (w:World) (M:ay w B mt md la lc ia ic bl tab vs) :
  Cl 30 #[.pointer (some ⟨mt,0,none⟩),.int .i64 k,.int .i64 more] w fun e w'=>e = .returned (.int .i64 6)/\w'=w:=by
 have HI:=lm k w M;rw [hx] at HI;clear M hx;go_enter Tryz.func30,Tryz.ntmps30
 go_wp2_with (go_at_call 38;refine HI.mono ?_;rintro e w1 ⟨rfl,hw⟩;rw [hw];clear hw)
 go_ret;exact ⟨rfl,rfl⟩
theorem mI (k l:Nat) (more:Int) (x:ak) (hx:af tab k=some x) (hml0:(x.links:Int)+more=(l:Int)) (hl:l<=1000000) (w:World) (M:ay w B mt md la lc ia ic bl tab vs) (hT:T0<=B) :
  Cl 30 #[.pointer (some ⟨mt,0,none⟩),.int .i64 (k:Int),.int .i64 more] w fun e w'=>e = .returned (.int .i64 0)/\(∃vs',ay w' B mt md la lc ia ic bl (tab.set k (if l=0 then none else some { x with links:=l })) vs')/\aG T0 w w':=by
 have HI:=lm (k:Int) w M;rw [eJ,hx] at HI;have hg:=cM hx;have hkl:=aO hx;obtain ⟨v,g,hv,rfl,hc,hf⟩:=M.slot hg;obtain ⟨_,c1,_⟩:=M.cells;have c2:w.cell? ⟨g,k*6+2,none⟩=some (.int .i64 (x.links:Int)):=hc 2 _ rfl;have f2:w.frozen? ⟨g,k*6+2,none⟩=false:=hf _;have f2d:w.drew.frozen? ⟨g,k*6+2,none⟩=false:=hf _;have hml:wrap64 ((x.links:Int)+more)=(l:Int):=by rw [hml0];unfold wrap64;omega
 have M1:=(M.links hg l).below (w':=(w.setCell ⟨g,k*6+2,none⟩ (.int .i64 (l:Int))).drew) (je _ _).drew;have B1:aG T0 w (w.setCell ⟨g,k*6+2,none⟩ (.int .i64 (l:Int))).drew:=(M.but hT (ll _ _ _ _)).trans (aG.of_below (je _ _).drew);obtain ⟨W1,hW1⟩:∃W1,W1=(w.setCell ⟨g,k*6+2,none⟩ (.int .i64 (l:Int))).drew:=⟨_,rfl⟩;rw [<-hW1] at M1 B1;have hg1:(tab.set k (some { x with links:=l }))[k]? = some (some { x with links:=l }):=jM hkl;obtain ⟨v1,g1,hv1,e1,hc1,hf1⟩:=M1.slot hg1;simp only [jh,qH,and_true] at e1;subst e1;obtain ⟨_,d1,_⟩:=M1.cells;rw [jI] at d1;have p0:=hc1 0 _ rfl;have p1:=hc1 1 _ rfl;have p2:=hc1 2 _ rfl;have p3:=hc1 3 _ rfl;have p4:=hc1 4 _ rfl;have p5:=hc1 5 _ rfl;have q0:=hf1 (k*6);have q1:=hf1 (k*6+1);have q2:=hf1 (k*6+2);have q3:=hf1 (k*6+3);have q4:=hf1 (k*6+4);have q5:=hf1 (k*6+5);simp only [yh] at p0;have HM1:Hid _:=M1;have HB1:Hid _:=B1
 have HPUT:Hid (ay (kB W1 g (k*6) (.bool false) (.int .i64 0) (.int .i64 0) (.bool false) (.slice none 0 0) (.int .i64 0)) B mt md la lc (some ⟨g,0,none⟩) ic bl (tab.set k none) (vs.set k v1)):=by
  have h:=M1.put hg1 (o:=none) (v:=v1) rfl (fun x h=>by cases h);rw [List.set_set] at h;exact h
 have HPB:Hid (aG T0 W1 (kB W1 g (k*6) (.bool false) (.int .i64 0) (.int .i64 0) (.bool false) (.slice none 0 0) (.int .i64 0))):=M1.but hT (rx _ _ _ _ _ _ _ _ _)
 have hgm:¬g=mt:=fun e=>by
  obtain ⟨cur,h⟩:=M.ty;have hb:=M.box;rw [e,hb] at h;simp only [jh,jL] at h;exact absurd h.2.1 (by decide)
 have hkli:(k:Int)<(tab.length:Int):=by omega
 generalize tab.length=tl at *;clear M hx hg hc hf hc1 hf1 M1 B1 hv hv1 hg1;go_enter Tryz.func30,Tryz.ntmps30
 go_wp2_with (go_at_call 38;refine HI.mono ?_;rintro e w1 ⟨rfl,hw⟩;rw [hw];clear hw)
 go_region
 all_goals
  rw [<-hW1];clear hW1;by_cases h0:l=0
  ·subst h0
   have p2':W1.cell? ⟨g,k*6+2,none⟩=some (.int .i64 0):=p2;clear p2;go_wp2_with fail
   go_ret;exact ⟨rfl,⟨_,HPUT.out⟩,HB1.out.trans HPB.out⟩
  ·have h0i:¬(l:Int)=0:=by omega
   go_wp2_with fail
   go_ret;refine ⟨rfl,⟨vs,?_⟩,HB1.out⟩
   first
    | exact HM1.out
    | (rw [zi h0];exact HM1.out)
def bm (bl:List (List UInt8)) (x:ak):ByteArray×Int:=if aQ (au bl x.blocks x.bytes)=x.sum then (au bl x.blocks x.bytes,0) else ({ data:=#[] },11)
theorem jP (k:Nat) (x:ak) (hx:af tab k=some x) (w:World) (M:ay w B mt md la lc ia ic bl tab vs) (hin:∀b∈x.blocks,b<bl.length) (h16:∀b∈bl,b.length=16) (hbl:x.blocks.length<=1000) (hby:x.bytes<=x.blocks.length*16) :
  Cl 40 #[.pointer (some ⟨mt,0,none⟩),.int .i64 (k:Int)] w fun e w'=>e = .returned (.tuple #[.string (bm bl x).1,.int .i64 (bm bl x).2])/\Bl w w':=by
 have HI:=lm (k:Int) w M;rw [eJ,hx] at HI;have hg:=cM hx;have hkl:=aO hx;obtain ⟨v,g,hv,rfl,hc,hf⟩:=M.slot hg;obtain ⟨_,c1,_⟩:=M.cells;have iv:=M.its k x v hg hv;obtain ⟨av,vc,rfl,hcs⟩:=id iv;rw [bQ] at hc iv;have HM:Hid _:=M;have p0:=hc 0 _ rfl;have p1:=hc 1 _ rfl;have p2:=hc 2 _ rfl;have p3:=hc 3 _ rfl;have p4:=hc 4 _ rfl;have p5:=hc 5 _ rfl;simp only [yh] at p0;have hgl:g<w.heap.size:=ji w _ p0;obtain ⟨nb,Hnb⟩:∃nb,Hid (nb=x.blocks.length):=⟨_,(rfl:x.blocks.length=_)⟩;rw [<-Hnb.out] at p4 hbl hby iv
 have HIV:Hid (∀(j q:Nat),x.blocks[j]? = some q->∃g7 off,av=some ⟨g7,off,none⟩/\∀W,Bl w W->W.cell? ⟨g7,off+j,none⟩=some (.int .i64 (q:Int))):=fun j q hq=>by
  obtain ⟨g7,off,cur,e1,e2,e3⟩:=hcs (fun h=>by (have:x.blocks = []:=by simpa [ar] using h);rw [this] at hq;simp at hq)
  exact ⟨g7,off,e1,fun W hW=>by
   rw [ze _ _ _ _ _ _ ((hW.block g7 (ja.1 e2).1).trans e2)];exact e3 j q (by simp [ar,hq])⟩
 have HIN:Hid _:=hin;have H16:Hid _:=h16;have hkli:(k:Int)<(tab.length:Int):=by omega
 have HMD:Hid (∀W,Bl w W->(W.cell? ⟨mt,0,none⟩=some (.pointer (some ⟨md,0,none⟩))/\bk W md la lc none 0 bl [])):=fun W hW=>⟨(M.below hW).cells.1,(M.below hW).disk⟩;clear M hx hg hc hf hcs iv hin h16 hv;generalize tab.length=tl at *;go_enter Tryz.func40,Tryz.ntmps40
 go_wp2_with (go_at_call 38;refine HI.mono ?_;rintro e w1 ⟨rfl,hw⟩;rw [hw];clear hw)
 obtain ⟨w2,hw2⟩:∃w2,w2=w.alloc (.cells #[.bool true,.int .i64 (x.bytes:Int),.int .i64 (x.links:Int),.bool x.exec,.slice av nb vc,.int .i64 (x.sum:Int)] 101):=⟨_,rfl⟩;have HB2:Hid (Bl w w2):=by rw [hw2];exact (je _ w).alloc (jd _) _
 have HX2:Hid (w2.heap[w.heap.size]? = some (.cells #[.bool true,.int .i64 (x.bytes:Int),.int .i64 (x.links:Int),.bool x.exec,.slice av nb vc,.int .i64 (x.sum:Int)] 101 (0,0))):=by rw [hw2];exact heap_alloc_last w _
 obtain ⟨xb,Hxb⟩:∃xb,Hid (xb=w.heap.size):=⟨_,(rfl:w.heap.size=_)⟩;rw [<-Hxb.out] at HX2;rw [<-hw2,<-Hxb.out];clear hw2;have HXC:Hid (∀i c,(#[Value.bool true,.int .i64 (x.bytes:Int),.int .i64 (x.links:Int),.bool x.exec,.slice av nb vc,.int .i64 (x.sum:Int)]:Array Value)[i]? = some c->w2.cell? ⟨xb,i,none⟩=some c):=fun i c h=>by rw [ze _ _ _ _ _ _ HX2.out];exact h
 have hx4:=HXC.out 4 _ rfl
 go_loopw [8,9] (fun s i wr=>∃(j:Nat) (s2:ByteArray),j<=nb/\i = .int .i64 j/\s = .string s2/\s2.data.toList=dr bl (x.blocks.take j)/\s2.size=j*16/\Bl w2 wr) (fun _ i _=>nb-(intOf i).toNat)
 case atStart=>exact ⟨0,{ data:=#[] },jq _,rfl,rfl,by simp [dr],rfl,je _ _⟩
 case round =>
  obtain ⟨j,s2,hj,rfl,rfl,hs2,hsz,hb⟩:=hrel;have HB:=kH hb;have hxl:xb<w2.heap.size:=(ja.1 HX2.out).1;have HWX:Hid (∀W,Bl w2 W->(W.cell? ⟨xb,4,none⟩=some (.slice av nb vc)/\W.cell? ⟨xb,5,none⟩=some (.int .i64 (x.sum:Int))/\W.cell? ⟨xb,1,none⟩=some (.int .i64 (x.bytes:Int))/\Bl w W)):=fun W hW=>⟨by rw [hW.cell (p:=⟨xb,4,none⟩) hxl];exact HXC.out 4 _ rfl,by rw [hW.cell (p:=⟨xb,5,none⟩) hxl];exact HXC.out 5 _ rfl,by rw [hW.cell (p:=⟨xb,1,none⟩) hxl];exact HXC.out 1 _ rfl,HB2.out.trans (hW.mono HB2.out.size)⟩;obtain ⟨cx4,cx5,cx1,hbw⟩:=HWX.out wr hb;have HS2:=kH hs2;have HSZ:=kH hsz;clear hs2 hsz hx4;by_cases hlt:j<nb
  ·obtain ⟨q,hq⟩:∃q,x.blocks[j]? = some q:=⟨_,jc (by rw [<-Hnb.out];exact hlt)⟩
   obtain ⟨g7,off,rfl,hc7⟩:=HIV.out j q hq;obtain ⟨b,hbk⟩:∃b,bl[q]? = some b:=⟨_,jc (HIN.out q (jg hq))⟩;have hb16:=H16.out b (jg hbk)
   have HRD:Hid (∀W,W=wr.drew->Cl 76 #[.pointer (some ⟨md,0,none⟩),.int .i64 (q:Int)] W fun e w'=>e = .returned (.string (sB b))/\w'=W):=fun W hW=>by
    have hWW:Bl w W:=(by rw [hW];exact hbw.drew);have h:=Bp q b W (HMD.out W hWW).2 hbk (by simp);have erd:eI bl [] q=b:=(by simp [eI,hbk]);rw [erd] at h;exact h
   have HS9:Hid (∀W,W=wr.drew->(W.cell? ⟨mt,0,none⟩=some (.pointer (some ⟨md,0,none⟩))/\W.cell? ⟨xb,4,none⟩=some (.slice (some ⟨g7,off,none⟩) nb vc)/\W.cell? ⟨g7,off+j,none⟩=some (.int .i64 (q:Int)))):=fun W hW=>by
    rw [hW];exact ⟨(HMD.out _ hbw.drew).1,cx4,hc7 _ hbw.drew⟩
   have HN:Hid ((s2++sB b).data.toList=dr bl (x.blocks.take (j+1))):=by
    show _=_;rw [qG,yg,HS2.out,ou hq hbk];rfl
   have HNZ:Hid ((s2++sB b).size=(j+1)*16):=by
    show _=_;rw [dg,qG,yg,jt,<-dg,HSZ.out];have e:(sB b).data.toList.length=16:=hb16;rw [e];omega
   have HSB:Hid (s2.size+(sB b).size<=9223372036854775807):=by
    have e:(sB b).size=16:=hb16;show _<=_;rw [HSZ.out,e];omega
   clear hq hc7 hbk hb16 cx5 cx1;go_wp2_with fail
   refine zh (S:=fun w'=>w'.cell? ⟨mt,0,none⟩=some (.pointer (some ⟨md,0,none⟩))/\w'.cell? ⟨xb,4,none⟩=some (.slice (some ⟨g7,off,none⟩) nb vc)/\w'.cell? ⟨g7,off+j,none⟩=some (.int .i64 (q:Int))) (by kernel_rfl) (HS9.out _ rfl) (fun hHeld=>?_);refine aW [(0,.string s2),(1,pZ mt 0),(2,pZ mt 0),(3,pZ mt 0),(4,pZ md 0),(5,pZ xb 4),(6,.slice (some ⟨g7,off,none⟩) nb vc),(7,iZ j),(8,pZ g7 (off+j)),(9,iZ q)] hHeld ?_;refine aC 10 rfl fun K' hK=>?_;simp only [ai];go_simp;refine jk (HRD.out _ rfl) ?_;rintro e wx ⟨rfl,hw⟩;rw [hw];clear hw;go_wp2_with fail
   refine hK.out _ _ (HS9.out _ rfl) (fun hHeld=>?_);clear hK K';refine zr (i:=11) (v:=(.string (s2++sB b))) rfl (by kernel_rfl) (by kernel_rfl) (by kernel_rfl) (fun _ _ _ h=>h) (Or.inl ⟨by rfl,?_⟩) hHeld ?_
   ·intro w hSw;(try dsimp only at hSw);simp only [ai];go_simp;(try exact HSB.out)
   simp only [ai,Act.put,bj];refine tk 12 (.string (s2++sB b)) rfl hHeld ?_;simp only [ai,Act.put,bj];refine zk (by kernel_rfl) ?_ _;go_wp2_with fail
   exact ⟨⟨j+1,_,by omega,by simp,rfl,HN.out,HNZ.out,HB.out.drew⟩,by simp [intOf];omega⟩
  ·obtain rfl:j=nb:=by omega
   have hsi:(x.bytes:Int)<=(s2.size:Int):=(by rw [HSZ.out];omega);have hsn:x.bytes<=s2.size:=by rw [HSZ.out];exact hby
   have hsz2:s2.size<=16000:=by rw [HSZ.out];omega
   have HS3:Hid (s2.extract 0 x.bytes=au bl x.blocks x.bytes):=by
    show _=_;refine Fr _ ((dr bl x.blocks).take x.bytes) ?_;rw [pY,HS2.out,Hnb.out,jS];rfl
   have hby2:x.bytes<=16000:=by omega
   have HCR:Hid (∀W,Cl 39 #[.string (s2.extract 0 x.bytes)] W fun e w'=>e = .returned (.int .i64 (aQ (au bl x.blocks x.bytes):Nat))/\w'=W):=fun W=>by
    have h:=sM (s2.extract 0 x.bytes) (by rw [HS3.out];have:=lO bl x.blocks x.bytes;omega) W;rw [HS3.out] at h ⊢;exact h
   have HS11:Hid (∀W,W=wr.drew->W.cell? ⟨xb,5,none⟩=some (.int .i64 (x.sum:Int))):=fun W hW=>(by rw [hW];exact cx5);have HBW:=kH hbw;by_cases hcr:aQ (au bl x.blocks x.bytes)=x.sum
   focus
    have HR:Hid (bm bl x=(s2.extract 0 x.bytes,0)):=(by show _=_;unfold bm;rw [zj hcr,HS3.out]);rw [hcr] at HCR;clear hcr;go_wp2_with fail
    generalize s2.extract 0 x.bytes=s3 at *;refine zh (S:=fun w'=>w'.cell? ⟨xb,5,none⟩=some (.int .i64 (x.sum:Int))) (by kernel_rfl) (HS11.out _ rfl) (fun hHeld=>?_);refine aW [(0,.string s3),(2,pZ xb 5),(3,iZ (x.sum:Int))] hHeld ?_;refine aC 1 rfl fun K' hK=>?_;simp only [ai];go_simp;refine jk (HCR.out _) ?_;rintro e wx ⟨rfl,hw⟩;rw [hw];clear hw;go_wp2_with fail
    refine hK.out _ _ (HS11.out _ rfl) (fun hHeld=>?_);clear hK K';refine zr (i:=4) (v:=(.bool false)) rfl (by kernel_rfl) (by kernel_rfl) (by kernel_rfl) (fun _ _ _ h=>h) (Or.inl ⟨by rfl,?_⟩) hHeld ?_
    ·intro w hSw;(try dsimp only at hSw);simp only [ai];go_simp;(try exact hcx)
   rotate_left
   focus
    have HR:Hid (bm bl x=({ data:=#[] },11)):=(by show _=_;unfold bm;rw [zi hcr]);generalize aQ (au bl x.blocks x.bytes)=cr at *;have hcx:¬(cr:Int)=(x.sum:Int):=(by omega);go_wp2_with fail
    generalize s2.extract 0 x.bytes=s3 at *;refine zh (S:=fun w'=>w'.cell? ⟨xb,5,none⟩=some (.int .i64 (x.sum:Int))) (by kernel_rfl) (HS11.out _ rfl) (fun hHeld=>?_);refine aW [(0,.string s3),(2,pZ xb 5),(3,iZ (x.sum:Int))] hHeld ?_;refine aC 1 rfl fun K' hK=>?_;simp only [ai];go_simp;refine jk (HCR.out _) ?_;rintro e wx ⟨rfl,hw⟩;rw [hw];clear hw;go_wp2_with fail
    refine hK.out _ _ (HS11.out _ rfl) (fun hHeld=>?_);clear hK K';refine zr (i:=4) (v:=(.bool true)) rfl (by kernel_rfl) (by kernel_rfl) (by kernel_rfl) (fun _ _ _ h=>h) (Or.inl ⟨by rfl,?_⟩) hHeld ?_
    ·intro w hSw;(try dsimp only at hSw);simp only [ai];go_simp;(try exact hcx)
   rotate_left
   all_goals
    simp only [ai,Act.put,bj];refine zk (by kernel_rfl) ?_ _;go_wp2_with fail
    go_ret2;have h:=HBW.out;exact ⟨by rw [HR.out];rfl,⟨h.os,h.tape,h.output,h.size,h.block⟩⟩
end
end
section
set_option maxRecDepth 100000
open Go.RowKit

theorem po {a b c:Nat} (h:a ^^^ c=b ^^^ c):a=b:=by
 have h2:(a ^^^ c) ^^^ c=(b ^^^ c) ^^^ c:=by rw [h]
 rwa [Nat.xor_assoc,Nat.xor_self,Nat.xor_zero,Nat.xor_assoc,Nat.xor_self,Nat.xor_zero] at h2
theorem zO {s t:Nat} (hs:s<4294967296) (ht:t<4294967296) (h:gE s=gE t):s=t:=by
 have a1:s &&& 1=s % 2:=Nat.and_one_is_mod s;have a2:t &&& 1=t % 2:=Nat.and_one_is_mod t
 have no:∀a b:Nat,a<2147483648->b<2147483648->a ^^^ 3988292384≠b:=fun a b ha hb e=>by
  have h1:a ^^^ b=3988292384:=(by rw [<-e,<-Nat.xor_assoc,Nat.xor_self,Nat.zero_xor]);have h2:a ^^^ b<2 ^ 31:=yz (n:=31) (by omega) (by omega);omega
 unfold gE at h;rw [a1,a2] at h
 split at h <;> split at h
 ·have:=po h;omega
 ·exact absurd h (no _ _ (by omega) (by omega))
 ·exact absurd h.symm (no _ _ (by omega) (by omega))
 ·omega
theorem ve {s t:Nat} (hs:s<4294967296) (ht:t<4294967296):∀k,iE k s=iE k t->s=t
 | 0,h=>h
 | k+1,h=>ve hs ht k (zO (mF hs k) (mF ht k) h)
theorem Bv {s t:ByteArray} {k:Nat} (h:e9 s (k+1)=e9 t (k+1)):e9 s k ^^^ (s.data[k]?.getD 0).toNat=e9 t k ^^^ (t.data[k]?.getD 0).toNat:=by
 have h1:∀x:ByteArray,e9 x k ^^^ (x.data[k]?.getD 0).toNat<4294967296:=fun x=>by
  refine yz (n:=32) (mG x k) ?_
  have:=(x.data[k]?.getD 0).toNat_lt
  omega
 exact ve (h1 s) (h1 t) 8 h
theorem yo {s t:ByteArray} {i:Nat} (hne:s.data[i]?.getD 0≠t.data[i]?.getD 0) (ho:∀j,j≠i->s.data[j]? = t.data[j]?):∀k,(k<=i->e9 s k=e9 t k)/\(i<k->e9 s k≠e9 t k)
 | 0=>⟨fun _=>rfl,fun h=>by omega⟩
 | k+1=>by
  obtain ⟨h1,h2⟩:=yo hne ho k;refine ⟨fun hk=>?_,fun hk e=>?_⟩
  ·unfold e9
   rw [h1 (by omega),ho k (by omega)]
  ·have e1:=Bv e
   by_cases hki:k=i
   ·subst hki
    rw [h1 (jd _),Nat.xor_comm,Nat.xor_comm (e9 t k)] at e1;exact hne (UInt8.toNat_inj.1 (po e1))
   ·rw [ho k hki] at e1
    exact h2 (by omega) (po e1)
theorem FX {s t:ByteArray} {i:Nat} (hs:s.size=t.size) (hi:i<s.size) (hne:s.data[i]?.getD 0≠t.data[i]?.getD 0) (ho:∀j,j≠i->s.data[j]? = t.data[j]?):aQ s≠aQ t:=fun e=>by
 unfold aQ at e;rw [Nat.xor_comm,Nat.xor_comm 4294967295 (e9 t _)] at e;have e1:=po e;rw [<-hs] at e1;exact (yo hne ho s.size).2 hi e1

theorem DU (x:UInt8) (k:Nat):fJ x k≠x:=fun e=>by
 unfold fJ at e;have h:x ^^^ UInt8.ofNat (2 ^ (k % 8))=x ^^^ 0:=by rw [e,UInt8.xor_zero]
 have h2:x ^^^ (x ^^^ UInt8.ofNat (2 ^ (k % 8)))=x ^^^ (x ^^^ 0):=by rw [h]
 rw [<-UInt8.xor_assoc,<-UInt8.xor_assoc,UInt8.xor_self,UInt8.zero_xor,UInt8.xor_zero] at h2;have h3:k % 8<8:=Nat.mod_lt _ (by decide);generalize k % 8=m at h2 h3
 have:m=0∨m=1∨m=2∨m=3∨m=4∨m=5∨m=6∨m=7:=by omega
 rcases this with rfl|rfl|rfl|rfl|rfl|rfl|rfl|rfl <;> exact absurd h2 (by decide)

theorem mJ {bl:List (List UInt8)}:∀ {l:List Nat},(∀k∈l,(bl[k]?.getD []).length=16)->∀ {i j:Nat},i<l.length->j<16->(dr bl l)[i*16+j]? = (bl[l[i]?.getD 0]?.getD [])[j]?
 | [],_,i,j,hi,_=>by simp at hi
 | b :: l,h,i,j,hi,hj=>by
  have hb:=h b jy;unfold dr;rw [jZ]
  cases i with
  | zero =>
   rw [Nat.zero_mul,j6,jD (by omega)];rfl
  | succ i =>
   rw [jA (by omega),hb,show (i+1)*16+j-16=i*16+j by omega];rw [qo];exact mJ (l:=l) (fun k hk=>h k (jw _ hk)) (by simpa using hi) hj
theorem lQ {bl:List (List UInt8)}:∀ {l:List Nat},(∀k∈l,(bl[k]?.getD []).length=16)->(dr bl l).length=l.length*16
 | [],_=>rfl
 | b :: l,h=>by
  have hb:=h b jy;have ih:=lQ (l:=l) (fun k hk=>h k (jw _ hk));unfold dr at ih ⊢;rw [jZ,jt,hb,ih,jz];omega
theorem Bw (l:List UInt8) (k:Nat):(bg l k).length=l.length:=by simp [bg]

theorem Bz {bl:List (List UInt8)} {l:List Nat} {i b bit bytes:Nat} {x:List UInt8} (h16:∀y∈bl,y.length=16) (hin:∀k∈l,k<bl.length) (hn:l.Nodup) (hi:l[i]? = some b) (hx:bl[b]? = some x) (hbit:bit<128) (hat:i*16+bit / 8<bytes):aQ (au (bl.set b (bg x bit)) l bytes)≠aQ (au bl l bytes):=by
 have hil:=(jb.1 hi).1;have hbl:=(jb.1 hx).1;have hx16:=h16 x (jg hx)
 have g1:∀k∈l,(bl[k]?.getD []).length=16:=fun k hk=>by
  rw [jc (hin k hk)];exact h16 _ (List.getElem_mem _)
 have g2:∀k∈l,((bl.set b (bg x bit))[k]?.getD []).length=16:=fun k hk=>by
  by_cases e:b=k
  ·subst e
   rw [jM hbl];show (bg x bit).length=16;rw [Bw];exact hx16
  ·rw [jV e];exact g1 k hk
 have hj:bit / 8<16:=by omega
 have sz:∀(a:List (List UInt8)),(∀k∈l,(a[k]?.getD []).length=16)->(au a l bytes).size=min bytes (l.length*16):=fun a h=>by
  show (List.toArray _).size=_;rw [qv,js,lQ h]
 have at_:∀(a:List (List UInt8)) (p:Nat),(au a l bytes).data[p]? = if p<bytes then (dr a l)[p]? else none:=fun a p=>by
  show (List.toArray _)[p]? = _;rw [yw,List.getElem?_take]
 have a1:(dr bl l)[i*16+bit / 8]? = x[bit / 8]? := by rw [mJ g1 hil hj,hi,Option.getD_some,hx];rfl
 have a2:(dr (bl.set b (bg x bit)) l)[i*16+bit / 8]? = (bg x bit)[bit / 8]? := by rw [mJ g2 hil hj,hi,Option.getD_some,jM hbl];rfl
 refine FX (i:=i*16+bit / 8) ((sz _ g2).trans (sz _ g1).symm) ?_ ?_ ?_
 ·rw [sz _ g2]
  have:(i+1)*16<=l.length*16:=Nat.mul_le_mul_right _ hil
  omega
 ·rw [at_,at_,zj hat,zj hat,a1,a2]
  unfold bg;rw [jM (by omega),Option.getD_some];exact DU _ _
 ·intro p hp
  rw [at_,at_]
  split
  ·by_cases hpl:p<l.length*16
   ·have hq:p / 16<l.length:=by omega
    have e:p=p / 16*16+p % 16:=(by omega);rw [e,mJ g2 hq (Nat.mod_lt _ (by decide)),mJ g1 hq (Nat.mod_lt _ (by decide))];rw [jc hq,Option.getD_some];by_cases hb:b=l[p / 16]
    ·have hqi:p / 16=i:=by
      have h1:l[p / 16]? = l[i]? := (by rw [hi,jc hq,hb]);exact (List.getElem?_inj hq hn).1 h1
     rw [<-hb,jM hbl,hx,Option.getD_some,Option.getD_some];unfold bg;rw [jV (by omega)]
    ·rw [jV hb]
   ·rw [qw (by rw [lQ g2];omega),qw (by rw [lQ g1];omega)]
  ·rfl
end
end Go.Proofs.YthofhjnfkholoaaGreatDoor
namespace Go.Proofs
open Go.Shelf
def Tryz.keysA_ren : Go.Shelf.Ren := ⟨fun | 7 => 80 | 10 => 112 | n => n, fun | 23 => 119 | 26 => 3 | 3 => 125 | 28 => 169 | 0 => 0 | 27 => 168 | 33 => 99 | 4 => 4 | n => n, fun | n => n⟩
theorem Tryz.keysA : Go.Proofs.SlLaysZI.n7 Tryz.prog Tryz.keysA_ren := {
  mixed := by kernel_rfl
  f7 := ⟨Tryz.f80.name, by decide, Tryz.func80.trans (congrArg some (by kernel_rfl))⟩
  f10 := ⟨Tryz.f112.name, by decide, Tryz.func112.trans (congrArg some (by kernel_rfl))⟩
  t0 := Tryz.underlying0
  a0 := Tryz.isAgg0
  z0 := Tryz.sizeOf0
  v0 := Tryz.zeroValue0
  t4 := Tryz.underlying4
  a4 := Tryz.isAgg4
  z4 := Tryz.sizeOf4
  v4 := Tryz.zeroValue4
  t23 := Tryz.underlying119
  a23 := Tryz.isAgg119
  z23 := Tryz.sizeOf119
  v23 := Tryz.zeroValue119
  t26 := Tryz.underlying3
  a26 := Tryz.isAgg3
  z26 := Tryz.sizeOf3
  v26 := Tryz.zeroValue3
  t27 := Tryz.underlying168
  a27 := Tryz.isAgg168
  z27 := Tryz.sizeOf168
  v27 := Tryz.zeroValue168
  t28 := Tryz.underlying169
  a28 := Tryz.isAgg169
  z28 := Tryz.sizeOf169
  v28 := Tryz.zeroValue169
  t33 := Tryz.underlying99
  a33 := Tryz.isAgg99
  z33 := Tryz.sizeOf99
  v33 := Tryz.zeroValue99 }
def Tryz.sortedA_ren : Go.Shelf.Ren := ⟨fun | 6 => 79 | 8 => 110 | 9 => 111 | 11 => 142 | 13 => 144 | 12 => 143 | 23 => 174 | 24 => 175 | 14 => 165 | 15 => 166 | 16 => 167 | 17 => 168 | 18 => 169 | 19 => 170 | 20 => 171 | 21 => 172 | 22 => 173 | 25 => 190 | 26 => 191 | 27 => 192 | 28 => 193 | 29 => 194 | 30 => 195 | 31 => 203 | n => n, fun | 26 => 3 | 28 => 169 | 24 => 40 | 0 => 0 | 3 => 3 | 37 => 164 | 48 => 91 | 50 => 253 | 4 => 4 | 40 => 274 | 39 => 273 | 45 => 216 | 5 => 5 | 9 => 9 | 51 => 294 | 55 => 298 | 57 => 303 | 58 => 82 | 33 => 99 | n => n, fun | n => n⟩
theorem Tryz.sortedA : Go.Proofs.SlLaysZI.n6 Tryz.prog Tryz.sortedA_ren := {
  mixed := by kernel_rfl
  f6 := ⟨Tryz.f79.name, by decide, Tryz.func79.trans (congrArg some (by kernel_rfl))⟩
  f8 := ⟨Tryz.f110.name, by decide, Tryz.func110.trans (congrArg some (by kernel_rfl))⟩
  f11 := ⟨Tryz.f142.name, by decide, Tryz.func142.trans (congrArg some (by kernel_rfl))⟩
  t0 := Tryz.underlying0
  a0 := Tryz.isAgg0
  z0 := Tryz.sizeOf0
  v0 := Tryz.zeroValue0
  t24 := Tryz.underlying40
  a24 := Tryz.isAgg40
  z24 := Tryz.sizeOf40
  v24 := Tryz.zeroValue40
  t26 := Tryz.underlying3
  a26 := Tryz.isAgg3
  z26 := Tryz.sizeOf3
  v26 := Tryz.zeroValue3
  t28 := Tryz.underlying169
  a28 := Tryz.isAgg169
  z28 := Tryz.sizeOf169
  v28 := Tryz.zeroValue169
  i26 := by kernel_rfl }
def Tryz.sortA_ren : Go.Shelf.Ren := ⟨fun | 5 => 111 | 8 => 144 | 7 => 143 | 19 => 174 | 20 => 175 | 10 => 165 | 11 => 166 | 12 => 167 | 13 => 168 | 14 => 169 | 15 => 170 | 16 => 171 | 17 => 172 | 18 => 173 | 30 => 190 | 31 => 191 | 32 => 192 | 33 => 193 | 34 => 194 | 35 => 195 | 40 => 203 | n => n, fun | 23 => 40 | 25 => 3 | 3 => 3 | 32 => 164 | 22 => 40 | 0 => 0 | 44 => 91 | 46 => 253 | 4 => 4 | 36 => 274 | 35 => 273 | 41 => 216 | 5 => 5 | 9 => 9 | 53 => 294 | 57 => 298 | 63 => 303 | 64 => 82 | n => n, fun | n => n⟩
theorem Tryz.sortA : Go.Proofs.SlLaysM.n5 Tryz.prog Tryz.sortA_ren := {
  mixed := by kernel_rfl
  f5 := ⟨Tryz.f111.name, by decide, Tryz.func111.trans (congrArg some (by kernel_rfl))⟩
  f7 := ⟨Tryz.f143.name, by decide, Tryz.func143.trans (congrArg some (by kernel_rfl))⟩
  f8 := Tryz.func144.trans (congrArg some (by kernel_rfl))
  f10 := ⟨Tryz.f165.name, by decide, Tryz.func165.trans (congrArg some (by kernel_rfl))⟩
  f11 := ⟨Tryz.f166.name, by decide, Tryz.func166.trans (congrArg some (by kernel_rfl))⟩
  f12 := ⟨Tryz.f167.name, by decide, Tryz.func167.trans (congrArg some (by kernel_rfl))⟩
  f13 := ⟨Tryz.f168.name, by decide, Tryz.func168.trans (congrArg some (by kernel_rfl))⟩
  f14 := ⟨Tryz.f169.name, by decide, Tryz.func169.trans (congrArg some (by kernel_rfl))⟩
  f15 := ⟨Tryz.f170.name, by decide, Tryz.func170.trans (congrArg some (by kernel_rfl))⟩
  f16 := ⟨Tryz.f171.name, by decide, Tryz.func171.trans (congrArg some (by kernel_rfl))⟩
  f17 := ⟨Tryz.f172.name, by decide, Tryz.func172.trans (congrArg some (by kernel_rfl))⟩
  f18 := ⟨Tryz.f173.name, by decide, Tryz.func173.trans (congrArg some (by kernel_rfl))⟩
  f19 := Tryz.func174.trans (congrArg some (by kernel_rfl))
  f20 := Tryz.func175.trans (congrArg some (by kernel_rfl))
  f30 := ⟨Tryz.f190.name, by decide, Tryz.func190.trans (congrArg some (by kernel_rfl))⟩
  f31 := Tryz.func191.trans (congrArg some (by kernel_rfl))
  f32 := Tryz.func192.trans (congrArg some (by kernel_rfl))
  f33 := ⟨Tryz.f193.name, by decide, Tryz.func193.trans (congrArg some (by kernel_rfl))⟩
  f34 := ⟨Tryz.f194.name, by decide, Tryz.func194.trans (congrArg some (by kernel_rfl))⟩
  f35 := ⟨Tryz.f195.name, by decide, Tryz.func195.trans (congrArg some (by kernel_rfl))⟩
  f40 := ⟨Tryz.f203.name, by decide, Tryz.func203.trans (congrArg some (by kernel_rfl))⟩
  t0 := Tryz.underlying0
  a0 := Tryz.isAgg0
  z0 := Tryz.sizeOf0
  v0 := Tryz.zeroValue0
  t3 := Tryz.underlying3
  a3 := Tryz.isAgg3
  z3 := Tryz.sizeOf3
  v3 := Tryz.zeroValue3
  t4 := Tryz.underlying4
  a4 := Tryz.isAgg4
  z4 := Tryz.sizeOf4
  v4 := Tryz.zeroValue4
  t5 := Tryz.underlying5
  a5 := Tryz.isAgg5
  z5 := Tryz.sizeOf5
  v5 := Tryz.zeroValue5
  t9 := Tryz.underlying9
  a9 := Tryz.isAgg9
  z9 := Tryz.sizeOf9
  v9 := Tryz.zeroValue9
  t22 := Tryz.underlying40
  a22 := Tryz.isAgg40
  z22 := Tryz.sizeOf40
  v22 := Tryz.zeroValue40
  t23 := Tryz.underlying40
  a23 := Tryz.isAgg40
  z23 := Tryz.sizeOf40
  v23 := Tryz.zeroValue40
  t25 := Tryz.underlying3
  a25 := Tryz.isAgg3
  z25 := Tryz.sizeOf3
  v25 := Tryz.zeroValue3
  t32 := Tryz.underlying164
  a32 := Tryz.isAgg164
  z32 := Tryz.sizeOf164
  v32 := Tryz.zeroValue164
  t35 := Tryz.underlying273
  a35 := Tryz.isAgg273
  z35 := Tryz.sizeOf273
  v35 := Tryz.zeroValue273
  t36 := Tryz.underlying274
  a36 := Tryz.isAgg274
  z36 := Tryz.sizeOf274
  v36 := Tryz.zeroValue274
  t41 := Tryz.underlying216
  a41 := Tryz.isAgg216
  z41 := Tryz.sizeOf216
  v41 := Tryz.zeroValue216
  t44 := Tryz.underlying91
  a44 := Tryz.isAgg91
  z44 := Tryz.sizeOf91
  v44 := Tryz.zeroValue91
  t46 := Tryz.underlying253
  a46 := Tryz.isAgg253
  z46 := Tryz.sizeOf253
  v46 := Tryz.zeroValue253
  t53 := Tryz.underlying294
  a53 := Tryz.isAgg294
  z53 := Tryz.sizeOf294
  v53 := Tryz.zeroValue294
  t57 := Tryz.underlying298
  a57 := Tryz.isAgg298
  z57 := Tryz.sizeOf298
  v57 := Tryz.zeroValue298
  t63 := Tryz.underlying303
  a63 := Tryz.isAgg303
  z63 := Tryz.sizeOf303
  v63 := Tryz.zeroValue303
  t64 := Tryz.underlying82
  a64 := Tryz.isAgg82
  z64 := Tryz.sizeOf82
  v64 := Tryz.zeroValue82 }
end Go.Proofs
namespace Go.Proofs.YthofhjnfkholoaaGreatDoor
section
set_option maxRecDepth 100000
set_option maxHeartbeats 1000000
open Go.RowKit Go.Maps Go.Shelf

def bJ (tab:List (Option ak)):List Nat:=(List.range tab.length).filter fun k=>(af tab k).isSome
theorem iF {tab:List (Option ak)} {k:Nat}:k∈bJ tab↔∃x,af tab k=some x:=by
 unfold bJ;rw [qK,qR,yA];exact ⟨fun h=>h.2,fun ⟨x,h⟩=>⟨aO h,x,h⟩⟩
theorem zP (tab:List (Option ak)):(bJ tab).Nodup:=List.nodup_range.filter _
theorem zQ (tab:List (Option ak)):(bJ tab).Pairwise (· < ·):=List.pairwise_lt_range.filter _
theorem nr (tab:List (Option ak)):(bJ tab).length<=tab.length:=by
 unfold bJ;exact jm (qu _ _) (by simp)
theorem DV {l:List Nat} {x:Int}:x∈ar l↔∃k∈l,x=(k:Int):=by
 unfold ar;rw [jv];exact ⟨fun ⟨k,h,e⟩=>⟨k,h,e.symm⟩,fun ⟨k,h,e⟩=>⟨k,h,e.symm⟩⟩
theorem zR {l:List Nat} (h:l.Nodup):(ar l).Nodup:=by
 unfold ar;exact List.pairwise_map.2 (h.imp fun hne e=>hne (Int.ofNat.inj e))
theorem wZ {l:List Nat} (h:l.Pairwise (· < ·)):(ar l).mergeSort leI=ar l:=by
 apply List.mergeSort_of_pairwise
 unfold ar;refine List.pairwise_map.2 (h.imp fun {a b} hlt=>?_);simp only [leI,zm];exact Int.ofNat_le.2 (Nat.le_of_lt hlt)
theorem pH {H:Type} {R:Value->Option (DataW H×List MemPlace)} {w:World} {b n:Nat} {D:DataW H} {f:Nat->Option Nat} {L:List Nat} {ss:List Int} (hown:w.ownsMap Tryz.prog 3 R b n D) (hD:∀k:Int,Maps.has D (.int .i64 k)=(gR f k).isSome) (hL:∀k,k∈L↔(f k).isSome=true) (hs:L.Pairwise (· < ·)) (hp:ss.Perm (intKeys D)):ss.mergeSort (fun x y=>decide (x<=y))=ar L/\ss.length=L.length:=by
 have hnd:L.Nodup:=hs.imp fun h=>Nat.ne_of_lt h
 have hc:CollectedI D (fun _=>false) (ar L):=⟨zR hnd,fun x=>by
  rw [hD x,DV]
  constructor
  ·rintro ⟨k,hk,rfl⟩
   rw [fD];exact ⟨(hL k).1 hk,rfl⟩
  ·rintro ⟨h,_⟩
   unfold gR at h
   split at h
   ·exact ⟨x.toNat,(hL _).2 h,by omega⟩
   ·cases h⟩
 have hp2:ss.Perm (ar L):=hp.trans (hc.perm hown uK Tryz.underlying3 (fun _=>rfl)).symm;refine ⟨(mergeSort_of_perm_i hp2).trans (wZ hs),?_⟩;rw [hp2.length_eq];unfold ar;simp
theorem BA (m:Nat):AnyZI.SortsIn Tryz.prog Tryz.sortedA_ren Fence.wide m :=
  ⟨fun blk off cap ss W hH hblk hsz=>callsIn_wide.2 (AnyM.slices_Sort_int Tryz.sortA blk off cap ss W hH hblk hsz),
   fun p cap W=>callsIn_wide.2 (AnyM.slices_Sort_int_none Tryz.sortA p cap W)⟩
section
variable {F : Nat → Prop} {T0 tb bb sp sb cap mb n : Nat} {bl : List (List UInt8)} {u : List Bool} {tab : List (Option ak)}
theorem vf (w:World) (T:aq w F T0 tb bb sp sb cap mb n bl u tab) :
  Cl 42 #[.pointer (some ⟨tb,0,none⟩)] w fun e w'=>∃v,e = .returned v/\bw w' w.heap.size v (bJ tab)/\Bl w w':=by
 obtain ⟨f,N⟩:=T.nodes;obtain ⟨D0,hown,hD⟩:=N.map;have hsz:=hown.size_le;have hn:=T.low.2.2.2.2.2.2;have hmax:Maps.size D0<=maxLen:=by unfold maxLen;omega
 have hbytes:Maps.size D0*8<=140737488355328:=by omega
 have HKS:Hid (∀ss:List Int,ss.Perm (intKeys D0)->ss.mergeSort (fun x y=>decide (x<=y))=ar (bJ tab)/\ss.length=(bJ tab).length):=fun ss hp=>pH (f:=f) hown (fun k=>(hD k).2) (fun k=>by
  rw [iF]
  constructor
  ·rintro ⟨x,hx⟩
   obtain ⟨b,e,_⟩:=N.some_ k x hx;rw [e];rfl
  ·intro h
   cases hx:af tab k with
   | some x=>exact ⟨x,rfl⟩
   | none=>rw [N.none_ k hx] at h;cases h) (zQ tab) hp
 obtain ⟨_,_,c2⟩:=T.cells;clear N hD T;refine (callsIn_wide (n:=6)).1 ?_;have hbl:=hown.lt
 have hseq:SeqGives Fence.wide 2 Tryz.prog 112 #[.pointer (some ⟨w.heap.size,0,none⟩)] encZ (fun ss=>ss.Perm (intKeys D0)) (Maps.size D0) (w.alloc (.cells #[.map (some mb)] 119)) :=
  AnyZI.keys_gives (ρ:=Tryz.keysA_ren) { Tryz.keysA with } Fence.wide _ trivial rfl (by omega) w.heap.size mb n D0 _ (by simp) (by simp) (by
   obtain ⟨es,clock,hb,Ft,hs,hD⟩:=hown;exact ⟨es,clock,(jp _ _ mb hbl).trans hb,Ft,hs,hD⟩)
 have cK:∀mb W,CallsIn Fence.wide 5 Tryz.prog 80 #[.map mb] W fun e w'=>e = .returned (.func (.func 112) #[] #[.pointer (some ⟨W.heap.size,0,none⟩)])/\w'=W.alloc (.cells #[.map mb] 119):=fun mb W=>AnyZI.keys_in Tryz.keysA Fence.wide 5 trivial rfl mb W;have cS:=AnyZI.sorted_in Tryz.sortedA Fence.wide 5 trivial trivial trivial trivial rfl (by omega) (BA _) (enters_of Tryz.func111 (by kernel_rfl) rfl) 112 #[.pointer (some ⟨w.heap.size,0,none⟩)] trivial (enters_of Tryz.func112 (by kernel_rfl) rfl) _ _ hmax hbytes _ hseq
 change CallsIn _ _ Tryz.prog 79 _ _ _ at cS
 have hfK:Fence.wide.fn 80:=trivial;have hfS:Fence.wide.fn 79:=trivial;refine callsIn_of_wp Tryz.func42 rfl trivial ?_ rfl;simp only [Tryz.ntmps42,qv,jz,qF,Nat.reduceAdd,Nat.reduceSub,qU,qV,yr,yf,qq,jX]
 gi_wp2_with (first
  | (gi_at_call 80;refine (cK _ _).mono ?_;rintro e w' ⟨rfl,rfl⟩)
  | (gi_at_call 79;refine cS.mono ?_;rintro e w' ⟨v,ss,rfl,hS,hrow,hnil,hb⟩))
 go_ret;obtain ⟨e1,e2⟩:=HKS.out ss hS;rw [e1,e2] at hrow;exact ⟨v,rfl,ownsRow_base_a hrow (by simp),((je _ w).alloc (jd _) _).trans (hb.mono (by simp))⟩
theorem gk (w:World) (T:aq w F T0 tb bb sp sb cap mb n bl u tab) :
  Cl 22 #[.pointer (some ⟨tb,0,none⟩)] w fun e w'=>e = .returned (.pointer (some ⟨bb+1,0,none⟩))/\w'=w:=by
 obtain ⟨c0,_,_⟩:=T.cells;clear T;go_enter Tryz.func22,Tryz.ntmps22;go_wp2_with fail
 go_ret;exact ⟨rfl,rfl⟩
end
end
end Go.Proofs.YthofhjnfkholoaaGreatDoor
