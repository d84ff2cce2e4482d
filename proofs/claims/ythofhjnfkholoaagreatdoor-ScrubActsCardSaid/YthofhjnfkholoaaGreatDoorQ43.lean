/-
  Gy Oi Xd Hc Hd He TextsE, joined.
  Conditions: those that each states.
-/
import Derived.Test.YthofhjnfkholoaaGreatDoorQ42
namespace Go.Proofs.YthofhjnfkholoaaGreatDoor
set_option maxHeartbeats 4000000
section
set_option maxRecDepth 100000
open Go.RowKit Go.Maps

section
variable {W : World} {d dp tb mw mt lc LL : Nat} {la : Option Addr} {ks : List Int}
end
end
section
set_option maxRecDepth 100000
open Go.RowKit Go.Maps

theorem AY (er:Value) (M:Int) (w:World) (hE:w.cell? ⟨0,0,none⟩=some er):Cl 87 #[.pointer none,.int .i64 M] w fun e w'=>e = .returned (.tuple #[.int .i64 0,er])/\Bl w w':=by
 go_enter Tryz.func87,Tryz.ntmps87;go_wp2_with fail
 go_region
 all_goals
  go_wp2_with fail
  go_ret2;exact ⟨rfl,(je _ _).drew⟩
theorem all_nil (er:Value) (w:World) (hE:w.cell? ⟨0,0,none⟩=some er):Cl 52 #[.pointer none] w fun e w'=>e = .returned (.tuple #[.int .i64 0,er])/\Bl w w':=by
 have HS:=AY er 9223372036854775807 w hE;clear hE;go_enter Tryz.func52,Tryz.ntmps52
 go_wp2_with (go_at_call 87;refine HS.mono ?_;rintro e w1 ⟨rfl,hb⟩)
 go_ret2;exact ⟨rfl,hb⟩
theorem CW (w:World):Cl 47 #[.pointer none] w fun e w'=>e = .returned (.slice none 0 0)/\Bl w w':=by
 have HF:Hid (∀W,Cl 84 #[.pointer none] W fun e w'=>e = .returned (.slice none 0 0)/\Bl W w'):=fun W=>by
  go_enter Tryz.func84,Tryz.ntmps84;go_wp2_with fail
  go_ret;exact ⟨rfl,je _ _⟩
 go_enter Tryz.func47,Tryz.ntmps47
 go_wp2_with (go_at_call 84;refine jk (HF.out _) ?_;rintro e w1 ⟨rfl,hb⟩)
 go_loopw [3,11] (fun lv iv wr=>lv = .slice none 0 0/\iv = .int .i64 0/\Bl w wr) (fun _ _ _=>0)
 case atStart=>exact ⟨rfl,rfl,hb⟩
 case round =>
  obtain ⟨rfl,rfl,hbr⟩:=hrel;go_wp2_with fail
  go_ret;exact ⟨rfl,hbr⟩
section
variable {a : Nat → Addr} {w0 W W' : World} {N d dp tb bb sp sb cap mb m1 m2 mw mt md j : Nat} {s : aA} {tr : List (Option ah)} {pt : List ab}
theorem xP (E:kj a w0) (SN:aV a w0) (S:gg w0 N d dp tb bb sp sb cap mb m1 m2 mw mt md j s tr pt W) (hj:j<=50) (hd:d<=900) (hN5:N<=512) (x:dT) (ua:Option Addr) (uc:Nat) (hk:(Lit.int .i64 x.k).wf=true) (hn:(Lit.int .i64 x.n).wf=true) (hp:x.path.size<=100) (hsm:fM d x.node) (hl:aE w0 w0.heap.size (d+1) x.node.kids (.slice ua x.node.kids.length uc)) :
  Cl 18 #[.pointer (some ⟨dp,0,none⟩),.pointer (some ⟨mw,0,none⟩),.agg #[.string x.kind,.string x.path,.string x.s,.string x.node.kind,.string x.node.data,.bool x.node.exec,.slice ua x.node.kids.length uc,.int .i64 x.k,.int .i64 x.n,.int .i64 x.bit]] W fun e w'=>e = .returned (.bool true)/\dG w0 N d dp tb bb sp sb cap mb m1 m2 mw mt md (j+1) w':=by
 have hbw:Bl W (W.alloc (.cells #[.string x.kind,.string x.path,.string x.s,.string x.node.kind,.string x.node.data,.bool x.node.exec,.slice ua x.node.kids.length uc,.int .i64 x.k,.int .i64 x.n,.int .i64 x.bit] 55)):=(je _ W).alloc (jd _) _;have S1:=S.below hbw;have HPT:=kH (wL E SN.c10 SN S1 hj hd hN5 x ua uc hk hn hp hsm hl)
 have HSP:Hid (Cl 50 #[.pointer (some ⟨dp,0,none⟩)] (W.alloc (.cells #[.string x.kind,.string x.path,.string x.s,.string x.node.kind,.string x.node.data,.bool x.node.exec,.slice ua x.node.kids.length uc,.int .i64 x.k,.int .i64 x.n,.int .i64 x.bit] 55)) fun e w1=>∃bv:Bool,e = .returned (.tuple #[.bool bv,.nilIface])/\Cl 51 #[.pointer (some ⟨mw,0,none⟩)] w1 fun e2 w2=>e2 = .returned (.bool bv)/\dG w0 N d dp tb bb sp sb cap mb m1 m2 mw mt md (j+1) w2) :=
  (IX E S1 (by omega) hd ⟨_,SN.c10⟩).mono fun e w1 ⟨bv,he,_,h⟩=>⟨bv,he,h.mono fun e2 w2 ⟨he2,_,hE⟩=>⟨he2,hE.up (by omega)⟩⟩
 have HAP:Hid (Cl 52 #[.pointer (some ⟨dp,0,none⟩)] (W.alloc (.cells #[.string x.kind,.string x.path,.string x.s,.string x.node.kind,.string x.node.data,.bool x.node.exec,.slice ua x.node.kids.length uc,.int .i64 x.k,.int .i64 x.n,.int .i64 x.bit] 55)) fun e w1=>∃z:Int,e = .returned (.tuple #[.int .i64 z,.nilIface])/\Cl 53 #[.pointer (some ⟨mw,0,none⟩)] w1 fun e2 w2=>e2 = .returned (.int .i64 z)/\dG w0 N d dp tb bb sp sb cap mb m1 m2 mw mt md (j+1) w2) :=
  (Jy E S1 (by omega) hd ⟨_,SN.c10⟩).mono fun e w1 ⟨bv,he,_,h⟩=>⟨bv,he,h.mono fun e2 w2 ⟨he2,_,hE⟩=>⟨he2,hE.up (by omega)⟩⟩
 clear E SN S S1 hbw hl hsm;go_enter Tryz.func18,Tryz.ntmps18
 cases kst:(x.kind.toList == [115,116,101,112]) with
 | true =>
  go_wp2_with (first
   | (go_at_call 50;refine HSP.out.mono ?_;rintro e w1 ⟨bv,rfl,H2⟩;clear HSP)
   | (go_at_call 51;refine H2.mono ?_;rintro e w2 ⟨rfl,HE⟩;clear H2))
  go_ret;exact ⟨by simp,HE⟩
 | false =>
  cases kal:(x.kind.toList == [97,108,108]) with
  | true =>
   go_wp2_with (first
    | (go_at_call 52;refine HAP.out.mono ?_;rintro e w1 ⟨z,rfl,H2⟩;clear HAP)
    | (go_at_call 53;refine H2.mono ?_;rintro e w2 ⟨rfl,HE⟩;clear H2))
   go_ret;exact ⟨by simp,HE⟩
  | false =>
   go_wp2_with (go_at_call 54;refine HPT.out.mono ?_;rintro e w1 ⟨rfl,HE⟩;clear HPT)
   go_ret;exact ⟨rfl,HE⟩
end
end
section
set_option maxRecDepth 100000
open Go.RowKit Go.Maps

theorem CX (n:Int) (w:World):Cl 16 #[.pointer none,.int .i64 n] w fun e w'=>e = .returned (.slice none 0 0)/\Bl w w':=by
 have HF:Hid (∀W,Cl 47 #[.pointer none] W fun e w'=>e = .returned (.slice none 0 0)/\Bl W w'):=fun W=>CW W;go_enter Tryz.func16,Tryz.ntmps16
 go_wp2_with (go_at_call 47;refine jk (HF.out _) ?_;rintro e w1 ⟨rfl,hb⟩)
 go_loopw [5,11] (fun lv iv wr=>lv = .slice none 0 0/\iv = .int .i64 0/\Bl w wr) (fun _ _ _=>0)
 case atStart=>exact ⟨rfl,rfl,hb⟩
 case round =>
  obtain ⟨rfl,rfl,hbr⟩:=hrel;go_wp2_with fail
  go_ret;exact ⟨rfl,hbr⟩
theorem Fi (w:World):Cl 42 #[.pointer none] w fun e w'=>e = .returned (.slice none 0 0)/\w'=w:=by
 go_enter Tryz.func42,Tryz.ntmps42;go_wp2_with fail
 go_ret;exact ⟨rfl,rfl⟩
theorem CY (w:World):Cl 13 #[.pointer none] w fun e w'=>e = .returned (.slice none 0 0)/\w'=w:=DX w (Fi w)
theorem Fj {N:Nat} (h1:1<=N) (h2:N<=512) (W:World) :
  Cl 7 #[.int .i64 (N:Int)] W fun e w'=>∃tb bb mt md,e = .returned (.tuple #[.pointer (some ⟨tb,0,none⟩),.pointer (some ⟨mt,0,none⟩),.bool true])/\dc W W.heap.size tb bb mt md N 0 w' :=
 (mf (fun _=>False) W.heap.size N h1 h2 W (jd _)).mono fun e w' ⟨tb,bb,sp,sb,cap,mb,md,mt,he,T,⟨⟨la,lc,D⟩,hm,l1,l2⟩,hb⟩ =>
  ⟨tb,bb,mt,md,he,_,_,[],⟨⟨sp,sb,cap,mb,0,jd _,T⟩,⟨la,lc,none,0,[],hm,D,qt _ _ _ _,rfl,fun k x v h=>by simp at h⟩,hb,rfl,l1,l2⟩,aY.start N,h2,fun k x h=>by simp [af] at h⟩
section
variable {a : Nat → Addr} {w0 W W' : World} {N d dp tb bb sp sb cap mb m1 m2 mw mt md j : Nat} {s : aA} {tr : List (Option ah)} {pt : List ab}
theorem G5 (n:Int) (E:kj a w0) (S:gg w0 N d dp tb bb sp sb cap mb m1 m2 mw mt md j s tr pt W) (hj:j<=100) (hd:d<=900) (hT:oZ W.heap.size W) :
  Cl 16 #[.pointer (some ⟨dp,0,none⟩),.int .i64 n] W fun e w1=>∃v,e = .returned v/\w1.ownsRow W.heap.size 9 1 v (aH n (bh (bP (d+1) 0 tr pt))).length ((aH n (bh (bP (d+1) 0 tr pt))).map Value.string)/\Bl W w1:=by
 obtain ⟨n1,fb,hn1,D⟩:=S.D;obtain ⟨PS,_⟩:=S.sents E;have O:=S.ok (by omega) hd;have hR:=S.refs (by omega);have hfl:=congrArg List.length S.I.fl;rw [jB,jB] at hfl
 have han:(ci tr).length<=1000000:=by
  have h1:(ci tr).length<=tr.length:=(by unfold ci;exact jm (qu _ _) (by rw [List.length_range];exact jd _));have h2:=S.I.len;have h3:=S.few.1;omega
 rw [iu S.I.len];refine Cu n PS D O (by omega) han hT fun f hf=>?_;obtain ⟨x,h1,h2⟩:=kV.1 hf;obtain ⟨hk,_,_,_,_,hsz⟩:=O f.1 x h1;exact ⟨hk,jm (hsz _ h2) (by omega)⟩
end
end
section
set_option maxRecDepth 100000
open Go.RowKit

structure di (w0:World) (tb bb sp sb cap mb n N:Nat) (bl:List (List UInt8)) (u:List Bool) (tab:List (Option ak)) (W:World):Prop where
 T:aq W (fun _=>False) w0.heap.size tb bb sp sb cap mb n bl u tab
 S:aY N bl u tab
 B:Bl w0 W
theorem CZ {bl:List (List UInt8)} {x:ak} {d:ByteArray} (h:au bl x.blocks x.bytes=d) (hs:x.sum=aQ d):dQ bl x=true:=by
 unfold dQ;rw [h,hs];simp
section
variable {w0 W W' : World} {tb bb sp sb cap mb n N : Nat} {bl : List (List UInt8)} {u : List Bool} {tab : List (Option ak)} {a : Nat → Addr}
theorem di.below (Z:di w0 tb bb sp sb cap mb n N bl u tab W) (h:Bl W W'):di w0 tb bb sp sb cap mb n N bl u tab W':=⟨Z.T.below h,Z.S,Z.B.trans (h.mono Z.B.size)⟩
theorem di.sents (Z:di w0 tb bb sp sb cap mb n N bl u tab W) (E:aV a w0):aV a W:=E.below Z.B
theorem G6 (E:aV a w0) (Z:di w0 tb bb sp sb cap mb n N bl u tab W) (data:ByteArray) (ex:Bool) (bks:List Nat) (hd:data.size<=2000) (hb:bks=(aF u).take (aw data.size)) (hf:aw data.size<=(aF u).length) (hn:n<100000) :
  Cl 21 #[.pointer (some ⟨tb,0,none⟩),.string data,.bool ex] W fun e w'=>e = .returned (.tuple #[.int .i64 (bM tab:Int),.nilIface])/\di w0 tb bb sp sb cap mb (n+1) N (bG bl bks data) (br u true bks) (fR tab ⟨data.size,1,ex,bks,aQ data⟩) w' :=
 (sI data ex bks hd hb hf hn (by rw [Z.S.lu,Z.S.lbl]) _ W Z.T (Z.sents E).c1 (aJ E.c1) Z.B.size (fun _ h=>h.elim)).mono fun _ _ ⟨he,T,B⟩=>⟨he,T,Z.S.make hd hb hf,B.below (jd _) Z.B.size Z.B⟩
theorem aq.rot {F:Nat->Prop} {T0 k bit:Nat} {b:List UInt8} (T:aq W F T0 tb bb sp sb cap mb n bl u tab) (D:aX W' bb none 0 (bl.set k (bg b bit)) []) (ht:am kz W W'):aq W' F T0 tb bb sp sb cap mb n (bl.set k (bg b bit)) u tab:=by
 obtain ⟨f,Nd⟩:=T.nodes;obtain ⟨l1,l2,l3,l4,l5⟩:=T.low;exact ⟨ht _ _ T.box rfl,D,T.space.turn ht (fun _ _=>rfl) (fun _ _=>rfl),⟨f,Nd.turn ht (fun _ _=>rfl) (fun _ _=>rfl) (fun _ _=>rfl)⟩,l1,l2,l3,by rw [jI];exact l4,l5⟩
theorem aY.rot {k:Nat} {y:List UInt8} (S:aY N bl u tab):aY N (bl.set k y) u tab:=⟨by rw [jI];exact S.lbl,S.lu,S.own,S.one,S.all⟩
theorem aY.wrote {blocks:List Nat} {data:ByteArray} (S:aY N bl u tab):aY N (bG bl blocks data) u tab:=⟨by rw [nn];exact S.lbl,S.lu,S.own,S.one,S.all⟩
theorem IY (Z:di w0 tb bb sp sb cap mb n N bl u tab W) (k bit:Nat) (b:List UInt8) (hk:bl[k]? = some b) (hbit:bit<128) :
  Cl 23 #[.pointer (some ⟨bb+1,0,none⟩),.int .i64 (k:Int),.int .i64 (bit:Int)] W fun e w'=>e = .returned .nilIface/\di w0 tb bb sp sb cap mb n N (bl.set k (bg b bit)) u tab w'/\am kz W w' :=
 (sK k bit b W Z.T.disk hk hbit (by simp)).mono fun _ w' ⟨he,D,h⟩=>by
  have ht:=am.of_but Z.T.disk h;refine ⟨he,⟨Z.T.rot D ht,Z.S.rot,?_⟩,ht⟩;refine ⟨h.os.trans Z.B.os,h.tape.trans Z.B.tape,h.output.trans Z.B.output,jm Z.B.size h.size,fun j hj=>?_⟩;have hl:=Z.T.low.1;rw [h.block j (jn hj Z.B.size) (by omega) (by omega) (fun _ ha=>by cases ha)];exact Z.B.block j hj
theorem sZ (E:aV a w0) (Z:di w0 tb bb sp sb cap mb n N bl u tab W) (l:List Nat) (hl:kL bl tab=l) :
  Cl 13 #[.pointer (some ⟨tb,0,none⟩)] W fun e w'=>∃ad vc,e = .returned (.slice ad l.length vc)/\aP w' (.slice ad l.length vc) (ar l)/\Bl W w'/\di w0 tb bb sp sb cap mb n N bl u tab w' :=
 (vg _ W Z.T Z.S (Z.sents E).c10).mono fun _ w' ⟨v,he,ho,hb⟩=>by
  rw [hl] at ho;have iv:=ho.t;obtain ⟨ad,vc,e,_⟩:=id iv;rw [bQ] at e;exact ⟨ad,vc,by rw [he,e],by rw [<-e];exact iv,hb,Z.below hb⟩
theorem G7 (E:aV a w0) (Z:di w0 tb bb sp sb cap mb n N bl u tab W) (k:Nat) (x:ak) (data:ByteArray) (hd:data.size<=1000000) (hx:af tab k=some x) :
  Cl 10 #[.pointer (some ⟨tb,0,none⟩),.int .i64 (k:Int),.string data] W fun e w' =>
   (eU bl x data=0/\e = .returned (.iface 319 (.pointer (some (a 10))))/\di w0 tb bb sp sb cap mb n N bl u tab w')∨(eU bl x data=1/\e = .returned (.iface 319 (.pointer (some (a 6))))/\di w0 tb bb sp sb cap mb n N bl u tab w') ∨
   (eU bl x data=2/\e = .returned .nilIface/\di w0 tb bb sp sb cap mb n N (bG bl x.blocks data) u tab w') :=
 (vh k x hx data hd _ _ _ W Z.T Z.S (Z.sents E).c10 (Z.sents E).c6 (Z.sents E).c1 (aJ E.c1)).mono fun _ w' h=>by
  rcases h with ⟨h1,he,hb⟩|⟨h1,he,hb⟩|⟨h1,he,T,B⟩
  ·exact .inl ⟨h1,he,Z.below hb⟩
  ·exact .inr (.inl ⟨h1,he,Z.below hb⟩)
  ·exact .inr (.inr ⟨h1,he,T,Z.S.wrote,B.below (jd _) Z.B.size Z.B⟩)
end
end
section
set_option maxRecDepth 100000
open Go.RowKit

theorem Fk {bl:List (List UInt8)} {x:ak} {d:ByteArray} (h:d.size=x.bytes) (hs:x.sum=aQ d) (ho:dQ bl x=false):eU bl x d=2:=by unfold eU;rw [zj ⟨h,hs.symm⟩,zi (by simp [ho])]
theorem ri {bl:List (List UInt8)} {x:ak}:kL bl [some x]=if dQ bl x=true then [] else [0]:=by
 have e:bJ [some x] = [0]:=rfl;have b0:d9 bl [some x] 0 = !dQ bl x:=rfl;unfold kL;rw [e,List.filter_cons,b0];cases dQ bl x <;> rfl
structure KF (a:Nat->Addr) (w0:World) (tb bb:Nat) (A B:ByteArray) (m:Nat) (A0 A1 A2 A3 A4:World->Prop) (bks:List Nat) (q c:Nat):Prop where
 at_:bks[m / 8 / 16]? = some q
 b2:∀W W',A2 W->Bl W W'->A2 W'
 b3:∀W W',A3 W->Bl W W'->A3 W'
 up:∀W,A4 W->Bl w0 W
 make1:∀W,A0 W->Cl 21 #[.pointer (some ⟨tb,0,none⟩),.string B,.bool true] W fun e w'=>e = .returned (.tuple #[.int .i64 0,.nilIface])/\A1 w'
 make2:∀W,A1 W->Cl 21 #[.pointer (some ⟨tb,0,none⟩),.string A,.bool false] W fun e w'=>e = .returned (.tuple #[.int .i64 1,.nilIface])/\A2 w'
 stat:∀W,A2 W->Cl 34 #[.pointer (some ⟨tb,0,none⟩),.int .i64 1] W fun e w'=>∃ad vc,e = .returned (.tuple #[.agg #[.int .i64 (A.size:Int),.int .i64 1,.bool false,.slice ad bks.length vc,.int .u32 (c:Int)],.bool true])/\aP w' (.slice ad bks.length vc) (ar bks)/\A2 w'
 disk:∀W,A2 W->Cl 22 #[.pointer (some ⟨tb,0,none⟩)] W fun e w'=>e = .returned (.pointer (some ⟨bb+1,0,none⟩))/\w'=W
 rot:∀W,A2 W->Cl 23 #[.pointer (some ⟨bb+1,0,none⟩),.int .i64 (q:Int),.int .i64 ((m % 128:Nat):Int)] W fun e w'=>e = .returned .nilIface/\A3 w'/\am kz W w'
 scan3:∀W,A3 W->Cl 13 #[.pointer (some ⟨tb,0,none⟩)] W fun e w'=>∃ad vc,e = .returned (.slice ad 1 vc)/\aP w' (.slice ad 1 vc) [1]/\Bl W w'/\A3 w'
 read3:∀W,A3 W->Cl 46 #[.pointer (some ⟨tb,0,none⟩),.int .i64 1] W fun e w'=>e = .returned (.tuple #[.string { data:=#[] },.iface 319 (.pointer (some (a 10)))])/\A3 w'
 code3:∀W,A3 W->Cl 9 #[.iface 319 (.pointer (some (a 10))),.int .i64 11] W fun e w'=>e = .returned (.bool true)/\A3 w'
 mend3:¬A.size=B.size->∀W,A3 W->Cl 10 #[.pointer (some ⟨tb,0,none⟩),.int .i64 1,.string B] W fun e w'=>e = .returned (.iface 319 (.pointer (some (a 10))))/\A3 w'
 mend4:∀W,A3 W->Cl 10 #[.pointer (some ⟨tb,0,none⟩),.int .i64 1,.string A] W fun e w'=>e = .returned .nilIface/\A4 w'
 scan4:∀W,A4 W->Cl 13 #[.pointer (some ⟨tb,0,none⟩)] W fun e w'=>∃ad vc,e = .returned (.slice ad 0 vc)/\A4 w'
 mend5:∀W,A4 W->Cl 10 #[.pointer (some ⟨tb,0,none⟩),.int .i64 1,.string A] W fun e w'=>e = .returned (.iface 319 (.pointer (some (a 6))))/\A4 w'
 code5:∀W,A4 W->Cl 9 #[.iface 319 (.pointer (some (a 6))),.int .i64 7] W fun e w'=>e = .returned (.bool true)/\A4 w'
 readx:∀W,A4 W->Cl 46 #[.pointer (some ⟨tb,0,none⟩),.int .i64 0] W fun e w'=>e = .returned (.tuple #[.string B,.nilIface])/\A4 w'
 ready:∀W,A4 W->Cl 46 #[.pointer (some ⟨tb,0,none⟩),.int .i64 1] W fun e w'=>e = .returned (.tuple #[.string A,.nilIface])/\A4 w'
section
variable {w0 : World} {tb bb sp sb cap mb N : Nat} {a : Nat → Addr}
end
end
section
set_option maxRecDepth 100000
open Go.RowKit

def iw:ByteArray:=⟨#[97,98,99]⟩
def xA:ak:=⟨3,1,false,[0],aQ iw⟩
theorem wM (a:Nat->Addr) (w:World) (E:aV a w):Cl 4 #[] w fun e w'=>e = .returned (.bool true)/\Bl w w':=by
 have HTO:=mf (fun _=>False) w.heap.size 4 (by omega) (by omega) w (jd _);obtain ⟨bl1,hbl1⟩:∃bl1,bl1=bG (List.replicate 4 zb) [0] iw:=⟨_,rfl⟩;obtain ⟨u1,hu1⟩:∃u1,u1=br (List.replicate 4 false) true [0]:=⟨_,rfl⟩;have hu0:[0]=(aF (List.replicate 4 false)).take (aw iw.size):=by decide
 have S1:aY 4 bl1 u1 [some xA]:=by
  have h:=(aY.start 4).make (data:=iw) (ex:=false) (bks:=[0]) (c:=aQ iw) (by decide) hu0 (by decide);rw [<-hu1,<-hbl1] at h;exact h
 have r1:au bl1 [0] 3=iw:=by rw [hbl1];exact n9 (by simp) (by simp) (by decide)
 have k1:dQ bl1 xA=true:=CZ (d:=iw) r1 rfl;obtain ⟨blk,hblk⟩:∃blk,bl1[0]? = some blk:=⟨_,jc (by rw [S1.lbl];omega)⟩;obtain ⟨bl2,hbl2⟩:∃bl2,bl2=bl1.set 0 (bg blk 3):=⟨_,rfl⟩
 have k2:(∀b∈bl1,b.length=16)->dQ bl2 xA=false:=fun h=>by
  refine decide_eq_false ?_;show ¬aQ (au bl2 [0] 3)=aQ iw;rw [hbl2];have hf:=Bz (l:=[0]) (i:=0) (b:=0) (bit:=3) (bytes:=3) h (fun k hk=>by rw [S1.lbl,jF.1 hk];omega) (by simp) rfl hblk (by omega) (by omega);rw [r1] at hf;exact hf
 obtain ⟨bl3,hbl3⟩:∃bl3,bl3=bG bl2 [0] iw:=⟨_,rfl⟩;have S2:aY 4 bl2 u1 [some xA]:=by rw [hbl2];exact S1.rot
 have r3:au bl3 [0] 3=iw:=by rw [hbl3];exact n9 (by simp) (by rw [S2.lbl];simp) (by decide)
 have k3:dQ bl3 xA=true:=CZ (d:=iw) r3 rfl;have sA:af [some xA] 0=some xA:=rfl
 have HMK:Hid (∀W tb bb sp sb cap mb,di w tb bb sp sb cap mb 0 4 (List.replicate 4 zb) (List.replicate 4 false) [] W->Cl 21 #[.pointer (some ⟨tb,0,none⟩),.string ⟨#[97,98,99]⟩,.bool false] W fun e w'=>e = .returned (.tuple #[.int .i64 0,.nilIface])/\di w tb bb sp sb cap mb 1 4 bl1 u1 [some xA] w'):=fun W tb bb sp sb cap mb Z=>by
  have h:=G6 E Z iw false [0] (by decide) hu0 (by decide) (by omega);rw [<-hu1,<-hbl1] at h;exact h
 have HS1:Hid (∀W tb bb sp sb cap mb,di w tb bb sp sb cap mb 1 4 bl1 u1 [some xA] W->Cl 13 #[.pointer (some ⟨tb,0,none⟩)] W fun e w'=>∃ad vc,e = .returned (.slice ad 0 vc)/\di w tb bb sp sb cap mb 1 4 bl1 u1 [some xA] w'):=fun W tb bb sp sb cap mb Z=>(sZ E Z [] (by rw [ri,k1];rfl)).mono fun e w' ⟨ad,vc,he,_,_,Z'⟩=>⟨ad,vc,he,Z'⟩;have HDK:Hid (∀W tb bb sp sb cap mb,di w tb bb sp sb cap mb 1 4 bl1 u1 [some xA] W->Cl 22 #[.pointer (some ⟨tb,0,none⟩)] W fun e w'=>e = .returned (.pointer (some ⟨bb+1,0,none⟩))/\w'=W):=fun W tb bb sp sb cap mb Z=>gk W Z.T;have HRT:Hid (∀W tb bb sp sb cap mb,di w tb bb sp sb cap mb 1 4 bl1 u1 [some xA] W->Cl 23 #[.pointer (some ⟨bb+1,0,none⟩),.int .i64 0,.int .i64 3] W fun e w'=>e = .returned .nilIface/\(di w tb bb sp sb cap mb 1 4 bl2 u1 [some xA] w'/\dQ bl2 xA=false)):=fun W tb bb sp sb cap mb Z=>(IY Z 0 3 blk hblk (by omega)).mono fun e w' ⟨he,Z',_⟩=>⟨he,by rw [hbl2];exact Z',k2 Z.T.disk.bl16⟩;have HS2:Hid (∀W tb bb sp sb cap mb,(di w tb bb sp sb cap mb 1 4 bl2 u1 [some xA] W/\dQ bl2 xA=false)->Cl 13 #[.pointer (some ⟨tb,0,none⟩)] W fun e w'=>∃ad vc,e = .returned (.slice ad 1 vc)/\aP w' (.slice ad 1 vc) [0]/\(di w tb bb sp sb cap mb 1 4 bl2 u1 [some xA] w'/\dQ bl2 xA=false)):=fun W tb bb sp sb cap mb Z=>(sZ E Z.1 [0] (by rw [ri,Z.2];rfl)).mono fun e w' ⟨ad,vc,he,iv,_,Z'⟩=>⟨ad,vc,he,iv,Z',Z.2⟩
 have HMD:Hid (∀W tb bb sp sb cap mb,(di w tb bb sp sb cap mb 1 4 bl2 u1 [some xA] W/\dQ bl2 xA=false)->Cl 10 #[.pointer (some ⟨tb,0,none⟩),.int .i64 0,.string ⟨#[97,98,99]⟩] W fun e w'=>e = .returned .nilIface/\di w tb bb sp sb cap mb 1 4 bl3 u1 [some xA] w'):=fun W tb bb sp sb cap mb Z=>by
  have hr:eU bl2 xA iw=2:=Fk rfl rfl Z.2;refine (G7 E Z.1 0 xA iw (by decide) sA).mono fun e w' h=>?_;rw [hr] at h
  rcases h with ⟨h0,_⟩|⟨h0,_⟩|⟨_,he,Z'⟩
  ·omega
  ·omega
  ·exact ⟨he,by rw [hbl3];exact Z'⟩
 have HS3:Hid (∀W tb bb sp sb cap mb,di w tb bb sp sb cap mb 1 4 bl3 u1 [some xA] W->Cl 13 #[.pointer (some ⟨tb,0,none⟩)] W fun e w'=>∃ad vc,e = .returned (.slice ad 0 vc)/\Bl w w'):=fun W tb bb sp sb cap mb Z=>(sZ E Z [] (by rw [ri,k3];rfl)).mono fun e w' ⟨ad,vc,he,_,_,Z'⟩=>⟨ad,vc,he,Z'.B⟩
 have HSI:Hid (∀W v a,aP W v [0]->a = #[Value.int .i64 0]->Cl 12 #[v,.slice (some ⟨W.heap.size,0,none⟩) 1 1] (W.alloc (.cells a 3)) fun e w'=>e = .returned (.bool true)/\Bl (W.alloc (.cells a 3)) w'):=fun W v a h ha =>
  lq v _ [0] _ (h.below ((je _ _).alloc (jd _) _)).at (F7 W [0] a ha).at (by decide)
 obtain ⟨P1,hP1⟩:∃P1:Nat->Nat->Nat->Nat->Nat->Nat->World->Prop,P1=fun tb bb sp sb cap mb W=>di w tb bb sp sb cap mb 1 4 bl1 u1 [some xA] W:=⟨_,rfl⟩;obtain ⟨P2,hP2⟩:∃P2:Nat->Nat->Nat->Nat->Nat->Nat->World->Prop,P2=fun tb bb sp sb cap mb W=>(di w tb bb sp sb cap mb 1 4 bl2 u1 [some xA] W/\dQ bl2 xA=false):=⟨_,rfl⟩;obtain ⟨P3,hP3⟩:∃P3:Nat->Nat->Nat->Nat->Nat->Nat->World->Prop,P3=fun tb bb sp sb cap mb W=>di w tb bb sp sb cap mb 1 4 bl3 u1 [some xA] W:=⟨_,rfl⟩;have HB2:Hid (∀tb bb sp sb cap mb W W',P2 tb bb sp sb cap mb W->Bl W W'->P2 tb bb sp sb cap mb W'):=fun tb bb sp sb cap mb W W' h hb=>by rw [hP2] at h ⊢;exact ⟨h.1.below hb,h.2⟩
 have GM:Hid (∀W tb bb sp sb cap mb,di w tb bb sp sb cap mb 0 4 (List.replicate 4 zb) (List.replicate 4 false) [] W->Cl 21 #[.pointer (some ⟨tb,0,none⟩),.string ⟨#[97,98,99]⟩,.bool false] W fun e w'=>e = .returned (.tuple #[.int .i64 0,.nilIface])/\P1 tb bb sp sb cap mb w'):=by rw [hP1];exact HMK.out
 have G1:Hid (∀W tb bb sp sb cap mb,P1 tb bb sp sb cap mb W->Cl 13 #[.pointer (some ⟨tb,0,none⟩)] W fun e w'=>∃ad vc,e = .returned (.slice ad 0 vc)/\P1 tb bb sp sb cap mb w'):=by rw [hP1];exact HS1.out
 have GD:Hid (∀W tb bb sp sb cap mb,P1 tb bb sp sb cap mb W->Cl 22 #[.pointer (some ⟨tb,0,none⟩)] W fun e w'=>e = .returned (.pointer (some ⟨bb+1,0,none⟩))/\w'=W):=by rw [hP1];exact HDK.out
 have GR:Hid (∀W tb bb sp sb cap mb,P1 tb bb sp sb cap mb W->Cl 23 #[.pointer (some ⟨bb+1,0,none⟩),.int .i64 0,.int .i64 3] W fun e w'=>e = .returned .nilIface/\P2 tb bb sp sb cap mb w'):=by rw [hP1,hP2];exact HRT.out
 have G2:Hid (∀W tb bb sp sb cap mb,P2 tb bb sp sb cap mb W->Cl 13 #[.pointer (some ⟨tb,0,none⟩)] W fun e w'=>∃ad vc,e = .returned (.slice ad 1 vc)/\aP w' (.slice ad 1 vc) [0]/\P2 tb bb sp sb cap mb w'):=by rw [hP2];exact HS2.out
 have GE:Hid (∀W tb bb sp sb cap mb,P2 tb bb sp sb cap mb W->Cl 10 #[.pointer (some ⟨tb,0,none⟩),.int .i64 0,.string ⟨#[97,98,99]⟩] W fun e w'=>e = .returned .nilIface/\P3 tb bb sp sb cap mb w'):=by rw [hP2,hP3];exact HMD.out
 have G3:Hid (∀W tb bb sp sb cap mb,P3 tb bb sp sb cap mb W->Cl 13 #[.pointer (some ⟨tb,0,none⟩)] W fun e w'=>∃ad vc,e = .returned (.slice ad 0 vc)/\Bl w w'):=by rw [hP3];exact HS3.out
 clear hP1 hP2 hP3 HMK HS1 HDK HRT HS2 HMD HS3 k1 k2 k3 r1 r3 S1 S2 hblk hbl1 hbl2 hbl3 hu0 hu1 sA E;go_enter Tryz.func4,Tryz.ntmps4
 go_wp2_with (first
  | (go_at_call 7;refine HTO.mono ?_;rintro e w1 ⟨tb,bb,sp,sb,cap,mb,md,mt,rfl,T1,_,b1⟩;(have H1:=GM.out w1 tb bb sp sb cap mb ⟨T1,aY.start 4,b1⟩);clear HTO GM T1 b1)
  | (go_at_call 21;refine H1.mono ?_;rintro e w2 ⟨rfl,q2⟩;(have H2:=G1.out _ _ _ _ _ _ _ q2);clear H1 G1 q2)
  | (go_at_call 13;refine H2.mono ?_;rintro e w3 ⟨ad3,vc3,rfl,q3⟩;(have H3:=GD.out _ _ _ _ _ _ _ q3);(have H4:=GR.out _ _ _ _ _ _ _ q3);clear H2 GD GR q3)
  | (go_at_call 22;refine H3.mono ?_;rintro e w4 ⟨rfl,hw⟩;rw [hw];clear hw H3)
  | (go_at_call 23;refine H4.mono ?_;rintro e w5 ⟨rfl,q5⟩;(have H5:=G2.out _ _ _ _ _ _ _ q5);clear H4 G2 q5)
  | (go_at_call 13;refine H5.mono ?_;rintro e w6 ⟨ad6,vc6,rfl,i6,q6⟩;(have H6:=HSI.out w6 (.slice ad6 1 vc6) #[Value.int .i64 0] i6 rfl);(have HQ6:Hid _:=q6);clear H5 HSI i6 q6)
  | (go_at_call 12;refine H6.mono ?_;rintro e w7 ⟨rfl,b7⟩;(have H7:=GE.out _ _ _ _ _ _ _ (HB2.out _ _ _ _ _ _ _ _ (HB2.out _ _ _ _ _ _ _ _ HQ6.out ((je _ w6).alloc (jd _) _)) b7));clear H6 GE b7 HB2 HQ6)
  | (go_at_call 10;refine H7.mono ?_;rintro e w8 ⟨rfl,q8⟩;(have H8:=G3.out _ _ _ _ _ _ _ q8);clear H7 G3 q8)
  | (go_at_call 13;refine H8.mono ?_;rintro e w9 ⟨ad9,vc9,rfl,b9⟩;clear H8))
 go_ret;exact ⟨rfl,b9⟩
end
section
set_option maxRecDepth 100000
open Go.RowKit
attribute [local go_sem ↓] Go.wp_at_zero Go.wp_at_succ

/-! ### Lists of texts -/
theorem C5 {a b:List ByteArray} {k:Nat} {x y:ByteArray} (hx:a[k]? = some x) (hy:b[k]? = some y):iJ a b (k+1)=(iJ a b k&&(x.toList==y.toList)):=by
 unfold iJ;rw [qJ,List.all_append]
 simp [hx,hy]
theorem C6 {a b:List ByteArray} {k n:Nat} (h:k<=n) (hf:iJ a b k=false):iJ a b n=false:=by
 unfold iJ at *;rw [List.all_eq_false] at *;obtain ⟨j,hj,hp⟩:=hf;exact ⟨j,qR.2 (by have:=qR.1 hj;omega),hp⟩

theorem uB (va vb:Value) (a b:List ByteArray) (w:World) (ha:fL w va a) (hb:fL w vb b) (hla:a.length<=1000000000) :
  Cl 20 #[va,vb] w fun e w'=>e = .returned (.bool (iK a b))/\Bl w w':=by
 obtain ⟨ada,ca,rfl,ha⟩:=ha;obtain ⟨adb,cb,rfl,hb⟩:=hb;have HA:Hid _:=ha;have HB:Hid _:=hb;clear ha hb;by_cases hl:a.length=b.length
 ·have hl':((a.length:Int) != (b.length:Int))=false:=by simp;omega
  have HE:Hid (iK a b=iJ a b a.length):=show _=_ by unfold iK;rw [decide_eq_true hl];rfl
  have HLL:Hid _:=hl;clear hl;go_enter Tryz.func20,Tryz.ntmps20;go_wp2_with fail
  clear hl'
  go_loopw [5] (fun i wr=>∃k m:Nat,k<=a.length/\i = .int .i64 k/\wr=w.drewN m/\iJ a b k=true) (fun i _=>a.length-(intOf i).toNat)
  case atStart=>exact ⟨0,0,jq _,rfl,rfl,rfl⟩
  case round =>
   obtain ⟨k,m,hk,rfl,rfl,hq⟩:=hrel;have HQ:Hid _:=hq;clear hq;by_cases hlt:k<a.length
   ·obtain ⟨x,hx⟩:∃x,a[k]? = some x:=⟨a[k],jc hlt⟩
    have hltb:k<b.length:=(by have:=HLL.out;omega);obtain ⟨y,hy⟩:∃y,b[k]? = some y:=⟨b[k],jc hltb⟩;obtain ⟨b1,o1,rfl,c1⟩:=HA.out k x hx;obtain ⟨b2,o2,rfl,c2⟩:=HB.out k y hy;have HS:Hid _:=C5 hx hy;clear hx hy;cases hxy:(x.toList==y.toList)
    ·have HF:Hid (iJ a b a.length=false):=C6 (k:=k+1) (by omega) (by rw [HS.out,hxy];simp)
     go_wp2_with fail
     go_quiet (fail)
     go_wp2_with fail
     go_ret;exact ⟨ce (by rw [HE.out,HF.out]),cI (cI (je _ _) _) _⟩
    ·have HT:Hid (iJ a b (k+1)=true):=show _=_ by rw [HS.out,HQ.out,hxy];rfl
     go_wp2_with fail
     go_quiet (fail)
     go_wp2_with fail
     go_roundw
     case rel=>exact ⟨k+1,_,by omega,by go_num,rfl,HT.out⟩
     case measure=>simp [intOf];omega
   ·have HT:Hid (iJ a b a.length=true):=by
     have e:a.length=k:=(by omega);rw [e];exact HQ.out
    go_wp2_with fail
    go_ret;exact ⟨ce (by rw [HE.out,HT.out]),cI (je _ _) _⟩
 ·have hl':((a.length:Int) != (b.length:Int))=true:=by simp;omega
  have HE:Hid (iK a b=false):=show _=_ by unfold iK;rw [decide_eq_false hl];rfl
  clear hl;go_enter Tryz.func20,Tryz.ntmps20;go_wp2_with fail
  go_ret;exact ⟨ce (by rw [HE.out]),je _ _⟩
end
end Go.Proofs.YthofhjnfkholoaaGreatDoor
