/-
  Gw Ez Oe Og Oh Gx, joined.
  Conditions: those that each states.
-/
import Derived.Test.YthofhjnfkholoaaGreatDoorQ41
namespace Go.Proofs.YthofhjnfkholoaaGreatDoor
set_option maxHeartbeats 4000000
section
set_option maxRecDepth 100000
open Go.RowKit Go.Maps

def dz (x:dT) (ua:Option Addr) (uc:Nat) (b:Nat) (w:World):Prop:=w.heap[b]? = some (.cells #[.string x.kind,.string x.path,.string x.s,.string x.node.kind,.string x.node.data,.bool x.node.exec,.slice ua x.node.kids.length uc,.int .i64 x.k,.int .i64 x.n,.int .i64 x.bit] 55 (0,0))
theorem dz.below {x:dT} {ua:Option Addr} {uc b:Nat} {w w':World} (h:dz x ua uc b w) (hb:Bl w w'):dz x ua uc b w':=(hb.block b (ja.1 h).1).trans h
theorem dz.cell {x:dT} {ua:Option Addr} {uc b:Nat} {w:World} (h:dz x ua uc b w) (i:Nat):w.cell? ⟨b,i,none⟩=(#[.string x.kind,.string x.path,.string x.s,.string x.node.kind,.string x.node.data,.bool x.node.exec,.slice ua x.node.kids.length uc,.int .i64 x.k,.int .i64 x.n,.int .i64 x.bit]:Array Value)[i]? := by
 rw [ze _ _ _ _ _ _ h]
theorem dz.pbut {x:dT} {ua:Option Addr} {uc b T0 dp:Nat} {w w':World} (h:dz x ua uc b w) (hb:bE T0 dp w w') (hne:b≠dp):dz x ua uc b w':=hb.block b _ h (.inr rfl) hne
theorem dz.dbut {x:dT} {ua:Option Addr} {uc b T0:Nat} {w w':World} (h:dz x ua uc b w) (hb:bF T0 w w'):dz x ua uc b w':=hb.block b _ h (.inr rfl)
def Fh (cd f g:FuncId) (fa ga:Array Value) (K R:World->Prop) (W:World):Prop :=
 Cl f fa W fun e w1=>∃ev c,e = .returned ev/\K w1/\Cl g ga w1 fun e2 w2=>e2 = .returned (.int .i64 c)/\K w2/\Cl cd #[ev,.int .i64 c] w2 fun e3 w3=>e3 = .returned (.bool true)/\K w3/\R w3
def IR (f g cd:FuncId) (fa ga:Array Value) (K R:World->Prop) (W:World):Prop :=
 Cl f fa W fun e w1=>∃kk ev c,e = .returned (.tuple #[.int .i64 kk,ev])/\K w1/\Cl g ga w1 fun e2 w2=>e2 = .returned (.tuple #[.int .i64 kk,.int .i64 c])/\K w2/\Cl cd #[ev,.int .i64 c] w2 fun e3 w3=>e3 = .returned (.bool true)/\K w3/\R w3
def dG (w0:World) (N d dp tb bb sp sb cap mb m1 m2 mw mt md j:Nat) (w:World):Prop:=∃s tr pt,gg w0 N d dp tb bb sp sb cap mb m1 m2 mw mt md j s tr pt w
section
variable {a : Nat → Addr} {w0 W W' : World} {N d dp tb bb sp sb cap mb m1 m2 mw mt md j : Nat} {s s' : aA} {tr tr' : List (Option ah)} {pt pt' : List ab}
theorem pC {v:Value} {c:Int} {w:World} (SN:aV a w0) (hb:Bl w0 w) (h:uO a v c):Cl 9 #[v,.int .i64 c] w fun e w'=>e = .returned (.bool true)/\Bl w w':=by
 rcases h with ⟨rfl,rfl⟩|⟨n,hn,rfl,rfl⟩
 ·exact (j4 0 w).mono fun e w' ⟨he,hw⟩=>⟨by rw [he];rfl,by rw [hw];exact je _ w⟩
 ·exact (ib a n _ w (SN.below hb) hn).mono fun e w' ⟨he,hw⟩=>⟨by rw [he];simp,hw⟩
theorem CR {x:dT} {ua:Option Addr} {uc b:Nat} {f g:FuncId} {fa ga:Array Value} (SN:aV a w0) (hK:dz x ua uc b W) (hne:b≠dp) (h:Fd a w0 N d dp tb bb sp sb cap mb m1 m2 mw mt md j pt W f g fa ga):Fh 9 f g fa ga (dz x ua uc b) (dG w0 N d dp tb bb sp sb cap mb m1 m2 mw mt md (j+1)) W:=by
 refine jk h ?_;rintro e w1 ⟨v,c,he,hc,hp,hg⟩;have k1:=hK.pbut hp hne;refine ⟨v,c,he,k1,(hg w1 (je _ w1)).mono ?_⟩;rintro e2 w2 ⟨he2,hD,s',tr',S2⟩;have k2:=k1.dbut hD;exact ⟨he2,k2,(pC SN S2.low hc).mono fun e3 w3 ⟨he3,hb⟩=>⟨he3,k2.below hb,s',tr',pt,(S2.below hb).up (by omega)⟩⟩
theorem IU {x:dT} {ua:Option Addr} {uc b:Nat} {f g:FuncId} {fa ga:Array Value} (SN:aV a w0) (hK:dz x ua uc b W) (hne:b≠dp) (h:Cl f fa W fun e w1=>∃kk v c,e = .returned (.tuple #[.int .i64 kk,v])/\uO a v c/\bE w0.heap.size dp W w1/\∀W2,Bl w1 W2->Cl g ga W2 fun e2 w2=>e2 = .returned (.tuple #[.int .i64 kk,.int .i64 c])/\bF w0.heap.size W2 w2/\∃s' tr' pt',gg w0 N d dp tb bb sp sb cap mb m1 m2 mw mt md (j+1) s' tr' pt' w2):IR f g 9 fa ga (dz x ua uc b) (dG w0 N d dp tb bb sp sb cap mb m1 m2 mw mt md (j+1)) W:=by
 refine jk h ?_;rintro e w1 ⟨kk,v,c,he,hc,hp,hg⟩;have k1:=hK.pbut hp hne;refine ⟨kk,v,c,he,k1,(hg w1 (je _ w1)).mono ?_⟩;rintro e2 w2 ⟨he2,hD,s',tr',pt',S2⟩;have k2:=k1.dbut hD;exact ⟨he2,k2,(pC SN S2.low hc).mono fun e3 w3 ⟨he3,hb⟩=>⟨he3,k2.below hb,s',tr',pt',S2.below hb⟩⟩
theorem xN (E:kj a w0) (hsum:w0.cell? ⟨2,0,none⟩=some (.iface 319 (.pointer (some (a 10))))) (SN:aV a w0) (S:gg w0 N d dp tb bb sp sb cap mb m1 m2 mw mt md j s tr pt W) (hj:j<=50) (hd:d<=900) (hN5:N<=512) (x:dT) (ua:Option Addr) (uc:Nat) (hk:(Lit.int .i64 x.k).wf=true) (hn:(Lit.int .i64 x.n).wf=true) (hp:x.path.size<=100) (hsm:fM d x.node) (hl:aE w0 w0.heap.size (d+1) x.node.kids (.slice ua x.node.kids.length uc)) (hkind:(x.kind.toList == [112,117,116]||x.kind.toList == [100,114,111,112]||x.kind.toList == [115,104,97,114,101])=true) :
  Cl 54 #[.pointer (some ⟨dp,0,none⟩),.pointer (some ⟨mw,0,none⟩),.agg #[.string x.kind,.string x.path,.string x.s,.string x.node.kind,.string x.node.data,.bool x.node.exec,.slice ua x.node.kids.length uc,.int .i64 x.k,.int .i64 x.n,.int .i64 x.bit]] W fun e w'=>e = .returned (.bool true)/\dG w0 N d dp tb bb sp sb cap mb m1 m2 mw mt md (j+1) w':=by
 have HBW:Hid (Bl W (W.alloc (.cells #[.string x.kind,.string x.path,.string x.s,.string x.node.kind,.string x.node.data,.bool x.node.exec,.slice ua x.node.kids.length uc,.int .i64 x.k,.int .i64 x.n,.int .i64 x.bit] 55))):=(je _ W).alloc (jd _) _;have HBX:Hid (dz x ua uc W.heap.size (W.alloc (.cells #[.string x.kind,.string x.path,.string x.s,.string x.node.kind,.string x.node.data,.bool x.node.exec,.slice ua x.node.kids.length uc,.int .i64 x.k,.int .i64 x.n,.int .i64 x.bit] 55))):=heap_alloc_last W _;have HBD:=kH HBX.out
 have HNE:Hid (W.heap.size≠dp):=by
  obtain ⟨n1,fb,hn1,D⟩:=S.D
  have:=(ja.1 D.box).1
  show W.heap.size≠dp;omega
 have HSX:Hid (∀w',dz x ua uc W.heap.size w'->(w'.cell? ⟨W.heap.size,1,none⟩=some (.string x.path)/\w'.cell? ⟨W.heap.size,7,none⟩=some (.int .i64 x.k)/\w'.cell? ⟨W.heap.size,8,none⟩=some (.int .i64 x.n))):=fun w' h=>⟨h.cell 1,h.cell 7,h.cell 8⟩;go_enter Tryz.func54,Tryz.ntmps54
 cases kp:(x.kind.toList == [112,117,116]) with
 | true =>
  have HOW:Hid (Cl 90 #[.agg #[.string x.node.kind,.string x.node.data,.bool x.node.exec,.slice ua x.node.kids.length uc]] (W.alloc (.cells #[.string x.kind,.string x.path,.string x.s,.string x.node.kind,.string x.node.data,.bool x.node.exec,.slice ua x.node.kids.length uc,.int .i64 x.k,.int .i64 x.n,.int .i64 x.bit] 55)) fun e w1=>∃ad cp,e = .returned (.agg #[.string x.node.kind,.string x.node.data,.bool x.node.exec,.slice ad x.node.kids.length cp])/\dz x ua uc W.heap.size w1/\IR 89 91 9 #[.pointer (some ⟨dp,0,none⟩),.agg #[.string x.node.kind,.string x.node.data,.bool x.node.exec,.slice ad x.node.kids.length cp]] #[.pointer (some ⟨mw,0,none⟩),.agg #[.string x.node.kind,.string x.node.data,.bool x.node.exec,.slice ua x.node.kids.length uc]] (dz x ua uc W.heap.size) (dG w0 N d dp tb bb sp sb cap mb m1 m2 mw mt md (j+1)) w1):=by
   have S1:=S.below HBW.out;have hz:=S1.low.size;refine (GA w0.heap.size (d+1) x.node _ _ hz (hl.below S1.low (jd _))).mono ?_;rintro e w1 ⟨u',he,hO,hb⟩;have hO2:=hO.liesQ;obtain ⟨ad,cp,rfl⟩:=hO2.form;have hbx:dz x ua uc W.heap.size w1:=dz.below HBX.out hb;exact ⟨ad,cp,he,hbx,IU SN hbx HNE.out (Ju E (S1.below hb) hj hd hN5 x.node ad cp _ hO (fun q hq=>hq.2) hsm ua uc hl)⟩
  clear S E hsum SN HBW hl hsm
  go_wp2_with (first
   | (go_at_call 90;refine HOW.out.mono ?_;rintro e w1 ⟨ad,cp,rfl,hk1,H1⟩;clear HOW)
   | (go_at_call 89;refine H1.mono ?_;rintro e w2 ⟨kk,ev,c,rfl,hk2,H2⟩;(have e3:=dz.cell hk2 3);(have e4:=dz.cell hk2 4);(have e5:=dz.cell hk2 5);(have e6:=dz.cell hk2 6);simp only [yw,qo,jJ] at e3 e4 e5 e6;clear hk1 hk2 H1)
   | (go_at_call 91;refine H2.mono ?_;rintro e w3 ⟨rfl,hk3,H3⟩;clear hk3)
   | (go_at_call 9;refine H3.mono ?_;rintro e w4 ⟨rfl,hk4,HQ⟩;clear hk4))
  go_ret;exact ⟨rfl,HQ⟩
 | false =>
  cases kd:(x.kind.toList == [100,114,111,112]) with
  | true =>
   have HAC:Hid (Fh 9 92 93 #[.pointer (some ⟨dp,0,none⟩),.int .i64 x.k] #[.pointer (some ⟨mw,0,none⟩),.int .i64 x.k] (dz x ua uc W.heap.size) (dG w0 N d dp tb bb sp sb cap mb m1 m2 mw mt md (j+1)) (W.alloc (.cells #[.string x.kind,.string x.path,.string x.s,.string x.node.kind,.string x.node.data,.bool x.node.exec,.slice ua x.node.kids.length uc,.int .i64 x.k,.int .i64 x.n,.int .i64 x.bit] 55)).drew):=CR SN HBD.out HNE.out (IM E ((S.below HBW.out).below (cV _)) (by omega) x.k hk);clear S E hsum SN HBX HBW hl hsm;go_wp2_with fail
   refine zh (S:=fun w'=>w'.cell? ⟨W.heap.size,1,none⟩=some (.string x.path)/\w'.cell? ⟨W.heap.size,7,none⟩=some (.int .i64 x.k)/\w'.cell? ⟨W.heap.size,8,none⟩=some (.int .i64 x.n)) (by kernel_rfl) (HSX.out _ HBD.out) (fun hHeld=>?_);refine aW [(0,pZ dp 0),(1,pZ W.heap.size 7),(2,iZ x.k),(4,pZ mw 0),(5,pZ W.heap.size 7),(6,iZ x.k)] hHeld ?_;refine aC 3 rfl fun K' hK=>?_;simp only [ai];go_simp;refine jk (HAC.out) ?_;rintro e wx ⟨ev,c,rfl,hk1,H2⟩;go_wp2_with fail
   refine hK.out _ _ (HSX.out _ hk1) (fun hHeld=>?_);clear hK K';refine aC 7 rfl fun K' hK=>?_;simp only [ai];go_simp;refine jk (H2) ?_;rintro e wx ⟨rfl,hk2,H3⟩;go_wp2_with fail
   refine hK.out _ _ (HSX.out _ hk2) (fun hHeld=>?_);clear hK K';refine aC 8 rfl fun K' hK=>?_;simp only [ai];go_simp;refine jk (H3) ?_;rintro e wx ⟨rfl,hk3,HQ⟩;go_wp2_with fail
   refine hK.out _ _ (HSX.out _ hk3) (fun hHeld=>?_);clear hK K';refine aC 9 rfl fun K' hK=>?_;simp only [ai];go_simp;go_wp2_with fail
   refine hK.out _ _ (HSX.out _ hk3) (fun hHeld=>?_);clear hK K';refine zk (by kernel_rfl) ?_ _;go_wp2_with fail
   go_ret;exact ⟨rfl,HQ⟩
  | false =>
   cases ks:(x.kind.toList == [115,104,97,114,101]) with
   | true =>
    have HAC:Hid (Fh 9 94 88 #[.pointer (some ⟨dp,0,none⟩),.int .i64 x.k,.string x.path,.int .i64 x.n] #[.pointer (some ⟨mw,0,none⟩),.int .i64 x.k,.string x.path,.int .i64 x.n] (dz x ua uc W.heap.size) (dG w0 N d dp tb bb sp sb cap mb m1 m2 mw mt md (j+1)) (W.alloc (.cells #[.string x.kind,.string x.path,.string x.s,.string x.node.kind,.string x.node.data,.bool x.node.exec,.slice ua x.node.kids.length uc,.int .i64 x.k,.int .i64 x.n,.int .i64 x.bit] 55)).drew):=CR SN HBD.out HNE.out (G0 E hsum ((S.below HBW.out).below (cV _)) (by omega) x.k x.n x.path hk hn (by omega));clear S E hsum SN HBX HBW hl hsm;go_wp2_with fail
    refine zh (S:=fun w'=>w'.cell? ⟨W.heap.size,1,none⟩=some (.string x.path)/\w'.cell? ⟨W.heap.size,7,none⟩=some (.int .i64 x.k)/\w'.cell? ⟨W.heap.size,8,none⟩=some (.int .i64 x.n)) (by kernel_rfl) (HSX.out _ HBD.out) (fun hHeld=>?_);refine aW [(0,pZ dp 0),(1,pZ W.heap.size 7),(2,iZ x.k),(3,pZ W.heap.size 1),(4,.string x.path),(5,pZ W.heap.size 8),(6,iZ x.n),(8,pZ mw 0),(9,pZ W.heap.size 7),(10,iZ x.k),(11,pZ W.heap.size 1),(12,.string x.path),(13,pZ W.heap.size 8),(14,iZ x.n)] hHeld ?_;refine aC 7 rfl fun K' hK=>?_;simp only [ai];go_simp;refine jk (HAC.out) ?_;rintro e wx ⟨ev,c,rfl,hk1,H2⟩;go_wp2_with fail
    refine hK.out _ _ (HSX.out _ hk1) (fun hHeld=>?_);clear hK K';refine aC 15 rfl fun K' hK=>?_;simp only [ai];go_simp;refine jk (H2) ?_;rintro e wx ⟨rfl,hk2,H3⟩;go_wp2_with fail
    refine hK.out _ _ (HSX.out _ hk2) (fun hHeld=>?_);clear hK K';refine aC 16 rfl fun K' hK=>?_;simp only [ai];go_simp;refine jk (H3) ?_;rintro e wx ⟨rfl,hk3,HQ⟩;go_wp2_with fail
    refine hK.out _ _ (HSX.out _ hk3) (fun hHeld=>?_);clear hK K';refine aC 17 rfl fun K' hK=>?_;simp only [ai];go_simp;go_wp2_with fail
    refine hK.out _ _ (HSX.out _ hk3) (fun hHeld=>?_);clear hK K';refine zk (by kernel_rfl) ?_ _;go_wp2_with fail
    go_ret;exact ⟨rfl,HQ⟩
   | false =>
    exact absurd hkind (by rw [kp,kd,ks];decide)
end
end
section
set_option maxRecDepth 100000
open Go.RowKit Go.Maps

section
variable {a : Nat → Addr} {w0 W : World} {N d dp tb bb sp sb cap mb m1 m2 j : Nat} {s : aA} {tr : List (Option ah)} {pt : List ab}
end
def IV:aA:=⟨List.replicate 4 zb,List.replicate 4 false,[]⟩
def IW:aA:=bf IV [(aB,yP)]
def KC:aA:=bf IW [(aB,yP)]
def KD:List (Option ah):=[some ⟨eB 1 yP,cf IV [(aB,yP)]⟩,some ⟨eB 1 yP,cf IW [(aB,yP)]⟩]
theorem CS (G:Nat->Nat) (l:List (Nat×ByteArray×Nat)):cY G l<=l.length:=qu _ _
end
section
set_option maxRecDepth 100000
open Go.RowKit Go.Maps

theorem CT {G G':Nat->Nat} {st:aA×List (Option ah)} {f:Nat×ByteArray×Nat} (h:G f.2.2=G' f.2.2):m7 G st f=m7 G' st f:=by
 unfold m7;rw [h]
section
variable {a : Nat → Addr} {w0 W W' : World} {N d dp tb bb sp sb cap mb m1 m2 mw mt md j : Nat} {s sP : aA} {tr trP : List (Option ah)} {pt : List ab}
def fC (w0:World) (N d dp tb bb sp sb cap mb m1 m2 mw mt md j:Nat) (s:aA) (tr:List (Option ah)) (pt:List ab) (sP:aA) (trP:List (Option ah)) (i:Nat) (W:World):Prop :=
 B2 w0 N d dp tb bb sp sb cap mb m1 m2 mw mt md j sP trP pt (ip (gW s) (s,tr) ((aj tr).take i)).1 (ip (gW s) (s,tr) ((aj tr).take i)).2 pt W
theorem CU (I:cL N (d+1) s tr pt) (few:pt.length<=j/\∀t∈pt,fM d t) (htl:s.tab.length<=40*j) (hbl:s.bl=sP.bl) (hj:j<=900) (hd:d<=900) {i:Nat} (hi:i<=(aj tr).length) (S:fC w0 N d dp tb bb sp sb cap mb m1 m2 mw mt md j s tr pt sP trP i W) :
  Cl 51 #[.pointer (some ⟨mw,0,none⟩)] W fun e w'=>(e = .returned (.bool false)/\fC w0 N d dp tb bb sp sb cap mb m1 m2 mw mt md j s tr pt sP trP (aj tr).length w'/\cY (gW s) (aj tr)=cY (gW s) ((aj tr).take i)/\bF w0.heap.size W w')∨∃m f,i<=m/\(aj tr)[m]? = some f/\¬gW s f.2.2=f.2.2/\e = .returned (.bool true)/\fC w0 N d dp tb bb sp sb cap mb m1 m2 mw mt md j s tr pt sP trP (m+1) w'/\cY (gW s) ((aj tr).take (m+1))=cY (gW s) ((aj tr).take i)+1/\bF w0.heap.size W w':=by
 have R:=zg I few hj hd i hi;refine (Fg S R.I (R.bl.trans hbl) (by rw [R.tl];exact htl) hj hd).mono fun e w' h=>?_
 rcases Ff I few hj hd R with ⟨n1,n2⟩|⟨m,f,h1,h2,h3,h4,h5,h6⟩
 ·rcases h with ⟨_,he,hb⟩|⟨f,hf,_⟩
  ·obtain ⟨e1,e2⟩:=rh (G:=gW s) (st:=(s,tr)) (L:=aj tr) (i:=i) ((aj tr).length-i) fun m g k1 k2 k3=>n2 m g k1 k3
   rw [show i+((aj tr).length-i)=(aj tr).length by omega] at e1 e2;refine .inl ⟨he,?_,?_,.of_below hb⟩
   ·unfold fC
    rw [e1];exact S.below hb
   ·rw [jS] at e2
    exact e2
  ·rw [n1] at hf;cases hf
 ·rcases h with ⟨hn,_⟩|⟨f',hf',he,hD,hB⟩
  ·rw [h5] at hn;cases hn
  ·rw [h5] at hf'
   cases hf'
   obtain ⟨e1,e2⟩:=rh (G:=gW s) (st:=(s,tr)) (L:=aj tr) (i:=i) (m-i) fun m' g k1 k2 k3=>h4 m' g k1 (by omega) k3;rw [show i+(m-i)=m by omega] at e1 e2;refine .inr ⟨m,f,h1,h2,h3,he,?_,?_,hD⟩
   ·unfold fC
    rw [kq h2,e1,<-CT h6];exact hB
   ·rw [lY h2,e2,zi h3]
theorem sq (S:B2 w0 N d dp tb bb sp sb cap mb m1 m2 mw mt md j sP trP pt s tr pt W):fC w0 N d dp tb bb sp sb cap mb m1 m2 mw mt md j s tr pt sP trP 0 W:=S
theorem CV (I:cL N (d+1) s tr pt) (few:pt.length<=j/\∀t∈pt,fM d t) (htl:s.tab.length<=40*j) (hbl:s.bl=sP.bl) (hj:j<=900) (hd:d<=900) (hL:(aj tr).length<=40000) (S:fC w0 N d dp tb bb sp sb cap mb m1 m2 mw mt md j s tr pt sP trP 0 W) :
  Cl 53 #[.pointer (some ⟨mw,0,none⟩)] W fun e w'=>e = .returned (.int .i64 (cY (gW s) (aj tr):Int))/\fC w0 N d dp tb bb sp sb cap mb m1 m2 mw mt md j s tr pt sP trP (aj tr).length w'/\bF w0.heap.size W w':=by
 have HST:Hid (∀i,i<=(aj tr).length->∀W,fC w0 N d dp tb bb sp sb cap mb m1 m2 mw mt md j s tr pt sP trP i W->Cl 51 #[.pointer (some ⟨mw,0,none⟩)] W fun e w'=>(e = .returned (.bool false)/\fC w0 N d dp tb bb sp sb cap mb m1 m2 mw mt md j s tr pt sP trP (aj tr).length w'/\cY (gW s) (aj tr)=cY (gW s) ((aj tr).take i)/\bF w0.heap.size W w')∨∃m,i<=m/\m<(aj tr).length/\e = .returned (.bool true)/\fC w0 N d dp tb bb sp sb cap mb m1 m2 mw mt md j s tr pt sP trP (m+1) w'/\cY (gW s) ((aj tr).take (m+1))=cY (gW s) ((aj tr).take i)+1/\bF w0.heap.size W w'):=fun i hi W h=>(CU I few htl hbl hj hd hi h).mono fun e w' h=>h.imp id fun ⟨m,f,h1,h2,_,h3⟩=>⟨m,h1,(jb.1 h2).1,h3⟩;have HCL:Hid (∀i,cY (gW s) ((aj tr).take i)<=i):=fun i=>jm (CS _ _) (by rw [js];omega);have HS0:=kH S;have HC0:Hid (cY (gW s) ((aj tr).take 0)=0):=rfl;clear I few htl hbl hj hd S;generalize aj tr=L at *;generalize gW s=G at *;generalize fC w0 N d dp tb bb sp sb cap mb m1 m2 mw mt md j s tr pt sP trP=P at *;go_enter Tryz.func53,Tryz.ntmps53;go_wp2_with fail
 go_loopw [3] (fun nv wr=>∃i n:Nat,i<=L.length/\nv = .int .i64 (n:Int)/\n<=i/\Hid (n=cY G (L.take i))/\Hid (P i wr)/\Hid (bF w0.heap.size W wr)) (fun nv _=>L.length-(intOf nv).toNat)
 case atStart=>exact ⟨0,0,jq _,rfl,jd _,HC0.out.symm,HS0.out,bF.refl _ _⟩
 case round =>
  obtain ⟨i,n,hi,rfl,hn,HN,HP,HD⟩:=hrel;rename World=>wr;have HM:=HST.out i hi wr HP.out;clear HST HS0 HC0
  go_wp2_with (go_at_call 51;refine jk HM ?_;rintro e w1 (⟨rfl,h⟩|⟨m,hm,hml,rfl,h⟩) <;> (have HH:Hid _:=h) <;> clear h HM)
  ·go_ret
   obtain ⟨h1,h2,h3⟩:=HH.out;exact ⟨by rw [h2,<-HN.out];rfl,h1,HD.out.trans h3⟩
  ·obtain ⟨h1,h2,h3⟩:=HH.out
   exact ⟨⟨m+1,n+1,by omega,by simp,by omega,by rw [HN.out];exact h2.symm,h1,HD.out.trans h3⟩,by simp [intOf];omega⟩
end
end
section
set_option maxRecDepth 100000
open Go.RowKit Go.Maps

def dH (kd:ByteArray) (n bit:Int) (b:Nat) (W:World):Prop:=W.heap[b]? = some (.cells #[.string kd,.string { data:=#[] },.bool false,.int .i64 n,.int .i64 bit] 33 (0,0))
section
variable {kd : ByteArray} {n bit : Int} {b T0 dp : Nat} {w w' : World}
theorem dH.below (h:dH kd n bit b w) (hb:Bl w w'):dH kd n bit b w':=(hb.block b (ja.1 h).1).trans h
theorem dH.cells (h:dH kd n bit b w):w.cell? ⟨b,3,none⟩=some (.int .i64 n)/\w.cell? ⟨b,4,none⟩=some (.int .i64 bit):=by
 constructor <;> rw [ze _ _ _ _ _ _ h] <;> rfl
theorem dH.pbut (h:dH kd n bit b w) (hb:bE T0 dp w w') (hne:b≠dp):dH kd n bit b w':=hb.block b _ h (.inr rfl) hne
theorem dH.dbut (h:dH kd n bit b w) (hb:bF T0 w w'):dH kd n bit b w':=hb.block b _ h (.inr rfl)
end
def lK (dp:Nat) (w w':World):Prop:=∀(k:Nat) (o:Obj),w.heap[k]? = some o->k≠dp->gA o=false->pc o=false->w'.heap[k]? = some o
section
variable {dp T0 : Nat} {w w1 w' : World}
theorem lK.trans (h:lK dp w w1) (h':lK dp w1 w'):lK dp w w':=fun k o hk hd ht hm=>h' k o (h k o hk hd ht hm) hd ht hm
theorem lK.of_below (h:Bl w w'):lK dp w w':=fun k _ hk _ _ _=>(h.block k (ja.1 hk).1).trans hk
theorem lK.of_d (h:bF T0 w w'):lK dp w w':=fun k o hk _ _ hm=>h.block k o hk (.inr hm)
theorem lK.of_p (h:bE T0 dp w w'):lK dp w w':=fun k o hk hd ht _=>h.block k o hk (.inr ht) hd
end
theorem dN (w:World) (q:Nat):Bl w (w.drewN q).drew:=⟨rfl,rfl,rfl,jd _,fun _ _=>rfl⟩
section
variable {a : Nat → Addr} {w0 W W' : World} {N d dp tb bb sp sb cap mb m1 m2 mw mt md j : Nat} {s s' : aA} {tr tr' : List (Option ah)} {pt pt' : List ab}
theorem B2.rotM (S:gg w0 N d dp tb bb sp sb cap mb m1 m2 mw mt md j s tr pt W) {k bit:Nat} {b:List UInt8} (hk:s.bl[k]? = some b) (hbit:bit<128) :
  Cl 32 #[.pointer (some ⟨md,0,none⟩),.int .i64 (k:Int),.int .i64 (bit:Int)] W fun e w1=>e = .returned (.tuple #[])/\bF w0.heap.size W w1/\B2 w0 N d dp tb bb sp sb cap mb m1 m2 mw mt md j s tr pt ⟨s.bl.set k (bg b bit),s.u,s.tab⟩ tr pt w1:=by
 obtain ⟨la,lc,us,vs,M⟩:=S.M;obtain ⟨la2,lc2,ia,ic,vs2,Mt⟩:=S.Mt;obtain ⟨n,hn,T⟩:=S.T;refine (vl k bit b W Mt.disk hk (T.disk.bl16 b (jg hk)) (fun x h=>by cases h) hbit (by simp)).mono fun e w1 ⟨he,M1,B1⟩=>?_;have B2:aG w0.heap.size W w1:=aG.of_mk Mt.disk S.ge.2.2 B1;have hD:=bF.of_mt B2;exact ⟨he,hD,S.docTo hD ⟨la,lc,us,vs,M.of_mt B2⟩ ⟨la2,lc2,ia,ic,vs2,Mt.redisk M1 (am.of_mk Mt.disk B1)⟩⟩
theorem B2.rotD {k bit:Nat} {b:List UInt8} (S:B2 w0 N d dp tb bb sp sb cap mb m1 m2 mw mt md j s tr pt ⟨s.bl.set k (bg b bit),s.u,s.tab⟩ tr pt W) (hk:s.bl[k]? = some b) (hbit:bit<128) :
  Cl 23 #[.pointer (some ⟨bb+1,0,none⟩),.int .i64 (k:Int),.int .i64 (bit:Int)] W fun e w1=>e = .returned .nilIface/\bE w0.heap.size dp W w1/\dG w0 N d dp tb bb sp sb cap mb m1 m2 mw mt md j w1:=by
 obtain ⟨n1,fb,hn1,D⟩:=S.D;obtain ⟨n,hn,T⟩:=S.T;obtain ⟨la,lc,us,vs,M⟩:=S.M;obtain ⟨la2,lc2,ia,ic,vs2,Mt⟩:=S.Mt;refine (sK k bit b W T.disk hk hbit (by simp)).mono fun e w1 ⟨he,D1,B1⟩=>?_;have B2:aT w0.heap.size mb W w1:=aT.of_but T.disk T.low.1 B1;have hP:bE w0.heap.size dp W w1:=.of_tb B2;exact ⟨he,hP,⟨s.bl.set k (bg b bit),s.u,s.tab⟩,tr,pt,⟨n1,fb,hn1,D.but B2⟩,⟨n,hn,T.redisk D1 B1 (by simp)⟩,⟨la,lc,us,vs,M.pbut hP ⟨_,D.box⟩⟩,⟨la2,lc2,ia,ic,vs2,Mt.pbut hP ⟨_,D.box⟩⟩,S.I.disk (by simp),S.few,hP.low S.low (jd _) D.low.1,S.ge,S.tl⟩
theorem xO (SN:aV a w0) (S:gg w0 N d dp tb bb sp sb cap mb m1 m2 mw mt md j s tr pt W) (kd:ByteArray) (hkd:(kd.toList == [114,111,116])=true) (n bit:Int) :
  Cl 8 #[.pointer (some ⟨tb,0,none⟩),.pointer (some ⟨mt,0,none⟩),.agg #[.string kd,.string { data:=#[] },.bool false,.int .i64 n,.int .i64 bit]] W fun e w'=>e = .returned (.bool true)/\dG w0 N d dp tb bb sp sb cap mb m1 m2 mw mt md j w'/\lK dp W w':=by
 have hkl:=eq_of_beq hkd;have kw:(kd.toList == [109,97,107,101])=false:=by rw [hkl];rfl
 have kl:(kd.toList == [108,105,110,107])=false:=by rw [hkl];rfl
 have ku:(kd.toList == [117,110,108,105,110,107])=false:=by rw [hkl];rfl
 have km:(kd.toList == [109,101,110,100])=false:=by rw [hkl];rfl
 clear hkl hkd;have hbw:Bl W (W.alloc (.cells #[.string kd,.string { data:=#[] },.bool false,.int .i64 n,.int .i64 bit] 33)):=(je _ W).alloc (jd _) _;have HBox:Hid (dH kd n bit W.heap.size (W.alloc (.cells #[.string kd,.string { data:=#[] },.bool false,.int .i64 n,.int .i64 bit] 33))):=heap_alloc_last W _
 have hne:W.heap.size≠dp:=by
  obtain ⟨n1,fb,hn1,D⟩:=S.D
  have:=(ja.1 D.box).1
  omega
 have HST:Hid (∀W',Bl (W.alloc (.cells #[.string kd,.string { data:=#[] },.bool false,.int .i64 n,.int .i64 bit] 33)) W'->gg w0 N d dp tb bb sp sb cap mb m1 m2 mw mt md j s tr pt W'):=fun W' h=>(S.below hbw).below h
 have HLB:∃la lc,(W.alloc (.cells #[.string kd,.string { data:=#[] },.bool false,.int .i64 n,.int .i64 bit] 33)).cell? ⟨mt,0,none⟩=some (.pointer (some ⟨md,0,none⟩))/\(W.alloc (.cells #[.string kd,.string { data:=#[] },.bool false,.int .i64 n,.int .i64 bit] 33)).cell? ⟨md,0,none⟩=some (.slice la N lc):=by
  obtain ⟨la,lc,ia,ic,vs,M⟩:=(S.below hbw).Mt;exact ⟨la,lc,M.cells.1,by rw [<-S.I.rf.sp.lbl];exact M.disk.lcell⟩
 obtain ⟨la,lc,cm0,cd0⟩:=HLB;have hlb:s.bl.length=N:=S.I.rf.sp.lbl;go_enter Tryz.func8,Tryz.ntmps8;by_cases hok:0<=n/\n<(N:Int)/\0<=bit/\bit<128
 ·obtain ⟨h0,h1,h2,h3⟩:=hok
  obtain ⟨kn,hkn⟩:∃kn:Nat,n=kn:=⟨n.toNat,by omega⟩;obtain ⟨bn,hbn⟩:∃bn:Nat,bit=bn:=⟨bit.toNat,by omega⟩;obtain ⟨b,hb⟩:∃b,s.bl[kn]? = some b:=⟨_,jc (by omega)⟩;have hbn8:bn<128:=(by omega);have g0:¬n<0:=(by omega);have g1:¬(N:Int)<=n:=(by omega);have g2:¬bit<0:=(by omega);have g3:¬(128:Int)<=bit:=by omega
  have HM0:Hid (∀W',Bl (W.alloc (.cells #[.string kd,.string { data:=#[] },.bool false,.int .i64 n,.int .i64 bit] 33)) W'->W'.cell? ⟨mt,0,none⟩=some (.pointer (some ⟨md,0,none⟩))):=fun W' h=>by
   obtain ⟨_,_,_,_,_,M⟩:=(HST.out W' h).Mt;exact M.cells.1
  have HRM:Hid (∀W',Bl (W.alloc (.cells #[.string kd,.string { data:=#[] },.bool false,.int .i64 n,.int .i64 bit] 33)) W'->Cl 32 #[.pointer (some ⟨md,0,none⟩),.int .i64 n,.int .i64 bit] W' fun e w1=>e = .returned (.tuple #[])/\w1.cell? ⟨mt,0,none⟩=some (.pointer (some ⟨md,0,none⟩))/\dH kd n bit W.heap.size w1/\∀w2,Bl w1 w2->(Cl 22 #[.pointer (some ⟨tb,0,none⟩)] w2 fun e w'=>e = .returned (.pointer (some ⟨bb+1,0,none⟩))/\w'=w2)/\Cl 23 #[.pointer (some ⟨bb+1,0,none⟩),.int .i64 n,.int .i64 bit] w2 fun e w3=>e = .returned .nilIface/\dH kd n bit W.heap.size w3/\Cl 9 #[.nilIface,.int .i64 0] w3 fun e w4=>e = .returned (.bool true)/\dH kd n bit W.heap.size w4/\dG w0 N d dp tb bb sp sb cap mb m1 m2 mw mt md j w4/\lK dp W w4):=fun W' h =>
   (by rw [hkn,hbn];exact (HST.out W' h).rotM hb hbn8:Cl 32 #[.pointer (some ⟨md,0,none⟩),.int .i64 n,.int .i64 bit] W' fun e w1=>e = .returned (.tuple #[])/\bF w0.heap.size W' w1/\B2 w0 N d dp tb bb sp sb cap mb m1 m2 mw mt md j s tr pt ⟨s.bl.set kn (bg b bn),s.u,s.tab⟩ tr pt w1).mono fun e w1 ⟨he,hD,S1⟩=>by
    have k1:=(HBox.out.below h).dbut hD;refine ⟨he,?_,k1,fun w2 h2=>⟨?_,?_⟩⟩
    ·obtain ⟨_,_,_,_,_,M⟩:=S1.Mt
     exact M.cells.1
    ·obtain ⟨n,hn,T⟩:=(S1.below h2).T
     exact gk _ T
    ·refine (by rw [hkn,hbn];exact (S1.below h2).rotD hb hbn8:Cl 23 #[.pointer (some ⟨bb+1,0,none⟩),.int .i64 n,.int .i64 bit] w2 fun e w1=>e = .returned .nilIface/\bE w0.heap.size dp w2 w1/\dG w0 N d dp tb bb sp sb cap mb m1 m2 mw mt md j w1).mono fun e w3 ⟨he,hP,hE⟩=>⟨he,(k1.below h2).pbut hP hne,?_⟩
     obtain ⟨s3,tr3,pt3,S3⟩:=hE;exact (pC SN S3.low (.inl ⟨rfl,rfl⟩)).mono fun e w4 ⟨he,hb⟩=>⟨he,((k1.below h2).pbut hP hne).below hb,⟨s3,tr3,pt3,S3.below hb⟩,(((((lK.of_below hbw).trans (.of_below h)).trans (.of_d hD)).trans (.of_below h2)).trans (.of_p hP)).trans (.of_below hb)⟩
  clear S SN HST hb hbn hbn8 hkn hne hbw hlb h0 h1 h2 h3;go_wp2_with fail
  go_quiet (fail)
  go_wp2_with fail
  refine zh (S:=fun w'=>w'.cell? ⟨mt,0,none⟩=some (.pointer (some ⟨md,0,none⟩))/\w'.cell? ⟨W.heap.size,3,none⟩=some (.int .i64 n)/\w'.cell? ⟨W.heap.size,4,none⟩=some (.int .i64 bit)) (by kernel_rfl) (⟨HM0.out _ (dN _ _),dH.cells (HBox.out.below (dN _ _))⟩) (fun hHeld=>?_);refine aW [(0,pZ mt 0),(1,pZ mt 0),(2,pZ mt 0),(3,pZ md 0),(4,pZ W.heap.size 3),(5,iZ n),(6,pZ W.heap.size 4),(7,iZ bit)] hHeld ?_;refine aC 8 rfl (fun K' hK=>?_);simp only [ai];go_simp;refine jk (HRM.out _ (dN _ _)) ?_;rintro e wx ⟨rfl,hm1,HB1,HS1⟩;go_wp2_with fail
  refine hK.out _ _ (⟨hm1,HB1.cells⟩) (fun hHeld=>?_);clear hK K';refine zk (by kernel_rfl) ?_ _;go_wp2_with fail
  have HB2:Hid (dH kd n bit W.heap.size wx.drew):=HB1.below (cV _);have HS2:=HS1 _ (cV wx);clear HM0 HRM HB1 HS1 hm1;refine zh (S:=fun w'=>w'.cell? ⟨W.heap.size,3,none⟩=some (.int .i64 n)/\w'.cell? ⟨W.heap.size,4,none⟩=some (.int .i64 bit)) (by kernel_rfl) (dH.cells HB2.out) (fun hHeld=>?_);refine aW [(0,pZ tb 0),(2,pZ W.heap.size 3),(3,iZ n),(4,pZ W.heap.size 4),(5,iZ bit)] hHeld ?_;refine aC 1 rfl (fun K' hK=>?_);simp only [ai];go_simp;refine jk (HS2.1) ?_;rintro e wx ⟨rfl,hw⟩;rw [hw];clear hw wx;go_wp2_with fail
  refine hK.out _ _ (dH.cells HB2.out) (fun hHeld=>?_);clear hK K';refine aC 6 rfl (fun K' hK=>?_);simp only [ai];go_simp;refine jk (HS2.2) ?_;rintro e wx ⟨rfl,HB3,HC3⟩;go_wp2_with fail
  refine hK.out _ _ (dH.cells HB3) (fun hHeld=>?_);clear hK K';refine aC 7 rfl (fun K' hK=>?_);simp only [ai];go_simp;refine jk (HC3) ?_;rintro e wx ⟨rfl,HB4,HQ⟩;go_wp2_with fail
  refine hK.out _ _ (dH.cells HB4) (fun hHeld=>?_);clear hK K';refine aC 8 rfl (fun K' hK=>?_);simp only [ai];go_simp;go_wp2_with fail
  refine hK.out _ _ (dH.cells HB4) (fun hHeld=>?_);clear hK K';refine zk (by kernel_rfl) ?_ _;go_wp2_with fail
  go_ret;exact ⟨rfl,HQ⟩
 ·have hrno:¬(iB s.bl.length n=true/\0<=bit/\bit<128):=fun h=>by
   have:=zu h.1
   rw [hlb] at this;exact hok ⟨this.1,this.2,h.2⟩
  have HDK:Hid (∀W',Bl (W.alloc (.cells #[.string kd,.string { data:=#[] },.bool false,.int .i64 n,.int .i64 bit] 33)) W'->Cl 22 #[.pointer (some ⟨tb,0,none⟩)] W' fun e w'=>e = .returned (.pointer (some ⟨bb+1,0,none⟩))/\w'=W'):=fun W' h=>by
   obtain ⟨n,hn,T⟩:=(HST.out W' h).T;exact gk _ T
  have HRN:Hid (∀W',Bl (W.alloc (.cells #[.string kd,.string { data:=#[] },.bool false,.int .i64 n,.int .i64 bit] 33)) W'->Cl 23 #[.pointer (some ⟨bb+1,0,none⟩),.int .i64 n,.int .i64 bit] W' fun e w'=>e = .returned (.iface 319 (.pointer (some (a 1))))/\w'=W'):=fun W' h=>by
   obtain ⟨n',hn,T⟩:=(HST.out W' h).T;exact mH n bit _ _ T.disk hrno (SN.below (HST.out W' h).low).c1
  have HCD:Hid (∀W',Bl (W.alloc (.cells #[.string kd,.string { data:=#[] },.bool false,.int .i64 n,.int .i64 bit] 33)) W'->Cl 9 #[.iface 319 (.pointer (some (a 1))),.int .i64 2] W' fun e w3=>e = .returned (.bool true)/\dH kd n bit W.heap.size w3/\dG w0 N d dp tb bb sp sb cap mb m1 m2 mw mt md j w3/\lK dp W w3):=fun W' h =>
   (pC SN (HST.out W' h).low (.inr ⟨1,by decide,rfl,rfl⟩)).mono fun e w3 ⟨he,hb⟩=>⟨he,(HBox.out.below h).below hb,⟨s,tr,pt,(HST.out W' h).below hb⟩,((lK.of_below hbw).trans (.of_below h)).trans (.of_below hb)⟩
  have hcase:n<0∨(¬n<0/\(N:Int)<=n)∨(¬n<0/\¬(N:Int)<=n/\bit<0)∨(¬n<0/\¬(N:Int)<=n/\¬bit<0/\128<=bit):=(by omega);clear S SN HST hrno hne hbw hlb hok
  rcases hcase with h0|⟨h0,h1⟩|⟨h0,h1,h2⟩|⟨h0,h1,h2,h3⟩
  all_goals
   go_wp2_with fail
   go_quiet (fail)
   go_wp2_with fail
   refine zh (S:=fun w'=>w'.cell? ⟨W.heap.size,3,none⟩=some (.int .i64 n)/\w'.cell? ⟨W.heap.size,4,none⟩=some (.int .i64 bit)) (by kernel_rfl) (dH.cells (HBox.out.below (dN _ _))) (fun hHeld=>?_);refine aW [(0,pZ tb 0),(2,pZ W.heap.size 3),(3,iZ n),(4,pZ W.heap.size 4),(5,iZ bit)] hHeld ?_;refine aC 1 rfl (fun K' hK=>?_);simp only [ai];go_simp;refine jk (HDK.out _ (dN _ _)) ?_;rintro e wx ⟨rfl,hw⟩;rw [hw];clear hw wx;go_wp2_with fail
   refine hK.out _ _ (dH.cells (HBox.out.below (dN _ _))) (fun hHeld=>?_);clear hK K';refine aC 6 rfl (fun K' hK=>?_);simp only [ai];go_simp;refine jk (HRN.out _ (dN _ _)) ?_;rintro e wx ⟨rfl,hw⟩;rw [hw];clear hw wx;go_wp2_with fail
   refine hK.out _ _ (dH.cells (HBox.out.below (dN _ _))) (fun hHeld=>?_);clear hK K';refine aC 7 rfl (fun K' hK=>?_);simp only [ai];go_simp;refine jk (HCD.out _ (dN _ _)) ?_;rintro e wx ⟨rfl,hb3,HQ⟩;go_wp2_with fail
   refine hK.out _ _ (dH.cells hb3) (fun hHeld=>?_);clear hK K';refine aC 8 rfl (fun K' hK=>?_);simp only [ai];go_simp;go_wp2_with fail
   refine hK.out _ _ (dH.cells hb3) (fun hHeld=>?_);clear hK K';refine zk (by kernel_rfl) ?_ _;go_wp2_with fail
   go_ret;exact ⟨rfl,HQ⟩
end
end
section
set_option maxRecDepth 100000
open Go.RowKit Go.Maps

theorem nZ (G:Nat->Nat) (L:List (Nat×ByteArray×Nat)) {i k:Nat} (h:i<=k):cY G (L.take i)<=cY G (L.take k):=by
 rw [show L.take i=(L.take k).take i by rw [List.take_take,yu h]];exact ((List.take_sublist i _).filter _).length_le
section
variable {a : Nat → Addr} {w0 W W' : World} {N d dp tb bb sp sb cap mb m1 m2 mw mt md j : Nat} {s : aA} {tr : List (Option ah)} {pt : List ab}
theorem IX (E:kj a w0) (S:gg w0 N d dp tb bb sp sb cap mb m1 m2 mw mt md j s tr pt W) (hj:j<=900) (hd:d<=900) (hsum:∃p,w0.cell? ⟨2,0,none⟩=some (.iface 319 p)) :
  Cl 50 #[.pointer (some ⟨dp,0,none⟩)] W fun e w1=>∃bv:Bool,e = .returned (.tuple #[.bool bv,.nilIface])/\bE w0.heap.size dp W w1/\Cl 51 #[.pointer (some ⟨mw,0,none⟩)] w1 fun e2 w2=>e2 = .returned (.bool bv)/\bF w0.heap.size w1 w2/\dG w0 N d dp tb bb sp sb cap mb m1 m2 mw mt md j w2:=by
 refine (CP E S hj hd hsum).mono fun e w1 ⟨z,he,i,s',tr',S1,hb,_,⟨_,hrun⟩,hi,hz,hend,hP⟩=>⟨_,he,hP,?_⟩;refine (CU S.I S.few S.tl hb.symm hj hd (jq _) (sq S1)).mono fun e2 w2 h=>?_;have h0:cY (gW s) ((aj tr).take 0)=0:=rfl
 rcases h with ⟨he2,hA,hc,hD⟩|⟨m,f,_,hf,hne,he2,hA,hc,hD⟩
 ·have h1:=nZ (gW s) (aj tr) hi
  rw [jS] at h1;obtain rfl:z=0:=by omega
  refine ⟨he2,hD,s',tr',pt,?_⟩
  rcases hend with ⟨rfl,_⟩|⟨h2,_⟩
  ·unfold fC at hA
   rw [<-hrun] at hA;exact hA
  ·exact absurd h2 (by decide)
 ·have h1:=lY (G:=gW s) hf
  rw [zi hne] at h1;have hml:=(jb.1 hf).1
  rcases hend with ⟨rfl,h2⟩|⟨h2,k,rfl,h3⟩
  ·have h4:=nZ (gW s) (aj tr) (i:=m+1) (k:=(aj tr).length) (by omega)
   omega
  ·obtain rfl:z=1:=by omega
   obtain rfl:k=m:=by
    rcases Nat.lt_trichotomy k m with h5|h5|h5
    ·have h4:=nZ (gW s) (aj tr) (i:=k+1) (k:=m) (by omega)
     omega
    ·exact h5
    ·have h4:=nZ (gW s) (aj tr) (i:=m+1) (k:=k) (by omega)
     omega
   refine ⟨he2,hD,s',tr',pt,?_⟩;unfold fC at hA;rw [<-hrun] at hA;exact hA
theorem Jy (E:kj a w0) (S:gg w0 N d dp tb bb sp sb cap mb m1 m2 mw mt md j s tr pt W) (hj:j<=900) (hd:d<=900) (hsum:∃p,w0.cell? ⟨2,0,none⟩=some (.iface 319 p)) :
  Cl 52 #[.pointer (some ⟨dp,0,none⟩)] W fun e w1=>∃z:Int,e = .returned (.tuple #[.int .i64 z,.nilIface])/\bE w0.heap.size dp W w1/\Cl 53 #[.pointer (some ⟨mw,0,none⟩)] w1 fun e2 w2=>e2 = .returned (.int .i64 z)/\bF w0.heap.size w1 w2/\dG w0 N d dp tb bb sp sb cap mb m1 m2 mw mt md j w2:=by
 have hlen:(aj tr).length<=40000:=by
  have h1:=congrArg List.length S.I.fl;rw [jB,jB] at h1;rw [h1];exact S.refs (by omega)
 refine (CQ E S hj hd hsum).mono fun e w1 ⟨z,he,i,s',tr',S1,hb,_,⟨_,hrun⟩,hi,hz,hend,hP⟩=>⟨_,he,hP,?_⟩;have h1:=CS (gW s) ((aj tr).take i);rw [js] at h1
 rcases hend with ⟨rfl,_⟩|⟨h2,_⟩
 ·refine (CV S.I S.few S.tl hb.symm hj hd hlen (sq S1)).mono fun e2 w2 ⟨he2,hA,hD⟩=>?_
  rw [jS] at hz;refine ⟨by rw [he2,hz],hD,s',tr',pt,?_⟩;unfold fC at hA;rw [<-hrun] at hA;exact hA
 ·omega
theorem dG.up {j':Nat} (h:dG w0 N d dp tb bb sp sb cap mb m1 m2 mw mt md j W) (hj:j<=j'):dG w0 N d dp tb bb sp sb cap mb m1 m2 mw mt md j' W:=by
 obtain ⟨s,tr,pt,S⟩:=h;exact ⟨s,tr,pt,S.up hj⟩
theorem wL (E:kj a w0) (hsum:w0.cell? ⟨2,0,none⟩=some (.iface 319 (.pointer (some (a 10))))) (SN:aV a w0) (S:gg w0 N d dp tb bb sp sb cap mb m1 m2 mw mt md j s tr pt W) (hj:j<=50) (hd:d<=900) (hN5:N<=512) (x:dT) (ua:Option Addr) (uc:Nat) (hk:(Lit.int .i64 x.k).wf=true) (hn:(Lit.int .i64 x.n).wf=true) (hp:x.path.size<=100) (hsm:fM d x.node) (hl:aE w0 w0.heap.size (d+1) x.node.kids (.slice ua x.node.kids.length uc)) :
  Cl 54 #[.pointer (some ⟨dp,0,none⟩),.pointer (some ⟨mw,0,none⟩),.agg #[.string x.kind,.string x.path,.string x.s,.string x.node.kind,.string x.node.data,.bool x.node.exec,.slice ua x.node.kids.length uc,.int .i64 x.k,.int .i64 x.n,.int .i64 x.bit]] W fun e w'=>e = .returned (.bool true)/\dG w0 N d dp tb bb sp sb cap mb m1 m2 mw mt md (j+1) w':=by
 by_cases hkk:(x.kind.toList == [112,117,116]||x.kind.toList == [100,114,111,112]||x.kind.toList == [115,104,97,114,101])=true
 ·exact xN E hsum SN S hj hd hN5 x ua uc hk hn hp hsm hl hkk
 ·rw [Bool.not_eq_true,qh,qh] at hkk
  obtain ⟨⟨kp,kd⟩,ks⟩:=hkk;have hbw:Bl W (W.alloc (.cells #[.string x.kind,.string x.path,.string x.s,.string x.node.kind,.string x.node.data,.bool x.node.exec,.slice ua x.node.kids.length uc,.int .i64 x.k,.int .i64 x.n,.int .i64 x.bit] 55)):=(je _ W).alloc (jd _) _;have hbx:dz x ua uc W.heap.size (W.alloc (.cells #[.string x.kind,.string x.path,.string x.s,.string x.node.kind,.string x.node.data,.bool x.node.exec,.slice ua x.node.kids.length uc,.int .i64 x.k,.int .i64 x.n,.int .i64 x.bit] 55)):=heap_alloc_last W _;have HE:Hid (dG w0 N d dp tb bb sp sb cap mb m1 m2 mw mt md (j+1) (W.alloc (.cells #[.string x.kind,.string x.path,.string x.s,.string x.node.kind,.string x.node.data,.bool x.node.exec,.slice ua x.node.kids.length uc,.int .i64 x.k,.int .i64 x.n,.int .i64 x.bit] 55))):=⟨s,tr,pt,(S.below hbw).up (by omega)⟩
  cases kr:(x.kind.toList == [114,111,116]) with
  | false =>
   clear E hsum SN S hsm hl hbw hbx;go_enter Tryz.func54,Tryz.ntmps54;go_wp2_with fail
   go_ret;exact ⟨rfl,HE.out⟩
  | true =>
   have HC0:Hid (∀w',Bl (W.alloc (.cells #[.string x.kind,.string x.path,.string x.s,.string x.node.kind,.string x.node.data,.bool x.node.exec,.slice ua x.node.kids.length uc,.int .i64 x.k,.int .i64 x.n,.int .i64 x.bit] 55)) w'->(w'.cell? ⟨mw,0,none⟩=some (.pointer (some ⟨mt,0,none⟩))/\w'.cell? ⟨W.heap.size,0,none⟩=some (.string x.kind)/\w'.cell? ⟨W.heap.size,8,none⟩=some (.int .i64 x.n)/\w'.cell? ⟨W.heap.size,9,none⟩=some (.int .i64 x.bit))):=fun w' h=>by
    obtain ⟨_,_,_,_,M⟩:=((S.below hbw).below h).M;have k:=hbx.below h;exact ⟨M.cells.1,k.cell 0,k.cell 8,k.cell 9⟩
   have HTB:Hid (∀w',Bl (W.alloc (.cells #[.string x.kind,.string x.path,.string x.s,.string x.node.kind,.string x.node.data,.bool x.node.exec,.slice ua x.node.kids.length uc,.int .i64 x.k,.int .i64 x.n,.int .i64 x.bit] 55)) w'->Cl 95 #[.pointer (some ⟨dp,0,none⟩)] w' fun e w2=>e = .returned (.pointer (some ⟨tb,0,none⟩))/\w2=w'):=fun w' h=>by
    obtain ⟨_,_,_,D⟩:=((S.below hbw).below h).D;exact rG D
   have HRF:Hid (∀w',Bl (W.alloc (.cells #[.string x.kind,.string x.path,.string x.s,.string x.node.kind,.string x.node.data,.bool x.node.exec,.slice ua x.node.kids.length uc,.int .i64 x.k,.int .i64 x.n,.int .i64 x.bit] 55)) w'->Cl 8 #[.pointer (some ⟨tb,0,none⟩),.pointer (some ⟨mt,0,none⟩),.agg #[.string x.kind,.string { data:=#[] },.bool false,.int .i64 x.n,.int .i64 x.bit]] w' fun e w2=>e = .returned (.bool true)/\dG w0 N d dp tb bb sp sb cap mb m1 m2 mw mt md (j+1) w2/\(w2.cell? ⟨mw,0,none⟩=some (.pointer (some ⟨mt,0,none⟩))/\w2.cell? ⟨W.heap.size,0,none⟩=some (.string x.kind)/\w2.cell? ⟨W.heap.size,8,none⟩=some (.int .i64 x.n)/\w2.cell? ⟨W.heap.size,9,none⟩=some (.int .i64 x.bit))):=fun w' h =>
    (xO SN ((S.below hbw).below h) x.kind kr x.n x.bit).mono fun e w2 ⟨he,hE,hF⟩=>by
     have hbk:=hbx.below h
     have hne:W.heap.size≠dp:=by
      obtain ⟨_,_,_,D⟩:=S.D
      have:=(ja.1 D.box).1
      omega
     have hb2:dz x ua uc W.heap.size w2:=hF _ _ hbk hne rfl rfl;obtain ⟨s2,tr2,pt2,E2⟩:=hE;obtain ⟨_,_,_,_,M⟩:=E2.M;exact ⟨he,⟨s2,tr2,pt2,E2.up (by omega)⟩,M.cells.1,hb2.cell 0,hb2.cell 8,hb2.cell 9⟩
   clear E hsum SN S hsm hl hbw hbx HE;go_enter Tryz.func54,Tryz.ntmps54;go_wp2_with fail
   refine zh (S:=fun w'=>w'.cell? ⟨mw,0,none⟩=some (.pointer (some ⟨mt,0,none⟩))/\w'.cell? ⟨W.heap.size,0,none⟩=some (.string x.kind)/\w'.cell? ⟨W.heap.size,8,none⟩=some (.int .i64 x.n)/\w'.cell? ⟨W.heap.size,9,none⟩=some (.int .i64 x.bit)) (by kernel_rfl) (HC0.out _ (cV _)) (fun hHeld=>?_);refine aW [(0,pZ dp 0),(2,pZ mw 0),(3,pZ mw 0),(4,pZ mw 0),(5,pZ mt 0),(6,pZ W.heap.size 0),(7,.string x.kind),(8,pZ W.heap.size 8),(9,iZ x.n),(10,pZ W.heap.size 9),(11,iZ x.bit),(12,.agg #[.string x.kind,.string { data:=#[] },.bool false,.int .i64 x.n,.int .i64 x.bit])] hHeld ?_;refine aC 1 rfl (fun K' hK=>?_);simp only [ai];go_simp;refine jk (HTB.out _ (cV _)) ?_;rintro e wx ⟨rfl,hw⟩;rw [hw];clear hw wx;go_wp2_with fail
   refine hK.out _ _ (HC0.out _ (cV _)) (fun hHeld=>?_);clear hK K';refine aC 13 rfl (fun K' hK=>?_);simp only [ai];go_simp;refine jk (HRF.out _ (cV _)) ?_;rintro e wx ⟨rfl,HQ,hS⟩;go_wp2_with fail
   refine hK.out _ _ (by exact hS) (fun hHeld=>?_);clear hK K';refine aC 14 rfl (fun K' hK=>?_);simp only [ai];go_simp;go_wp2_with fail
   refine hK.out _ _ (by exact hS) (fun hHeld=>?_);clear hK K';refine zk (by kernel_rfl) ?_ _;go_wp2_with fail
   go_ret;exact ⟨rfl,HQ⟩
end
end
section
set_option maxRecDepth 100000
open Go.RowKit Go.Maps

section
variable {a : Nat → Addr} {w0 W W' : World} {N d dp tb bb sp sb cap mb m1 m2 mw mt md j : Nat} {s s' : aA} {tr tr' : List (Option ah)} {pt pt' : List ab}
end
end
end Go.Proofs.YthofhjnfkholoaaGreatDoor
