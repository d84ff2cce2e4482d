/-
  Code Mf SpU MkN, joined.
  Conditions: those that each states.
-/
import Derived.Test.YthofhjnfkholoaaGreatDoorQ13
import Derived.Outline
namespace Go.Proofs.YthofhjnfkholoaaGreatDoor
set_option maxHeartbeats 2000000
section
set_option maxRecDepth 100000
open Go.RowKit Go.Extern.Stop Go.Stop Go.Extern

def Fv:List Nat:=[6,4,0,7,8,1,3,5,9,10,2,11,12]
def gv (i:Nat):Nat:=Fv.getD i 0
structure aV (a:Nat->Addr) (w:World):Prop where
 cell:∀i,i<13->w.cell? ⟨gv i,0,none⟩=some (.iface 319 (.pointer (some (a i))))
 row:∀i,i<13->∃ca ta,w.heap[(a i).block]? = some (.cells ca ta (0,0))
 ne:∀i j,i<13->j<13->i≠j->a i≠a j
 et:w.cell? ⟨13,0,none⟩=some (.iface 231 (.agg #[.pointer (some ⟨20,36,none⟩)]))

theorem aV.c0 {a:Nat->Addr} {w:World} (S:aV a w):w.cell? ⟨6,0,none⟩=some (.iface 319 (.pointer (some (a 0)))):=S.cell 0 (by decide)
theorem aV.c1 {a:Nat->Addr} {w:World} (S:aV a w):w.cell? ⟨4,0,none⟩=some (.iface 319 (.pointer (some (a 1)))):=S.cell 1 (by decide)
theorem aV.c2 {a:Nat->Addr} {w:World} (S:aV a w):w.cell? ⟨0,0,none⟩=some (.iface 319 (.pointer (some (a 2)))):=S.cell 2 (by decide)
theorem aV.c3 {a:Nat->Addr} {w:World} (S:aV a w):w.cell? ⟨7,0,none⟩=some (.iface 319 (.pointer (some (a 3)))):=S.cell 3 (by decide)
theorem aV.c4 {a:Nat->Addr} {w:World} (S:aV a w):w.cell? ⟨8,0,none⟩=some (.iface 319 (.pointer (some (a 4)))):=S.cell 4 (by decide)
theorem aV.c5 {a:Nat->Addr} {w:World} (S:aV a w):w.cell? ⟨1,0,none⟩=some (.iface 319 (.pointer (some (a 5)))):=S.cell 5 (by decide)
theorem aV.c6 {a:Nat->Addr} {w:World} (S:aV a w):w.cell? ⟨3,0,none⟩=some (.iface 319 (.pointer (some (a 6)))):=S.cell 6 (by decide)
theorem aV.c7 {a:Nat->Addr} {w:World} (S:aV a w):w.cell? ⟨5,0,none⟩=some (.iface 319 (.pointer (some (a 7)))):=S.cell 7 (by decide)
theorem aV.c8 {a:Nat->Addr} {w:World} (S:aV a w):w.cell? ⟨9,0,none⟩=some (.iface 319 (.pointer (some (a 8)))):=S.cell 8 (by decide)
theorem aV.c9 {a:Nat->Addr} {w:World} (S:aV a w):w.cell? ⟨10,0,none⟩=some (.iface 319 (.pointer (some (a 9)))):=S.cell 9 (by decide)
theorem aV.c10 {a:Nat->Addr} {w:World} (S:aV a w):w.cell? ⟨2,0,none⟩=some (.iface 319 (.pointer (some (a 10)))):=S.cell 10 (by decide)
theorem aV.c11 {a:Nat->Addr} {w:World} (S:aV a w):w.cell? ⟨11,0,none⟩=some (.iface 319 (.pointer (some (a 11)))):=S.cell 11 (by decide)
theorem aV.c12 {a:Nat->Addr} {w:World} (S:aV a w):w.cell? ⟨12,0,none⟩=some (.iface 319 (.pointer (some (a 12)))):=S.cell 12 (by decide)
theorem aV.below {a:Nat->Addr} {w w':World} (S:aV a w) (hb:Bl w w'):aV a w' where
 cell i hi:=by rw [hb.cell (aJ (S.cell i hi))];exact S.cell i hi
 row i hi:=by
  obtain ⟨ca,ta,h⟩:=S.row i hi;exact ⟨ca,ta,by rw [hb.block _ (bL h)];exact h⟩
 ne:=S.ne
 et:=by rw [hb.cell (aJ S.et)];exact S.et

theorem BN (e t:Addr) (w:World) (hg:w.cell? ⟨13,0,none⟩=some (.iface 231 (.agg #[.pointer (some ⟨20,36,none⟩)]))) :
  Cl 69 #[.iface 319 (.pointer (some e)),.iface 152 (.pointer (some t))] w fun ev w'=>ev = .returned (.bool false)/\Bl w w':=by
 refine (D7 e t w hg).mono ?_;rintro ev w' ⟨rfl,rfl⟩;exact ⟨rfl,by go_grown⟩
theorem vm (w:World):Cl 33 #[.nilIface] w fun e w'=>e = .returned (.tuple #[.int .i64 0,.int .i64 (-1)])/\w'=w:=by
 go_enter Tryz.func33,Tryz.ntmps33
 go_wp2
 go_ret2;exact ⟨rfl,rfl⟩

theorem D9 (a:Nat->Addr) (w1:World) (k:Nat) (hk:k<13) :
  (w1.alloc (.cells #[.iface 319 (.pointer (some (a 0))),.iface 319 (.pointer (some (a 1))),.iface 319 (.pointer (some (a 2))),.iface 319 (.pointer (some (a 3))),.iface 319 (.pointer (some (a 4))),.iface 319 (.pointer (some (a 5))),.iface 319 (.pointer (some (a 6))),.iface 319 (.pointer (some (a 7))),.iface 319 (.pointer (some (a 8))),.iface 319 (.pointer (some (a 9))),.iface 319 (.pointer (some (a 10))),.iface 319 (.pointer (some (a 11))),.iface 319 (.pointer (some (a 12)))] 36)).cell? ⟨w1.heap.size,k,none⟩=some (.iface 319 (.pointer (some (a k)))):=by
 rw [yE _ _ _ _ rfl];have h:k=0∨k=1∨k=2∨k=3∨k=4∨k=5∨k=6∨k=7∨k=8∨k=9∨k=10∨k=11∨k=12:=by omega
 rcases h with h|h|h|h|h|h|h|h|h|h|h|h|h <;> subst h <;> rfl

theorem zX (a:Nat->Addr) (p:Addr) (n:Nat) (w:World) (S:aV a w) (hn:n<=13) (hlt:∀k,k<n->p≠a k) (hat:n<13->p=a n) (hrow:∃ca ta,w.heap[p.block]? = some (.cells ca ta (0,0))) :
  Cl 33 #[.iface 319 (.pointer (some p))] w fun e w'=>e = .returned (.tuple #[.int .i64 (if n<13 then (n:Int)+1 else -1),.int .i64 (-1)])/\Bl w w':=by
 have hg:(w.alloc (.cells #[.pointer none] 150)).cell? ⟨13,0,none⟩=some (.iface 231 (.agg #[.pointer (some ⟨20,36,none⟩)])):=by
  rw [World.cell?_alloc_lt _ _ _ (aJ S.et)];exact S.et
 go_enter Tryz.func33,Tryz.ntmps33;go_wp2_with fail
 refine (BN p ⟨w.heap.size,0,none⟩ _ hg).mono ?_;rintro e w1 ⟨rfl,hb⟩;have hb0:Bl w w1:=((je _ _).alloc (jd _) _).trans (hb.mono (by simp));have S1:=S.below hb0;have c0:=S1.c0;have c1:=S1.c1;have c2:=S1.c2;have c3:=S1.c3;have c4:=S1.c4;have c5:=S1.c5;have c6:=S1.c6;have c7:=S1.c7;have c8:=S1.c8;have c9:=S1.c9;have c10:=S1.c10;have c11:=S1.c11;have c12:=S1.c12;clear hg hb;go_wp2_with fail
 have hb2:Bl w (w1.alloc (.cells #[.iface 319 (.pointer (some (a 0))),.iface 319 (.pointer (some (a 1))),.iface 319 (.pointer (some (a 2))),.iface 319 (.pointer (some (a 3))),.iface 319 (.pointer (some (a 4))),.iface 319 (.pointer (some (a 5))),.iface 319 (.pointer (some (a 6))),.iface 319 (.pointer (some (a 7))),.iface 319 (.pointer (some (a 8))),.iface 319 (.pointer (some (a 9))),.iface 319 (.pointer (some (a 10))),.iface 319 (.pointer (some (a 11))),.iface 319 (.pointer (some (a 12)))] 36)):=hb0.alloc hb0.size _;have S2:=S.below hb2;have hc:=D9 a w1;obtain ⟨cp,tp,hp⟩:=hrow;have hp2:(w1.alloc (.cells #[.iface 319 (.pointer (some (a 0))),.iface 319 (.pointer (some (a 1))),.iface 319 (.pointer (some (a 2))),.iface 319 (.pointer (some (a 3))),.iface 319 (.pointer (some (a 4))),.iface 319 (.pointer (some (a 5))),.iface 319 (.pointer (some (a 6))),.iface 319 (.pointer (some (a 7))),.iface 319 (.pointer (some (a 8))),.iface 319 (.pointer (some (a 9))),.iface 319 (.pointer (some (a 10))),.iface 319 (.pointer (some (a 11))),.iface 319 (.pointer (some (a 12)))] 36)).heap[p.block]? = some (.cells cp tp (0,0)):=by rw [hb2.block _ (bL hp)];exact hp
 generalize w1.alloc (.cells #[.iface 319 (.pointer (some (a 0))),.iface 319 (.pointer (some (a 1))),.iface 319 (.pointer (some (a 2))),.iface 319 (.pointer (some (a 3))),.iface 319 (.pointer (some (a 4))),.iface 319 (.pointer (some (a 5))),.iface 319 (.pointer (some (a 6))),.iface 319 (.pointer (some (a 7))),.iface 319 (.pointer (some (a 8))),.iface 319 (.pointer (some (a 9))),.iface 319 (.pointer (some (a 10))),.iface 319 (.pointer (some (a 11))),.iface 319 (.pointer (some (a 12)))] 36)=W2 at *;clear S1 c0 c1 c2 c3 c4 c5 c6 c7 c8 c9 c10 c11 c12 hb0 S hp
 go_loop [3,31] (fun v i=>v = .int .i64 (-1)/\∃k:Nat,k<=n/\i = .int .i64 k) (fun _ i=>13-(intOf i).toNat)
 case atStart=>exact ⟨rfl,0,jq _,rfl⟩
 case round =>
  obtain ⟨rfl,k,hk,rfl⟩:=hrel;by_cases h13:k<13
  ·have hck:=hc k h13
   by_cases hkn:k<n
   ·have hne:=hlt k hkn
    obtain ⟨ck,tk,hrk⟩:=S2.row k h13;have H:=kH hne;clear hne hc hlt hat;go_wp2_with fail
    refine (DZ p (a k) cp ck tp tk _ H.out hp2 hrk).mono ?_;rintro e w' ⟨rfl,rfl⟩;go_wp2_with fail
    go_round
    case rel=>exact ⟨rfl,k+1,by omega,by go_num⟩
    case measure=>simp [intOf];omega
   ·have ekn:k=n:=by omega
    subst ekn;have ep:=hat h13;subst ep;clear hc hlt hat;go_wp2_with fail
    refine (F4 (a k) _).mono ?_;rintro e w' ⟨rfl,rfl⟩;go_wp2_with fail
    go_ret2;exact ⟨rfl,hb2⟩
  ·clear hc hlt hat
   go_wp2_with fail
   go_ret2;exact ⟨rfl,hb2⟩

theorem j4 (c:Int) (w:World):Cl 9 #[.nilIface,.int .i64 c] w fun e w'=>e = .returned (.bool (decide (c=0)))/\w'=w:=by
 by_cases hc:c=0
 ·subst hc
  go_enter Tryz.func9,Tryz.ntmps9
  go_wp2_with (go_at_call 33;refine (vm _).mono ?_;rintro e w' ⟨rfl,rfl⟩)
  go_ret;exact ⟨rfl,rfl⟩
 ·have h:((0:Int)==c)=false:=by simp;omega
  have hd:Hid (decide (c=0)=false):=show _=_ by simp [hc]
  clear hc;go_enter Tryz.func9,Tryz.ntmps9
  go_wp2_with (go_at_call 33;refine (vm _).mono ?_;rintro e w' ⟨rfl,rfl⟩)
  go_ret;exact ⟨by rw [hd.out];rfl,rfl⟩
theorem ib (a:Nat->Addr) (n:Nat) (c:Int) (w:World) (S:aV a w) (hn:n<13) :
  Cl 9 #[.iface 319 (.pointer (some (a n))),.int .i64 c] w fun e w'=>e = .returned (.bool (decide (c=(n:Int)+1)))/\Bl w w':=by
 have hcode:=zX a (a n) n w S (Nat.le_of_lt hn) (fun k hk=>S.ne n k hn (by omega) (by omega)) (fun _=>rfl) (S.row n hn);rw [zj hn] at hcode;have HC:Hid _:=hcode;clear hcode;by_cases hc:c=(n:Int)+1
 ·subst hc
  go_enter Tryz.func9,Tryz.ntmps9;go_wp2_with fail
  refine jk HC.out ?_;rintro e w' ⟨rfl,hb⟩
  go_wp2
  go_ret;exact ⟨by simp,hb⟩
 ·have h:(((n:Int)+1)==c)=false:=by simp;omega
  have hd:Hid (decide (c=(n:Int)+1)=false):=show _=_ by simp [hc]
  clear hc;go_enter Tryz.func9,Tryz.ntmps9;go_wp2_with fail
  refine jk HC.out ?_;rintro e w' ⟨rfl,hb⟩
  go_wp2
  go_ret;exact ⟨by rw [hd.out];rfl,hb⟩
end
section
set_option maxRecDepth 100000
open Go.RowKit

structure dZ (w0:World) (T0 tb bb mt md i:Nat) (bl:List (List UInt8)) (u:List Bool) (tab:List (Option ak)) (W:World):Prop where
 t:∃sp sb cap mb n,n<=i/\aq W (fun _=>False) T0 tb bb sp sb cap mb n bl u tab
 m:∃la lc ia ic vs,ay W T0 mt md la lc ia ic bl tab vs
 b:Below T0 w0 W
 s:T0=w0.heap.size
 l:T0<=md/\T0<=mt
structure fG (N i:Nat) (bl:List (List UInt8)) (u:List Bool) (tab:List (Option ak)):Prop where
 sp:aY N bl u tab
 n5:N<=512
 li:∀k x,af tab k=some x->x.links<=i+1/\x.sum<4294967296
section
variable {w0 W W' : World} {T0 tb bb mt md i N : Nat} {bl bl' : List (List UInt8)} {u u' : List Bool} {tab tab' : List (Option ak)} {a : Nat → Addr}
theorem dZ.size (Q:dZ w0 T0 tb bb mt md i bl u tab W):T0<=W.heap.size:=by rw [Q.s];exact jm (by rw [<-Q.s];exact jd _) Q.b.size
theorem dZ.below (Q:dZ w0 T0 tb bb mt md i bl u tab W) (h:Below W.heap.size W W'):dZ w0 T0 tb bb mt md i bl u tab W':=by
 obtain ⟨⟨sp,sb,cap,mb,n,hn,T⟩,⟨la,lc,ia,ic,vs,M⟩,b,s,l⟩:=id Q;exact ⟨⟨sp,sb,cap,mb,n,hn,T.below h⟩,⟨la,lc,ia,ic,vs,M.below h⟩,b.trans (h.mono Q.size),s,l⟩
theorem dZ.sents (Q:dZ w0 T0 tb bb mt md i bl u tab W) (S:aV a w0):aV a W:=S.below (by show Below _ _ _;rw [<-Q.s];exact Q.b)
theorem dZ.mono {i':Nat} (Q:dZ w0 T0 tb bb mt md i bl u tab W) (h:i<=i'):dZ w0 T0 tb bb mt md i' bl u tab W:=by
 obtain ⟨⟨sp,sb,cap,mb,n,hn,T⟩,m,b,s,l⟩:=Q;exact ⟨⟨sp,sb,cap,mb,n,jm hn h,T⟩,m,b,s,l⟩
theorem fG.mono {i':Nat} (P:fG N i bl u tab) (h:i<=i'):fG N i' bl u tab:=⟨P.sp,P.n5,fun k x hx=>⟨by have:=(P.li k x hx).1;omega,(P.li k x hx).2⟩⟩
theorem dZ.len (Q:dZ w0 T0 tb bb mt md i bl u tab W):tab.length<=i/\(∀b∈bl,b.length=16):=by
 obtain ⟨⟨sp,sb,cap,mb,n,hn,T⟩,_⟩:=Q;exact ⟨jm T.low.2.2.2.2.2.1 hn,T.disk.bl16⟩
theorem fG.need (P:fG N i bl u tab) {k:Nat} {x:ak} (hx:af tab k=some x):x.blocks.length<=1000/\x.bytes<=2000/\x.bytes<=x.blocks.length*16/\(∀b∈x.blocks,b<bl.length):=by
 obtain ⟨_,_,_,h4,h5⟩:=P.sp.own k x hx;refine ⟨?_,h4,?_,fun b hb=>by rw [P.sp.lbl];exact P.sp.lt hx b hb⟩
 ·rw [h5];unfold aw;omega
 ·rw [h5];exact lM _
theorem fG.ok (P:fG N i bl u tab) (h:tab.length<=5000):ry tab:=⟨h,fun _ _ hx=>(P.need hx).1⟩
theorem dZ.both (Q:dZ w0 T0 tb bb mt md i bl u tab W) {w1 w2:World} {i' mb:Nat} (ht:∃sp sb cap mb n,n<=i'/\aq w1 (fun _=>False) T0 tb bb sp sb cap mb n bl' u' tab') (h1:aT T0 mb W w1) (hm:∃la lc ia ic vs,ay w2 T0 mt md la lc ia ic bl' tab' vs) (h2:aG T0 w1 w2):dZ w0 T0 tb bb mt md i' bl' u' tab' w2:=by
 obtain ⟨sp,sb,cap,mb,n,hn,T⟩:=ht;have hb1:Below T0 w0 w1:=h1.below (jd _) Q.size Q.b;have hs1:T0<=w1.heap.size:=jm Q.size h1.size;exact ⟨⟨sp,sb,cap,mb,n,hn,T.mtb h2⟩,hm,h2.below (jd _) hs1 hb1,Q.s,Q.l⟩
def dc (w0:World) (T0 tb bb mt md N i:Nat) (w':World):Prop:=∃bl u tab,dZ w0 T0 tb bb mt md i bl u tab w'/\fG N i bl u tab
theorem dc.below {w1 w2:World} (h:dc w0 T0 tb bb mt md N i w1) (hb:Below w1.heap.size w1 w2):dc w0 T0 tb bb mt md N i w2:=by
 obtain ⟨bl,u,tab,Q,P⟩:=h;exact ⟨bl,u,tab,Q.below hb,P⟩
def fe (o:Obj):Bool:=gA o||sL o
theorem am.trans {p:Obj->Bool} {w1 w2 w3:World} (h:am p w1 w2) (h':am p w2 w3):am p w1 w3:=fun k o hk hp=>h' k o (h k o hk hp) hp
theorem aT.q {w1 w2:World} {mb:Nat} (h:aT T0 mb w1 w2):am fe w1 w2:=fun k o hk hp=>h.block k o hk (.inr (by unfold fe at hp;simp only [qh] at hp;exact hp.1))
theorem aG.q {w1 w2:World} (h:aG T0 w1 w2):am fe w1 w2:=fun k o hk hp=>h.block k o hk (.inr (by unfold fe at hp;simp only [qh] at hp;exact hp.2))
theorem am.same (p:Obj->Bool) (w:World):am p w w:=fun _ _ hk _=>hk
def zY (P:Program) (f g:Nat) (fa ga:Array Value) (k:Option Int) (W:World) (R:World->Prop):Prop :=
 Calls P f fa W fun e w1=>∃ev c,e = .returned (match k with|some j=>.tuple #[.int .i64 j,ev]|none=>ev)/\am fe W w1/\Calls P g ga w1 fun e2 w2=>e2 = .returned (match k with|some j=>.tuple #[.int .i64 j,.int .i64 c]|none=>.int .i64 c)/\am fe W w2/\Calls P 9 #[ev,.int .i64 c] w2 fun e3 w3=>e3 = .returned (.bool true)/\am fe W w3/\R w3
theorem fU (n:Nat) (hn:n<13) (S:aV a w0) {w2:World} {R:World->Prop} (ht:am fe W w2) (hb:Below w0.heap.size w0 w2) (hR:∀w3,Below w2.heap.size w2 w3->R w3) :
  Calls Tryz.prog 9 #[.iface 319 (.pointer (some (a n))),.int .i64 ((n:Int)+1)] w2 fun e3 w3=>e3 = .returned (.bool true)/\am fe W w3/\R w3 :=
 (ib a n _ w2 (S.below hb) hn).mono fun e w3 ⟨he,h⟩=>⟨by rw [he];simp,ht.trans (am.of_below h),hR w3 h⟩
theorem lS {w2:World} {R:World->Prop} (ht:am fe W w2) (hR:R w2):Calls Tryz.prog 9 #[.nilIface,.int .i64 0] w2 fun e3 w3=>e3 = .returned (.bool true)/\am fe W w3/\R w3 :=
 (j4 0 w2).mono fun e w3 ⟨he,h⟩=>⟨by rw [he];rfl,by rw [h];exact ht,by rw [h];exact hR⟩
theorem pL (f:Nat) (k more:Int) (hx:de tab k=none) (Q:dZ w0 T0 tb bb mt md i bl u tab W) (P:fG N i bl u tab) (S:aV a w0)
  (hf:∀er,W.cell? ⟨1,0,none⟩=some er->Calls Tryz.prog f #[.pointer (some ⟨tb,0,none⟩),.int .i64 k] W fun e w'=>e = .returned er/\w'=W) :
  zY Tryz.prog f 30 #[.pointer (some ⟨tb,0,none⟩),.int .i64 k] #[.pointer (some ⟨mt,0,none⟩),.int .i64 k,.int .i64 more] none W (dc w0 T0 tb bb mt md N (i+1)):=by
 have SW:=Q.sents S;obtain ⟨la,lc,ia,ic,vs,M⟩:=Q.m;refine (hf _ SW.c5).mono fun e w1 ⟨he,hw⟩=>⟨_,6,he,by rw [hw];exact am.same _ _,?_⟩;rw [hw];refine (wY k more hx W M).mono fun e2 w2 ⟨he2,hw2⟩=>⟨he2,by rw [hw2];exact am.same _ _,?_⟩;rw [hw2];exact fU 5 (by decide) S (am.same _ _) (by rw [<-Q.s];exact Q.b) fun w3 h3=>⟨bl,u,tab,(Q.below h3).mono (by omega),P.mono (by omega)⟩
theorem Ii (k:Int) (hk:(Lit.int .i64 k).wf=true) (hi:i<=4000) (Q:dZ w0 T0 tb bb mt md i bl u tab W) (P:fG N i bl u tab) (S:aV a w0) :
  zY Tryz.prog 29 30 #[.pointer (some ⟨tb,0,none⟩),.int .i64 k] #[.pointer (some ⟨mt,0,none⟩),.int .i64 k,.int .i64 1] none W (dc w0 T0 tb bb mt md N (i+1)):=by
 cases hx:de tab k with
 | none =>
  obtain ⟨sp,sb,cap,mb,n,hn,T⟩:=Q.t;exact pL 29 k 1 hx Q P S fun er hE=>uZ k hk hx er W T hE
 | some x =>
  obtain ⟨j,rfl,hj⟩:=kK hx;obtain ⟨sp,sb,cap,mb,n,hn,T⟩:=Q.t;obtain ⟨la,lc,ia,ic,vs,M⟩:=Q.m;have hli:=(P.li j x hj).1;have hsu:=(P.li j x hj).2;refine (sC j x hj (by omega) W T).mono fun e w1 ⟨he,T1,B1⟩=>⟨_,0,he,B1.q,?_⟩;refine (mI (T0:=T0) j (x.links+1) 1 x hj (by omega) (by omega) w1 (M.tb B1) (jd _)).mono fun e2 w2 ⟨he2,M2,B2⟩=>⟨he2,B1.q.trans B2.q,?_⟩;rw [zi (by omega)] at M2;obtain ⟨vs',M2⟩:=M2;refine lS (B1.q.trans B2.q) ⟨bl,u,_,(Q.both ⟨sp,sb,cap,mb,n,(by omega:n<=i+1),T1⟩ B1 ⟨la,lc,ia,ic,vs',M2⟩ B2),P.sp.links hj (by omega),P.n5,fun q y hy=>?_⟩;rw [bK (aO hj)] at hy
  split at hy
  ·cases hy;exact ⟨by show x.links+1<=_;omega,hsu⟩
  ·exact ⟨by have:=(P.li q y hy).1;omega,(P.li q y hy).2⟩
theorem En (k:Int) (hk:(Lit.int .i64 k).wf=true) (hi:i<=4000) (Q:dZ w0 T0 tb bb mt md i bl u tab W) (P:fG N i bl u tab) (S:aV a w0) :
  zY Tryz.prog 31 30 #[.pointer (some ⟨tb,0,none⟩),.int .i64 k] #[.pointer (some ⟨mt,0,none⟩),.int .i64 k,.int .i64 (-1)] none W (dc w0 T0 tb bb mt md N (i+1)):=by
 have SW:=Q.sents S
 cases hx:de tab k with
 | none =>
  obtain ⟨sp,sb,cap,mb,n,hn,T⟩:=Q.t;exact pL 31 k (-1) hx Q P S fun er hE=>sG k hk hx er W T hE
 | some x =>
  obtain ⟨j,rfl,hj⟩:=kK hx;obtain ⟨sp,sb,cap,mb,n,hn,T⟩:=Q.t;obtain ⟨la,lc,ia,ic,vs,M⟩:=Q.m;have hli:=(P.li j x hj).1;have hsu:=(P.li j x hj).2;have hl1:=(P.sp.own j x hj).2.2.1;by_cases h1:x.links=1
  ·have hg1:4<T0:=by rw [Q.s];exact aJ S.c1
   have hg5:1<T0:=(by rw [Q.s];exact aJ S.c5);refine (mD j x _ _ hj h1 W T SW.c1 SW.c5 ⟨hg1,hg5⟩ (fun b hb=>by rw [P.sp.lu];exact P.sp.lt hj b hb) (P.sp.gives hj) (by have:=(P.need hj).1;omega)).mono fun e w1 ⟨he,T1,B1⟩=>⟨_,0,he,B1.q,?_⟩;refine (mI (T0:=T0) j 0 (-1) x hj (by omega) (by omega) w1 (M.tb B1) (jd _)).mono fun e2 w2 ⟨he2,M2,B2⟩=>⟨he2,B1.q.trans B2.q,?_⟩;rw [zj rfl] at M2;obtain ⟨vs',M2⟩:=M2;refine lS (B1.q.trans B2.q) ⟨bl,_,_,(Q.both ⟨sp,sb,cap,mb,n,(by omega:n<=i+1),T1⟩ B1 ⟨la,lc,ia,ic,vs',M2⟩ B2),P.sp.drop hj,P.n5,fun q y hy=>?_⟩;rw [bK (aO hj)] at hy
   split at hy
   ·cases hy
   ·exact ⟨by have:=(P.li q y hy).1;omega,(P.li q y hy).2⟩
  ·obtain ⟨l,hl⟩:∃l,x.links=l+1:=⟨x.links-1,by omega⟩
   refine (tq j l x hj hl (by omega) (by omega) W T).mono fun e w1 ⟨he,T1,B1⟩=>⟨_,0,he,B1.q,?_⟩;refine (mI (T0:=T0) j l (-1) x hj (by omega) (by omega) w1 (M.tb B1) (jd _)).mono fun e2 w2 ⟨he2,M2,B2⟩=>⟨he2,B1.q.trans B2.q,?_⟩;rw [zi (by omega)] at M2;obtain ⟨vs',M2⟩:=M2;refine lS (B1.q.trans B2.q) ⟨bl,u,_,(Q.both ⟨sp,sb,cap,mb,n,(by omega:n<=i+1),T1⟩ B1 ⟨la,lc,ia,ic,vs',M2⟩ B2),P.sp.links hj (by omega),P.n5,fun q y hy=>?_⟩;rw [bK (aO hj)] at hy
   split at hy
   ·cases hy;exact ⟨by show l<=_;omega,hsu⟩
   ·exact ⟨by have:=(P.li q y hy).1;omega,(P.li q y hy).2⟩
theorem Ij (s:ByteArray) (ex:Bool) (hs:s.size<=1000000) (hi:i<=4000) (Q:dZ w0 T0 tb bb mt md i bl u tab W) (P:fG N i bl u tab) (S:aV a w0) :
  ∃k,zY Tryz.prog 21 28 #[.pointer (some ⟨tb,0,none⟩),.string s,.bool ex] #[.pointer (some ⟨mt,0,none⟩),.string s,.bool ex] (some k) W (dc w0 T0 tb bb mt md N (i+1)):=by
 have SW:=Q.sents S;obtain ⟨sp,sb,cap,mb,n,hn,T⟩:=Q.t;obtain ⟨la,lc,ia,ic,vs,M⟩:=Q.m;have hF:=P.sp.freeM;have hO:=P.ok (by have:=Q.len.1;omega);have hbl:bl.length<=512:=by rw [P.sp.lbl];exact P.n5
 rw [<-P.sp.lbl] at hF;by_cases h1:2000<s.size
 ·refine ⟨0,(wW s ex h1 hs _ (.pointer (some ⟨tb,0,none⟩)) W SW.c1).mono fun e w1 ⟨he,hb⟩=>⟨_,2,he,am.of_below hb,?_⟩⟩
  refine (zT s ex h1 (.pointer (some ⟨mt,0,none⟩)) w1).mono fun e2 w2 ⟨he2,hw2⟩=>⟨he2,by rw [hw2];exact am.of_below hb,?_⟩;rw [hw2];have Q1:=Q.below hb;exact fU 1 (by decide) S (am.of_below hb) (by rw [<-Q1.s];exact Q1.b) fun w3 h3=>⟨bl,u,tab,(Q1.below h3).mono (by omega),P.mono (by omega)⟩
 ·by_cases h2:(aF u).length<aw s.size
  ·refine ⟨0,(u4 s ex (by omega) h2 319 _ W T SW.c7).mono fun e w1 ⟨he,hb⟩=>⟨_,8,he,am.of_below hb,?_⟩⟩
   have Q1:=Q.below hb;refine (xe s ex (by omega) (by rw [hF];exact h2) w1 (M.below hb) hO hbl).mono fun e2 w2 ⟨he2,hb2⟩=>⟨he2,(am.of_below hb).trans (am.of_below hb2),?_⟩;have Q2:=Q1.below hb2;exact fU 7 (by decide) S ((am.of_below hb).trans (am.of_below hb2)) (by rw [<-Q2.s];exact Q2.b) fun w3 h3=>⟨bl,u,tab,(Q2.below h3).mono (by omega),P.mono (by omega)⟩
  ·have hg1:4<T0:=by rw [Q.s];exact aJ S.c1
   refine ⟨(bM tab:Int),(sI s ex _ (by omega) rfl (by omega) (by omega) (by rw [P.sp.lu,P.sp.lbl]) _ W T SW.c1 hg1 Q.size (fun g h=>h.elim)).mono fun e w1 ⟨he,T1,B1⟩=>⟨_,0,he,B1.q,?_⟩⟩;refine (BF (T0:=T0) s ex _ (by omega) rfl (by rw [hF];omega) w1 (M.tb B1) hO hbl (jd _) Q.l.1 (jm Q.size B1.size) Q.l.2).mono fun e2 w2 ⟨he2,M2,B2⟩=>⟨he2,B1.q.trans B2.q,?_⟩;rw [hF] at M2;obtain ⟨ia',ic',vs',M2⟩:=M2;refine lS (B1.q.trans B2.q) ⟨_,_,_,(Q.both ⟨sp,sb,cap,mb,n+1,(by omega:n+1<=i+1),T1⟩ B1 ⟨la,lc,ia',ic',vs',M2⟩ B2),P.sp.make (by omega) rfl (by omega),P.n5,fun q y hy=>?_⟩;rw [ft] at hy
   split at hy
   ·cases hy;exact ⟨by show 1<=_;omega,kX _⟩
   ·exact ⟨by have:=(P.li q y hy).1;omega,(P.li q y hy).2⟩
theorem aY.blocks {bl':List (List UInt8)} (S:aY N bl u tab) (h:bl'.length=bl.length):aY N bl' u tab:=⟨by rw [h];exact S.lbl,S.lu,S.own,S.one,S.all⟩
theorem aq.redisk {F:Nat->Prop} {sp sb cap mb n:Nat} (T:aq W F T0 tb bb sp sb cap mb n bl u tab) (D:aX W' bb none 0 bl' []) (h:bW bb none W W') (hl:bl'.length=bl.length):aq W' F T0 tb bb sp sb cap mb n bl' u tab:=by
 have ht:=am.of_but T.disk h;obtain ⟨f,Nd⟩:=T.nodes;exact ⟨ht _ _ T.box rfl,D,T.space.turn ht (fun _ _=>rfl) (fun _ _=>rfl),⟨f,Nd.turn ht (fun _ _=>rfl) (fun _ _=>rfl) (fun _ _=>rfl)⟩,by rw [hl];exact T.low⟩
structure oA (w0:World) (T0 tb bb mt md i:Nat) (bl bl':List (List UInt8)) (u:List Bool) (tab:List (Option ak)) (W:World):Prop where
 t:∃sp sb cap mb n,n<=i/\aq W (fun _=>False) T0 tb bb sp sb cap mb n bl u tab
 m:∃la lc ia ic vs,ay W T0 mt md la lc ia ic bl' tab vs
 b:Below T0 w0 W
 s:T0=w0.heap.size
 l:T0<=md/\T0<=mt
theorem oA.below (Q:oA w0 T0 tb bb mt md i bl bl' u tab W) (h:Below W.heap.size W W'):oA w0 T0 tb bb mt md i bl bl' u tab W':=by
 obtain ⟨⟨sp,sb,cap,mb,n,hn,T⟩,⟨la,lc,ia,ic,vs,M⟩,b,s,l⟩:=id Q;exact ⟨⟨sp,sb,cap,mb,n,hn,T.below h⟩,⟨la,lc,ia,ic,vs,M.below h⟩,b.trans (h.mono (by rw [s];exact jm (by rw [<-s];exact jd _) b.size)),s,l⟩
theorem Ik (k bit:Nat) (b:List UInt8) (hk:bl[k]? = some b) (hbit:bit<128) (Q:dZ w0 T0 tb bb mt md i bl u tab W) :
  Calls Tryz.prog 32 #[.pointer (some ⟨md,0,none⟩),.int .i64 (k:Int),.int .i64 (bit:Int)] W fun e w1=>e = .returned (.tuple #[])/\am fe W w1/\oA w0 T0 tb bb mt md i bl (bl.set k (bg b bit)) u tab w1:=by
 obtain ⟨sp,sb,cap,mb,n,hn,T⟩:=Q.t;obtain ⟨la,lc,ia,ic,vs,M⟩:=Q.m;refine (vl k bit b W M.disk hk (T.disk.bl16 b (jg hk)) (fun x h=>by cases h) hbit (by simp)).mono fun e w1 ⟨he,M1,B1⟩=>?_;have B2:aG T0 W w1:=aG.of_mk M.disk Q.l.1 B1;exact ⟨he,B2.q,⟨sp,sb,cap,mb,n,hn,T.mtb B2⟩,⟨la,lc,ia,ic,vs,M.redisk M1 (am.of_mk M.disk B1)⟩,B2.below (jd _) Q.size Q.b,Q.s,Q.l⟩
theorem Il (k bit:Nat) (b:List UInt8) (hk:bl[k]? = some b) (hbit:bit<128) (Q:oA w0 T0 tb bb mt md i bl (bl.set k (bg b bit)) u tab W) (P:fG N i bl u tab) :
  Calls Tryz.prog 23 #[.pointer (some ⟨bb+1,0,none⟩),.int .i64 (k:Int),.int .i64 (bit:Int)] W fun e w1=>e = .returned .nilIface/\am fe W w1/\dc w0 T0 tb bb mt md N (i+1) w1:=by
 obtain ⟨sp,sb,cap,mb,n,hn,T⟩:=Q.t;obtain ⟨la,lc,ia,ic,vs,M⟩:=Q.m;refine (sK k bit b W T.disk hk hbit (by simp)).mono fun e w1 ⟨he,D1,B1⟩=>?_;have B2:aT T0 mb W w1:=aT.of_but T.disk T.low.1 B1;have hs:T0<=W.heap.size:=by rw [Q.s];exact jm (by rw [<-Q.s];exact jd _) Q.b.size
 exact ⟨he,B2.q,_,u,tab,⟨⟨sp,sb,cap,mb,n,by omega,T.redisk D1 B1 (by simp)⟩,⟨la,lc,ia,ic,vs,M.tb B2⟩,B2.below (jd _) hs Q.b,Q.s,Q.l⟩,(P.sp.blocks (by simp)),P.n5,fun q y hy=>⟨by have:=(P.li q y hy).1;omega,(P.li q y hy).2⟩⟩
end
end
section
set_option maxRecDepth 100000
open Go.RowKit

theorem lq (v1 v2:Value) (l:List Int) (w:World) (h1:du w v1 l) (h2:du w v2 l) (hl:l.length<=100000) :
  Cl 12 #[v1,v2] w fun e w'=>e = .returned (.bool true)/\Bl w w':=by
 obtain ⟨a1,c1,rfl,hc1⟩:=h1;obtain ⟨a2,c2,rfl,hc2⟩:=h2;have HC1:=kH hc1;have HC2:=kH hc2;clear hc1 hc2;go_enter Tryz.func12,Tryz.ntmps12;go_wp2_with fail
 go_loopw [5] (fun i wr=>∃j:Nat,j<=l.length/\i = .int .i64 j/\Bl w wr) (fun i _=>l.length-(intOf i).toNat)
 case atStart=>exact ⟨0,jq _,rfl,je _ _⟩
 case round =>
  obtain ⟨j,hj,rfl,hb⟩:=hrel;have HB:=kH hb;by_cases hlt:j<l.length
  ·obtain ⟨x,hx⟩:∃x,l[j]? = some x:=⟨_,jc hlt⟩
   obtain ⟨b1,o1,rfl,k1⟩:=HC1.out j x hx;obtain ⟨b2,o2,rfl,k2⟩:=HC2.out j x hx;have d1:wr.cell? ⟨b1,o1+j,none⟩=some (.int .i64 x):=by rw [hb.cell (p:=⟨b1,o1+j,none⟩) (ji w _ k1)];exact k1
   have d2:wr.cell? ⟨b2,o2+j,none⟩=some (.int .i64 x):=(by rw [hb.cell (p:=⟨b2,o2+j,none⟩) (ji w _ k2)];exact k2);clear hb hx k1 k2;go_wp2_with fail
   go_quiet (fail)
   go_wp2_with fail
   exact ⟨⟨j+1,by omega,by simp,⟨HB.out.os,HB.out.tape,HB.out.output,HB.out.size,HB.out.block⟩⟩,by simp [intOf];omega⟩
  ·clear hb
   go_wp2_with fail
   go_ret;exact ⟨rfl,HB.out⟩
theorem F7 (W:World) (l:List Int) (a:Array Value) (ha:a=(l.map (Value.int .i64)).toArray):aP (W.alloc (.cells a 3)) (.slice (some ⟨W.heap.size,0,none⟩) l.length l.length) l :=
 ⟨_,_,rfl,fun _=>⟨_,_,a,rfl,heap_alloc_last _ _,fun i x hx=>by rw [ha,j6,yw,jx,hx];rfl⟩⟩
end
section
set_option maxRecDepth 100000
open Go.RowKit

theorem yG {mb:Nat} {la:Option Addr} {lc j:Nat} {w wa1 w5 w6:World} {g cap:Nat} (M:bk w mb la lc none 0 (List.replicate j zb) [])
  (hown:w5.ownsRow (mb+1) 9 1 (.slice (some ⟨g,0,none⟩) (j+1) cap) (j+1) ((List.replicate j zb).map sV ++ [.string (dW 16)])) (hba:Below w.heap.size w wa1) (hgrow:wa1.grownBy w5 (Value.slice la j lc).ownBlock)
  (h6:w6=w5.setCell ⟨mb,0,none⟩ (.slice (some ⟨g,0,none⟩) (j+1) cap)) :
  bk w6 mb (some ⟨g,0,none⟩) cap none 0 (List.replicate (j+1) zb) []/\Below mb w w6:=by
 have hlt:=M.lt
 have hob:∀k,k<w.heap.size->(∀a,la=some a->k≠a.block)->w5.heap[k]? = w.heap[k]? := fun k hk hne=>by
  rw [hgrow.block k (jn hk hba.size) (fun e=>?_),hba.block k hk]
  cases la with
  | none=>simp [Value.ownBlock] at e
  | some a=>exact hne a rfl (by simpa [Value.ownBlock] using e)
 have h6b:∀k,k≠mb->w6.heap[k]? = w5.heap[k]? := fun k hk=>by rw [h6];exact jf _ _ _ _ hk
 have hg:mb+1<=g:=(hown.lt g rfl).1;have hd:w5.heap[mb]? = w.heap[mb]? := hob _ (by omega) (fun a ha=>by have:=(M.lowL ha).1;omega);refine ⟨⟨?_,?_,⟨rfl,.inl ⟨rfl,rfl⟩⟩⟩,⟨?_,?_,?_,?_,fun k hk=>?_⟩⟩
 ·rw [h6,bI (hd.trans M.disk)]
  simp
 ·have e:(List.replicate (j+1) zb).map sV=(List.replicate j zb).map sV ++ [.string (dW 16)]:=by
   rw [List.replicate_succ',jR];rfl
  rw [e,qx];refine gU hown fun k hk=>h6b k ?_;have hk':g=k:=(by simpa [Value.ownBlock] using hk);omega
 ·rw [h6];exact hgrow.os.trans hba.os
 ·rw [h6];exact hgrow.tape.trans hba.tape
 ·rw [h6];exact hgrow.output.trans hba.output
 ·have:w6.heap.size=w5.heap.size:=by rw [h6];simp [World.setCell]
  have:=hgrow.size
  have:=hba.size
  omega
 ·rw [h6b k (by omega),hob k (by omega) (fun a ha=>by have:=(M.lowL ha).1;omega)]

theorem xj (n:Nat) (hn:n<=512) (w:World) :
  Calls Tryz.prog 25 #[.int .i64 (n:Int)] w fun e w'=>e = .returned (.pointer (some ⟨w.heap.size,0,none⟩))/\(∃la lc,bk w' w.heap.size la lc none 0 (List.replicate n zb) [])/\Below w.heap.size w w':=by
 obtain ⟨i0,hi0,hz0,hz1,hz2⟩:=info_parts Hq;obtain ⟨mb,hmb⟩:∃mb,mb=w.heap.size:=⟨_,rfl⟩;rw [<-hmb];have HMB:=kH hmb
 have H0:Hid (bk (w.alloc (.cells #[.slice none 0 0,.slice none 0 0] 88)) mb none 0 none 0 (List.replicate 0 zb) []):=by
  refine ⟨?_,⟨rfl,.inl ⟨rfl,rfl⟩⟩,⟨rfl,.inl ⟨rfl,rfl⟩⟩⟩;rw [hmb];exact heap_alloc_last w _
 have HB0:Hid (Below mb w (w.alloc (.cells #[.slice none 0 0,.slice none 0 0] 88))):=by rw [hmb];exact (je _ _).alloc (jd _) _
 go_enter Tryz.func25,Tryz.ntmps25;go_wp2_with fail
 rw [<-hmb];clear hmb
 go_loopw [4] (fun i wr=>∃(j:Nat) (la:Option Addr) (lc:Nat),j<=n/\i = .int .i64 j/\bk wr mb la lc none 0 (List.replicate j zb) []/\Below mb w wr) (fun i _=>n-(intOf i).toNat)
 case atStart=>exact ⟨0,none,0,jq _,rfl,H0.out,HB0.out⟩
 case round =>
  clear H0 HB0;obtain ⟨j,la,lc,hj,rfl,M,hB⟩:=hrel;have HM:Hid _:=M;have HB:Hid _:=hB;by_cases hlt:j<n
  ·have HBA:Hid (Below wr.heap.size wr (wr.drew.alloc (.cells #[.string (dW 16)] 9))):=((je _ _).drew).alloc (jd _) _
   have HG:Hid (∀w',Below wr.heap.size wr w'->w'.cell? ⟨mb,0,none⟩=some (.slice la j lc)):=fun w' h=>by
    have h2:=(M.below (jd _) h).cells.1;rw [qx] at h2;exact h2
   have HOW:Hid ((wr.drew.alloc (.cells #[.string (dW 16)] 9)).ownsRow (mb+1) 9 1 (.slice la j lc) j ((List.replicate j zb).map sV)):=by
    have h2:=(M.below (jd _) HBA.out).lrow;rw [qx] at h2;exact h2
   have HN2:Hid ((wr.drew.alloc (.cells #[.string (dW 16)] 9)).heap[wr.heap.size]? = some (.cells #[.string (dW 16)] 9 (0,0))):=heap_alloc_last wr.drew _;clear M hB;go_wp2_with fail
   refine zh (S:=fun _=>True) (by kernel_rfl) (trivial) (fun hHeld=>?_);refine aW [(0,pZ mb 0),(1,pZ mb 0),(2,pZ mb 0),(3,pZ mb 0)] hHeld ?_;refine zo (rs:=[4,5]) (by kernel_rfl) (by simp) ?_;refine jC rfl (fun K' hK'=>?_) (jC rfl (fun K' hK'=>?_) jW)
   ·skip
    simp only [ai];have c16:=HG.out _ (je _ _).drew;have c0:=HG.out wr (je _ _);have hltA:=HM.out.lt;have hltB:mb<wr.heap.size+1:=(by omega);have hneA:¬mb=wr.heap.size:=(by omega);go_simp;go_wp2_with fail
    clear c16 c0 hltA hltB hneA;refine hK'.out _ _ trivial (fun hHeld'=>?_);clear hK' K' hHeld;have hHeld:=hHeld';clear hHeld';refine zo (rs:=[5]) (by kernel_rfl) (by simp) ?_;refine jC rfl (fun K' hK'=>?_) jW;simp only [ai];go_simp;refine jk (rt _) ?_;rintro e wx ⟨rfl,hwx⟩;rw [hwx];clear hwx;go_wp2_with fail
    refine hK'.out _ _ trivial (fun hHeld'=>?_);clear hK' K' hHeld;have hHeld:=hHeld';clear hHeld';refine zo (rs:=[6]) (by kernel_rfl) (by simp) ?_;refine jC rfl (fun K' hK'=>?_) jW;simp only [ai];go_simp;go_wp2_with fail
    refine hK'.out _ _ trivial (fun hHeld'=>?_);clear hK' K' hHeld;have hHeld:=hHeld';clear hHeld';refine zo (rs:=[7]) (by kernel_rfl) (by simp) ?_;refine jC rfl (fun K' hK'=>?_) jW;refine step_append_lies _ (by rfl) _ _ _ (by rfl) (mb+1) 9 i0 _ 1 16 Tryz.underlying44 hi0 hz0 hz1 hz2 rfl (by omega) (.slice la j lc) j ((List.replicate j zb).map sV) (by rfl) HOW.out ⟨wr.heap.size,0,none⟩ 1 1 [.string (dW 16)] (by rfl) (by rfl) (World.news_of_block (cs:=#[.string (dW 16)]) (t:=9) (fr:=(0,0)) HN2.out) (by simp [Value.oneCell']) (by omega) (by unfold maxLen;omega) (by omega) (by have:=HM.out.lt;simp;omega) (wr.heap.size+1) (by simp) ?_;intro g cap w5 hown5 hgrow hat hlt5;have HE:Hid _:=yG (w6:=w5.setCell ⟨mb,0,none⟩ (.slice (some ⟨g,0,none⟩) (j+1) cap)) HM.out hown5 HBA.out hgrow rfl;have e5:w5.heap[mb]? = (wr.drew.alloc (.cells #[.string (dW 16)] 9)).heap[mb]? := hgrow.block _ (by have:=HM.out.lt;simp;omega) (fun e=>by have:=(qj HOW.out _ e.symm).1;omega);have d5:w5.heap[mb]? = some (.cells #[.slice la j lc,.slice none 0 0] 88 (0,0)):=(by rw [e5];have h:=(HM.out.below (jd _) HBA.out).disk;rw [qx] at h;exact h);have c5:w5.cell? ⟨mb,0,none⟩=some (.slice la j lc):=(by rw [ze w5 _ _ _ _ _ d5];rfl);have f5:w5.frozen? ⟨mb,0,none⟩=false:=xW d5 0;clear hown5 hgrow hat e5 d5;simp only [ai,Act.put,bj];refine hK'.out _ _ trivial (fun hHeld'=>?_);clear hK' K' hHeld;have hHeld:=hHeld';clear hHeld';refine aW [(8,pZ mb 0),(9,pZ mb 0)] hHeld ?_;refine zo (rs:=[10]) (by kernel_rfl) (by simp) ?_;refine jC rfl (fun K' hK'=>?_) jW;simp only [ai];go_simp;go_wp2_with fail
    refine hK'.out _ _ trivial (fun hHeld'=>?_);clear hK' K' hHeld;have hHeld:=hHeld';clear hHeld';refine zk (by kernel_rfl) ?_ _;go_wp2_with fail
    exact ⟨⟨j+1,some ⟨g,0,none⟩,cap,by omega,by simp,HE.out.1,HB.out.trans HE.out.2⟩,by simp [intOf];omega⟩
   ·skip
    simp only [ai];go_simp;refine jk (rt _) ?_;rintro e wx ⟨rfl,hwx⟩;rw [hwx];clear hwx;go_wp2_with fail
    refine hK'.out _ _ trivial (fun hHeld'=>?_);clear hK' K' hHeld;have hHeld:=hHeld';clear hHeld';refine zo (rs:=[4,6]) (by kernel_rfl) (by simp) ?_;refine jC rfl (fun K' hK'=>?_) (jC rfl (fun K' hK'=>?_) jW)
    focus
     simp only [ai];have c16:=HG.out _ (je _ _).drew;have c0:=HG.out wr (je _ _);have hltA:=HM.out.lt;have hltB:mb<wr.heap.size+1:=(by omega);have hneA:¬mb=wr.heap.size:=(by omega);go_simp;go_wp2_with fail
     clear c16 c0 hltA hltB hneA;refine hK'.out _ _ trivial (fun hHeld'=>?_);clear hK' K' hHeld;have hHeld:=hHeld';clear hHeld';refine zo (rs:=[6]) (by kernel_rfl) (by simp) ?_;refine jC rfl (fun K' hK'=>?_) jW;simp only [ai];go_simp;go_wp2_with fail
    rotate_left
    focus
     simp only [ai];go_simp;go_wp2_with fail
     refine hK'.out _ _ trivial (fun hHeld'=>?_);clear hK' K' hHeld;have hHeld:=hHeld';clear hHeld';refine zo (rs:=[4]) (by kernel_rfl) (by simp) ?_;refine jC rfl (fun K' hK'=>?_) jW;simp only [ai];have c16:=HG.out _ HBA.out;have c0:=HG.out wr (je _ _);have hltA:=HM.out.lt;have hltB:mb<wr.heap.size+1:=(by omega);have hneA:¬mb=wr.heap.size:=(by omega);go_simp;go_wp2_with fail
     clear c16 c0 hltA hltB hneA
    rotate_left
    all_goals
     refine hK'.out _ _ trivial (fun hHeld'=>?_);clear hK' K' hHeld;have hHeld:=hHeld';clear hHeld';refine zo (rs:=[7]) (by kernel_rfl) (by simp) ?_;refine jC rfl (fun K' hK'=>?_) jW;refine step_append_lies _ (by rfl) _ _ _ (by rfl) (mb+1) 9 i0 _ 1 16 Tryz.underlying44 hi0 hz0 hz1 hz2 rfl (by omega) (.slice la j lc) j ((List.replicate j zb).map sV) (by rfl) HOW.out ⟨wr.heap.size,0,none⟩ 1 1 [.string (dW 16)] (by rfl) (by rfl) (World.news_of_block (cs:=#[.string (dW 16)]) (t:=9) (fr:=(0,0)) HN2.out) (by simp [Value.oneCell']) (by omega) (by unfold maxLen;omega) (by omega) (by have:=HM.out.lt;simp;omega) (wr.heap.size+1) (by simp) ?_;intro g cap w5 hown5 hgrow hat hlt5;have HE:Hid _:=yG (w6:=w5.setCell ⟨mb,0,none⟩ (.slice (some ⟨g,0,none⟩) (j+1) cap)) HM.out hown5 HBA.out hgrow rfl;have e5:w5.heap[mb]? = (wr.drew.alloc (.cells #[.string (dW 16)] 9)).heap[mb]? := hgrow.block _ (by have:=HM.out.lt;simp;omega) (fun e=>by have:=(qj HOW.out _ e.symm).1;omega);have d5:w5.heap[mb]? = some (.cells #[.slice la j lc,.slice none 0 0] 88 (0,0)):=(by rw [e5];have h:=(HM.out.below (jd _) HBA.out).disk;rw [qx] at h;exact h);have c5:w5.cell? ⟨mb,0,none⟩=some (.slice la j lc):=(by rw [ze w5 _ _ _ _ _ d5];rfl);have f5:w5.frozen? ⟨mb,0,none⟩=false:=xW d5 0;clear hown5 hgrow hat e5 d5;simp only [ai,Act.put,bj];refine hK'.out _ _ trivial (fun hHeld'=>?_);clear hK' K' hHeld;have hHeld:=hHeld';clear hHeld';refine aW [(8,pZ mb 0),(9,pZ mb 0)] hHeld ?_;refine zo (rs:=[10]) (by kernel_rfl) (by simp) ?_;refine jC rfl (fun K' hK'=>?_) jW;simp only [ai];go_simp;go_wp2_with fail
     refine hK'.out _ _ trivial (fun hHeld'=>?_);clear hK' K' hHeld;have hHeld:=hHeld';clear hHeld';refine zk (by kernel_rfl) ?_ _;go_wp2_with fail
     exact ⟨⟨j+1,some ⟨g,0,none⟩,cap,by omega,by simp,HE.out.1,HB.out.trans HE.out.2⟩,by simp [intOf];omega⟩
  ·obtain rfl:j=n:=by omega
   clear M hB;go_wp2_with fail
   go_ret;exact ⟨rfl,⟨_,_,HM.out⟩,by rw [HMB.out] at HB;rw [HMB.out];exact HB.out⟩
end
end Go.Proofs.YthofhjnfkholoaaGreatDoor
