/-
  Gg Gr, joined.
  Conditions: those that each states.
-/
import Derived.Test.YthofhjnfkholoaaGreatDoorQ37
namespace Go.Proofs.YthofhjnfkholoaaGreatDoor
section
set_option maxHeartbeats 2000000
set_option maxRecDepth 100000
open Go.RowKit Go.Maps

structure y6 (bl:List (List UInt8)) (tab:List (Option ak)):Prop where
 len:tab.length<=100000
 b16:∀b∈bl,b.length=16
 ino:∀q y,af tab q=some y->(∀b∈y.blocks,b<bl.length)/\y.blocks.length<=1000/\y.bytes<=y.blocks.length*16/\1<=y.links/\y.links<=900000
section
variable {w w' : World} {B D mw mt md next lc lc2 ic : Nat} {la la2 ia : Option Addr} {L : List bA} {us vs vs2 : List Value} {bl : List (List UInt8)} {tab : List (Option ak)}
theorem J9 (fs:List (ByteArray×Nat)):∀f∈fs,(d6 f).length=2:=fun _ _=>rfl
theorem pT:∀ {L:List bA} {us vs:List Value} {i:Nat} {x y:bA},L[i]? = some x->y.k=x.k->y.n=x.n->bo (L.set i y) us vs=bo L us vs
 | [],_,_,_,_,_,h,_,_=>by simp at h
 | z :: L,us,vs,0,x,y,h,hk,hn=>by
  simp only [jJ,jh] at h;subst h;cases us <;> cases vs <;> simp [bo,lZ,hk,hn]
 | z :: L,us,vs,i+1,x,y,h,hk,hn=>by
  cases us <;> cases vs <;> simp only [List.set_cons_succ,bo]
  rw [pT (L:=L) (by simpa using h) hk hn]
theorem bi.setN {T0:Nat} (M:bi w B D mw mt la lc L us vs next) {i j:Nat} {x:bA} {f:ByteArray×Nat} (hx:L[i]? = some x) (hf:x.fs[j]? = some f) (hT:T0<=B):∃fg fcp,vs[i]? = some (.slice (some ⟨fg,0,none⟩) x.fs.length fcp)/\w.cell? ⟨fg,j*2,none⟩=some (.string f.1)/\w.cell? ⟨fg,j*2+1,none⟩=some (.int .i64 (f.2:Int))/\w.frozen? ⟨fg,j*2+1,none⟩=false/\∀n:Nat,bi (w.setCell ⟨fg,j*2+1,none⟩ (.int .i64 (n:Int))) B D mw mt la lc (L.set i { x with fs:=x.fs.set j (f.1,n) }) us vs next/\bF T0 w (w.setCell ⟨fg,j*2+1,none⟩ (.int .i64 (n:Int)))/\∃cur,w.heap[fg]? = some (.cells cur 63 (0,0)):=by
 have hi:=(jb.1 hx).1;obtain ⟨v,hv⟩:∃v,vs[i]? = some v:=⟨_,jc (by rw [M.lv];exact hi)⟩;have hr:=M.files i x v hx hv;obtain ⟨fg,fcp,rfl,_,c0,c1⟩:=iR hr hf;obtain ⟨cur,hcur⟩:=dL hr (g:=fg) rfl;have hjl:=(jb.1 hf).1;refine ⟨fg,fcp,hv,c0,c1,hr.frozenAt _,fun n=>?_⟩;obtain ⟨hs1,hs2⟩:=hr.stored (j*2+1) (.int .i64 (n:Int));have e2:(x.fs.flatMap d6).set (j*2+1) (.int .i64 (n:Int))=(x.fs.set j (f.1,n)).flatMap d6:=ld (J9 x.fs) hf (by omega) (by simp [d6]);rw [e2] at hs1;have hk:∀q,q≠fg->(w.setCell ⟨fg,j*2+1,none⟩ (.int .i64 (n:Int))).heap[q]? = w.heap[q]? := fun q hq=>jf _ _ _ _ hq
 have hty:∀(q:Nat) (cs:Array Value) (ty:TypeId),w.heap[q]? = some (.cells cs ty (0,0))->ty≠63->(w.setCell ⟨fg,j*2+1,none⟩ (.int .i64 (n:Int))).heap[q]? = some (.cells cs ty (0,0)):=fun q cs ty hq ht=>by
  rw [hk q (fun e=>by rw [e,hcur] at hq;simp only [jh,jL] at hq;exact ht hq.2.1.symm)];exact hq
 refine ⟨⟨by rw [jI];exact hty _ _ _ M.box (by decide),by rw [jI];exact M.lu,by rw [jI];exact M.lv,?_,fun q y u hy hu=>?_,fun q y v' hy hv'=>?_,M.apart⟩,bF.one hs2 hcur rfl (by have:=(hr.lt fg rfl).1;omega),cur,hcur⟩
 ·rw [pT (y:={ x with fs:=x.fs.set j (f.1,n) }) hx rfl rfl,jI]
  refine aU M.row fun q hq=>?_;obtain ⟨c2,hc2⟩:=dL M.row hq;rw [hc2];exact hty _ _ _ hc2 (by decide)
 ·have hs:w.heap.size<=(w.setCell ⟨fg,j*2+1,none⟩ (.int .i64 (n:Int))).heap.size:=hs2.size
  by_cases e:q=i
  ·subst e
   rw [jM hi] at hy;cases hy
   exact (M.kids q x u hx hu).kept hs fun q c hq=>hty _ _ _ hq (by decide)
  ·rw [jV (fun h=>e h.symm)] at hy
   exact (M.kids q y u hy hu).kept hs fun q c hq=>hty _ _ _ hq (by decide)
 ·by_cases e:q=i
  ·subst e
   rw [jM hi] at hy;cases hy
   rw [hv] at hv';cases hv'
   show World.ownsRow _ _ _ _ _ (x.fs.set j (f.1,n)).length _;rw [jI];exact hs1
  ·rw [jV (fun h=>e h.symm)] at hy
   have h2:=M.files q y v' hy hv';refine aU h2 fun b hb=>hk b fun e2=>e ?_;exact M.apart q i v' _ b hv' hv hb (by rw [e2];rfl)
theorem Fc {k:Int} {s:ByteArray}:(dV L k s).2=0∨(dV L k s).2=5∨(dV L k s).2=6:=by
 unfold dV
 split
 ·exact .inr (.inr rfl)
 ·split
  ·exact .inr (.inl rfl)
  ·split
   ·exact .inl rfl
   ·exact .inr (.inr rfl)
theorem wG (M:bi w B D mw mt la lc L us vs next) (hl:L.length<=100000) (hfl:∀x∈L,x.fs.length<=100000) (k:Int) (s:ByteArray) (hs:s.size<=1000000) (n:Int) (he:¬(dV L k s).2=0) :
  Cl 88 #[.pointer (some ⟨mw,0,none⟩),.int .i64 k,.string s,.int .i64 n] w fun e w'=>e = .returned (.int .i64 (dV L k s).2)/\Bl w w':=by
 have HI:=iS M (by omega) (fun x hx=>jm (hfl x hx) (by omega)) k s hs;have hp:(0:Int)<(dV L k s).2:=by rcases Fc (L:=L) (k:=k) (s:=s) with h|h|h <;> omega
 generalize dV L k s=R at *;obtain ⟨was,c⟩:=R
 simp only at hp he HI ⊢
 clear M he;go_enter Tryz.func88,Tryz.ntmps88
 go_wp2_with (go_at_call 122;refine HI.mono ?_;rintro e w1 ⟨rfl,b1⟩;clear HI)
 go_ret;exact ⟨rfl,b1⟩
theorem uz (M:bi w B D mw mt la lc L us vs next) (Mt:ay w B mt md la2 lc2 ia ic bl tab vs2) (hl:L.length<=100000) (hfl:∀x∈L,x.fs.length<=100000) (k:Int) (s:ByteArray) (hs:s.size<=1000000) (n:Int) (was:Nat) (hw:dV L k s=(was,0)) (hn:de tab n=none) :
  Cl 88 #[.pointer (some ⟨mw,0,none⟩),.int .i64 k,.string s,.int .i64 n] w fun e w'=>e = .returned (.int .i64 6)/\Bl w w':=by
 have HI:=iS M (by omega) (fun x hx=>jm (hfl x hx) (by omega)) k s hs;rw [hw] at HI
 simp only at HI
 have HIS:Hid (∀W,Bl w W->W.cell? ⟨mw,0,none⟩=some (.pointer (some ⟨mt,0,none⟩))/\Cl 38 #[.pointer (some ⟨mt,0,none⟩),.int .i64 n] W fun e w'=>e = .returned (.bool false)/\w'=W):=fun W hW=>⟨(M.below hW).cells.1,by
  have h:=lm n W (Mt.below hW);rw [hn] at h;exact h⟩
 clear M Mt hw;go_enter Tryz.func88,Tryz.ntmps88
 go_wp2_with (first
  | (go_at_call 122;refine HI.mono ?_;rintro e w1 ⟨rfl,b1⟩;(obtain ⟨c0,H1⟩:=HIS.out w1 b1);(have HB1:Hid _:=b1);clear HI HIS b1)
  | (go_at_call 38;refine H1.mono ?_;rintro e w2 ⟨rfl,hw2⟩;rw [hw2];clear hw2))
 go_ret;exact ⟨rfl,HB1.out⟩
theorem uA (M:bi w B D mw mt la lc L us vs next) (Mt:ay w B mt md la2 lc2 ia ic bl tab vs2) (hl:L.length<=100000) (hfl:∀x∈L,x.fs.length<=100000) (k:Int) (s:ByteArray) (hs:s.size<=1000000) (was:Nat) (y:ak) (hw:dV L k s=(was,0)) (hn:af tab was=some y) :
  Cl 88 #[.pointer (some ⟨mw,0,none⟩),.int .i64 k,.string s,.int .i64 (was:Int)] w fun e w'=>e = .returned (.int .i64 0)/\Bl w w':=by
 have HI:=iS M (by omega) (fun x hx=>jm (hfl x hx) (by omega)) k s hs;rw [hw] at HI
 simp only at HI
 have HIS:Hid (∀W,Bl w W->W.cell? ⟨mw,0,none⟩=some (.pointer (some ⟨mt,0,none⟩))/\Cl 38 #[.pointer (some ⟨mt,0,none⟩),.int .i64 (was:Int)] W fun e w'=>e = .returned (.bool true)/\w'=W):=fun W hW=>⟨(M.below hW).cells.1,by
  have h:=lm (was:Int) W (Mt.below hW);rw [eJ,hn] at h;exact h⟩
 clear M Mt hw hn;go_enter Tryz.func88,Tryz.ntmps88
 go_wp2_with (first
  | (go_at_call 122;refine HI.mono ?_;rintro e w1 ⟨rfl,b1⟩;(obtain ⟨c0,H1⟩:=HIS.out w1 b1);(have HB1:Hid _:=b1);clear HI HIS b1)
  | (go_at_call 38;refine H1.mono ?_;rintro e w2 ⟨rfl,hw2⟩;rw [hw2];clear hw2))
 go_ret;exact ⟨rfl,HB1.out⟩
theorem wH (M:bi w B D mw mt la lc L us vs next) (Mt:ay w B mt md la2 lc2 ia ic bl tab vs2) (O:y6 bl tab) (hl:L.length<=100000) (hfl:∀x∈L,x.fs.length<=100000) (k:Int) (s:ByteArray) (hs:s.size<=1000000) (was n:Nat) (y z:ak) (hw:dV L k s=(was,0)) (hy:af tab was=some y) (hz:af tab n=some z) (hne:¬was=n) (hbad:¬(bm bl y).2=0∨¬(bm bl z).2=0) :
  Cl 88 #[.pointer (some ⟨mw,0,none⟩),.int .i64 k,.string s,.int .i64 (n:Int)] w fun e w'=>e = .returned (.int .i64 11)/\Bl w w':=by
 have HI:=iS M (by omega) (fun x hx=>jm (hfl x hx) (by omega)) k s hs;rw [hw] at HI
 simp only at HI
 have hnei:¬(was:Int)=(n:Int):=by omega
 have HIS:Hid (∀W,Bl w W->W.cell? ⟨mw,0,none⟩=some (.pointer (some ⟨mt,0,none⟩))/\Cl 38 #[.pointer (some ⟨mt,0,none⟩),.int .i64 (n:Int)] W fun e w'=>e = .returned (.bool true)/\w'=W):=fun W hW=>⟨(M.below hW).cells.1,by
  have h:=lm (n:Int) W (Mt.below hW);rw [eJ,hz] at h;exact h⟩
 have HRD:Hid (∀W (q:Nat) x,Bl w W->af tab q=some x->Cl 40 #[.pointer (some ⟨mt,0,none⟩),.int .i64 (q:Int)] W fun e w'=>e = .returned (.tuple #[.string (bm bl x).1,.int .i64 (bm bl x).2])/\Bl w w'/\w'.cell? ⟨mw,0,none⟩=some (.pointer (some ⟨mt,0,none⟩))):=fun W q x hW hx=>by
  obtain ⟨h1,h2,h3,_⟩:=O.ino q x hx;exact (jP q x hx W (Mt.below hW) h1 O.b16 h2 h3).mono fun e w' ⟨he,hb⟩=>⟨he,hW.trans (hb.mono hW.size),(M.below (hW.trans (hb.mono hW.size))).cells.1⟩
 have HR1:Hid (∀W,Bl w W->Cl 40 #[.pointer (some ⟨mt,0,none⟩),.int .i64 (was:Int)] W fun e w'=>e = .returned (.tuple #[.string (bm bl y).1,.int .i64 (bm bl y).2])/\Bl w w'/\w'.cell? ⟨mw,0,none⟩=some (.pointer (some ⟨mt,0,none⟩))):=fun W hW=>HRD.out W was y hW hy;have HR2:Hid (∀W,Bl w W->Cl 40 #[.pointer (some ⟨mt,0,none⟩),.int .i64 (n:Int)] W fun e w'=>e = .returned (.tuple #[.string (bm bl z).1,.int .i64 (bm bl z).2])/\Bl w w'/\w'.cell? ⟨mw,0,none⟩=some (.pointer (some ⟨mt,0,none⟩))):=fun W hW=>HRD.out W n z hW hz;have hpos:∀x,(bm bl x).2=0∨(bm bl x).2=11:=fun x=>by unfold bm;split;exact .inl rfl;exact .inr rfl
 have p1:=hpos y;have p2:=hpos z;generalize bm bl y=RY at *;generalize bm bl z=RZ at *;obtain ⟨A,ca⟩:=RY;obtain ⟨C,cc⟩:=RZ
 simp only at p1 p2 hbad HR1 HR2
 clear M Mt O hw hy hz HRD hpos
 rcases p1 with rfl|rfl
 ·rcases p2 with rfl|rfl
  ·simp at hbad
  ·clear hbad
   go_enter Tryz.func88,Tryz.ntmps88
   go_wp2_with (first
    | (go_at_call 122;refine HI.mono ?_;rintro e w1 ⟨rfl,b1⟩;(obtain ⟨c0,H1⟩:=HIS.out w1 b1);(have H2:=HR1.out w1 b1);clear HI HIS HR1 b1)
    | (go_at_call 38;refine H1.mono ?_;rintro e w2 ⟨rfl,hw2⟩;rw [hw2];clear hw2 H1)
    | (go_at_call 40;refine H2.mono ?_;rintro e w3 ⟨rfl,b3,c3⟩;(have H3:=HR2.out w3 b3);clear H2 HR2 b3 c0)
    | (go_at_call 40;refine H3.mono ?_;rintro e w4 ⟨rfl,b4,c4⟩;(have HB4:Hid (Bl w w4):=b4);clear H3 b4 c3))
   go_ret;exact ⟨rfl,HB4.out⟩
 ·clear hbad
  rcases p2 with rfl|rfl
  ·go_enter Tryz.func88,Tryz.ntmps88
   go_wp2_with (first
    | (go_at_call 122;refine HI.mono ?_;rintro e w1 ⟨rfl,b1⟩;(obtain ⟨c0,H1⟩:=HIS.out w1 b1);(have H2:=HR1.out w1 b1);clear HI HIS HR1 b1)
    | (go_at_call 38;refine H1.mono ?_;rintro e w2 ⟨rfl,hw2⟩;rw [hw2];clear hw2 H1)
    | (go_at_call 40;refine H2.mono ?_;rintro e w3 ⟨rfl,b3,c3⟩;(have H3:=HR2.out w3 b3);clear H2 HR2 b3 c0)
    | (go_at_call 40;refine H3.mono ?_;rintro e w4 ⟨rfl,b4,c4⟩;(have HB4:Hid (Bl w w4):=b4);clear H3 b4 c3))
   go_ret;exact ⟨rfl,HB4.out⟩
  ·go_enter Tryz.func88,Tryz.ntmps88
   go_wp2_with (first
    | (go_at_call 122;refine HI.mono ?_;rintro e w1 ⟨rfl,b1⟩;(obtain ⟨c0,H1⟩:=HIS.out w1 b1);(have H2:=HR1.out w1 b1);clear HI HIS HR1 b1)
    | (go_at_call 38;refine H1.mono ?_;rintro e w2 ⟨rfl,hw2⟩;rw [hw2];clear hw2 H1)
    | (go_at_call 40;refine H2.mono ?_;rintro e w3 ⟨rfl,b3,c3⟩;(have H3:=HR2.out w3 b3);clear H2 HR2 b3 c0)
    | (go_at_call 40;refine H3.mono ?_;rintro e w4 ⟨rfl,b4,c4⟩;(have HB4:Hid (Bl w w4):=b4);clear H3 b4 c3))
   go_ret;exact ⟨rfl,HB4.out⟩
theorem wI (M:bi w B D mw mt la lc L us vs next) (Mt:ay w B mt md la2 lc2 ia ic bl tab vs2) (O:y6 bl tab) (hl:L.length<=100000) (hfl:∀x∈L,x.fs.length<=100000) (k:Int) (s:ByteArray) (hs:s.size<=1000000) (was n:Nat) (y z:ak) (hw:dV L k s=(was,0)) (hy:af tab was=some y) (hz:af tab n=some z) (hne:¬was=n) (hcy:aQ (au bl y.blocks y.bytes)=y.sum) (hcz:aQ (au bl z.blocks z.bytes)=z.sum) (hlk:gt bl y z=false) :
  Cl 88 #[.pointer (some ⟨mw,0,none⟩),.int .i64 k,.string s,.int .i64 (n:Int)] w fun e w'=>e = .returned (.int .i64 3)/\Bl w w':=by
 have HI:=iS M (by omega) (fun x hx=>jm (hfl x hx) (by omega)) k s hs;rw [hw] at HI
 simp only at HI
 have hnei:¬(was:Int)=(n:Int):=by omega
 have HIS:Hid (∀W,Bl w W->W.cell? ⟨mw,0,none⟩=some (.pointer (some ⟨mt,0,none⟩))/\Cl 38 #[.pointer (some ⟨mt,0,none⟩),.int .i64 (n:Int)] W fun e w'=>e = .returned (.bool true)/\w'=W):=fun W hW=>⟨(M.below hW).cells.1,by
  have h:=lm (n:Int) W (Mt.below hW);rw [eJ,hz] at h;exact h⟩
 have HRD:Hid (∀W (q:Nat) x,Bl w W->af tab q=some x->Cl 40 #[.pointer (some ⟨mt,0,none⟩),.int .i64 (q:Int)] W fun e w'=>e = .returned (.tuple #[.string (bm bl x).1,.int .i64 (bm bl x).2])/\Bl w w'/\w'.cell? ⟨mw,0,none⟩=some (.pointer (some ⟨mt,0,none⟩))):=fun W q x hW hx=>by
  obtain ⟨h1,h2,h3,_⟩:=O.ino q x hx;exact (jP q x hx W (Mt.below hW) h1 O.b16 h2 h3).mono fun e w' ⟨he,hb⟩=>⟨he,hW.trans (hb.mono hW.size),(M.below (hW.trans (hb.mono hW.size))).cells.1⟩
 have HR1:Hid (∀W,Bl w W->Cl 40 #[.pointer (some ⟨mt,0,none⟩),.int .i64 (was:Int)] W fun e w'=>e = .returned (.tuple #[.string (bm bl y).1,.int .i64 (bm bl y).2])/\Bl w w'/\w'.cell? ⟨mw,0,none⟩=some (.pointer (some ⟨mt,0,none⟩))):=fun W hW=>HRD.out W was y hW hy;have HR2:Hid (∀W,Bl w W->Cl 40 #[.pointer (some ⟨mt,0,none⟩),.int .i64 (n:Int)] W fun e w'=>e = .returned (.tuple #[.string (bm bl z).1,.int .i64 (bm bl z).2])/\Bl w w'/\w'.cell? ⟨mw,0,none⟩=some (.pointer (some ⟨mt,0,none⟩))):=fun W hW=>HRD.out W n z hW hz
 obtain ⟨ig,hIA⟩:∃ig,ia=some ⟨ig,0,none⟩:=by
  obtain ⟨_,g,_,e1,_⟩:=Mt.slot (cM hy);exact ⟨g,e1⟩
 obtain ⟨tl,HTL⟩:∃tl,Hid (tl=tab.length):=⟨_,(rfl:_=_)⟩;obtain ⟨ey,HEY⟩:∃ey,Hid (ey=y.exec):=⟨_,(rfl:_=_)⟩;obtain ⟨ez,HEZ⟩:∃ez,Hid (ez=z.exec):=⟨_,(rfl:_=_)⟩;have hwt:was<tl:=by rw [HTL.out];exact aO hy
 have hnt:n<tl:=by rw [HTL.out];exact aO hz
 have htl:tl<=100000:=by rw [HTL.out];exact O.len
 have HS13:Hid (∀W',Bl w W'->(W'.cell? ⟨mw,0,none⟩=some (.pointer (some ⟨mt,0,none⟩))/\W'.cell? ⟨mt,1,none⟩=some (.slice (some ⟨ig,0,none⟩) tl ic)/\W'.cell? ⟨ig,was*6+3,none⟩=some (.bool ey)/\W'.cell? ⟨ig,n*6+3,none⟩=some (.bool ez))):=fun W' hW=>by
  obtain ⟨vy,gy,_,e1,h1,_⟩:=(Mt.below hW).slot (cM hy);obtain ⟨vz,gz,_,e2,h2,_⟩:=(Mt.below hW).slot (cM hz);have hg1:gy=ig:=by rw [e1] at hIA;simpa using hIA
  have hg2:gz=ig:=(by rw [e2] at hIA;simpa using hIA);subst hg1;subst hg2;rw [<-hIA];exact ⟨(M.below hW).cells.1,by rw [HTL.out];exact (Mt.below hW).cells.2.1,by rw [HEY.out];exact h1 3 _ rfl,by rw [HEZ.out];exact h2 3 _ rfl⟩
 have hry:bm bl y=(au bl y.blocks y.bytes,0):=by unfold bm;rw [zj hcy]
 have hrz:bm bl z=(au bl z.blocks z.bytes,0):=by unfold bm;rw [zj hcz]
 rw [hry] at HR1;rw [hrz] at HR2
 have hlk2:¬(au bl y.blocks y.bytes=au bl z.blocks z.bytes/\ey=ez):=fun h=>by
  rw [HEY.out,HEZ.out] at h;rw [(fX bl y z).2 h] at hlk;cases hlk
 generalize au bl y.blocks y.bytes=A at *;generalize au bl z.blocks z.bytes=C at *;clear M Mt O hw hy hz HRD hcy hcz hlk HEY HEZ HTL hry hrz;by_cases hAC:A=C
 ·have hez:¬ey=ez:=fun h=>hlk2 ⟨hAC,h⟩
  have hab:=mV hAC;clear hAC hlk2;go_enter Tryz.func88,Tryz.ntmps88
  go_wp2_with (first
   | (go_at_call 122;refine HI.mono ?_;rintro e w1 ⟨rfl,b1⟩;(obtain ⟨c0,H1⟩:=HIS.out w1 b1);(have H2:=HR1.out w1 b1);clear HI HIS HR1 b1)
   | (go_at_call 38;refine H1.mono ?_;rintro e w2 ⟨rfl,hw2⟩;rw [hw2];clear hw2 H1)
   | (go_at_call 40;refine H2.mono ?_;rintro e w3 ⟨rfl,b3,c3⟩;(have H3:=HR2.out w3 b3);clear H2 HR2 b3 c0)
   | (go_at_call 40;refine H3.mono ?_;rintro e w4 ⟨rfl,b4,c4⟩;(have HB4:Hid (Bl w w4):=b4);clear H3 b4 c3))
  refine zh (S:=fun w'=>w'.cell? ⟨mw,0,none⟩=some (.pointer (some ⟨mt,0,none⟩))/\w'.cell? ⟨mt,1,none⟩=some (.slice (some ⟨ig,0,none⟩) tl ic)/\w'.cell? ⟨ig,was*6+3,none⟩=some (.bool ey)/\w'.cell? ⟨ig,n*6+3,none⟩=some (.bool ez)) (by kernel_rfl) (HS13.out _ HB4.out.drew) (fun hHeld=>?_);refine aW [(0,.string A),(1,.string C)] hHeld ?_;refine zr (i:=2) (v:=(.bool false)) rfl (by kernel_rfl) (by kernel_rfl) (by kernel_rfl) (fun _ _ _ h=>h) (Or.inl ⟨by rfl,?_⟩) hHeld ?_
  ·intro w hSw;(try dsimp only at hSw);simp only [ai];go_simp;(try simp [hab])
  simp only [ai,Act.put,bj];refine aW [(3,.bool false),(4,pZ mw 0),(5,pZ mw 0),(6,pZ mw 0),(7,pZ mt 0),(8,pZ mt 0),(9,pZ mt 1),(10,.slice (some ⟨ig,0,none⟩) tl ic),(11,iZ was),(12,pZ ig (was*6)),(13,pZ ig (was*6+3)),(14,.bool ey),(15,pZ mw 0),(16,pZ mw 0),(17,pZ mw 0),(18,pZ mt 0),(19,pZ mt 0),(20,pZ mt 1),(21,.slice (some ⟨ig,0,none⟩) tl ic),(22,iZ n),(23,pZ ig (n*6)),(24,pZ ig (n*6+3)),(25,.bool ez)] hHeld ?_;refine zr (i:=26) (v:=(.bool true)) rfl (by kernel_rfl) (by kernel_rfl) (by kernel_rfl) (fun _ _ _ h=>h) (Or.inl ⟨by rfl,?_⟩) hHeld ?_
  ·intro w hSw;(try dsimp only at hSw);simp only [ai];go_simp;(try simp [hez])
  simp only [ai,Act.put,bj];refine tk 27 (.bool true) rfl hHeld ?_;simp only [ai,Act.put,bj];refine zk (by kernel_rfl) ?_ _;go_wp2_with fail
  go_ret;exact ⟨rfl,HB4.out.drew⟩
 ·have hab:=sj hAC
  clear hAC hlk2;go_enter Tryz.func88,Tryz.ntmps88
  go_wp2_with (first
   | (go_at_call 122;refine HI.mono ?_;rintro e w1 ⟨rfl,b1⟩;(obtain ⟨c0,H1⟩:=HIS.out w1 b1);(have H2:=HR1.out w1 b1);clear HI HIS HR1 b1)
   | (go_at_call 38;refine H1.mono ?_;rintro e w2 ⟨rfl,hw2⟩;rw [hw2];clear hw2 H1)
   | (go_at_call 40;refine H2.mono ?_;rintro e w3 ⟨rfl,b3,c3⟩;(have H3:=HR2.out w3 b3);clear H2 HR2 b3 c0)
   | (go_at_call 40;refine H3.mono ?_;rintro e w4 ⟨rfl,b4,c4⟩;(have HB4:Hid (Bl w w4):=b4);clear H3 b4 c3))
  refine zh (S:=fun w'=>w'.cell? ⟨mw,0,none⟩=some (.pointer (some ⟨mt,0,none⟩))/\w'.cell? ⟨mt,1,none⟩=some (.slice (some ⟨ig,0,none⟩) tl ic)/\w'.cell? ⟨ig,was*6+3,none⟩=some (.bool ey)/\w'.cell? ⟨ig,n*6+3,none⟩=some (.bool ez)) (by kernel_rfl) (HS13.out _ HB4.out.drew) (fun hHeld=>?_);refine aW [(0,.string A),(1,.string C)] hHeld ?_;refine zr (i:=2) (v:=(.bool true)) rfl (by kernel_rfl) (by kernel_rfl) (by kernel_rfl) (fun _ _ _ h=>h) (Or.inl ⟨by rfl,?_⟩) hHeld ?_
  ·intro w hSw;(try dsimp only at hSw);simp only [ai];go_simp;(try simp [hab])
  simp only [ai,Act.put,bj];refine aW [(3,.bool true),(4,undef),(5,undef),(6,undef),(7,undef),(8,undef),(9,undef),(10,undef),(11,undef),(12,undef),(13,undef),(14,undef),(15,undef),(16,undef),(17,undef),(18,undef),(19,undef),(20,undef),(21,undef),(22,undef),(23,undef),(24,undef),(25,undef),(26,undef),(27,.bool true)] hHeld ?_;refine zk (by kernel_rfl) ?_ _;go_wp2_with fail
  go_ret;exact ⟨rfl,HB4.out.drew⟩
theorem pU (M:bi w B D mw mt la lc L us vs next) (Mt:ay w B mt md la2 lc2 ia ic bl tab vs2) (O:y6 bl tab) (hl:L.length<=100000) (hfl:∀x∈L,x.fs.length<=100000) (k:Int) (s:ByteArray) (hs:s.size<=1000000) (was n:Nat) (y z:ak) (hw:dV L k s=(was,0)) (hy:af tab was=some y) (hz:af tab n=some z) (hne:¬was=n) (i:Nat) (x:bA) (hfi:fN L k=some i) (hx:L[i]? = some x) (hcy:aQ (au bl y.blocks y.bytes)=y.sum) (hcz:aQ (au bl z.blocks z.bytes)=z.sum) (hlk:gt bl y z=true) (T0:Nat) (hT:T0<=B) (tab2:List (Option ak)) (htab:tab2=(tab.set n (some { z with links:=z.links+1 })).set was (if y.links-1=0 then none else some { y with links:=y.links-1 })) :
  Cl 88 #[.pointer (some ⟨mw,0,none⟩),.int .i64 k,.string s,.int .i64 (n:Int)] w fun e w'=>e = .returned (.int .i64 0)/\bi w' B D mw mt la lc (L.set i { x with fs:=setF x.fs s n }) us vs next/\(∃vs',ay w' B mt md la2 lc2 ia ic bl tab2 vs')/\bF T0 w w':=by
 have HI:=iS M (by omega) (fun x hx=>jm (hfl x hx) (by omega)) k s hs;rw [hw] at HI
 simp only at HI
 have hnei:¬(was:Int)=(n:Int):=by omega
 have HIS:Hid (∀W,Bl w W->W.cell? ⟨mw,0,none⟩=some (.pointer (some ⟨mt,0,none⟩))/\Cl 38 #[.pointer (some ⟨mt,0,none⟩),.int .i64 (n:Int)] W fun e w'=>e = .returned (.bool true)/\w'=W):=fun W hW=>⟨(M.below hW).cells.1,by
  have h:=lm (n:Int) W (Mt.below hW);rw [eJ,hz] at h;exact h⟩
 have HRD:Hid (∀W (q:Nat) x,Bl w W->af tab q=some x->Cl 40 #[.pointer (some ⟨mt,0,none⟩),.int .i64 (q:Int)] W fun e w'=>e = .returned (.tuple #[.string (bm bl x).1,.int .i64 (bm bl x).2])/\Bl w w'/\w'.cell? ⟨mw,0,none⟩=some (.pointer (some ⟨mt,0,none⟩))):=fun W q x hW hx=>by
  obtain ⟨h1,h2,h3,_⟩:=O.ino q x hx;exact (jP q x hx W (Mt.below hW) h1 O.b16 h2 h3).mono fun e w' ⟨he,hb⟩=>⟨he,hW.trans (hb.mono hW.size),(M.below (hW.trans (hb.mono hW.size))).cells.1⟩
 have HR1:Hid (∀W,Bl w W->Cl 40 #[.pointer (some ⟨mt,0,none⟩),.int .i64 (was:Int)] W fun e w'=>e = .returned (.tuple #[.string (bm bl y).1,.int .i64 (bm bl y).2])/\Bl w w'/\w'.cell? ⟨mw,0,none⟩=some (.pointer (some ⟨mt,0,none⟩))):=fun W hW=>HRD.out W was y hW hy;have HR2:Hid (∀W,Bl w W->Cl 40 #[.pointer (some ⟨mt,0,none⟩),.int .i64 (n:Int)] W fun e w'=>e = .returned (.tuple #[.string (bm bl z).1,.int .i64 (bm bl z).2])/\Bl w w'/\w'.cell? ⟨mw,0,none⟩=some (.pointer (some ⟨mt,0,none⟩))):=fun W hW=>HRD.out W n z hW hz
 obtain ⟨ig,hIA⟩:∃ig,ia=some ⟨ig,0,none⟩:=by
  obtain ⟨_,g,_,e1,_⟩:=Mt.slot (cM hy);exact ⟨g,e1⟩
 obtain ⟨tl,HTL⟩:∃tl,Hid (tl=tab.length):=⟨_,(rfl:_=_)⟩;obtain ⟨ey,HEY⟩:∃ey,Hid (ey=y.exec):=⟨_,(rfl:_=_)⟩;obtain ⟨ez,HEZ⟩:∃ez,Hid (ez=z.exec):=⟨_,(rfl:_=_)⟩;have hwt:was<tl:=by rw [HTL.out];exact aO hy
 have hnt:n<tl:=by rw [HTL.out];exact aO hz
 have htl:tl<=100000:=by rw [HTL.out];exact O.len
 have HS13:Hid (∀W',Bl w W'->(W'.cell? ⟨mw,0,none⟩=some (.pointer (some ⟨mt,0,none⟩))/\W'.cell? ⟨mt,1,none⟩=some (.slice (some ⟨ig,0,none⟩) tl ic)/\W'.cell? ⟨ig,was*6+3,none⟩=some (.bool ey)/\W'.cell? ⟨ig,n*6+3,none⟩=some (.bool ez))):=fun W' hW=>by
  obtain ⟨vy,gy,_,e1,h1,_⟩:=(Mt.below hW).slot (cM hy);obtain ⟨vz,gz,_,e2,h2,_⟩:=(Mt.below hW).slot (cM hz);have hg1:gy=ig:=by rw [e1] at hIA;simpa using hIA
  have hg2:gz=ig:=(by rw [e2] at hIA;simpa using hIA);subst hg1;subst hg2;rw [<-hIA];exact ⟨(M.below hW).cells.1,by rw [HTL.out];exact (Mt.below hW).cells.2.1,by rw [HEY.out];exact h1 3 _ rfl,by rw [HEZ.out];exact h2 3 _ rfl⟩
 have hry:bm bl y=(au bl y.blocks y.bytes,0):=by unfold bm;rw [zj hcy]
 have hrz:bm bl z=(au bl z.blocks z.bytes,0):=by unfold bm;rw [zj hcz]
 rw [hry] at HR1;rw [hrz] at HR2
 obtain ⟨hAC,hez⟩:au bl y.blocks y.bytes=au bl z.blocks z.bytes/\ey=ez:=by
  rw [HEY.out,HEZ.out];exact (fX bl y z).1 hlk
 obtain ⟨_,_,_,_,hlz⟩:=O.ino n z hz;obtain ⟨_,_,_,hly1,hly⟩:=O.ino was y hy;have hyn:af (tab.set n (some { z with links:=z.links+1 })) was=some y:=by rw [bK (aO hz),zi hne];exact hy
 have HL1:Hid (∀W,Bl w W->Cl 30 #[.pointer (some ⟨mt,0,none⟩),.int .i64 (n:Int),.int .i64 1] W fun e w'=>e = .returned (.int .i64 0)/\w'.cell? ⟨mw,0,none⟩=some (.pointer (some ⟨mt,0,none⟩))/\Cl 30 #[.pointer (some ⟨mt,0,none⟩),.int .i64 (was:Int),.int .i64 (-1)] w' fun e w''=>e = .returned (.int .i64 0)/\(bi w'' B D mw mt la lc L us vs next/\(∃vs',ay w'' B mt md la2 lc2 ia ic bl tab2 vs')/\bF T0 w w'')):=fun W hW=>by
  refine (mI (T0:=T0) n (z.links+1) 1 z hz (by omega) (by omega) W (Mt.below hW) hT).mono fun e w' ⟨he,⟨vs',M2⟩,B2⟩=>?_;rw [zi (by omega)] at M2;have M3:=(M.below hW).of_mt B2;refine ⟨he,M3.cells.1,(mI (T0:=T0) was (y.links-1) (-1) y hyn (by omega) (by omega) w' M2 hT).mono fun e w'' ⟨he,⟨vs'',M4⟩,B4⟩=>⟨he,M3.of_mt B4,⟨vs'',by rw [htab];exact M4⟩,(bF.of_below hW).trans ((bF.of_mt B2).trans (bF.of_mt B4))⟩⟩
 have HFI:Hid (∀W,bi W B D mw mt la lc L us vs next->Cl 123 #[.pointer (some ⟨mw,0,none⟩),.int .i64 k] W fun e w'=>e = .returned (.int .i64 (i:Int))/\w'=W):=fun W M=>by
  have h:=pz M (by omega) k;rw [hfi] at h;exact h
 have hab:=mV hAC;rw [hAC] at HR1;generalize au bl y.blocks y.bytes=A at *;subst hAC;generalize au bl z.blocks z.bytes=C at *;obtain ⟨fs,HFS⟩:∃fs,Hid (fs=x.fs):=⟨_,(rfl:_=_)⟩;obtain ⟨fl,HFL⟩:∃fl,Hid (fl=fs.length):=⟨_,(rfl:_=_)⟩;obtain ⟨nl,HNL⟩:∃nl,Hid (nl=L.length):=⟨_,(rfl:_=_)⟩;have hi:i<nl:=by rw [HNL.out];exact (jb.1 hx).1
 have hnl:nl<=100000:=by rw [HNL.out];exact hl
 have hflf:fl<=100000:=by rw [HFL.out,HFS.out];exact hfl x (jg hx)
 have hfl0:0<fl:=by
  rw [HFL.out,HFS.out];unfold dV at hw;rw [hfi] at hw
  simp only at hw
  split at hw
  ·simp at hw
  ·rw [hx] at hw
   cases hxf:x.fs with
   | nil =>
    rw [Option.bind_some,hxf] at hw
    simp [kW] at hw
   | cons=>simp
 have HX:Hid (L[i]? = some x):=hx;clear M Mt O hw hy hz HRD hcy hcz hlk HEY HEZ HTL hry hrz hyn hlz hly hly1 hx hl hfl htab hfi;go_enter Tryz.func88,Tryz.ntmps88
 go_wp2_with (first
  | (go_at_call 122;refine HI.mono ?_;rintro e w1 ⟨rfl,b1⟩;(obtain ⟨c0,H1⟩:=HIS.out w1 b1);(have H2:=HR1.out w1 b1);clear HI HIS HR1 b1)
  | (go_at_call 38;refine H1.mono ?_;rintro e w2 ⟨rfl,hw2⟩;rw [hw2];clear hw2 H1)
  | (go_at_call 40;refine H2.mono ?_;rintro e w3 ⟨rfl,b3,c3⟩;(have H3:=HR2.out w3 b3);clear H2 HR2 b3 c0)
  | (go_at_call 40;refine H3.mono ?_;rintro e w4 ⟨rfl,b4,c4⟩;(have HB4:Hid (Bl w w4):=b4);clear H3 b4 c3))
 refine zh (S:=fun w'=>w'.cell? ⟨mw,0,none⟩=some (.pointer (some ⟨mt,0,none⟩))/\w'.cell? ⟨mt,1,none⟩=some (.slice (some ⟨ig,0,none⟩) tl ic)/\w'.cell? ⟨ig,was*6+3,none⟩=some (.bool ey)/\w'.cell? ⟨ig,n*6+3,none⟩=some (.bool ez)) (by kernel_rfl) (HS13.out _ HB4.out.drew) (fun hHeld=>?_);refine aW [(0,.string C),(1,.string C)] hHeld ?_;refine zr (i:=2) (v:=(.bool false)) rfl (by kernel_rfl) (by kernel_rfl) (by kernel_rfl) (fun _ _ _ h=>h) (Or.inl ⟨by rfl,?_⟩) hHeld ?_
 ·intro w hSw;(try dsimp only at hSw);simp only [ai];go_simp;(try simp [hab])
 simp only [ai,Act.put,bj];refine aW [(3,.bool false),(4,pZ mw 0),(5,pZ mw 0),(6,pZ mw 0),(7,pZ mt 0),(8,pZ mt 0),(9,pZ mt 1),(10,.slice (some ⟨ig,0,none⟩) tl ic),(11,iZ was),(12,pZ ig (was*6)),(13,pZ ig (was*6+3)),(14,.bool ey),(15,pZ mw 0),(16,pZ mw 0),(17,pZ mw 0),(18,pZ mt 0),(19,pZ mt 0),(20,pZ mt 1),(21,.slice (some ⟨ig,0,none⟩) tl ic),(22,iZ n),(23,pZ ig (n*6)),(24,pZ ig (n*6+3)),(25,.bool ez)] hHeld ?_;refine zr (i:=26) (v:=(.bool false)) rfl (by kernel_rfl) (by kernel_rfl) (by kernel_rfl) (fun _ _ _ h=>h) (Or.inl ⟨by rfl,?_⟩) hHeld ?_
 ·intro w hSw;(try dsimp only at hSw);simp only [ai];go_simp;(try simp [hez])
 simp only [ai,Act.put,bj];refine tk 27 (.bool false) rfl hHeld ?_;simp only [ai,Act.put,bj];refine zk (by kernel_rfl) ?_ _;have HLk:=HL1.out w4.drew HB4.out.drew;clear HL1 HS13 hab hez
 go_wp2_with (first
  | (go_at_call 30;refine HLk.mono ?_;rintro e w5 ⟨rfl,c5,H5⟩;clear HLk c4)
  | (go_at_call 30;refine H5.mono ?_;rintro e w6 ⟨rfl,h6⟩;(have H6:Hid _:=h6);clear H5 h6 c5))
 obtain ⟨f0,hf0⟩:∃f0,x.fs[0]? = some f0:=⟨_,jc (by rw [<-HFS.out,<-HFL.out];exact hfl0)⟩;obtain ⟨fg,fcp,hv,_⟩:=(H6.out.1).setN (T0:=T0) HX.out hf0 hT;obtain ⟨g,ua,uc,va,vc,hla,_,hv2,_,_,_,_,_,e5⟩:=(H6.out.1).at HX.out;rw [hv] at hv2;simp only [jh,jo] at hv2;obtain ⟨rfl,hzz,rfl⟩:=hv2;clear hzz;have e1:=(H6.out.1).cells.2.1;rw [<-HNL.out] at e1;rw [hla] at e1;rw [<-HFS.out,<-HFL.out] at e5 hv;have HV:Hid (vs[i]? = some (.slice (some ⟨fg,0,none⟩) fl fcp)):=hv;have HF6:Hid (Cl 123 #[.pointer (some ⟨mw,0,none⟩),.int .i64 k] w6.drew fun e w'=>e = .returned (.int .i64 (i:Int))/\w'=w6.drew):=HFI.out _ ((H6.out.1).below (je _ _).drew)
 have H7:Hid (bi w6.drew B D mw mt la lc L us vs next/\(∃vs',ay w6.drew B mt md la2 lc2 ia ic bl tab2 vs')/\bF T0 w w6.drew):=by
  obtain ⟨h1,⟨v',h2⟩,h3⟩:=H6.out;exact ⟨h1.below (je _ _).drew,⟨v',h2.below (je _ _).drew⟩,h3.trans (bF.of_below (je _ _).drew)⟩
 clear H6 hf0 hv HFI HB4 hla;refine zh (S:=fun w'=>w'.cell? ⟨mw,1,none⟩=some (.slice (some ⟨g,0,none⟩) nl lc)/\w'.cell? ⟨g,i*6+5,none⟩=some (.slice (some ⟨fg,0,none⟩) fl fcp)) (by kernel_rfl) (⟨e1,e5⟩) (fun hHeld=>?_);refine aW [(0,pZ mw 0),(1,pZ mw 0),(2,pZ mw 1),(3,.slice (some ⟨g,0,none⟩) nl lc),(4,pZ mw 0),(5,iZ k)] hHeld ?_;refine aC 6 rfl fun K' hK=>?_;simp only [ai];go_simp;refine jk HF6.out ?_;rintro e wx ⟨rfl,hw⟩;rw [hw];clear hw;go_wp2_with fail
 refine hK.out _ _ ⟨e1,e5⟩ (fun hHeld=>?_);clear hK K';refine aW [(7,pZ g (i*6)),(8,pZ g (i*6+5)),(9,.slice (some ⟨fg,0,none⟩) fl fcp),(10,.slice (some ⟨fg,0,none⟩) fl fcp)] hHeld ?_;refine zk (by kernel_rfl) ?_ _;clear e1 e5 HF6;go_wp2_with fail
 go_loopw [16] (fun iv wr=>∃j:Nat,j<=fl/\iv = .int .i64 j/\Hid (bi wr B D mw mt la lc (L.set i { x with fs:=setF (fs.take j) s n++fs.drop j }) us vs next)/\Hid (∃vs',ay wr B mt md la2 lc2 ia ic bl tab2 vs')/\Hid (bF T0 w wr)) (fun iv _=>fl-(intOf iv).toNat)
 case atStart =>
  refine ⟨0,jq _,rfl,?_,H7.out.2.1,H7.out.2.2⟩;show bi _ _ _ _ _ _ _ _ _ _ _
  have e:L.set i { x with fs:=setF (fs.take 0) s n++fs.drop 0 }=L:=by
   rw [qY,List.drop_zero];show L.set i { x with fs:=fs }=L;rw [HFS.out];exact pX HX.out
  rw [e];exact H7.out.1
 case round =>
  obtain ⟨j,hj,rfl,HM,HMT,HD⟩:=hrel;by_cases hlt:j<fl
  ·obtain ⟨f,hf⟩:∃f,fs[j]? = some f:=⟨_,jc (by rw [<-HFL.out];exact hlt)⟩
   have hsl:(setF (fs.take j) s n).length=j:=by
    unfold setF;rw [jB,js,<-HFL.out];omega
   have hfj:(setF (fs.take j) s n++fs.drop j)[j]? = some f:=by
    rw [jA (by omega),hsl,Nat.sub_self,ym,yh];exact hf
   have hil:i<L.length:=(by rw [<-HNL.out];exact hi);have hxi:(L.set i { x with fs:=setF (fs.take j) s n++fs.drop j })[i]? = some { x with fs:=setF (fs.take j) s n++fs.drop j }:=jM hil;obtain ⟨fg',fcp',hv',f0,f1,ff,hset⟩:=HM.out.setN (T0:=T0) hxi hfj hT
   have hfg:fg'=fg:=by
    rw [HV.out] at hv';simp only [jh,jo,qH] at hv';exact hv'.1.1.symm
   subst hfg
   have hdr:fs.drop j=f :: fs.drop (j+1):=by
    obtain ⟨h1,h2⟩:=jb.1 hf;rw [ql h1,h2]
   have hnx:setF (fs.take (j+1)) s n++fs.drop (j+1)=if f.1=s then (setF (fs.take j) s n++fs.drop j).set j (f.1,n) else setF (fs.take j) s n++fs.drop j:=by
    rw [dD hf,oP,hdr];by_cases he:f.1=s
    ·rw [zj he,zj he,List.set_append_right _ _ (by omega),hsl,Nat.sub_self,List.set_cons_zero,jK,he];rfl
    ·rw [zi he,zi he,jK];rfl
   by_cases he:f.1=s
   ·have heb:=mV he
    rw [zj he] at hnx
    have HN:Hid (bi (wr.setCell ⟨fg',j*2+1,none⟩ (.int .i64 (n:Int))) B D mw mt la lc (L.set i { x with fs:=setF (fs.take (j+1)) s n++fs.drop (j+1) }) us vs next/\(∃vs',ay (wr.setCell ⟨fg',j*2+1,none⟩ (.int .i64 (n:Int))) B mt md la2 lc2 ia ic bl tab2 vs')/\bF T0 w (wr.setCell ⟨fg',j*2+1,none⟩ (.int .i64 (n:Int)))):=by
     obtain ⟨h1,h2,cur,h3⟩:=hset n;rw [List.set_set] at h1;obtain ⟨vs',MT⟩:=HMT.out;refine ⟨?_,⟨vs',MT.butBox h3 (.inr (.inr rfl)) (fun q o hq hne=>by rw [jf _ _ _ _ hne];exact hq)⟩,HD.out.trans h2⟩;rw [hnx];exact h1
    clear he hf hsl hfj hil hxi hset hdr hnx HM HMT HD hv';go_wp2_with fail
    exact ⟨⟨j+1,by omega,by simp,HN.out.1,HN.out.2.1,HN.out.2.2⟩,by simp [intOf];omega⟩
   ·have heb:=sj he
    rw [zi he] at hnx
    have HN:Hid (bi wr B D mw mt la lc (L.set i { x with fs:=setF (fs.take (j+1)) s n++fs.drop (j+1) }) us vs next):=by
     show bi _ _ _ _ _ _ _ _ _ _ _;rw [hnx];exact HM.out
    clear he hf hsl hfj hil hxi hset hdr hnx HM hv' f1;go_wp2_with fail
    exact ⟨⟨j+1,by omega,by simp,HN.out,HMT,HD⟩,by simp [intOf];omega⟩
  ·have hjf:j=fl:=by omega
   have HEND:Hid (bi wr B D mw mt la lc (L.set i { x with fs:=setF x.fs s n }) us vs next):=by
    show bi _ _ _ _ _ _ _ _ _ _ _
    have e:setF (fs.take j) s n++fs.drop j=setF x.fs s n:=by
     rw [jr (by rw [hjf,HFL.out];exact jd _),qk (by rw [hjf,HFL.out];exact jd _),qz,HFS.out]
    rw [<-e];exact HM.out
   clear HM;go_wp2_with fail
   go_ret;exact ⟨rfl,HEND.out,HMT.out,HD.out⟩
end
end
section
set_option maxRecDepth 100000
open Go.RowKit Go.Maps

section
variable {w w' : World} {T0 T1 B D mw mt md next lc lc2 ic dp tb mb m1 m2 n1 d bb sp sb cap n : Nat} {la la2 ia : Option Addr} {L : List bA} {us vs vs2 : List Value} {bl : List (List UInt8)} {u : List Bool} {tab : List (Option ak)} {tr : List (Option ah)} {fb : Nat → Nat}
theorem bi.pbut (M:bi w B D mw mt la lc L us vs next) (h:bE T0 dp w w') (hd:∃cs,w.heap[dp]? = some (.cells cs 176 (0,0))):bi w' B D mw mt la lc L us vs next:=by
 obtain ⟨cs,hd⟩:=hd;refine M.kept h.size fun k c ty ht hk=>h.block k _ hk (.inr ?_) fun e=>?_
 ·unfold AH at ht
  simp only [yF,beq_iff_eq] at ht
  rcases ht with ((rfl|rfl)|rfl)|rfl <;> rfl
 ·rw [e,hd] at hk
  simp only [jh,jL] at hk;rw [<-hk.2.1] at ht;exact absurd ht (by decide)
theorem ay.pbut (M:ay w B mt md la lc ia ic bl tab vs) (h:bE T0 dp w w') (hd:∃cs,w.heap[dp]? = some (.cells cs 176 (0,0))):ay w' B mt md la lc ia ic bl tab vs:=by
 obtain ⟨cs,hd⟩:=hd;refine M.turn (p:=fun o=>gA o||vF o) (fun k o hk hp=>?_) (fun _ _=>rfl) (fun _ _=>rfl) (fun _ _=>rfl) (fun _ _=>rfl) (fun _ _=>rfl) (fun _ _=>rfl);have hp':(gA o||vF o)=false:=hp;rw [qh] at hp';refine h.block k o hk (.inr hp'.1) fun e=>?_;rw [e,hd] at hk;cases hk
 have h2:true=false:=hp'.2;cases h2
theorem aq.dbut {F:Nat->Prop} (T:aq w F T0 tb bb sp sb cap mb n bl u tab) (h:bF T1 w w'):aq w' F T0 tb bb sp sb cap mb n bl u tab:=by
 have ht:am pc w w':=fun k o hk hp=>h.block k o hk (.inr hp);obtain ⟨f,N⟩:=T.nodes;exact ⟨ht _ _ T.box rfl,T.disk.turn ht (fun _ _=>rfl) (fun _ _=>rfl) (fun _ _=>rfl),T.space.turn ht (fun _ _=>rfl) (fun _ _=>rfl),⟨f,N.turn ht (fun _ _=>rfl) (fun _ _=>rfl) (fun _ _=>rfl)⟩,T.low⟩
theorem aL.dbut (D:aL w T0 dp tb mb m1 m2 n1 d tr fb) (h:bF T1 w w'):aL w' T0 dp tb mb m1 m2 n1 d tr fb :=
 D.kept h.size (fun k o hk hp _=>h.block k o hk (.inr (by cases o <;> first|rfl|cases hp))) (fun _ hc=>h.block _ _ hc (.inr rfl)) (fun _ _ hc=>h.block _ _ hc (.inr rfl))
end
structure B2 (w0:World) (N d dp tb bb sp sb cap mb m1 m2 mw mt md j:Nat) (s:aA) (tr:List (Option ah)) (pt:List ab) (s':aA) (tr':List (Option ah)) (pt':List ab) (w:World):Prop where
 D:∃n1 fb,n1<=j/\aL w w0.heap.size dp tb mb m1 m2 n1 d tr fb
 T:∃n,n<=40*j/\aq w (fun _=>False) w0.heap.size tb bb sp sb cap mb n s.bl s.u s.tab
 M:∃la lc us vs,bi w w0.heap.size d mw mt la lc (bP (d+1) 0 tr' pt') us vs tr'.length
 Mt:∃la lc ia ic vs,ay w w0.heap.size mt md la lc ia ic s'.bl s'.tab vs
 I:cL N (d+1) s tr pt
 few:pt.length<=j/\∀t∈pt,fM d t
 low:Bl w0 w
 ge:w0.heap.size<=mw/\w0.heap.size<=mt/\w0.heap.size<=md
 tl:s.tab.length<=40*j
abbrev gg (w0:World) (N d dp tb bb sp sb cap mb m1 m2 mw mt md j:Nat) (s:aA) (tr:List (Option ah)) (pt:List ab) (w:World):Prop:=B2 w0 N d dp tb bb sp sb cap mb m1 m2 mw mt md j s tr pt s tr pt w
section
variable {a : Nat → Addr} {w0 W W' : World} {N d dp tb bb sp sb cap mb m1 m2 mw mt md j : Nat} {s s' : aA} {tr tr' : List (Option ah)} {pt pt' : List ab}
theorem B2.below (S:B2 w0 N d dp tb bb sp sb cap mb m1 m2 mw mt md j s tr pt s' tr' pt' W) (h:Bl W W'):B2 w0 N d dp tb bb sp sb cap mb m1 m2 mw mt md j s tr pt s' tr' pt' W':=by
 obtain ⟨⟨n1,fb,h1,D⟩,⟨n,h2,T⟩,⟨la,lc,us,vs,M⟩,⟨la2,lc2,ia,ic,vs2,Mt⟩,I,f,b,g,t⟩:=S;exact ⟨⟨n1,fb,h1,D.below h⟩,⟨n,h2,T.below h⟩,⟨la,lc,us,vs,M.below h⟩,⟨la2,lc2,ia,ic,vs2,Mt.below h⟩,I,f,b.trans (h.mono b.size),g,t⟩
theorem B2.up {j':Nat} (S:B2 w0 N d dp tb bb sp sb cap mb m1 m2 mw mt md j s tr pt s' tr' pt' W) (h:j<=j'):B2 w0 N d dp tb bb sp sb cap mb m1 m2 mw mt md j' s tr pt s' tr' pt' W:=by
 obtain ⟨⟨n1,fb,h1,D⟩,⟨n,h2,T⟩,M,Mt,I,f,b,g,t⟩:=S;exact ⟨⟨n1,fb,by omega,D⟩,⟨n,by omega,T⟩,M,Mt,I,⟨by have:=f.1;omega,f.2⟩,b,g,by omega⟩
theorem B2.doc (S:B2 w0 N d dp tb bb sp sb cap mb m1 m2 mw mt md j s tr pt s' tr' pt' W) (h:bF w0.heap.size W W') (M:∃la lc us vs,bi W' w0.heap.size d mw mt la lc (bP (d+1) 0 tr pt) us vs tr.length) (Mt:∃la lc ia ic vs,ay W' w0.heap.size mt md la lc ia ic s.bl s.tab vs):gg w0 N d dp tb bb sp sb cap mb m1 m2 mw mt md j s tr pt W':=by
 obtain ⟨⟨n1,fb,h1,D⟩,⟨n,h2,T⟩,_,_,I,f,b,g,t⟩:=S;exact ⟨⟨n1,fb,h1,D.dbut h⟩,⟨n,h2,T.dbut h⟩,M,Mt,I,f,h.below (jd _) b.size b,g,t⟩
theorem B2.refs (S:B2 w0 N d dp tb bb sp sb cap mb m1 m2 mw mt md j s tr pt s' tr' pt' W) (hj:j<=1000):(cG (d+1) tr pt).length<=40000:=by
 have h1:=oW (D:=d+1) (M:=40) (tr:=tr) (pt:=pt) fun t ht=>(S.few.2 t ht).files;have h2:=S.few.1;have h3:40*pt.length<=40*1000:=Nat.mul_le_mul_left _ (by omega);omega
theorem B2.sents (S:B2 w0 N d dp tb bb sp sb cap mb m1 m2 mw mt md j s tr pt s' tr' pt' W) (E:kj a w0):fB a W/\dJ a W.heap.size W:=by
 have P:=E.P.below S.low;exact ⟨P,P.is.atB⟩
def uO (a:Nat->Addr) (v:Value) (c:Int):Prop:=(v = .nilIface/\c=0)∨∃n:Nat,n<13/\v = .iface 319 (.pointer (some (a n)))/\c=(n:Int)+1
end
end
end Go.Proofs.YthofhjnfkholoaaGreatDoor
