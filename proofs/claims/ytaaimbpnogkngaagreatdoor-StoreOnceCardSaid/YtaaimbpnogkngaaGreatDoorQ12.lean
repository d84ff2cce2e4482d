/- Ords ShelfC Find PAt ListW Large Sums Boxes PGet Joins PathT Named WalkE, joined. Conditions: as each states. -/
import Derived.Lib.Bytealg
import Derived.Shelf.Small.Strs
import Derived.Deep.LoopGhost
import Derived.Deep.DeepMust
import Derived.Test.YtaaimbpnogkngaaGreatDoorQ10
namespace Go.Proofs.YtaaimbpnogkngaaGreatDoor
set_option maxHeartbeats 4000000
set_option maxRecDepth 100000
section
open Go.RowKit

theorem lq:∀(a b:Yu),(Lib.compareBytes a b<0↔Op.bytesLess a b=true)/\(Lib.compareBytes a b=0↔a=b)
 | [],[]=>by simp [Lib.compareBytes,Op.bytesLess]
 | [],_ :: _=>by simp [Lib.compareBytes,Op.bytesLess]
 | _ :: _,[]=>by simp [Lib.compareBytes,Op.bytesLess]
 | a :: x,b :: y=>by
  have ih:=lq x y;simp only [Lib.compareBytes,Op.bytesLess,yF,zm,qS,beq_iff_eq,qD];by_cases h1:a<b
  ·have hne:a≠b:=fun e=>by subst e;exact absurd h1 (by simp)
   simp [h1,hne]
  ·by_cases h2:b<a
   ·have hne:a≠b:=fun e=>by subst e;exact absurd h2 (by simp)
    simp [h1,h2,hne]
   ·have e:a=b:=by
     have h3:=UInt8.not_lt.1 h1;have h4:=UInt8.not_lt.1 h2;exact UInt8.le_antisymm h4 h3
    subst e;simp only [h1,if_false,true_and,false_or];exact ih
theorem fY:∀ {a b c:Yu},Op.bytesLess a b=true->Op.bytesLess b c=true->Op.bytesLess a c=true
 | _,[],_,h,_=>by simp [Op.bytesLess] at h
 | [],_ :: _,[],_,h=>by simp [Op.bytesLess] at h
 | [],_ :: _,_ :: _,_,_=>by simp [Op.bytesLess]
 | _ :: _,_ :: _,[],_,h=>by simp [Op.bytesLess] at h
 | a :: x,b :: y,c :: z,h1,h2=>by
  simp only [Op.bytesLess,yF,zm,qS,beq_iff_eq] at h1 h2 ⊢
  rcases h1 with h1|⟨rfl,h1⟩
  ·rcases h2 with h2|⟨rfl,_⟩
   ·exact .inl (UInt8.lt_trans h1 h2)
   ·exact .inl h1
  ·rcases h2 with h2|⟨rfl,h2⟩
   ·exact .inl h2
   ·exact .inr ⟨rfl,fY h1 h2⟩
theorem iY (a:Yu):Op.bytesLess a a=false:=by
 cases h:Op.bytesLess a a with
 | false=>rfl
 | true =>
  have:=(lq a a).1.2 h
  have:=(lq a a).2.2 rfl
  omega

def i6 (l:List (Yb×ab)):Prop:=∀(i j:Nat) (x y:Yb×ab),i<j->l[i]? = some x->l[j]? = some y->Op.bytesLess x.1.toList y.1.toList=true
theorem F5 {l:List (Yb×ab)} (h:cA l l.length=true):i6 l:=by
 have one:∀(j:Nat) (x y:Yb×ab),l[j]? = some x->l[j+1]? = some y->Op.bytesLess x.1.toList y.1.toList=true:=fun j x y hx hy=>by
  have hj:j+1<l.length:=(jb.1 hy).1
  cases hk:cA l (j+1+1) with
  | false=>rw [ll (by omega) hk] at h;cases h
  | true =>
   rw [nI hx hy] at hk
   simpa using (qS _ _ ▸ hk:_/\_).2
 intro i j
 induction j with
 | zero=>intro x y h;omega
 | succ j ih =>
  intro x y hij hx hy;have hj:j+1<l.length:=(jb.1 hy).1;obtain ⟨z,hz⟩:∃z,l[j]? = some z:=⟨l[j],jc (by omega)⟩;have h1:=one j z y hz hy
  rcases qO i j with h2|h2
  ·exact fY (ih x z h2 hx hz) h1
  ·obtain rfl:i=j:=by omega
   rw [hx] at hz;obtain rfl:=jO hz;exact h1

def dx (l:List (Yb×ab)) (s:Yb):Nat:=l.countP fun x=>Op.bytesLess x.1.toList s.toList
def dW (l:List (Yb×ab)) (s:Yb):Bool:=match l[dx l s]? with
 | none=>false
 | some x=>decide (x.1=s)
theorem pM (p:Yb×ab->Bool):∀(l:List (Yb×ab)) (i:Nat),i<=l.length->(∀t x,t<i->l[t]? = some x->p x=true)->(∀t x,i<=t->l[t]? = some x->p x=false)->l.countP p=i
 | [],i,hi,_,_=>by simp at hi;simp [hi]
 | a :: r,0,_,_,h2=>by
  rw [List.countP_eq_zero];intro x hx;obtain ⟨t,ht,rfl⟩:=yt hx
  have:=h2 t _ (jq _) (jc ht)
  simp [this]
 | a :: r,i+1,hi,h1,h2=>by
  have ha:p a=true:=h1 0 a (Nat.succ_pos _) rfl;rw [List.countP_cons_of_pos ha,pM p r i (by simpa using hi) (fun t x ht hx=>h1 (t+1) x (by omega) (by simpa using hx)) (fun t x ht hx=>h2 (t+1) x (by omega) (by simpa using hx))]
theorem AJ {l:List (Yb×ab)} {s:Yb} (h:dW l s=true):∃x,l[dx l s]? = some x/\x.1=s:=by
 unfold dW at h
 split at h
 ·cases h
 ·rename_i x hx
  exact ⟨x,hx,by simpa using h⟩
theorem fP (s:Yb):s.toList=s.data.toList:=ByteArray.toList_eq s
theorem KR {s t:Yb} (h:s.toList=t.toList):s=t:=by
 rw [fP,fP] at h;obtain ⟨⟨a⟩⟩:=s;obtain ⟨⟨b⟩⟩:=t
 simp only at h
 subst h;rfl
theorem vH {l:List (Yb×ab)} {i:Nat} {x:Yb×ab} (hr:i6 l) (hx:l[i]? = some x):dx l x.1=i:=by
 have hi:i<l.length:=(jb.1 hx).1;refine pM _ l i (by omega) (fun t y ht hy=>hr t i y x ht hy hx) (fun t y ht hy=>?_)
 rcases qO i t with h|h
 ·cases hc:Op.bytesLess y.1.toList x.1.toList with
  | false=>rfl
  | true =>
   have:=fY hc (hr i t x y h hx hy)
   rw [iY] at this;cases this
 ·obtain rfl:t=i:=by omega
  rw [hx] at hy;obtain rfl:=jO hy;exact iY _
theorem F6 {l:List (Yb×ab)} {i:Nat} {x:Yb×ab} (hr:i6 l) (hx:l[i]? = some x):dW l x.1=true:=by
 unfold dW;rw [vH hr hx,hx]
 simp
end
end Go.Proofs.YtaaimbpnogkngaaGreatDoor
namespace Go.Proofs
set_option maxHeartbeats 4000000
set_option maxRecDepth 100000
open Go.Shelf
def Tryz.lays106_ren : Go.Shelf.Ren := ⟨fun | 106 => 256 | 213 => 295 | 265 => 321 | n => n, fun | 9 => 9 | 3 => 3 | n => n, fun | n => n⟩
theorem Tryz.lays106 : Go.Proofs.Lays.n106 Tryz.prog Tryz.lays106_ren := {
  mixed := by kernel_rfl
  f106 := Tryz.func256.trans (congrArg some (by kernel_rfl))
  f213 := Tryz.func295.trans (congrArg some (by kernel_rfl))
  f265 := Tryz.func321.trans (congrArg some (by kernel_rfl))
  t3 := Tryz.underlying3
  a3 := Tryz.isAgg3
  z3 := Tryz.sizeOf3
  v3 := Tryz.zeroValue3
  t9 := Tryz.underlying9
  a9 := Tryz.isAgg9
  z9 := Tryz.sizeOf9
  v9 := Tryz.zeroValue9 }
open Go.RowKit in
theorem Tryz.strings_Compare (a b : ByteArray) (w : World) :
    Calls Tryz.prog 256 #[.string a, .string b] w fun e w' => e = .returned (.int .i64 (Lib.compareBytes a.data.toList b.data.toList)) ∧ w' = w := Any.strings_Compare Tryz.lays106 a b w
end Go.Proofs
namespace Go.Proofs.YtaaimbpnogkngaaGreatDoor
set_option maxHeartbeats 4000000
set_option maxRecDepth 100000
section
open Go.RowKit
attribute [local go_sem ↓] Go.wp_at_zero Go.wp_at_succ

theorem CQ (x:Yb×ab) (ad:Yo Addr) (n c:Nat) (s:Yb) (w:Yw):Cl 255 #[.agg #[.string x.1,.string x.2.kind,.string x.2.data,.bool x.2.exec,.slice ad n c],.string s] w fun e w'=>e = .returned (.int .i64 (Lib.compareBytes x.1.data.toList s.data.toList))/\Bl w w':=by
 have HC:Hid (∀w',Cl 256 #[.string x.1,.string s] w' fun e w''=>e = .returned (.int .i64 (Lib.compareBytes x.1.data.toList s.data.toList))/\w''=w'):=fun w'=>Tryz.strings_Compare x.1 s w';have HB:Hid (∀o,Bl w (w.alloc o)):=fun o=>(je _ _).alloc (jd _) o;go_enter Tryz.func255,Tryz.ntmps255;go_wp2_with fail
 refine jk (HC.out _) ?_;rintro e w1 ⟨rfl,rfl⟩;go_wp2_with fail
 go_ret;exact ⟨rfl,HB.out _⟩

theorem vI {x s:Yb}:Lib.compareBytes x.data.toList s.data.toList<0↔Op.bytesLess x.toList s.toList=true:=by
 rw [fP,fP];exact (lq _ _).1
theorem zB {x s:Yb}:Lib.compareBytes x.data.toList s.data.toList=0↔x=s:=by
 rw [(lq _ _).2];exact ⟨fun h=>KR (by rw [fP,fP];exact h),fun h=>by rw [h]⟩
theorem CR {i j:Int} {x y:Bool} (h1:i=j) (h2:x=y):Ending.returned (.tuple #[.int .i64 i,.bool x]) = .returned (.tuple #[.int .i64 j,.bool y]):=by rw [h1,h2]
theorem F7 {l:List (Yb×ab)} {s:Yb} {i:Nat} {x:Yb×ab} (hi:dx l s=i) (hx:l[i]? = some x):dW l s=decide (x.1=s):=by
 unfold dW;rw [hi,hx]
theorem AK {l:List (Yb×ab)} {s:Yb} (hi:dx l s=l.length):dW l s=false:=by
 unfold dW;rw [hi,qw (jd _)]

theorem AL (B d:Nat) (l:List (Yb×ab)) (u:Yv) (s:Yb) (w:Yw) (hB:B<=w.heap.size) (hl:aJ w B d l u) (hr:i6 l) :
  Cl 254 #[u,.string s,.func (.func 255) #[] #[]] w fun e w'=>e = .returned (.tuple #[.int .i64 (dx l s:Int),.bool (dW l s)])/\Bl w w':=by
 obtain ⟨ta,tc,rfl⟩:=hl.form
 cases d with
 | zero=>exact absurd hl (by simp [aJ])
 | succ d =>
 obtain ⟨hlen,hop⟩:=aJ.open hl;have HOP:Hid _:=hop;have HRI:=kH hr;have HF1:Hid (∀(x:Yb×ab) (ad:Yo Addr) (n c:Nat) (w':Yw),Cl 255 #[.agg #[.string x.1,.string x.2.kind,.string x.2.data,.bool x.2.exec,.slice ad n c],.string s] w' fun e w''=>e = .returned (.int .i64 (Lib.compareBytes x.1.data.toList s.data.toList))/\Bl w' w''):=fun x ad n c w'=>CQ x ad n c s w'
 have HKID:Hid (∀i,i<l.length->∃x b off xa xn xc,l[i]? = some x/\ta=some ⟨b,off,none⟩/\∀w',Bl w w' ->
   w'.cell? ⟨b,off+i*5,none⟩=some (.string x.1)/\w'.cell? ⟨b,off+i*5+1,none⟩=some (.string x.2.kind)/\w'.cell? ⟨b,off+i*5+2,none⟩=some (.string x.2.data)/\w'.cell? ⟨b,off+i*5+3,none⟩=some (.bool x.2.exec)/\w'.cell? ⟨b,off+i*5+4,none⟩=some (.slice xa xn xc)):=fun i hi=>by
  rcases HOP.out with ⟨h0,_⟩|⟨b,off,cap,e,hb,hat⟩
  ·rw [h0] at hi;simp at hi
  ·obtain ⟨x,hx⟩:∃x,l[i]? = some x:=⟨l[i],jc hi⟩
   obtain ⟨ux,K⟩:=hat i x hx;obtain ⟨xa,xc,rfl⟩:=K.lies.form;simp only [jo] at e;refine ⟨x,b,off,xa,x.2.kids.length,xc,hx,e.1,fun w' h=>?_⟩;have hc:∀o,w'.cell? ⟨b,o,none⟩=w.cell? ⟨b,o,none⟩:=fun o=>h.cell (p:=⟨b,o,none⟩) (show b<w.heap.size by omega);exact ⟨by rw [hc];exact K.name,by rw [hc];exact K.kind,by rw [hc];exact K.data,by rw [hc];exact K.exec,by rw [hc];exact K.kids⟩
 clear hl hop hr HOP;go_enter Tryz.func254,Tryz.ntmps254;go_wp2_with fail
 go_loopg [9,10] l.length (fun kx s9 s10 wr=>∃lo hi:Nat,s9 = .int .i64 lo/\s10 = .int .i64 hi/\lo<=hi/\hi<=l.length/\hi-lo<=kx/\Bl w wr /\
  ((∀t x,t<lo->l[t]? = some x->Op.bytesLess x.1.toList s.toList=true)/\(∀t x,hi<=t->l[t]? = some x->Op.bytesLess x.1.toList s.toList=false)))
 case atStart=>exact ⟨0,l.length,rfl,rfl,jq _,jd _,by omega,je _ _,fun t x ht=>absurd ht (Nat.not_lt_zero _),fun t x h1 h2=>by have:=(jb.1 h2).1;omega⟩
 case round =>
  obtain ⟨lo,hi,rfl,rfl,hlh,hin,hg,hb,I1,I2⟩:=hrel;have HB:=kH hb;have HI1:=kH I1;have HI2:=kH I2;clear hb I1 I2;by_cases hlt:lo<hi
  ·obtain ⟨x,b,off,xa,xn,xc,hx,rfl,hcs⟩:=HKID.out ((lo+hi) / 2) (by omega)
   obtain ⟨c0,c1,c2,c3,c4⟩:=hcs wr HB.out;have HX:=kH hx;have hmid:((lo:Int)+(hi:Int)) / 2=(((lo+hi) / 2:Nat):Int):=(by omega);generalize hm:(lo+hi) / 2=mid at *;have hm0:(0:Int)<=(mid:Int):=(by omega);have hm1:(mid:Int)<(l.length:Int):=(by omega);have hm2:lo<=mid:=(by omega);have hm3:mid<hi:=(by omega);clear hx hcs HKID hm;by_cases hless:Lib.compareBytes x.1.data.toList s.data.toList<0
   ·go_wp2_with fail
    refine jk (HF1.out x xa xn xc _) ?_;rintro e w2 ⟨rfl,hb2⟩;have HB2:=kH (HB.out.trans (hb2.mono HB.out.size));clear hb2 c0 c1 c2 c3 c4;go_wp2_with fail
    go_roundg (hi-(mid+1))
    case measure=>omega
    case rel=>exact ⟨mid+1,hi,by go_num,rfl,by omega,hin,jd _,HB2.out,fun t y ht hy=>by
     rcases qO t mid with h|h
     ·exact fY (HRI.out t mid y x h hy HX.out) (vI.1 hless)
     ·obtain rfl:t=mid:=by omega
      rw [HX.out] at hy;obtain rfl:=jO hy;exact vI.1 hless,HI2.out⟩
   ·go_wp2_with fail
    refine jk (HF1.out x xa xn xc _) ?_;rintro e w2 ⟨rfl,hb2⟩;have HB2:=kH (HB.out.trans (hb2.mono HB.out.size));clear hb2 c0 c1 c2 c3 c4;go_wp2_with fail
    go_roundg (mid-lo)
    case measure=>omega
    case rel=>exact ⟨lo,mid,rfl,by go_num,by omega,by omega,jd _,HB2.out,HI1.out,fun t y ht hy=>by
     cases hc:Op.bytesLess y.1.toList s.toList with
     | false=>rfl
     | true =>
      exfalso
      have hq:Op.bytesLess x.1.toList s.toList=true:=by
       rcases qO mid t with h|h
       ·exact fY (HRI.out mid t x y h HX.out hy) hc
       ·obtain rfl:t=mid:=by omega
        rw [HX.out] at hy;obtain rfl:=jO hy;exact hc
      have:=vI.2 hq
      omega⟩
  ·obtain rfl:hi=lo:=by omega
   have HPL:Hid (dx l s=hi):=pM _ l hi hin HI1.out HI2.out;by_cases hn:hi<l.length
   ·obtain ⟨x,b,off,xa,xn,xc,hx,rfl,hcs⟩:=HKID.out hi hn
    obtain ⟨c0,c1,c2,c3,c4⟩:=hcs wr HB.out;have HTH:=kH (F7 HPL.out hx);have hm0:(0:Int)<=(hi:Int):=(by omega);have hm1:(hi:Int)<(l.length:Int):=by omega
    have HCE:Hid ((Lib.compareBytes x.1.data.toList s.data.toList==0)=decide (x.1=s)):=show _=_ by
     by_cases h:x.1=s
     ·rw [decide_eq_true h,zB.2 h];rfl
     ·rw [decide_eq_false h]
      exact zl.2 (fun e=>h (zB.1 e))
    clear hx hcs HKID;go_wp2_with fail
    refine jk (HF1.out x xa xn xc _) ?_;rintro e w2 ⟨rfl,hb2⟩;have HB2:=kH (HB.out.trans (hb2.mono HB.out.size));clear hb2 c0 c1 c2 c3 c4;go_wp2_with fail
    go_ret2;exact ⟨CR (by rw [HPL.out]) (by rw [HTH.out,HCE.out]),HB2.out⟩
   ·have hm1:¬(hi:Int)<(l.length:Int):=by omega
    have HTH:Hid (dW l s=false):=AK (by rw [HPL.out];omega);go_wp2_with fail
    go_ret2;exact ⟨CR (by rw [HPL.out]) (by rw [HTH.out]),HB.out⟩

theorem F8 (B d:Nat) (l:List (Yb×ab)) (u:Yv) (s:Yb) (w:Yw) (hB:B<=w.heap.size) (hl:aJ w B d l u) (hr:i6 l) :
  Cl 207 #[u,.string s] w fun e w'=>e = .returned (.tuple #[.int .i64 (dx l s:Int),.bool (dW l s)])/\Bl w w':=by
 have HS:Hid _:=AL B d l u s w hB hl hr;obtain ⟨ta,tc,rfl⟩:=hl.form;clear hl hr;go_enter Tryz.func207,Tryz.ntmps207;go_wp2_with fail
 refine jk HS.out ?_;rintro e w1 ⟨rfl,hb⟩;have HB:Hid _:=hb;clear hb HS;go_wp2_with fail
 go_ret2;exact ⟨rfl,HB.out⟩
end
section
open Go.RowKit
attribute [local go_sem ↓] Go.wp_at_zero Go.wp_at_succ

def fh (t:ab) (s:Yb):Yo ab:=if dW t.kids s=true then (t.kids[dx t.kids s]?).map (·.2) else none
def eN:List Yb->ab->Yo ab
 | [],t=>some t
 | s :: r,t=>match fh t s with
  | none=>none
  | some k=>eN r k
theorem vJ:∀(l:List Yb) (s:Yb) (t:ab),eN (l ++ [s]) t=(eN l t).bind fun k=>fh k s
 | [],s,t=>by
  simp only [qq,eN,Option.bind_some];cases fh t s <;> rfl
 | x :: l,s,t=>by
  simp only [jX,eN]
  cases h:fh t x with
  | none=>rfl
  | some k=>simp only;exact vJ l s k
theorem vK:∀(l m:List Yb) (t:ab),eN l t=none->eN (l++m) t=none
 | [],_,_,h=>by simp [eN] at h
 | x :: l,m,t,h=>by
  simp only [jX,eN] at h ⊢
  cases hk:fh t x with
  | none=>rfl
  | some k =>
   rw [hk] at h;exact vK l m k h
def im:Nat->ab->Prop
 | 0,_=>False
 | d+1,t=>i6 t.kids/\∀x∈t.kids,im d x.2
def kh (w:Yw) (B d b o:Nat) (t:ab):Prop:=b<B/\∃u,w.cell? ⟨b,o,none⟩=some (.string t.kind)/\w.cell? ⟨b,o+1,none⟩=some (.string t.data)/\w.cell? ⟨b,o+2,none⟩=some (.bool t.exec)/\w.cell? ⟨b,o+3,none⟩=some u/\aJ w B d t.kids u
theorem kh.below {w w':Yw} {B d b o:Nat} {t:ab} (h:kh w B d b o t) {C:Nat} (hb:Below C w w') (hC:B<=C):kh w' B d b o t:=by
 obtain ⟨h1,u,h2,h3,h4,h5,h6⟩:=h;have hc:∀o,w'.cell? ⟨b,o,none⟩=w.cell? ⟨b,o,none⟩:=fun o=>hb.cell (p:=⟨b,o,none⟩) (show b<C by omega);exact ⟨h1,u,by rw [hc];exact h2,by rw [hc];exact h3,by rw [hc];exact h4,by rw [hc];exact h5,h6.below hb hC⟩
def gC (w:Yw):List Yb->ab->Nat->Nat->Nat->Nat->Prop
 | [],_,b0,o0,b,o=>b=b0/\o=o0
 | x :: r,t,b0,o0,b,o=>∃k g go n c,fh t x=some k/\w.cell? ⟨b0,o0+3,none⟩=some (.slice (some ⟨g,go,none⟩) n c)/\gC w r k g (go+dx t.kids x*5+1) b o
theorem gC.snoc {w:Yw} {x:Yb} {g go n c:Nat}:∀ {l:List Yb} {t k q:ab} {b0 o0 b o:Nat},gC w l t b0 o0 b o->eN l t=some k->fh k x=some q->w.cell? ⟨b,o+3,none⟩=some (.slice (some ⟨g,go,none⟩) n c)->gC w (l ++ [x]) t b0 o0 g (go+dx k.kids x*5+1)
 | [],t,k,q,b0,o0,b,o,⟨hb,ho⟩,hk,hq,hc=>by
  simp only [eN,jh] at hk;subst hk;subst hb;subst ho;exact ⟨q,g,go,n,c,hq,hc,rfl,rfl⟩
 | y :: l,t,k,q,b0,o0,b,o,⟨z,g',go',n',c',h1,h2,h3⟩,hk,hq,hc=>by
  simp only [eN,h1] at hk;exact ⟨z,g',go',n',c',h1,h2,h3.snoc hk hq hc⟩
def KS (B d b0 o0:Nat) (t:ab) (names:List Yb) (w:Yw) (e:Ending) (w':Yw):Prop:=Bl w w' /\
 ((eN names t=none/\e = .returned (.pointer none))∨∃k d' b o,eN names t=some k/\e = .returned (.pointer (some ⟨b,o,none⟩))/\kh w B d' b o k/\d'<=d/\gC w names t b0 o0 b o)

theorem KT (B d b0 o0:Nat) (t:ab) (names:List Yb) (v:Yv) (w:Yw) (hB:B<=w.heap.size) (hn:kh w B d b0 o0 t) (hr:im d t) (hv:aC w v names) (hnl:names.length<=1000000) :
  Cl 161 #[.pointer (some ⟨b0,o0,none⟩),v] w (KS B d b0 o0 t names w):=by
 obtain ⟨ad,cap,rfl,hcs⟩:=hv;have HCS:=kH hcs;have HN0:=kH hn;have HR0:=kH hr;clear hcs hn hr;go_enter Tryz.func161,Tryz.ntmps161;go_wp2_with fail
 go_loopw [0,11] (fun p i wr=>∃(j:Nat) (k:ab) (d' b o:Nat),j<=names.length/\i = .int .i64 j/\p = .pointer (some ⟨b,o,none⟩)/\eN (names.take j) t=some k/\kh w B d' b o k/\im d' k/\d'<=d/\Hid (gC w (names.take j) t b0 o0 b o)/\Bl w wr) (fun _ i _=>names.length-(intOf i).toNat)
 case atStart=>exact ⟨0,t,d,b0,o0,jq _,rfl,rfl,rfl,HN0.out,HR0.out,jd _,⟨rfl,rfl⟩,je _ _⟩
 case round =>
  obtain ⟨j,k,d',b,o,hj,rfl,rfl,hat,hn,hr,hd,HADR,hb⟩:=hrel;have HAT:Hid _:=hat;have HN:=kH hn;have HR:=kH hr;have HB:=kH hb;clear hat hn hr hb;by_cases hlt:j<names.length
  ·obtain ⟨s,hs⟩:∃s,names[j]? = some s:=⟨names[j],jc hlt⟩
   obtain ⟨nb,no,rfl,hnc⟩:=HCS.out j s hs;have hnc':wr.cell? ⟨nb,no+j,none⟩=some (.string s):=by rw [HB.out.cell (p:=⟨nb,no+j,none⟩) (ah hnc)];exact hnc
   obtain ⟨hbB,u,h0,h1,h2,h3,hl⟩:=HN.out;obtain ⟨ta,tc,rfl⟩:=hl.form;have hlr:=hl.below HB.out hB;have h3':wr.cell? ⟨b,o+3,none⟩=some (.slice ta k.kids.length tc):=by rw [HB.out.cell (p:=⟨b,o+3,none⟩) (show b<w.heap.size by omega)];exact h3
   have HS:=kH hs;have HL:=kH hl
   have hr1:i6 k.kids:=by
    cases d' with
    | zero=>exact HR.out.elim
    | succ d'=>exact HR.out.1
   have HF:Hid _:=F8 B d' k.kids (.slice ta k.kids.length tc) s wr (by have:=HB.out.size;omega) hlr hr1;have hst:names.take (j+1)=names.take j ++ [s]:=(by rw [ju hlt,(jb.1 hs).2]);have HNX:Hid (eN (names.take (j+1)) t=fh k s):=show _=_ by rw [hst,vJ,HAT.out];rfl
   have hj0:(0:Int)<=(j:Int):=(by omega);have hj1:(j:Int)<(names.length:Int):=by omega
   have hlen:k.kids.length<=1759218604390:=by
    cases d' with
    | zero=>exact absurd hl (by simp [aJ])
    | succ d'=>exact (aJ.open hl).1
   have HST:Hid _:=hst;have HH3:=kH h3;clear hs hnc h0 h1 h2 h3 hl hlr hr1 hst HCS
   cases hth:dW k.kids s with
   | false =>
    have HNO:Hid (eN names t=none):=show _=_ by
     have h:=HNX.out;unfold fh at h;rw [hth] at h;have h2:=vK _ (names.drop (j+1)) t h;rw [j8] at h2;exact h2
    rw [hth] at HF;go_wp2_with fail
    refine jk HF.out ?_;rintro e w2 ⟨rfl,hb2⟩;have HB2:=kH (HB.out.trans (hb2.mono HB.out.size));clear hb2 HF;go_wp2_with fail
    go_ret;exact ⟨HB2.out,.inl ⟨HNO.out,rfl⟩⟩
   | true =>
    obtain ⟨x,hx,hxs⟩:=AJ hth;have hpl:dx k.kids s<k.kids.length:=(jb.1 hx).1
    have HYES:Hid (eN (names.take (j+1)) t=some x.2):=show _=_ by
     rw [HNX.out];unfold fh;rw [hth,hx];rfl
    cases d' with
    | zero=>exact HR.out.elim
    | succ d' =>
    obtain ⟨kb,koff,kc,e,hkb,hat⟩:∃kb koff kc,Value.slice ta k.kids.length tc = .slice (some ⟨kb,koff,none⟩) k.kids.length kc/\kb<B/\∀i x,k.kids[i]? = some x->∃u,fU w B d' kb koff i x u:=by
     rcases (aJ.open HL.out).2 with ⟨h0,_⟩|⟨kb,koff,kc,h⟩
     ·rw [h0] at hpl;simp at hpl
     ·exact ⟨kb,koff,kc,h⟩
    simp only [jo] at e;obtain ⟨rfl,_,rfl⟩:=e;obtain ⟨ux,K⟩:=hat _ x hx;have HNN:Hid (kh w B d' kb (koff+dx k.kids s*5+1) x.2):=⟨hkb,ux,K.kind,K.data,K.exec,K.kids,K.lies⟩;have HRR:=kH (HR.out.2 x (jg hx));have HADN:Hid (gC w (names.take (j+1)) t b0 o0 kb (koff+dx k.kids s*5+1)):=show gC _ _ _ _ _ _ _ by rw [HST.out];exact HADR.out.snoc HAT.out (HNX.out.symm.trans HYES.out) HH3.out
    rw [hth] at HF;generalize dx k.kids s=pl at *;have hp0:(0:Int)<=(pl:Int):=(by omega);have hp1:(pl:Int)<(k.kids.length:Int):=(by omega);clear hx hxs hat K hth HNX;go_wp2_with fail
    refine jk HF.out ?_;rintro e w2 ⟨rfl,hb2⟩;have HB2:=kH (HB.out.trans (hb2.mono HB.out.size));have h32:w2.cell? ⟨b,o+3,none⟩=some (.slice (some ⟨kb,koff,none⟩) k.kids.length tc):=by rw [hb2.cell (p:=⟨b,o+3,none⟩) (show b<wr.heap.size by have:=HB.out.size;omega)];exact h3'
    clear hb2 HF h3' hnc';go_wp2_with fail
    go_roundw
    case rel=>exact ⟨j+1,x.2,d',kb,koff+pl*5+1,by omega,by go_num,rfl,HYES.out,HNN.out,HRR.out,by omega,HADN.out,HB2.out⟩
    case measure=>simp [intOf];omega
  ·have HE:Hid (eN names t=some k):=show _=_ by
    have:=HAT.out
    rw [jr (by omega)] at this;exact this
   have HAE:Hid (gC w names t b0 o0 b o):=show gC _ _ _ _ _ _ _ by
    have:=HADR.out
    rw [jr (by omega)] at this;exact this
   go_wp2_with fail
   go_ret;exact ⟨HB.out,.inr ⟨k,d',b,o,HE.out,rfl,HN.out,hd,HAE.out⟩⟩
end
section
open Go.RowKit

def F9 (y:Yb×ab):Bool:=decide (30<y.1.size)
def CS (x:Yb×Nat×ab):Bool:=decide (11<x.2.1∨(100<x.2.2.data.size/\x.2.2.data.size≠2001)∨20<x.2.2.kind.size)||x.2.2.kids.any F9
def Mm (most:Nat) (t:ab):Bool:=decide (most<(Cq most 12 t).length)||(Cq most 12 t).any CS
end
end Go.Proofs.YtaaimbpnogkngaaGreatDoor
namespace Go.Proofs.YtaaimbpnogkngaaGreatDoor
set_option maxHeartbeats 4000000
set_option maxRecDepth 100000
open Go.RowKit

def Fit:Nat->ab->Prop
 | 0,_=>False
 | d+1,t=>∀x∈t.kids,Fit d x.2
theorem aJ.fit {w:Yw} {B:Nat}:∀ {d:Nat} {t:ab} {v:Yv},aJ w B d t.kids v->Fit d t
 | 0,_,_,h=>absurd h (by simp [aJ])
 | d+1,t,v,⟨ad,cap,_,_,hk⟩=>fun x hx=>by
  obtain ⟨i,hi,he⟩:=List.getElem_of_mem hx
  obtain ⟨_,_,u,_,_,_,_,_,_,_,_,h⟩:=hk i x (by rw [List.getElem?_eq_getElem hi,he])
  exact aJ.fit h

theorem rp:∀ {d:Nat} {t:ab},Fit d t->fd d t t=true
 | 0,_,h=>h.elim
 | d+1,t,h=>by
  rw [fe]
  have h1:eJ t t=true:=by simp [eJ]
  rw [h1,Bool.true_and]
  unfold d4
  rw [List.all_eq_true]
  intro i hi
  have hi':=List.mem_range.1 hi
  rw [List.getElem?_eq_getElem hi']
  simp only [beq_self_eq_true,Bool.true_and]
  exact rp (h _ (List.getElem_mem hi'))

/-! ### The list is the order of the walk -/
end Go.Proofs.YtaaimbpnogkngaaGreatDoor
namespace Go.Proofs.YtaaimbpnogkngaaGreatDoor
set_option maxHeartbeats 4000000
set_option maxRecDepth 100000
open Go.RowKit

theorem Ga (p:Yb):p++Ye=p:=by
 apply ByteArray.ext
 simp
theorem vL (p q r:Yb):p++q++r=p++(q++r):=by
 apply ByteArray.ext
 simp [ByteArray.data_append]
theorem lN:∀(d:Nat) (p:Yb) (k:Nat) (t:ab),pre d p k t=(pre d Ye 0 t).map fun x=>(p++x.1,k+x.2.1,x.2.2)
 | 0,_,_,_=>rfl
 | d+1,p,k,t=>by
  simp only [pre,List.map_cons,Ga,Nat.add_zero,List.map_flatMap]
  congr 1
  congr 1
  funext y
  rw [lN d (p++az++y.1) (k+1) y.2,lN d (Ye++az++y.1) (0+1) y.2,List.map_map]
  congr 1
  funext x
  simp only [Function.comp]
  have e1:Ye++az=az:=by apply ByteArray.ext;simp
  rw [e1,vL p az y.1,vL p (az++y.1) x.1]
  congr 2
  omega

def S (g:ab->Nat) (l:List (Yb×Nat×ab)):Nat:=(l.map fun x=>g x.2.2).sum
theorem Je (g:ab->Nat) (d:Nat) (p:Yb) (k:Nat) (t:ab):S g (pre d p k t)=S g (pre d Ye 0 t):=by
 rw [lN]
 unfold S
 rw [List.map_map]
 rfl
theorem CT (g:ab->Nat) (x:Yb×Nat×ab) (l:List (Yb×Nat×ab)):S g (x :: l)=g x.2.2+S g l:=by simp [S]
theorem Gb (g:ab->Nat) (a b:List (Yb×Nat×ab)):S g (a++b)=S g a+S g b:=by simp [S]
theorem CU (g:ab->Nat) (d:Nat) (F:Yb×ab->Yb) (k:Nat):∀(l:List (Yb×ab)),S g (l.flatMap fun y=>pre d (F y) k y.2)=(l.map fun y=>S g (pre d Ye 0 y.2)).sum
 | []=>rfl
 | y :: l=>by
  rw [List.flatMap_cons,Gb,CU g d F k l,Je]
  simp
theorem LS (g:ab->Nat) (d:Nat) (t:ab):S g (pre (d+1) Ye 0 t)=g t+(t.kids.map fun y=>S g (pre d Ye 0 y.2)).sum:=by
 rw [pre,CT,CU g d (fun y=>Ye++az++y.1) (0+1)]

def one (_:ab):Nat:=1
theorem Iy (l:List (Yb×Nat×ab)):S one l=l.length:=by
 induction l with
 | nil=>rfl
 | cons x l ih=>rw [CT,ih];simp [one];omega
def oC (l:List (Yb×Nat×ab)):Prop:=∀x∈l,x.1.size<=maxLen/\x.2.1<=4611686018427387904/\x.2.2.data.size<=2001
theorem pN:∀(l:List (Yb×Nat×ab)) (n:Nat),n<=200->oC l->cn ck fL n l
 | [],_,_,_=>trivial
 | x :: l,n,hn,h=>by
  have hx:=h x List.mem_cons_self
  refine ⟨⟨hn,hx.1,hx.2.1,by have:=hx.2.2;unfold maxLen;omega⟩,fun he=>?_⟩
  refine pN l (n+1) ?_ (fun y hy=>h y (List.mem_cons_of_mem _ hy))
  unfold ck at he
  simp only at he
  split at he
  ·cases he
  ·split at he
   ·cases he
   ·omega
def sy (l:List (Yb×Nat×ab)):Prop:=∀x∈l,x.2.1<=8/\aS x.2.2=none
theorem zC:∀(l:List (Yb×Nat×ab)) (n:Nat),n<=200->((bh ck n l).2=none↔n+l.length<=200/\sy l)
 | [],n,hn=>by simp [bh,sy,hn]
 | x :: l,n,hn=>by
  by_cases h8:8<x.2.1
  ·have e:ck n x=(n+1,some 8):=by unfold ck;rw [if_pos h8]
   have hr:(bh ck n (x :: l)).2=some 8:=by simp only [bh,e]
   rw [hr]
   refine ⟨fun h=>by simp at h,fun h=>?_⟩
   have:=(h.2 x List.mem_cons_self).1
   omega
  ·by_cases h2:200<n+1
   ·have e:ck n x=(n+1,some 7):=by unfold ck;rw [if_neg h8,if_pos h2]
    have hr:(bh ck n (x :: l)).2=some 7:=by simp only [bh,e]
    rw [hr]
    refine ⟨fun h=>by simp at h,fun h=>?_⟩
    have:=h.1
    simp only [List.length_cons] at this
    omega
   ·have e:ck n x=(n+1,aS x.2.2):=by unfold ck;rw [if_neg h8,if_neg h2]
    cases hne:aS x.2.2 with
    | some er =>
     have hr:(bh ck n (x :: l)).2=some er:=by simp only [bh,e,hne]
     rw [hr]
     refine ⟨fun h=>by simp at h,fun h=>?_⟩
     have:=(h.2 x List.mem_cons_self).2
     rw [hne] at this
     cases this
    | none =>
     have hr:(bh ck n (x :: l)).2=(bh ck (n+1) l).2:=by simp only [bh,e,hne]
     rw [hr,zC l (n+1) (by omega)]
     simp only [List.length_cons]
     refine ⟨fun h=>⟨by omega,fun y hy=>?_⟩,fun h=>⟨by omega,fun y hy=>h.2 y (List.mem_cons_of_mem _ hy)⟩⟩
     rcases List.mem_cons.1 hy with rfl|hy
     ·exact ⟨by omega,hne⟩
     ·exact h.2 y hy
theorem bO {d:Nat} {t:ab}:ao d t=none↔(pre d Ye 0 t).length<=200/\sy (pre d Ye 0 t):=by
 unfold ao
 rw [zC _ 0 (by omega),Nat.zero_add]

theorem zD {α:Type} (f:α->Nat):∀ {l:List α} {x:α},x∈l->f x<=(l.map f).sum
 | [],_,h=>by simp at h
 | y :: l,x,h=>by
  simp only [List.map_cons,List.sum_cons]
  rcases List.mem_cons.1 h with rfl|h
  ·omega
  ·have:=zD f h;omega
theorem KU {d:Nat} {t:ab} {y:Yb×ab} (hy:y∈t.kids) {x:Yb×Nat×ab} (hx:x∈pre d Ye 0 y.2):(Ye++az++y.1++x.1,0+1+x.2.1,x.2.2)∈pre (d+1) Ye 0 t:=by
 rw [pre]
 refine List.mem_cons_of_mem _ (List.mem_flatMap.2 ⟨y,hy,?_⟩)
 rw [lN d (Ye++az++y.1) (0+1) y.2]
 exact List.mem_map.2 ⟨x,hx,rfl⟩
theorem Jf {d:Nat} {t:ab} {y:Yb×ab} (hy:y∈t.kids):(pre d Ye 0 y.2).length+1<=(pre (d+1) Ye 0 t).length:=by
 rw [<-Iy,<-Iy,LS]
 have h:=zD (fun y:Yb×ab=>S one (pre d Ye 0 y.2)) hy
 simp only [one] at *
 omega
theorem Gc {d:Nat} {t:ab} {y:Yb×ab} (hy:y∈t.kids) (h:ao (d+1) t=none):ao d y.2=none:=by
 rw [bO] at h ⊢
 refine ⟨by have:=Jf (d:=d) hy;omega,fun x hx=>?_⟩
 have:=h.2 _ (KU hy hx)
 exact ⟨by have:=this.1;simp only at this;omega,this.2⟩
end Go.Proofs.YtaaimbpnogkngaaGreatDoor
namespace Go.Proofs.YtaaimbpnogkngaaGreatDoor
set_option maxHeartbeats 4000000
set_option maxRecDepth 100000
section
open Go.RowKit

structure lr (h:Nat) (w w':Yw):Prop where
 os:w'.os=w.os
 tape:w'.tape=w.tape
 output:w'.output=w.output
 size:w'.heap.size=w.heap.size
 block:∀k,k≠h->w'.heap[k]? = w.heap[k]?
theorem lr.refl (h:Nat) (w:Yw):lr h w w:=⟨rfl,rfl,rfl,rfl,fun _ _=>rfl⟩
theorem lr.set {h:Nat} {w w':Yw} (S:lr h w w') (i:Nat) (v:Yv):lr h w (w'.setCell ⟨h,i,none⟩ v) :=
 ⟨S.os,S.tape,S.output,by rw [<-S.size];simp [World.setCell],fun k hk=>by rw [jf _ _ _ _ hk];exact S.block k hk⟩
theorem lr.below {B h:Nat} {w wr w':Yw} (S:lr h wr w') (hb:Below B w wr) (hB:B<=h):Below B w w' :=
 ⟨S.os.trans hb.os,S.tape.trans hb.tape,S.output.trans hb.output,by rw [S.size];exact hb.size,fun k hk=>by rw [S.block k (by omega)];exact hb.block k hk⟩
theorem uU {w:Yw} {h:Nat} {x0 x1 x2 x3:Yv} {t:TypeId} (hr:w.heap[h]? = some (.cells #[x0,x1,x2,x3] t (0,0))) :
  (w.cell? ⟨h,0,none⟩=some x0/\w.cell? ⟨h,1,none⟩=some x1/\w.cell? ⟨h,2,none⟩=some x2/\w.cell? ⟨h,3,none⟩=some x3)/\w.frozen? ⟨h,0,none⟩=false/\w.frozen? ⟨h,1,none⟩=false/\w.frozen? ⟨h,2,none⟩=false/\w.frozen? ⟨h,3,none⟩=false:=by
 refine ⟨⟨?_,?_,?_,?_⟩,aD hr 0,aD hr 1,aD hr 2,aD hr 3⟩
 all_goals (rw [ze w _ _ _ _ _ hr];rfl)
end
section
open Go.RowKit
attribute [local go_sem ↓] Go.wp_at_zero Go.wp_at_succ

theorem CV {t:ab} (h:aS t=none):i6 t.kids:=by
 obtain ⟨kd,da,ex,ki⟩:=t;unfold aS at h
 have nil:ki.length=0->i6 ki:=fun e=>by
  rw [qf e];intro i j x y _ hx;simp at hx
 split at h
 ·unfold dj at h
  split at h
  ·cases h
  ·rename_i h1
   exact nil (by simp only at h1;omega)
 ·split at h
  ·unfold cY at h
   split at h
   ·cases h
   ·split at h
    ·split at h
     ·rename_i h3
      exact F5 h3
     ·cases h
    ·cases h
  ·split at h
   ·unfold dk at h
    split at h
    ·cases h
    ·rename_i h1
     simp only [not_or] at h1;exact nil (by have:=h1.2;omega)
   ·cases h
theorem rq:∀ {d:Nat} {p:Yb} {k:Nat} {t:ab},Fit d t->(∀x∈pre d p k t,aS x.2.2=none)->im d t
 | 0,_,_,_,h,_=>h
 | d+1,p,k,t,h,ho=>by
  simp only [pre] at ho;exact ⟨CV (ho (p,k,t) jy),fun y hy=>rq (p:=p++az++y.1) (k:=k+1) (h y hy) fun x hx=>ho x (jw _ (jY.2 ⟨y,hy,hx⟩))⟩
theorem mR {d:Nat} {t:ab} (hf:Fit d t) (h:ao d t=none):im d t:=rq (p:=Ye) (k:=0) hf fun x hx=>((bO.1 h).2 x hx).2
def dy (d:Nat) (t:ab) (s:Yb):Except Nat ab:=match ao d t with
 | some e=>.error e
 | none=>match co s with
  | none=>.error 4
  | some l=>match eN l t with
   | none=>.error 5
   | some k=>.ok k
def mS (a : Nat → Addr) (d : Nat) (t : ab) (s : Yb) (w : Yw) (e : Ending) (w' : Yw) : Prop := Bl w w' ∧
  ((∃ er, ao d t = some er ∧ e = .returned (.tuple #[.slice none 0 0, .iface 378 (.pointer (some (a er)))])) ∨
   (ao d t = none ∧ co s = none ∧ e = .returned (.tuple #[.slice none 0 0, .iface 378 (.pointer (some (a 4)))])) ∨
   (∃ l v, ao d t = none ∧ co s = some l ∧ e = .returned (.tuple #[v, .nilIface]) ∧ aC w' v l ∧ Ix v l.length))

theorem AM (a:Nat->Addr) (d B:Nat) (t:ab) (u:Yv) (s:Yb) (w:Yw) (S:dl a w) (hB:B<=w.heap.size) (hl:aJ w B d t.kids u) (hal:cn ck fL 0 (pre d Ye 0 t)) (hs:s.size<4294967281) :
  Cl 160 #[.agg #[.string t.kind,.string t.data,.bool t.exec,u],.string s] w (mS a d t s w):=by
 obtain ⟨ta,tc,rfl⟩:=hl.form;have hA:∀o,Bl w (w.alloc o):=fun o=>(je _ _).alloc (jd _) o
 have HCK:Hid (∀o,Cl 135 #[.agg #[.string t.kind,.string t.data,.bool t.exec,.slice ta t.kids.length tc]] (w.alloc o) fun e w'=>e = .returned (de a (ao d t))/\Bl (w.alloc o) w'):=fun o =>
  fM a d w.heap.size t _ (w.alloc o) (S.is.atB.below (hA o) (jd _)) (by simp) ((hl.below (hA o) hB).up hB (jd _)) hal
 have HA:Hid _:=hA;have HSE:Hid (dl a w):=S;clear hA S hl hal;go_enter Tryz.func160,Tryz.ntmps160;go_wp2_with fail
 refine jk (HCK.out _) ?_;rintro e w1 ⟨rfl,hb1⟩;have HB1:Hid (Bl w w1):=(HA.out _).trans (hb1.mono (by simp));clear hb1 HCK HA
 cases ht:ao d t with
 | some er =>
  have HP:Hid (mS a d t s w (.returned (.tuple #[.slice none 0 0,.iface 378 (.pointer (some (a er)))])) w1):=⟨HB1.out,.inl ⟨er,ht,rfl⟩⟩;unfold de;clear ht;go_wp2_with fail
  go_ret2;exact HP.out
 | none =>
  have HT:Hid (ao d t=none):=ht;have HSP:Hid _:=s7 a s w1 (HSE.out.below HB1.out) hs;unfold de;clear ht;go_wp2_with fail
  refine jk HSP.out ?_;rintro e w2 ⟨hb2,⟨h1,rfl⟩|⟨l,v,h1,rfl,hv⟩⟩
  ·have HP:Hid (mS a d t s w (.returned (.tuple #[.slice none 0 0,.iface 378 (.pointer (some (a 4)))])) w2):=⟨HB1.out.trans (hb2.mono HB1.out.size),.inr (.inl ⟨HT.out,h1,rfl⟩)⟩
   clear h1 hb2 HSP;go_wp2_with fail
   go_ret2;exact HP.out
  ·have HP:Hid (mS a d t s w (.returned (.tuple #[v,.nilIface])) w2):=⟨HB1.out.trans (hb2.mono HB1.out.size),.inr (.inr ⟨l,v,HT.out,h1,rfl,hv⟩)⟩
   clear h1 hb2 HSP hv;go_wp2_with fail
   go_ret2;exact HP.out

def zE (a : Nat → Addr) (d : Nat) (t : ab) (s : Yb) (w : Yw) (e : Ending) (w' : Yw) : Prop := Bl w w' ∧
  ((∃ er, dy d t s = .error er ∧ e = .returned (.tuple #[.agg #[.string { data := #[] }, .string { data := #[] }, .bool false, .slice none 0 0], .iface 378 (.pointer (some (a er)))])) ∨
   (∃ k u d', dy d t s = .ok k ∧ d' ≤ d ∧ e = .returned (.tuple #[.agg #[.string k.kind, .string k.data, .bool k.exec, u], .nilIface]) ∧ cG w' (fun b => w.heap.size ≤ b ∧ b < w'.heap.size) d' k.kids u))
theorem CW {d er:Nat} {t:ab} {s:Yb} (h:ao d t=some er):dy d t s = .error er:=by unfold dy;rw [h]
theorem AN {d:Nat} {t:ab} {s:Yb} (h:ao d t=none) (h2:co s=none):dy d t s = .error 4:=by unfold dy;rw [h];simp only [h2]
theorem CX {d:Nat} {t:ab} {s:Yb} {l:List Yb} (h:ao d t=none) (h2:co s=some l) (h3:eN l t=none):dy d t s = .error 5:=by unfold dy;rw [h];simp only [h2,h3]
theorem tj {d:Nat} {t k:ab} {s:Yb} {l:List Yb} (h:ao d t=none) (h2:co s=some l) (h3:eN l t=some k):dy d t s = .ok k:=by unfold dy;rw [h];simp only [h2,h3]
theorem AO {s:Yb} {l:List Yb} (h:co s=some l):l.length<=8:=by
 unfold co at h
 split at h
 ·injection h with h;subst h;simp
 ·split at h
  ·cases h
  ·split at h
   ·rename_i h2
    injection h with h
    subst h
    simpa using h2.2.1
   ·cases h

theorem Jg (a:Nat->Addr) (d B:Nat) (t:ab) (u:Yv) (s:Yb) (w:Yw) (S:dl a w) (hB:B<=w.heap.size) (hl:aJ w B d t.kids u) (hal:cn ck fL 0 (pre d Ye 0 t)) (hs:s.size<4294967281) :
  Cl 111 #[.agg #[.string t.kind,.string t.data,.bool t.exec,u],.string s] w (zE a d t s w):=by
 obtain ⟨ta,tc,rfl⟩:=hl.form;have hfit:Fit d t:=hl.fit;have hA:Bl w ((w.alloc (.cells #[.string t.kind,.string t.data,.bool t.exec,.slice ta t.kids.length tc] 40)).alloc (.cells #[.string { data:=#[] },.string { data:=#[] },.bool false,.slice none 0 0] 40)):=((je _ _).alloc (jd _) _).alloc (by simp) _;have hz:((w.alloc (.cells #[.string t.kind,.string t.data,.bool t.exec,.slice ta t.kids.length tc] 40)).alloc (.cells #[.string { data:=#[] },.string { data:=#[] },.bool false,.slice none 0 0] 40)).heap.size=w.heap.size+2:=by simp
 have hbox:((w.alloc (.cells #[.string t.kind,.string t.data,.bool t.exec,.slice ta t.kids.length tc] 40)).alloc (.cells #[.string { data:=#[] },.string { data:=#[] },.bool false,.slice none 0 0] 40)).heap[w.heap.size]? = some (.cells #[.string t.kind,.string t.data,.bool t.exec,.slice ta t.kids.length tc] 40 (0,0)):=by
  rw [jp _ _ _ (by simp)];exact bM _ _ _
 have hres:((w.alloc (.cells #[.string t.kind,.string t.data,.bool t.exec,.slice ta t.kids.length tc] 40)).alloc (.cells #[.string { data:=#[] },.string { data:=#[] },.bool false,.slice none 0 0] 40)).heap[w.heap.size+1]? = some (.cells #[.string { data:=#[] },.string { data:=#[] },.bool false,.slice none 0 0] 40 (0,0)):=by
  have:=bM (w.alloc (.cells #[.string t.kind,.string t.data,.bool t.exec,.slice ta t.kids.length tc] 40)) #[.string { data:=#[] },.string { data:=#[] },.bool false,.slice none 0 0] 40
  simpa using this
 have HBG:Hid _:=AM a d B t (.slice ta t.kids.length tc) s _ (S.below hA) (by rw [hz];omega) (hl.below hA hB) hal hs;have HSE:Hid (dl a w):=S;have HA:Hid _:=hA;have HLI:Hid (aJ w B d t.kids (.slice ta t.kids.length tc)):=hl;have HBOX:Hid _:=hbox;have HRES:Hid _:=hres;have HFIT:Hid _:=hfit;clear hA S hl hal hbox hres hfit;go_enter Tryz.func111,Tryz.ntmps111;go_wp2_with fail
 refine jk HBG.out ?_;clear HBG;rintro e w1 ⟨hb1,h1⟩;have HB1:Hid (Bl w w1):=HA.out.trans (hb1.mono (by omega));have hz1:=hb1.size;rw [hz] at hz1;have hres1:=(hb1.block (w.heap.size+1) (by omega)).trans HRES.out;have hbox1:=(hb1.block w.heap.size (by omega)).trans HBOX.out;have HR1:Hid _:=hres1;obtain ⟨⟨q0,q1,q2,q3⟩,g0,g1,g2,g3⟩:=uU hres1
 rcases h1 with ⟨er,ht,rfl⟩|⟨ht,h2,rfl⟩|⟨l,v,ht,h2,rfl,hv,_⟩
 ·have HF:Hid (dy d t s = .error er):=CW ht
  clear ht hb1 hres1 hbox1;go_wp2_with fail
  refine zv (v:=.tuple #[.agg #[.string { data:=#[] },.string { data:=#[] },.bool false,.slice none 0 0],.iface 378 (.pointer (some (a er)))]) (by simp [results,Tryz.results111,go_sem,q0,q1,q2,q3]) rfl ?_;have hS:=((((lr.refl (w.heap.size+1) w1).set 0 (.string { data:=#[] })).set 1 (.string { data:=#[] })).set 2 (.bool false)).set 3 (.slice none 0 0);exact ⟨hS.below HB1.out (by omega),.inl ⟨er,HF.out,rfl⟩⟩
 ·have HF:Hid (dy d t s = .error 4):=AN ht h2
  clear ht h2 hb1 hres1 hbox1;go_wp2_with fail
  refine zv (v:=.tuple #[.agg #[.string { data:=#[] },.string { data:=#[] },.bool false,.slice none 0 0],.iface 378 (.pointer (some (a 4)))]) (by simp [results,Tryz.results111,go_sem,q0,q1,q2,q3]) rfl ?_;have hS:=((((lr.refl (w.heap.size+1) w1).set 0 (.string { data:=#[] })).set 1 (.string { data:=#[] })).set 2 (.bool false)).set 3 (.slice none 0 0);exact ⟨hS.below HB1.out (by omega),.inl ⟨4,HF.out,rfl⟩⟩
 ·obtain ⟨⟨y0,y1,y2,y3⟩,_⟩:=uU hbox1
  have HNA:Hid (kh w1 (w.heap.size+1) d w.heap.size 0 t):=⟨by omega,_,y0,y1,y2,y3,(HLI.out.below HB1.out hB).up (by omega) (jd _)⟩;have HAT:Hid _:=KT (w.heap.size+1) d w.heap.size 0 t l v w1 (by omega) HNA.out (mR HFIT.out ht) hv (by have:=AO h2;omega)
  obtain ⟨va,vc,rfl⟩:∃va vc,v = .slice va l.length vc:=by
   obtain ⟨va,vc,e,_⟩:=hv;exact ⟨va,vc,e⟩
  have HT:Hid (ao d t=none):=ht;have H2:Hid (co s=some l):=h2;clear ht h2 hb1 hres1 hbox1 hv y0 y1 y2 y3 q0 q1 q2 q3 g0 g1 g2 g3;go_wp2_with fail
  refine jk HAT.out ?_;clear HAT;rintro e w2 ⟨hb2,⟨h3,rfl⟩|⟨k,d',kb,ko,h3,rfl,hk,hd',_⟩⟩
  ·have HF:Hid (dy d t s = .error 5):=CX HT.out H2.out h3
   have HB2:Hid (Bl w w2):=HB1.out.trans (hb2.mono HB1.out.size);have hres2:=(hb2.block (w.heap.size+1) (by omega)).trans HR1.out;have hz2:=hb2.size;obtain ⟨⟨q0,q1,q2,q3⟩,g0,g1,g2,g3⟩:=uU hres2;have c5:=(HSE.out.below HB2.out).no;have z5:=ah c5;have z5':5<w.heap.size:=ah HSE.out.no;have hne5:5≠w.heap.size+1:=(by omega);clear hb2 h3 hres2;go_wp2_with fail
   go_region
   go_wp2_with fail
   refine zv (v:=.tuple #[.agg #[.string { data:=#[] },.string { data:=#[] },.bool false,.slice none 0 0],.iface 378 (.pointer (some (a 5)))]) (by simp [results,Tryz.results111,go_sem,q0,q1,q2,q3]) rfl ?_;have hS:=((((lr.refl (w.heap.size+1) w2).set 0 (.string { data:=#[] })).set 1 (.string { data:=#[] })).set 2 (.bool false)).set 3 (.slice none 0 0);exact ⟨(hS.below HB2.out (by omega)).drew,.inl ⟨5,HF.out,rfl⟩⟩
  ·have HF:Hid (dy d t s = .ok k):=tj HT.out H2.out h3
   have HB2:Hid (Bl w w2):=HB1.out.trans (hb2.mono HB1.out.size);have hz2:=hb2.size;have HR2:Hid _:=(hb2.block (w.heap.size+1) (by omega)).trans HR1.out;obtain ⟨hkb,uk,c0,c1,c2,c3,hlk⟩:=hk.below hb2 (by omega);obtain ⟨ka,kc,rfl⟩:=hlk.form;have HCP:Hid _:=FQ (w.heap.size+1) d' k (.slice ka k.kids.length kc) w2 (by omega) hlk;clear hb2 h3 hk hlk;go_wp2_with fail
   refine jk HCP.out ?_;clear HCP c0 c1 c2 c3;rintro e w3 ⟨u3,rfl,hq3,hb3⟩;obtain ⟨ra,rc,rfl⟩:=hq3.form;have HB3:Hid (Bl w w3):=HB2.out.trans (hb3.mono HB2.out.size);have hz3:=hb3.size;have hres3:=(hb3.block (w.heap.size+1) (by omega)).trans HR2.out;obtain ⟨⟨q0,q1,q2,q3⟩,g0,g1,g2,g3⟩:=uU hres3;have HQ:Hid (cG w3 (fun b=>w.heap.size+2<=b/\b<w3.heap.size) d' k.kids (.slice ra k.kids.length rc)):=cG.kept (fun _ _=>rfl) (fun b hb=>⟨by omega,hb.2⟩) hq3;clear hb3 hq3 hres3;go_wp2_with fail
   refine zv (v:=.tuple #[.agg #[.string k.kind,.string k.data,.bool k.exec,.slice ra k.kids.length rc],.nilIface]) (by simp [results,Tryz.results111,go_sem,q0,q1,q2,q3]) rfl ?_;have hS:=((((lr.refl (w.heap.size+1) w3).set 0 (.string k.kind)).set 1 (.string k.data)).set 2 (.bool k.exec)).set 3 (.slice ra k.kids.length rc);exact ⟨hS.below HB3.out (by omega),.inr ⟨k,_,d',HF.out,hd',rfl,cG.kept (fun b hb=>hS.block b (by omega)) (fun b hb=>⟨by omega,by rw [hS.size];exact hb.2⟩) HQ.out⟩⟩
end
section
open Go.RowKit

theorem Jh {s t:Yb} (h:s.data.toList=t.data.toList):s=t:=by
 obtain ⟨⟨a⟩⟩:=s;obtain ⟨⟨b⟩⟩:=t
 simp only at h
 subst h;rfl
def kS (l:List Yb):Yu:=l.flatMap fun x=>47 :: x.data.toList
def eq (l:List Yb):Yb:=⟨(kS l).toArray⟩
theorem kU (l:List Yb):(eq l).data.toList=kS l:=rfl
def pO (x:Yb):Prop:=∀c∈x.data.toList,c≠47
theorem rr:∀ {x:Yu},(∀c∈x,c≠47)->∀(r:Yu),bE (x++47 :: r)=x :: bE r
 | [],_,r=>iX r
 | c :: x,h,r=>by
  rw [jX,gU (h c (by simp)) (rr (fun d hd=>h d (by simp [hd])) r)]
theorem tm:∀ {x:Yu},(∀c∈x,c≠47)->bE x = [x]
 | [],_=>rfl
 | c :: x,h=>by rw [gU (h c (by simp)) (tm (fun d hd=>h d (by simp [hd])))]
theorem vM:∀(x:Yb) (l:List Yb),(∀y∈x :: l,pO y)->bE (x.data.toList++kS l)=(x :: l).map (·.data.toList)
 | x,[],h=>by
  show bE (x.data.toList ++ [])=_;rw [qz,tm (h x (by simp))];rfl
 | x,y :: l,h=>by
  have ih:=vM y l fun z hz=>h z (by simp [hz]);show bE (x.data.toList++(47 :: y.data.toList++kS l))=_;rw [jX,rr (h x (by simp)),ih];rfl
theorem Gd (l:List Yb):(l.map (·.data.toList)).map (fun x=>(⟨x.toArray⟩:Yb))=l:=by
 rw [qC]
 have:(fun x:Yu=>(⟨x.toArray⟩:Yb)) ∘ (fun x:Yb=>x.data.toList)=id:=by
  funext x
  rfl
 rw [this,List.map_id]
theorem Ge {x:Yb} {l:List Yb} (h:¬(l = []/\x=Ye)):eq (x :: l)≠cZ:=by
 intro e;have e2:=congrArg (fun s:Yb=>s.data.toList) e;simp only [kU] at e2;have e3:kS (x :: l)=47 :: (x.data.toList++kS l):=rfl;rw [e3] at e2;have e4:cZ.data.toList = [47]:=rfl;rw [e4] at e2;simp only [qD,true_and,List.append_eq_nil_iff] at e2
 apply h
 refine ⟨?_,?_⟩
 ·cases l with
  | nil=>rfl
  | cons y l=>have:=e2.2;simp [kS] at this
 ·have h1:=e2.1
  obtain ⟨⟨k⟩⟩:=x
  simp only at h1
  subst h1;rfl
theorem AP {x:Yb} {l:List Yb} (hn:∀y∈x :: l,pO y) (h:¬(l = []/\x=Ye)) :
  co (eq (x :: l))=if decide ((x :: l).length<=8)&&(x :: l).all aB then some (x :: l) else none:=by
 have e:(eq (x :: l)).data.toList=47 :: (x.data.toList++kS l):=rfl;rw [l8 (Ge h) e,vM x l hn,all_map,Gd,jB]
 simp
theorem AQ {l:List Yb} {j:Nat} {x:Yb} (hx:l[j]? = some x):eq (l.take (j+1))=eq (l.take j)++cZ++x:=by
 have hj:j<l.length:=(jb.1 hx).1;have e:l.take (j+1)=l.take j ++ [x]:=by rw [ju hj,(jb.1 hx).2]
 apply Jh
 rw [qG,yg,qG,yg,kU,kU,e];unfold kS;rw [qp]
 simp [cZ]
end
section
open Go.RowKit

def i7 (m:List Yb):Yb:=if (eq m).toList.isEmpty=true then az else eq m
theorem uI (m:List Yb):(eq m).toList.isEmpty=m.isEmpty:=by
 rw [fP,kU];cases m <;> rfl
theorem uJ {x:Yb} (h:aB x=true):pO x:=fun c hc e=>by
 unfold aB at h;simp only [qS,qy] at h
 have:=h.2 c hc
 subst e
 simp [nb] at this
theorem Ji {x:Yb} (h:aB x=true):x≠Ye:=fun e=>by
 unfold aB at h;simp only [qS,zm] at h;rw [e] at h
 have:=h.1.1.1.1
 simp at this
theorem kV {m:List Yb} (h8:m.length<=8) (hn:m.all aB=true):co (i7 m)=some m:=by
 unfold i7;rw [uI]
 cases m with
 | nil=>exact rh
 | cons x r =>
  have hx:∀y∈x :: r,aB y=true:=fun y hy=>qy.1 hn y hy;rw [zi (by simp),AP (fun y hy=>uJ (hx y hy)) (fun h=>Ji (hx x (by simp)) h.2),zj (by simp only [qS,zm];exact ⟨h8,hn⟩)]
end
section
open Go.RowKit

def fQ:Nat->List Yb->ab->List (List Yb×ab)
 | 0,_,_=>[]
 | d+1,ns,t=>(ns,t) :: t.kids.flatMap fun x=>fQ d (ns ++ [x.1]) x.2
theorem tn (l:List Yb) (x:Yb):eq (l ++ [x])=eq l++az++x:=by
 have h:=AQ (l:=l ++ [x]) (j:=l.length) (x:=x) (by simp);rw [jr (by simp),List.take_left] at h;exact h
theorem nO:∀(d:Nat) (ns:List Yb) (t:ab),pre d (eq ns) ns.length t=(fQ d ns t).map fun x=>(eq x.1,x.1.length,x.2)
 | 0,_,_=>rfl
 | d+1,ns,t=>by
  simp only [pre,fQ,jH,yC]
  congr 1
  rw [qr,qr]
  congr 1
  apply jQ
  intro x _;have h:=nO d (ns ++ [x.1]) x.2;rw [tn,jt] at h;exact h
def vN:Nat->ab->Prop
 | 0,_=>False
 | d+1,t=>∀x∈t.kids,aB x.1=true/\vN d x.2
theorem nP {t:ab} (h:aS t=none):∀x∈t.kids,aB x.1=true:=by
 obtain ⟨kd,da,ex,ki⟩:=t;unfold aS at h
 have nil:ki.length=0->∀x∈ki,aB x.1=true:=fun e x hx=>by
  rw [qf e] at hx;simp at hx
 split at h
 ·unfold dj at h
  split at h
  ·cases h
  ·rename_i h1
   exact nil (by simp only at h1;omega)
 ·split at h
  ·unfold cY at h
   split at h
   ·cases h
   ·split at h
    ·rename_i h2
     exact fun x hx=>qy.1 h2 x hx
    ·cases h
  ·split at h
   ·unfold dk at h
    split at h
    ·cases h
    ·rename_i h1
     simp only [not_or] at h1;exact nil (by have:=h1.2;omega)
   ·cases h
theorem rt:∀ {d:Nat} {p:Yb} {k:Nat} {t:ab},Fit d t->(∀x∈pre d p k t,aS x.2.2=none)->vN d t
 | 0,_,_,_,h,_=>h
 | d+1,p,k,t,h,ho=>by
  simp only [pre] at ho;exact fun y hy=>⟨nP (ho (p,k,t) jy) y hy,rt (p:=p++az++y.1) (k:=k+1) (h y hy) fun x hx=>ho x (jw _ (jY.2 ⟨y,hy,hx⟩))⟩
theorem zF:∀ {d:Nat} {ns:List Yb} {t:ab},im d t->vN d t->∀x∈fQ d ns t,∃m,x.1=ns++m/\eN m t=some x.2/\m.all aB=true
 | 0,_,_,h,_,_,_=>h.elim
 | d+1,ns,t,hr,hn,x,hx=>by
  simp only [fQ,jN,jY] at hx
  rcases hx with rfl|⟨y,hy,hx⟩
  ·exact ⟨[],by simp,rfl,rfl⟩
  ·obtain ⟨m,e,ha,hall⟩:=zF (hr.2 y hy) (hn y hy).2 x hx
   obtain ⟨i,hi,hiy⟩:=yt hy;have hyi:t.kids[i]? = some y:=(by rw [jc hi,hiy]);refine ⟨y.1 :: m,by rw [e];simp,?_,by rw [List.all_cons,(hn y hy).1,hall];rfl⟩
   have hk:fh t y.1=some y.2:=by
    unfold fh;rw [zj (F6 hr.1 hyi),vH hr.1 hyi,hyi];rfl
   simp only [eN,hk];exact ha
theorem ru:∀ {d:Nat} {ns:List Yb} {t:ab},im d t->((fQ d ns t).map (·.1)).Nodup
 | 0,_,_,h=>h.elim
 | d+1,ns,t,hr=>by
  have pref:∀(y:Yb×ab),im d y.2->∀z∈(fQ d (ns ++ [y.1]) y.2).map (·.1),∃m,z=ns++y.1 :: m:=fun y _ z hz=>by
   have key:∀(d:Nat) (ms:List Yb) (t:ab),∀z∈(fQ d ms t).map (·.1),∃m,z=ms++m:=by
    intro d
    induction d with
    | zero=>intro ms t z hz;simp [fQ] at hz
    | succ d ih =>
     intro ms t z hz;simp only [fQ,jH,yC,jN,jY] at hz
     rcases hz with rfl|⟨x,_,hz⟩
     ·exact ⟨[],by simp⟩
     ·obtain ⟨m,e⟩:=ih _ _ z hz
      exact ⟨x.1 :: m,by rw [e];simp⟩
   obtain ⟨m,e⟩:=key d _ _ z hz;exact ⟨m,by rw [e];simp⟩
  simp only [fQ,jH,yC];rw [yj];refine ⟨fun h=>?_,?_⟩
  ·obtain ⟨y,hy,hz⟩:=jY.1 h
   obtain ⟨m,e⟩:=pref y (hr.2 y hy) ns hz
   have:=congrArg List.length e
   simp at this
  ·have dist:∀(l:List (Yb×ab)),i6 l->(∀x∈l,im d x.2)->(l.flatMap fun x=>(fQ d (ns ++ [x.1]) x.2).map (·.1)).Nodup:=by
    intro l
    induction l with
    | nil=>intro _ _;simp
    | cons y l ih =>
     intro h1 h2;rw [jZ,List.nodup_append];refine ⟨ru (h2 y (by simp)),ih (fun i j x z hij hx hz=>h1 (i+1) (j+1) x z (by omega) (by simpa using hx) (by simpa using hz)) (fun x hx=>h2 x (by simp [hx])),fun z hz z' hz' e=>?_⟩;subst e;obtain ⟨m,e1⟩:=pref y (h2 y (by simp)) z hz;obtain ⟨x,hx,hzx⟩:=jY.1 hz';obtain ⟨m',e2⟩:=pref x (h2 x (by simp [hx])) z hzx;rw [e1] at e2;have e3:=List.append_cancel_left e2
     injection e3 with e4 _
     obtain ⟨i,hi,hix⟩:=yt hx
     have:=h1 0 (i+1) y x (by omega) rfl (by rw [qo,jc hi,hix])
     rw [e4,iY] at this;cases this
   exact dist t.kids hr.1 hr.2
end
section
open Go.RowKit

theorem AR {σ:Type} {step:σ->Yb×Nat×ab->σ×Yo Nat} {ok:σ->Yb×Nat×ab->Prop} {J:σ->(Nat->Prop)->Yw->Prop} (a:Nat->Addr) (c:Addr) (B:Nat) (V:oB a 310 (.pointer (some c)) B step ok J) :
    ∀(d:Nat) (t:ab) (p:Yb) (k:Nat) (u:Yv) (s:σ) (C:Nat->Prop) (w:Yw),J s C w->bY a B w->B<=w.heap.size->aJ w B d t.kids u->cn step ok s (pre d p k t) ->
      Cl 185 #[.string p,.int .i64 (k:Int),.agg #[.string t.kind,.string t.data,.bool t.exec,u],.func (.func 310) #[] #[.pointer (some c)]] w fun e w' =>
        e = .returned (de a (bh step s (pre d p k t)).2)/\∃C',J (bh step s (pre d p k t)).1 C' w'/\aq C w w'/\∀j,C' j->C j∨w.heap.size<=j:=by
  intro d
  induction d with
  | zero=>intro t p k u s C w _ _ _ hl;exact absurd hl (by simp [aJ])
  | succ d ih =>
    intro t p k u s C w hJ S hB hl hal;obtain ⟨ad,cap,rfl⟩:=hl.form;have hW:∀o,Bl w (w.alloc o):=fun o=>(je _ _).alloc (jd _) o;have hv:=V.call s C (w.alloc (.cells #[.string t.kind,.string t.data,.bool t.exec,.slice ad t.kids.length cap] 40)) d p k t (.slice ad t.kids.length cap) (V.alloc hJ _) (S.below (hW _) hB) (by simp;omega) (hl.below (hW _) hB) hal.1;have hlow:=V.low s C w hJ
    cases hst:step s (p,k,t) with
    | mk s1 o =>
      rw [hst] at hv
      cases o with
      | some er =>
        have hr:bh step s (pre (d+1) p k t)=(s1,some er):=(by simp [pre,bh,hst]);rw [hr]
        have HV:Hid (Cl 310 #[.string p,.int .i64 (k:Int),.agg #[.string t.kind,.string t.data,.bool t.exec,.slice ad t.kids.length cap],.pointer (some c)] (w.alloc (.cells #[.string t.kind,.string t.data,.bool t.exec,.slice ad t.kids.length cap] 40)) fun e w' =>
          e = .returned (.iface 378 (.pointer (some (a er))))/\∃C',J s1 C' w'/\aq C (w.alloc (.cells #[.string t.kind,.string t.data,.bool t.exec,.slice ad t.kids.length cap] 40)) w'/\∀j,C' j->C j∨(w.alloc (.cells #[.string t.kind,.string t.data,.bool t.exec,.slice ad t.kids.length cap] 40)).heap.size<=j):=hv
        have HW:Hid _:=hW;clear hr hst hal ih hv hJ S hl hlow hW;go_enter Tryz.func185,Tryz.ntmps185;go_wp2_with fail
        refine jk HV.out ?_;rintro e w2 ⟨rfl,C2,hJ2,hK2,hC2⟩;go_wp2_with fail
        go_ret;refine ⟨rfl,C2,hJ2,(aq.of_below (HW.out _)).trans hK2 (fun j h=>.inl h),fun j hj=>?_⟩
        rcases hC2 j hj with h|h
        · exact .inl h
        · exact .inr (by simp at h;omega)
      | none =>
        have hr:bh step s (pre (d+1) p k t)=bh step s1 (t.kids.flatMap fun x=>pre d (p++az++x.1) (k+1) x.2):=(by simp [pre,bh,hst]);rw [hr]
        have hal1:cn step ok s1 (t.kids.flatMap fun x=>pre d (p++az++x.1) (k+1) x.2):=by
          have:=hal.2
          rw [hst] at this;exact this rfl
        have HV:Hid (Cl 310 #[.string p,.int .i64 (k:Int),.agg #[.string t.kind,.string t.data,.bool t.exec,.slice ad t.kids.length cap],.pointer (some c)] (w.alloc (.cells #[.string t.kind,.string t.data,.bool t.exec,.slice ad t.kids.length cap] 40)) fun e w' =>
          e = .returned .nilIface/\∃C',J s1 C' w'/\aq C (w.alloc (.cells #[.string t.kind,.string t.data,.bool t.exec,.slice ad t.kids.length cap] 40)) w'/\∀j,C' j->C j∨(w.alloc (.cells #[.string t.kind,.string t.data,.bool t.exec,.slice ad t.kids.length cap] 40)).heap.size<=j):=hv
        have q3:(w.alloc (.cells #[.string t.kind,.string t.data,.bool t.exec,.slice ad t.kids.length cap] 40)).cell? ⟨w.heap.size,3,none⟩=some (.slice ad t.kids.length cap):=(by rw [yE _ _ _ _ rfl];rfl);have HZ:Hid ((w.alloc (.cells #[.string t.kind,.string t.data,.bool t.exec,.slice ad t.kids.length cap] 40)).heap.size=w.heap.size+1):=show _=_ by simp
        have hW1:=hW (.cells #[.string t.kind,.string t.data,.bool t.exec,.slice ad t.kids.length cap] 40);have HJ:Hid _:=hJ;have HI:Hid _:=ih;clear hr hst hal hv hW hJ ih;go_enter Tryz.func185,Tryz.ntmps185;go_wp2_with fail
        refine jk HV.out ?_;rintro e w2 ⟨rfl,C2,hJ2,hK2,hC2⟩;generalize w.alloc (.cells #[.string t.kind,.string t.data,.bool t.exec,.slice ad t.kids.length cap] 40)=W1 at *
        have q3':w2.cell? ⟨w.heap.size,3,none⟩=some (.slice ad t.kids.length cap):=by
          rw [jl (w:=W1) (hK2.block w.heap.size (by rw [HZ.out];exact Nat.lt_succ_self _) (fun hc=>Nat.lt_irrefl _ (hlow _ hc).2))];exact q3
        have HK2:Hid _:=hK2;have HC2:Hid _:=hC2;clear HV q3 hK2 hC2;have HL:=hl.open;obtain ⟨hlen,HL⟩:=HL;have HL:Hid _:=HL;have HAL:Hid _:=hal1;clear hal1 hl;go_wp2_with fail
        go_loopw [24] (fun i wr=>∃(j:Nat) (s':σ) (C':Nat->Prop),j<=t.kids.length/\i = .int .i64 j/\bh step s1 ((t.kids.take j).flatMap fun x=>pre d (p++az++x.1) (k+1) x.2)=(s',none)/\J s' C' wr/\aq C W1 wr/\(∀m,C' m->C m∨W1.heap.size<=m)) (fun i _=>t.kids.length-(intOf i).toNat)
        case atStart=>exact ⟨0,s1,C2,jq _,rfl,rfl,hJ2,HK2.out,HC2.out⟩
        case round =>
          obtain ⟨j,s',C',hj,rfl,hrun,hJ',hK',hC'⟩:=hrel;by_cases hlt:j<t.kids.length
          · obtain ⟨x,hx⟩:∃x,t.kids[j]? = some x:=⟨t.kids[j],jc hlt⟩
            obtain ⟨b,off,rfl,u,K0⟩:∃b off,ad=some ⟨b,off,none⟩/\∃u,fU w B d b off j x u:=by
              rcases HL.out with ⟨h0,_⟩|⟨b,off,cp,e,_,hk⟩
              · rw [h0] at hlt;exact absurd hlt (by simp)
              · simp only [jo] at e
                exact ⟨b,off,e.1,hk j x hx⟩
            have hbB:Below B w wr:=(hW1.mono hB).trans (hK'.below (fun m hm=>(hlow m hm).1) (by have:=HZ.out;omega));have hBr:B<=wr.heap.size:=by have:=hK'.size;have:=HZ.out;omega
            have K:=K0.below hbB (jd _);obtain ⟨ua,uc,rfl⟩:=K.lies.form;have ha1:=HAL.out;rw [mJ hx] at ha1;have ha2:=ha1.append.2 (by rw [hrun]);rw [hrun] at ha2;have ha3:=ha2.append.1
            have hbd:(p++az++x.1).size<=maxLen/\k+1<=4611686018427387904:=by
              have hl':=K.lies
              cases d with
              | zero=>exact absurd hl' (by simp [aJ])
              | succ d=>exact V.bound _ _ ha3.1
            have hp2:p.size+1+x.1.size<=9223372036854775807:=by
              have:=hbd.1
              simp only [qe,maxLen] at this;have e:az.size=1:=rfl;omega
            have hk2:=hbd.2
            have hcall:=HI.out x.2 (p++az++x.1) (k+1) (.slice ua x.2.kids.length uc) s' C' (wr.alloc (.cells #[.string x.1,.string x.2.kind,.string x.2.data,.bool x.2.exec,.slice ua x.2.kids.length uc] 85)) (V.alloc hJ' _)
              ((S.below hbB (jd _)).below ((je _ _).alloc (jd _) _) hBr) (by simp;omega) (K.lies.below ((je _ _).alloc (jd _) _) hBr) ha3
            have ek:((k+1:Nat):Int)=(k:Int)+1:=(by omega);rw [ek] at hcall;have n0:=K.name;have n1:=K.kind;have n2:=K.data;have n3:=K.exec;have n4:=K.kids;have HX:Hid _:=hx;have HJ':Hid _:=hJ';have HK':Hid _:=hK';have HC':Hid _:=hC';have HR:Hid _:=hrun
            cases hr2:bh step s' (pre d (p++az++x.1) (k+1) x.2) with
            | mk s2 o =>
              rw [hr2] at hcall
              cases o with
              | some er =>
                have HF:Hid _:=ni HX.out HR.out hr2
                have HCALL:Hid (Cl 185 #[.string (p++az++x.1),.int .i64 ((k:Int)+1),.agg #[.string x.2.kind,.string x.2.data,.bool x.2.exec,.slice ua x.2.kids.length uc],.func (.func 310) #[] #[.pointer (some c)]] (wr.alloc (.cells #[.string x.1,.string x.2.kind,.string x.2.data,.bool x.2.exec,.slice ua x.2.kids.length uc] 85)) fun e w' =>
                    e = .returned (.iface 378 (.pointer (some (a er))))/\∃C'',J s2 C'' w'/\aq C' (wr.alloc (.cells #[.string x.1,.string x.2.kind,.string x.2.data,.bool x.2.exec,.slice ua x.2.kids.length uc] 85)) w'/\∀m,C'' m->C' m∨(wr.alloc (.cells #[.string x.1,.string x.2.kind,.string x.2.data,.bool x.2.exec,.slice ua x.2.kids.length uc] 85)).heap.size<=m):=hcall
                clear hcall ek ha1 ha2 ha3 hbd hx hJ' hK' hC' hrun K K0 hbB S hlow hr2;go_wp2_with fail
                refine jk HCALL.out ?_;rintro e w4 ⟨rfl,C4,hJ4,hK4,hC4⟩;have HJ4:Hid _:=hJ4;have HK4:Hid _:=hK4;have HC4:Hid _:=hC4;clear hJ4 hK4 hC4;go_wp2_with fail
                go_ret;rw [HF.out];refine ⟨rfl,C4,HJ4.out,?_,fun m hm=>?_⟩
                · exact (aq.of_below hW1).trans (HK'.out.trans ((aq.of_below ((je _ _).alloc (jd _) _)).trans HK4.out (fun m h=>.inl h)) HC'.out) (fun m h=>.inl h)
                · rcases HC4.out m hm with h|h
                  · rcases HC'.out m h with h|h
                    · exact .inl h
                    · exact .inr (by have:=HZ.out;omega)
                  · exact .inr (by have:=HZ.out;have:=HK'.out.size;simp at h;omega)
              | none =>
                have HF:Hid _:=mp HX.out HR.out hr2
                have HCALL:Hid (Cl 185 #[.string (p++az++x.1),.int .i64 ((k:Int)+1),.agg #[.string x.2.kind,.string x.2.data,.bool x.2.exec,.slice ua x.2.kids.length uc],.func (.func 310) #[] #[.pointer (some c)]] (wr.alloc (.cells #[.string x.1,.string x.2.kind,.string x.2.data,.bool x.2.exec,.slice ua x.2.kids.length uc] 85)) fun e w' =>
                    e = .returned .nilIface/\∃C'',J s2 C'' w'/\aq C' (wr.alloc (.cells #[.string x.1,.string x.2.kind,.string x.2.data,.bool x.2.exec,.slice ua x.2.kids.length uc] 85)) w'/\∀m,C'' m->C' m∨(wr.alloc (.cells #[.string x.1,.string x.2.kind,.string x.2.data,.bool x.2.exec,.slice ua x.2.kids.length uc] 85)).heap.size<=m):=hcall
                clear hcall ek ha1 ha2 ha3 hbd hx hJ' hK' hC' hrun K K0 hbB S hlow hr2;go_wp2_with fail
                refine jk HCALL.out ?_;rintro e w4 ⟨rfl,C4,hJ4,hK4,hC4⟩;have HJ4:Hid _:=hJ4;have HK4:Hid _:=hK4;have HC4:Hid _:=hC4;clear hJ4 hK4 hC4;go_wp2_with fail
                go_roundw
                case rel =>
                  refine ⟨j+1,s2,C4,by omega,by go_num,HF.out,HJ4.out,?_,fun m hm=>?_⟩
                  · exact HK'.out.trans ((aq.of_below ((je _ _).alloc (jd _) _)).trans HK4.out (fun m h=>.inl h)) HC'.out
                  · rcases HC4.out m hm with h|h
                    · exact HC'.out m h
                    · exact .inr (by have:=HK'.out.size;simp at h;omega)
                case measure=>simp [intOf];omega
          · have et:t.kids.take j=t.kids:=jr (by omega)
            rw [et] at hrun;have HR:Hid _:=hrun;have HJ':Hid _:=hJ';have HK':Hid _:=hK';have HC':Hid _:=hC';clear et hrun hJ' hK' hC';go_wp2_with fail
            go_ret;rw [HR.out];refine ⟨rfl,C',HJ'.out,(aq.of_below hW1).trans HK'.out (fun j h=>.inl h),fun j hj=>?_⟩
            rcases HC'.out j hj with h|h
            · exact .inl h
            · exact .inr (by have:=HZ.out;omega)
end
end Go.Proofs.YtaaimbpnogkngaaGreatDoor
