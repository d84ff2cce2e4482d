/-
  Oa Gd Gh, joined.
  Conditions: those that each states.
-/
import Derived.Test.YtcflefeedcihjaaGreatDoorQ36
namespace Go.Proofs.YtcflefeedcihjaaGreatDoor
section
set_option maxRecDepth 100000
open Go.RowKit

def gW (s:ay) (q:Nat):Nat:=(eL (bW s.bl s.tab) (rl s.bl s.tab (bq s.tab)) q).getD q
theorem AN {l:List Nat} {p:Nat->Bool} {r:Nat} (hl:l.Pairwise (· < ·)) (h:l.find? p=some r):∀x∈l,p x=true->r<=x:=by
 induction l with
 | nil=>cases h
 | cons y l ih =>
  intro x hx hp;rw [List.find?_cons] at h;rw [List.pairwise_cons] at hl
  cases hy:p y with
  | true =>
   rw [hy] at h;cases h
   rcases jN.1 hx with rfl|hx
   ·exact jd _
   ·exact Nat.le_of_lt (hl.1 x hx)
  | false =>
   rw [hy] at h
   rcases jN.1 hx with rfl|hx
   ·rw [hy] at hp;cases hp
   ·exact ih hl.2 h x hx hp
theorem Cy (s:ay):(rl s.bl s.tab (bq s.tab)).Pairwise (· < ·):=by
 unfold rl bq;exact (List.pairwise_lt_range.filter _).filter _
theorem pp {s:ay} {q:Nat}:q∈rl s.bl s.tab (bq s.tab)↔dL s.bl s.tab q=true:=by
 unfold rl;rw [qK];refine ⟨fun h=>h.2,fun h=>⟨?_,h⟩⟩;have h2:=h;unfold dL at h2
 split at h2
 ·rename_i y hy
  exact fw.2 ⟨y,hy⟩
 ·cases h2
theorem kK {s:ay} {q:Nat} (h:dL s.bl s.tab q=false):gW s q=q:=by
 unfold gW eL;rw [zi (fun hm=>by rw [pp.1 hm] at h;cases h)];rfl
theorem im {s:ay} {q:Nat} (h:dL s.bl s.tab q=true):eL (bW s.bl s.tab) (rl s.bl s.tab (bq s.tab)) q=some (gW s q)/\dL s.bl s.tab (gW s q)=true/\bW s.bl s.tab (gW s q)=bW s.bl s.tab q/\∀r,dL s.bl s.tab r=true->bW s.bl s.tab r=bW s.bl s.tab q->gW s q<=r:=by
 have hm:=pp.2 h;obtain ⟨r,hr⟩:=my (lk:=bW s.bl s.tab) hm;have e:eL (bW s.bl s.tab) (rl s.bl s.tab (bq s.tab)) q=some r:=by unfold eL;rw [zj hm,hr]
 have e2:gW s q=r:=by unfold gW;rw [e];rfl
 obtain ⟨h1,h2⟩:=p8 hr;rw [e2];refine ⟨e,pp.1 h1,h2,fun x hx hl=>?_⟩;unfold dg at hr;exact AN (Cy s) hr x (pp.2 hx) (by simp [hl])
theorem IH (s:ay) (q:Nat):gW s q<=q:=by
 cases h:dL s.bl s.tab q with
 | false=>rw [kK h];exact jd _
 | true=>exact (im h).2.2.2 q h rfl
theorem lV {s:ay} {q:Nat}:gW s (gW s q)=gW s q:=by
 cases h:dL s.bl s.tab q with
 | false=>rw [kK h,kK h]
 | true =>
  obtain ⟨_,h2,h3,h4⟩:=im h;obtain ⟨_,k2,k3,k4⟩:=im h2;have a1:=h4 _ k2 (k3.trans h3);have a2:=k4 _ h2 rfl;omega
structure Hx (s:ay) (L:List (Nat×ByteArray×Nat)):Prop where
 rep:∀f∈L,¬gW s f.2.2=f.2.2->∃f'∈L,f'.2.2=gW s f.2.2
theorem vj {s:ay} {q:Nat} (h:¬gW s q=q):dL s.bl s.tab q=true:=by
 cases hk:dL s.bl s.tab q with
 | true=>rfl
 | false=>exact absurd (kK hk) h
theorem mZ {s s':ay} (hb:s'.bl=s.bl) (h:d8 s s') {q:Nat} {y:am} (hy:af s'.tab q=some y):dL s'.bl s'.tab q=dL s.bl s.tab q:=by
 obtain ⟨z,hz,e1,e2,_,e4⟩:=h q y hy;unfold dL;rw [hy,hz,hb];simp only [e1,e2,e4]
theorem tJ {s:ay} {q:Nat} (h:dL s.bl s.tab q=true):∃y,af s.tab q=some y:=by
 unfold dL at h
 split at h
 ·rename_i y hy
  exact ⟨y,hy⟩
 ·cases h
theorem zA {s s':ay} (hb:s'.bl=s.bl) (h:d8 s s') {q:Nat} {y:am} (hy:af s'.tab q=some y) (hr:∃z,af s'.tab (gW s q)=some z):gW s' q=gW s q:=by
 have hq:=mZ hb h hy
 cases hk:dL s.bl s.tab q with
 | false=>rw [kK hk,kK (hq.trans hk)]
 | true =>
  obtain ⟨z,hz⟩:=hr;obtain ⟨_,h2,h3,h4⟩:=im hk;obtain ⟨_,k2,k3,k4⟩:=im (hq.trans hk);have e2:dL s'.bl s'.tab (gW s q)=true:=(mZ hb h hz).trans h2;obtain ⟨v,hv⟩:=tJ k2;have a1:=k4 (gW s q) e2 (by rw [gj hb h hz,gj hb h hy];exact h3);have a2:=h4 (gW s' q) ((mZ hb h hv).symm.trans k2) (by rw [<-gj hb h hv,<-gj hb h hy];exact k3);omega
/-! ### The next step -/
def fF (s:ay) (L:List (Nat×ByteArray×Nat)):Option (Nat×ByteArray×Nat):=L.find? fun f=>decide (¬gW s f.2.2=f.2.2)
theorem zB {α:Type} {l:List α} {p:α->Bool}:∀ {i:Nat} {x:α},l[i]? = some x->p x=true->(∀j y,j<i->l[j]? = some y->p y=false)->l.find? p=some x:=by
 induction l with
 | nil=>intro i x h;simp at h
 | cons z l ih =>
  intro i x h hp hlt
  cases i with
  | zero =>
   obtain rfl:z=x:=by simpa using h
   rw [List.find?_cons,hp]
  | succ i =>
   have hz:=hlt 0 z (by omega) rfl;rw [List.find?_cons,hz];exact ih (by simpa using h) hp fun j y hj hy=>hlt (j+1) y (by omega) (by simpa using hy)
theorem uF {G:Nat->Nat} {L:List (Nat×ByteArray×Nat)} {i j:Nat} {f:Nat×ByteArray×Nat} (h:(mixed G L i)[j]? = some f):∃f0,L[j]? = some f0/\((j<i/\f=(f0.1,f0.2.1,G f0.2.2))∨(i<=j/\f=f0)):=by
 unfold mixed at h;by_cases hj:j<((L.take i).map fun f=>(f.1,f.2.1,G f.2.2)).length
 ·rw [jD hj,jx] at h
  obtain ⟨f0,h0,rfl⟩:=qP.1 h;rw [jB,js] at hj;rw [List.getElem?_take,zj (by omega)] at h0;exact ⟨f0,h0,.inl ⟨by omega,rfl⟩⟩
 ·rw [jA (by omega),jB,js,ym] at h
  rw [jB,js] at hj;have hl:=(jb.1 h).1;have e:min i L.length=i:=(by omega);rw [e] at h hj;rw [show i+(j-i)=j by omega] at h;exact ⟨f,h,.inr ⟨by omega,rfl⟩⟩
theorem xO {s s':ay} {L:List (Nat×ByteArray×Nat)} {i j:Nat} {f:Nat×ByteArray×Nat} (hg:∀f∈L,gW s' (gW s f.2.2)=gW s f.2.2) (hs:∀j f,i<=j->L[j]? = some f->gW s' f.2.2=gW s f.2.2) (hij:i<=j) (hf:L[j]? = some f) (hne:¬gW s f.2.2=f.2.2) (hlt:∀m g,i<=m->m<j->L[m]? = some g->gW s g.2.2=g.2.2) :
  fF s' (mixed (gW s) L i)=some f:=by
 have hlj:=(jb.1 hf).1
 have hat:(mixed (gW s) L i)[j]? = some f:=by
  unfold mixed;rw [jA (by rw [jB,js];omega),jB,js,ym];rw [show min i L.length=i by omega,show i+(j-i)=j by omega];exact hf
 refine zB hat (by rw [zm,hs j f hij hf];exact hne) fun m g hm hg2=>?_;obtain ⟨g0,h0,⟨h1,rfl⟩|⟨h1,rfl⟩⟩:=uF hg2
 ·simp only [zw,Decidable.not_not]
  exact hg g0 (jg h0)
 ·rw [zw,Decidable.not_not,hs m g h1 h0]
  exact hlt m g h1 hm h0
theorem AO {s s':ay} {L:List (Nat×ByteArray×Nat)} {i:Nat} (hg:∀f∈L,gW s' (gW s f.2.2)=gW s f.2.2) (hs:∀j f,i<=j->L[j]? = some f->gW s' f.2.2=gW s f.2.2) (hlt:∀m g,i<=m->L[m]? = some g->gW s g.2.2=g.2.2) :
  fF s' (mixed (gW s) L i)=none:=by
 refine yl.2 fun g hm=>?_;obtain ⟨m,hm'⟩:=List.mem_iff_getElem?.1 hm;obtain ⟨g0,h0,⟨h1,rfl⟩|⟨h1,rfl⟩⟩:=uF hm'
 ·simp only [zm,Decidable.not_not]
  exact hg g0 (jg h0)
 ·rw [zm,Decidable.not_not,hs m g h1 h0]
  exact hlt m g h1 h0
/-! ### Steps, one by one -/
def m0 (G:Nat->Nat) (st:ay×List (Option ah)) (f:Nat×ByteArray×Nat):ay×List (Option ah):=if G f.2.2=f.2.2 then st else match af st.1.tab f.2.2,af st.1.tab (G f.2.2),aY st.2 (f.1:Int) with
 | some y,some z,some x=>(bh (cG st.1 (G f.2.2) z) f.2.2 y,st.2.set f.1 (some { x with fs:=setF x.fs f.2.1 (G f.2.2) }))
 | _,_,_=>st
def iN (G:Nat->Nat) (st:ay×List (Option ah)) (l:List (Nat×ByteArray×Nat)):ay×List (Option ah):=l.foldl (m0 G) st
theorem kL {G:Nat->Nat} {st:ay×List (Option ah)} {L:List (Nat×ByteArray×Nat)} {i:Nat} {f:Nat×ByteArray×Nat} (h:L[i]? = some f):iN G st (L.take (i+1))=m0 G (iN G st (L.take i)) f:=by
 unfold iN;rw [dj h,List.foldl_append];rfl
theorem rD {G:Nat->Nat} {st:ay×List (Option ah)} {f:Nat×ByteArray×Nat} (h:G f.2.2=f.2.2):m0 G st f=st:=by unfold m0;rw [zj h]
theorem rE {G:Nat->Nat} {s:ay} {tr:List (Option ah)} {k q:Nat} {p:ByteArray} {y z:am} {x:ah} (h:¬G q=q) (hy:af s.tab q=some y) (hz:af s.tab (G q)=some z) (hx:aY tr (k:Int)=some x):m0 G (s,tr) (k,p,q)=(bh (cG s (G q) z) q y,tr.set k (some { x with fs:=setF x.fs p (G q) })):=by
 unfold m0;rw [zi h];simp only [hy,hz,hx]
end
section
set_option maxRecDepth 100000
open Go.RowKit

def cX (s n:ByteArray):ByteArray:=if s=ak then ak++n else s++ak++n
def dq (rd:ByteArray->ByteArray):Nat->ByteArray->ab->ab
 | 0,_,t=>t
 | d+1,s,t=>if au t=true then { t with data:=rd s } else { t with kids:=t.kids.map fun x=>(x.1,dq rd d (cX s x.1) x.2) }
theorem sO {p:ByteArray}:p.toList.isEmpty=true↔p.size=0:=by
 rw [iA,List.isEmpty_iff,Array.toList_eq_nil_iff]
 constructor
 ·intro h;show p.data.size=0;rw [h];rfl
 ·intro h;exact Array.eq_empty_of_size_eq_zero h
theorem rF {p n:ByteArray} (hp:¬p=ak) (_hn:1<=n.size):cX (dG p) n=dG (p++ak++n):=by
 have e:ak.size=1:=rfl
 have hne:¬(p++ak++n).toList.isEmpty=true:=fun h=>by
  have:=sO.1 h
  rw [qe,qe] at this;omega
 have h2:dG (p++ak++n)=p++ak++n:=by unfold dG;rw [zi hne]
 rw [h2];unfold dG;by_cases h:p.toList.isEmpty=true
 ·rw [zj h]
  have h0:=sO.1 h
  have hp0:p=ByteArray.empty:=by
   cases p with
   | mk a=>exact congrArg ByteArray.mk (Array.eq_empty_of_size_eq_zero h0)
  subst hp0;unfold cX;rw [zj rfl,ByteArray.empty_append]
 ·rw [zi h]
  unfold cX;rw [zi hp]
theorem kU {p n:ByteArray} (hn:1<=n.size):¬p++ak++n=ak:=fun h=>by
 have:=congrArg ByteArray.size h
 have e:ak.size=1:=rfl;rw [qe,qe,e] at this;omega
theorem rG {s:ByteArray} (h:aL s=true):1<=s.size:=by
 unfold aL at h;simp only [qS,zm] at h;omega
theorem sQ {rd:ByteArray->ByteArray}:∀ {d:Nat} {p:ByteArray} {t:ab},cB d t->d6 d t->¬p=ak->(∀y∈bF d p t,rd y.1=y.2.data)->dq rd d (dG p) (br d t)=t
 | 0,_,_,_,_,_,_=>rfl
 | d+1,p,t,hG,hN,hp,h=>by
  rw [br,dq];have hfk:au ⟨t.kind,ln t,t.exec,t.kids.map fun x=>(x.1,br d x.2)⟩=au t:=rfl;rw [hfk];rw [bF] at h;by_cases hf:au t=true
  ·rw [zj hf] at h ⊢
   have hk:=hG.1 hf
   have:=h _ (jF.2 rfl)
   simp only at this
   rw [this,hk]
   cases t with
   | mk a b c l=>simp only at hk;subst hk;rfl
  ·rw [zi hf] at h ⊢
   have hb:ln t=t.data:=by unfold ln;rw [zi hf]
   have hk:(t.kids.map fun x=>(x.1,br d x.2)).map (fun x=>(x.1,dq rd d (cX (dG p) x.1) x.2))=t.kids:=by
    rw [qC]
    have:t.kids.map ((fun x=>(x.1,dq rd d (cX (dG p) x.1) x.2)) ∘ fun x=>(x.1,br d x.2))=t.kids.map id:=jQ fun x hx=>by
     have hn:1<=x.1.size:=rG (hN x hx).1;simp only [Function.comp,id];rw [rF hp hn];rw [sQ (rd:=rd) (d:=d) (p:=p++ak++x.1) (t:=x.2) (hG.2 x hx).2 (hN x hx).2 (kU hn) (fun y hy=>h y (jY.2 ⟨x,hx,hy⟩))]
    rw [this,List.map_id]
   simp only
   rw [hk,hb];cases t;rfl
end
section
set_option maxHeartbeats 4000000
set_option maxRecDepth 100000
open Go.RowKit
attribute [local go_sem ↓] Go.wp_at_zero Go.wp_at_succ

def pq (P:ByteArray->Prop):Nat->ByteArray->ab->Prop
 | 0,_,_=>True
 | d+1,s,t=>if au t=true then P s else ∀x∈t.kids,pq P d (cX s x.1) x.2
def gh (ok:ByteArray->Bool):Nat->ByteArray->ab->Bool
 | 0,_,_=>true
 | d+1,s,t=>if au t=true then ok s else t.kids.all fun x=>gh ok d (cX s x.1) x.2
structure pN (w:World) (d:Nat) (t:ab) (ta:Option Addr) (tc:Nat) (j:Nat) (us:List Value) (v:Value) (wr:World):Prop where
 box:wr.heap[w.heap.size]? = some (.cells #[.string t.kind,.string t.data,.bool t.exec,.slice ta t.kids.length tc] 32 (0,0))
 res:wr.heap[w.heap.size+1]? = some (.cells #[.string { data:=#[] },.string { data:=#[] },.bool false,.slice none 0 0] 32 (0,0))
 len:us.length=j
 own:wr.ownsRow (w.heap.size+1+1) 153 5 v j (aT (t.kids.take j) us)
 kids:∃Qs:Nat->Nat->Prop,(∀(i:Nat) (x:ByteArray×ab) (u:Value),t.kids[i]? = some x->us[i]? = some u->dh wr (Qs i) d x.2.kids u)/\(∀i b,Qs i b->w.heap.size+1+1<=b/\b<wr.heap.size/\v.ownBlock≠some b)/\∀i j b,i≠j->Qs i b->¬Qs j b
 below:Bl w wr

theorem EX {w wr w2 wa w5:World} {d:Nat} {t:ab} {ta:Option Addr} {tc j:Nat} {us:List Value} {v u':Value} {x:ByteArray×ab} {g cap H:Nat} (O:pN w d t ta tc j us v wr) (hx:t.kids[j]? = some x)
  (hb2:Bl wr w2) (hu':dh w2 (fun b=>wr.heap.size<=b/\b<w2.heap.size) d x.2.kids u') (hba:Bl w2 wa)
  (hown1:w5.ownsRow (w.heap.size+1+1) 153 5 (.slice (some ⟨g,0,none⟩) (j+1) cap) (j+1) (aT (t.kids.take j) us ++ [.string x.1,.string x.2.kind,.string x.2.data,.bool x.2.exec,u']))
  (hgrow:wa.grownBy w5 v.ownBlock) (hat:v.ownBlock=some g∨g=H) (hH:w2.heap.size<=H):pN w d t ta tc (j+1) (us ++ [u']) (.slice (some ⟨g,0,none⟩) (j+1) cap) w5:=by
 have hbr:=be O.box;have hbs:=be O.res;have hlt:=fun k hk=>O.own.lt k hk
 have h5:∀k,k<w2.heap.size->v.ownBlock≠some k->w5.heap[k]? = w2.heap[k]? := fun k hk hne=>by
  rw [hgrow.block k (jn hk hba.size) (fun e=>hne e.symm),hba.block k hk]
 have h5r:∀k,k<wr.heap.size->v.ownBlock≠some k->w5.heap[k]? = wr.heap[k]? := fun k hk hne=>by
  rw [h5 k (jn hk hb2.size) hne,hb2.block k hk]
 have hs5:w2.heap.size<=w5.heap.size:=jm hba.size hgrow.size;have hj:j<t.kids.length:=(jb.1 hx).1;refine ⟨?_,?_,?_,?_,?_,?_⟩
 ·rw [h5r _ hbr (fun e=>by have:=(hlt _ e).1;omega)];exact O.box
 ·rw [h5r _ hbs (fun e=>by have:=(hlt _ e).1;omega)];exact O.res
 ·simp [O.len]
 ·have e:t.kids.take (j+1)=t.kids.take j ++ [x]:=by rw [ju hj,(jb.1 hx).2]
  rw [e,ii _ _ _ _ (by rw [O.len,js];omega)];exact hown1
 ·obtain ⟨Qs,k1,k2,k3⟩:=O.kids
  have hwr:w.heap.size<=wr.heap.size:=O.below.size
  have hold:∀k,k<wr.heap.size->v.ownBlock≠some k->some g≠some k:=fun k hk hne e=>by
   simp only [jh] at e
   rcases hat with h|h
   ·exact hne (by rw [h,e])
   ·have:=hb2.size;omega
  refine ⟨fun i=>if i=j then (fun b=>wr.heap.size<=b/\b<w2.heap.size) else Qs i,fun i y u hy hu=>?_,fun i b hb=>?_,fun i i' b hne hb hb'=>?_⟩
  ·by_cases hi:i<us.length
   ·rw [jD hi] at hu
    have hij:i≠j:=(by have:=O.len;omega);simp only [zi hij];exact (k1 i y u hy hu).kept (fun k hk=>h5r k (k2 i k hk).2.1 (k2 i k hk).2.2) (fun _ hk=>hk)
   ·have hle:us.length<=i:=by omega
    rw [jA hle] at hu
    have hi0:i-us.length=0:=by
     rcases Nat.eq_zero_or_pos (i-us.length) with h|h
     ·exact h
     ·rw [qw (by simp;omega)] at hu;cases hu
    rw [hi0] at hu;simp only [jJ,jh] at hu;have hij:i=j:=by have:=O.len;omega
    subst hij;rw [hx] at hy;simp only [jh] at hy;subst hy;subst hu;simp only [if_true];exact hu'.kept (fun k hk=>h5 k hk.2 (fun e=>by have:=(hlt k e).2;omega)) (fun _ hk=>hk)
  ·by_cases hij:i=j
   ·simp only [zj hij] at hb
    refine ⟨by omega,by omega,?_⟩;simp only [Value.ownBlock,ne_eq,jh]
    rcases hat with h|h
    ·have:=(hlt g h).2;omega
    ·omega
   ·simp only [zi hij] at hb
    have:=k2 i b hb
    exact ⟨this.1,by have:=hb2.size;omega,hold b this.2.1 this.2.2⟩
  ·by_cases hij:i=j
   ·have hij':i'≠j:=by omega
    simp only [zj hij] at hb;simp only [zi hij'] at hb'
    have:=k2 i' b hb'
    omega
   ·simp only [zi hij] at hb
    by_cases hij':i'=j
    ·simp only [zj hij'] at hb'
     have:=k2 i b hb
     omega
    ·simp only [zi hij'] at hb'
     exact k3 i i' b hne hb hb'
 ·refine ⟨?_,?_,?_,?_,fun k hk=>?_⟩
  ·exact hgrow.os.trans (hba.os.trans (hb2.os.trans O.below.os))
  ·exact hgrow.tape.trans (hba.tape.trans (hb2.tape.trans O.below.tape))
  ·exact hgrow.output.trans (hba.output.trans (hb2.output.trans O.below.output))
  ·exact jm O.below.size (jm hb2.size hs5)
  ·rw [h5r k (jn hk O.below.size) (fun e=>by have:=(hlt k e).1;omega)]
   exact O.below.block k hk

theorem GF {w wr w':World} {d:Nat} {t:ab} {ta:Option Addr} {tc j:Nat} {us:List Value} {v:Value} (O:pN w d t ta tc j us v wr) (hj:j=t.kids.length) (hlen:t.kids.length<=1759218604390) (hs:∀x∈t.kids,x.1.size<=140737488355328)
  (hos:w'.os=wr.os) (hta:w'.tape=wr.tape) (hou:w'.output=wr.output) (hsz:w'.heap.size=wr.heap.size) (hw:∀k,k≠w.heap.size->k≠w.heap.size+1->w'.heap[k]? = wr.heap[k]?) :
  dh w' (fun b=>w.heap.size<=b/\b<w'.heap.size) (d+1) t.kids v/\Bl w w':=by
 subst hj;have hown:=O.own;rw [jS] at hown;have hlt:=fun k hk=>hown.lt k hk;obtain ⟨Qs,k1,k2,k3⟩:=O.kids;have hbl:Bl w w':=⟨hos.trans O.below.os,hta.trans O.below.tape,hou.trans O.below.output,by rw [hsz];exact O.below.size,fun k hk=>by rw [hw k (by omega) (by omega)];exact O.below.block k hk⟩;refine ⟨dh.made (base:=0) (ij (aH hown fun k hk=>hw k (by have:=(hlt k hk).1;omega) (by have:=(hlt k hk).1;omega)) (jq _)) hlen O.len (fun g hg=>⟨by have:=(hlt g hg).1;omega,by have:=(hlt g hg).2;omega⟩) hs (fun i x u hx hu=>?_),hbl⟩;exact (k1 i x u hx hu).kept (fun k hk=>hw k (by have:=k2 i k hk;omega) (by have:=k2 i k hk;omega)) (fun k hk=>by have:=k2 i k hk;exact ⟨by omega,by omega⟩)

theorem II {w W:World} {d:Nat} {T:ab} {ta:Option Addr} {tc:Nat} (h1:W.heap[w.heap.size]? = some (.cells #[.string T.kind,.string T.data,.bool T.exec,.slice ta T.kids.length tc] 32 (0,0))) (h2:W.heap[w.heap.size+1]? = some (.cells #[.string { data:=#[] },.string { data:=#[] },.bool false,.slice none 0 0] 32 (0,0))) (h3:Bl w W):pN w d T ta tc 0 [] (.slice none 0 0) W:=by
 refine ⟨h1,h2,rfl,?_,⟨fun _ _=>False,fun i x u _ h=>by simp at h,fun _ _ h=>h.elim,fun _ _ _ _ h=>h.elim⟩,h3⟩;have e:aT (T.kids.take 0) [] = []:=by simp [aT]
 rw [e];exact qt _ _ _ _
def gV (rd:ByteArray->ByteArray) (ok:ByteArray->Bool) (d:Nat) (s:ByteArray) (t:ab) (w:World) (e:Ending) (w':World):Prop :=
 Bl w w'/\((gh ok d s t=true/\∃u',e = .returned (.tuple #[.agg #[.string (dq rd d s t).kind,.string (dq rd d s t).data,.bool (dq rd d s t).exec,u'],.int .i64 0])/\dh w' (fun b=>w.heap.size<=b/\b<w'.heap.size) d (dq rd d s t).kids u') ∨
  (gh ok d s t=false/\∃a b c ad n cp,e = .returned (.tuple #[.agg #[.string a,.string b,.bool c,.slice ad n cp],.int .i64 11])))
def AP (mw mt:Nat) (k:Int) (rd:ByteArray->ByteArray) (ok:ByteArray->Bool) (P:ByteArray->Prop) (w0:World):Prop :=
 ∀p,P p->∃q:Nat,∀W,Bl w0 W->W.cell? ⟨mw,0,none⟩=some (.pointer (some ⟨mt,0,none⟩)) /\
  Cl 124 #[.pointer (some ⟨mw,0,none⟩),.int .i64 k,.string p] W (fun e w'=>e = .returned (.tuple #[.int .i64 (q:Int),.int .i64 0])/\Bl W w') /\
  Cl 62 #[.pointer (some ⟨mt,0,none⟩),.int .i64 (q:Int)] W fun e w'=>e = .returned (.tuple #[.string (if ok p=true then rd p else { data:=#[] }),.int .i64 (if ok p=true then 0 else 11)])/\Bl W w'
theorem AQ (mw mt:Nat) (k:Int) (rd:ByteArray->ByteArray) (ok:ByteArray->Bool) (P:ByteArray->Prop) (w0:World) (HR:AP mw mt k rd ok P w0):∀(d:Nat) (t:ab) (u:Value) (s:ByteArray) (w:World),Bl w0 w->aA w w0.heap.size d t.kids u->cB d t->d6 d t->pq P d s t->s.size+d*20<=100000 ->
  Cl 93 #[.pointer (some ⟨mw,0,none⟩),.agg #[.string t.kind,.string t.data,.bool t.exec,u],.int .i64 k,.string s] w (gV rd ok d s t w):=by
 intro d
 induction d with
 | zero=>intro t u s w _ hl;exact absurd hl (by simp [aA])
 | succ d ih =>
  intro t u s w hw0 hl hG hNm hP hss;obtain ⟨B,HBB⟩:∃B,Hid (B=w0.heap.size):=⟨_,(rfl:_=_)⟩;rw [<-HBB.out] at hl;have hB:B<=w.heap.size:=by rw [HBB.out];exact hw0.size
  have hlo:=hl.open;obtain ⟨ta,tc,rfl⟩:=hl.form;obtain ⟨i0,hi0,hz0,hz1,hz2⟩:=info_parts pD;have hlen:=hlo.1
  cases hf:(t.kind.toList == [102,105,108,101]) with
  | true =>
   have hff:au t=true:=hf;have hk0:=hG.1 hff;rw [pq,zj hff] at hP;obtain ⟨q,hq⟩:=HR s hP;have HI:=(hq _ (hw0.trans ((((je _ w).alloc (jd _) (.cells #[.string t.kind,.string t.data,.bool t.exec,.slice ta t.kids.length tc] 32)).alloc (by simp) (.cells #[.string { data:=#[] },.string { data:=#[] },.bool false,.slice none 0 0] 32)).mono hw0.size))).2.1;obtain ⟨W1,hW1⟩:∃W1,W1=(w.alloc (.cells #[.string t.kind,.string t.data,.bool t.exec,.slice ta t.kids.length tc] 32)).alloc (.cells #[.string { data:=#[] },.string { data:=#[] },.bool false,.slice none 0 0] 32):=⟨_,rfl⟩;have hb1:Bl w W1:=by rw [hW1];exact ((je _ w).alloc (jd _) _).alloc (by simp) _
   have r0:W1.heap[w.heap.size]? = some (.cells #[.string t.kind,.string t.data,.bool t.exec,.slice ta t.kids.length tc] 32 (0,0)):=by
    rw [hW1,jp _ _ _ (by simp)];exact bM _ _ _
   have r1:W1.heap[w.heap.size+1]? = some (.cells #[.string { data:=#[] },.string { data:=#[] },.bool false,.slice none 0 0] 32 (0,0)):=by
    have:=bM (w.alloc (.cells #[.string t.kind,.string t.data,.bool t.exec,.slice ta t.kids.length tc] 32)) #[.string { data:=#[] },.string { data:=#[] },.bool false,.slice none 0 0] 32
    rw [hW1];simpa using this
   have HRD:Hid (∀w2,Bl W1 w2->w2.cell? ⟨mw,0,none⟩=some (.pointer (some ⟨mt,0,none⟩))/\Cl 62 #[.pointer (some ⟨mt,0,none⟩),.int .i64 (q:Int)] w2 fun e w'=>e = .returned (.tuple #[.string (if ok s=true then rd s else { data:=#[] }),.int .i64 (if ok s=true then 0 else 11)])/\Bl W1 w'):=fun w2 h2=>by
    have h3:Bl w w2:=hb1.trans (h2.mono hb1.size);obtain ⟨g1,_,g3⟩:=hq w2 (hw0.trans (h3.mono hw0.size));exact ⟨g1,g3.mono fun e w' ⟨he,hb⟩=>⟨he,h2.trans (hb.mono h2.size)⟩⟩
   have HEND:Hid (∀(w3:World) (dt:ByteArray),Bl W1 w3->(w3.heap[w.heap.size]? = some (.cells #[.string t.kind,.string t.data,.bool t.exec,.slice ta t.kids.length tc] 32 (0,0))/\w3.heap[w.heap.size+1]? = some (.cells #[.string { data:=#[] },.string { data:=#[] },.bool false,.slice none 0 0] 32 (0,0)))/\Bl w (((((w3.setCell ⟨w.heap.size,1,none⟩ (.string dt)).setCell ⟨w.heap.size+1,0,none⟩ (.string t.kind)).setCell ⟨w.heap.size+1,1,none⟩ (.string dt)).setCell ⟨w.heap.size+1,2,none⟩ (.bool t.exec)).setCell ⟨w.heap.size+1,3,none⟩ (.slice ta t.kids.length tc))):=fun w3 dt h3=>by
    have k0:=(ja.1 r0).1;have k1:=(ja.1 r1).1;refine ⟨⟨(h3.block _ k0).trans r0,(h3.block _ k1).trans r1⟩,?_⟩;have h4:Bl w w3:=hb1.trans (h3.mono hb1.size);refine ⟨h4.os,h4.tape,h4.output,by simp [World.setCell];exact h4.size,fun c hc=>?_⟩;rw [jf _ _ _ _ (fun e=>by have e2:c=w.heap.size+1:=e;omega),jf _ _ _ _ (fun e=>by have e2:c=w.heap.size+1:=e;omega),jf _ _ _ _ (fun e=>by have e2:c=w.heap.size+1:=e;omega),jf _ _ _ _ (fun e=>by have e2:c=w.heap.size+1:=e;omega),jf _ _ _ _ (fun e=>by have e2:c=w.heap.size:=e;omega)];exact h4.block c hc
   have HPO:Hid (∀w',Bl w w'->((ok s=true->gV rd ok (d+1) s t w (.returned (.tuple #[.agg #[.string t.kind,.string (rd s),.bool t.exec,.slice ta t.kids.length tc],.int .i64 0])) w')/\(ok s=false->gV rd ok (d+1) s t w (.returned (.tuple #[.agg #[.string t.kind,.string { data:=#[] },.bool t.exec,.slice ta t.kids.length tc],.int .i64 11])) w'))):=fun w' hb'=>by
    refine ⟨fun ho=>⟨hb',.inl ⟨by rw [gh,zj hff];exact ho,.slice ta t.kids.length tc,?_,?_⟩⟩,fun ho=>⟨hb',.inr ⟨by rw [gh,zj hff];exact ho,_,_,_,_,_,_,rfl⟩⟩⟩
    ·rw [dq,zj hff]
    ·rw [dq,zj hff]
     show dh _ _ _ t.kids _;rw [hk0];exact ⟨ta,tc,rfl,by simp,fun i x hx=>by simp at hx⟩
   have HI2:Hid (Cl 124 #[.pointer (some ⟨mw,0,none⟩),.int .i64 k,.string s] W1 fun e w'=>e = .returned (.tuple #[.int .i64 (q:Int),.int .i64 0])/\Bl W1 w'):=(by rw [hW1];exact HI);clear HI hq hP hG hNm hl hlo ih hb1 r0 r1 hw0 hk0 hff HR
   obtain ⟨X,C,HRD2,HPO2⟩:∃(X:ByteArray) (C:Int),Hid (∀w2,Bl W1 w2->w2.cell? ⟨mw,0,none⟩=some (.pointer (some ⟨mt,0,none⟩))/\Cl 62 #[.pointer (some ⟨mt,0,none⟩),.int .i64 (q:Int)] w2 fun e w'=>e = .returned (.tuple #[.string X,.int .i64 C])/\Bl W1 w')/\Hid (∀w',Bl w w'->gV rd ok (d+1) s t w (.returned (.tuple #[.agg #[.string t.kind,.string X,.bool t.exec,.slice ta t.kids.length tc],.int .i64 C])) w'):=by
    cases hok:ok s with
    | true =>
     rw [hok] at HRD;exact ⟨_,_,HRD,fun w' h=>(HPO.out w' h).1 hok⟩
    | false =>
     rw [hok] at HRD;exact ⟨_,_,HRD,fun w' h=>(HPO.out w' h).2 hok⟩
   clear HPO HRD;generalize gV rd ok (d+1) s t w=POST at *;go_enter Tryz.func93,Tryz.ntmps93;go_wp2_with fail
   rw [<-hW1];refine jk HI2.out ?_;rintro e w2 ⟨rfl,b2⟩;obtain ⟨c0,H3⟩:=HRD2.out w2 b2;clear HI2 HRD2 b2 hW1;go_wp2_with fail
   refine jk H3 ?_;rintro e w3 ⟨rfl,b3⟩;obtain ⟨⟨s0,s1⟩,hbe⟩:=HEND.out w3 X b3;have g0:w3.cell? ⟨w.heap.size,0,none⟩=some (.string t.kind):=by rw [ze _ _ _ _ _ _ s0];rfl
   have g1:w3.cell? ⟨w.heap.size,1,none⟩=some (.string t.data):=(by rw [ze _ _ _ _ _ _ s0];rfl);have g2:w3.cell? ⟨w.heap.size,2,none⟩=some (.bool t.exec):=by rw [ze _ _ _ _ _ _ s0];rfl
   have g3:w3.cell? ⟨w.heap.size,3,none⟩=some (.slice ta t.kids.length tc):=(by rw [ze _ _ _ _ _ _ s0];rfl);have z1:w3.frozen? ⟨w.heap.size,1,none⟩=false:=ar s0 1;have h0:w3.cell? ⟨w.heap.size+1,0,none⟩=some (.string { data:=#[] }):=by rw [ze _ _ _ _ _ _ s1];rfl
   have h1:w3.cell? ⟨w.heap.size+1,1,none⟩=some (.string { data:=#[] }):=(by rw [ze _ _ _ _ _ _ s1];rfl);have h2:w3.cell? ⟨w.heap.size+1,2,none⟩=some (.bool false):=by rw [ze _ _ _ _ _ _ s1];rfl
   have h3:w3.cell? ⟨w.heap.size+1,3,none⟩=some (.slice none 0 0):=(by rw [ze _ _ _ _ _ _ s1];rfl);have y0:w3.frozen? ⟨w.heap.size+1,0,none⟩=false:=ar s1 0;have y1:w3.frozen? ⟨w.heap.size+1,1,none⟩=false:=ar s1 1;have y2:w3.frozen? ⟨w.heap.size+1,2,none⟩=false:=ar s1 2;have y3:w3.frozen? ⟨w.heap.size+1,3,none⟩=false:=ar s1 3;have HBE:Hid _:=hbe;clear HEND b3 s0 s1 hbe c0 H3;go_wp2_with fail
   refine zv (v:=.tuple #[.agg #[.string t.kind,.string X,.bool t.exec,.slice ta t.kids.length tc],.int .i64 C]) (by simp [results,Tryz.results93,go_sem,h0,h1,h2,h3]) rfl ?_;exact HPO2.out _ HBE.out
  | false =>
   have hff:¬au t=true:=(by unfold au;rw [hf];simp);rw [pq,zi hff] at hP;have HN:Hid (∀x∈t.kids,x.1.size<=12):=fun x hx=>o5 (hNm x hx).1;obtain ⟨T,HT⟩:∃T,Hid (T=dq rd (d+1) s t):=⟨_,(rfl:_=_)⟩;have hTe:T = { t with kids:=t.kids.map fun x=>(x.1,dq rd d (cX s x.1) x.2) }:=by rw [HT.out,dq,zi hff]
   have HTK:Hid (∀(i:Nat) (x:ByteArray×ab),t.kids[i]? = some x->T.kids[i]? = some (x.1,dq rd d (cX s x.1) x.2)):=fun i x hx=>by
    rw [hTe];show (t.kids.map fun x=>(x.1,dq rd d (cX s x.1) x.2))[i]? = _;rw [jx,hx];rfl
   have HTL:Hid (T.kids.length=t.kids.length):=by
    show _=_;rw [hTe];show (t.kids.map fun x=>(x.1,dq rd d (cX s x.1) x.2)).length=_;rw [jB]
   have HTN:Hid (∀x∈T.kids,x.1.size<=140737488355328):=fun x hx=>by
    rw [hTe] at hx;obtain ⟨y,hy,rfl⟩:=jv.1 (show x∈t.kids.map fun x=>(x.1,dq rd d (cX s x.1) x.2) from hx);exact jm (HN.out y hy) (by omega)
   have HST:Hid (pN w d T ta tc 0 [] (.slice none 0 0) ((w.alloc (.cells #[.string t.kind,.string t.data,.bool t.exec,.slice ta t.kids.length tc] 32)).alloc (.cells #[.string { data:=#[] },.string { data:=#[] },.bool false,.slice none 0 0] 32))):=by
    refine II ?_ ?_ (((je _ _).alloc (jd _) _).alloc (by simp) _)
    ·have e1:T.kind=t.kind:=by rw [hTe]
     have e2:T.exec=t.exec:=(by rw [hTe]);have e3:T.data=t.data:=(by rw [hTe]);rw [e1,e2,e3,HTL.out,jp _ _ _ (by simp)];exact bM _ _ _
    ·have:=bM (w.alloc (.cells #[.string t.kind,.string t.data,.bool t.exec,.slice ta t.kids.length tc] 32)) #[.string { data:=#[] },.string { data:=#[] },.bool false,.slice none 0 0] 32
     simpa using this
   have HL:Hid _:=hlo
   have HIH:Hid (∀(x:ByteArray×ab) (u:Value) (wr:World),x∈t.kids->Bl w0 wr->aA wr B d x.2.kids u->Cl 93 #[.pointer (some ⟨mw,0,none⟩),.agg #[.string x.2.kind,.string x.2.data,.bool x.2.exec,u],.int .i64 k,.string (cX s x.1)] wr (gV rd ok d (cX s x.1) x.2 wr)):=fun x u wr hx hb hls=>by
    refine ih x.2 u (cX s x.1) wr hb (by rw [<-HBB.out];exact hls) (hG.2 x hx).2 (hNm x hx).2 (hP x hx) ?_;have hz:=HN.out x hx;have e47:ak.size=1:=rfl;unfold cX
    split
    ·rw [qe];omega
    ·rw [qe,qe];omega
   have HOKT:Hid ((∀x∈t.kids,gh ok d (cX s x.1) x.2=true)->gh ok (d+1) s t=true):=fun h=>by
    rw [gh,zi hff,qy];exact h
   have HOKF:Hid (∀x∈t.kids,gh ok d (cX s x.1) x.2=false->gh ok (d+1) s t=false):=fun x hx h=>by
    rw [gh,zi hff]
    cases hc:t.kids.all fun x=>gh ok d (cX s x.1) x.2 with
    | false=>rfl
    | true=>rw [qy] at hc;rw [hc x hx] at h;cases h
   have HPF:Hid (∀e w',gV rd ok (d+1) s t w e w'↔(Bl w w'/\((gh ok (d+1) s t=true/\∃u',e = .returned (.tuple #[.agg #[.string T.kind,.string T.data,.bool T.exec,u'],.int .i64 0])/\dh w' (fun b=>w.heap.size<=b/\b<w'.heap.size) (d+1) T.kids u')∨(gh ok (d+1) s t=false/\∃a b c ad n cp,e = .returned (.tuple #[.agg #[.string a,.string b,.bool c,.slice ad n cp],.int .i64 11]))))):=fun e w'=>(by rw [HT.out];exact Iff.rfl);obtain ⟨POST,HPOST⟩:∃POST,Hid (POST=gV rd ok (d+1) s t w):=⟨_,(rfl:_=_)⟩;rw [<-HPOST.out] at HPF ⊢;have HW0:=kH hw0;have HJ:Hid (∀x:ByteArray×ab,cX s x.1=if s=ak then ak++x.1 else s++ak++x.1):=fun x=>rfl;have hsl:s.size<=100000:=(by omega);have hssb:Hid (s.size+(d+1)*20<=100000):=hss;clear hlo hl ih hP hG hNm hff HT hTe HPOST hw0 HR hss
   have hcs:((s.toList == [47])=true/\Hid (∀x:ByteArray×ab,cX s x.1 = { data:=#[47] }++x.1))∨((s.toList == [47])=false/\Hid (∀x:ByteArray×ab,cX s x.1=s ++ { data:=#[47] }++x.1)):=by
    cases hsq:(s.toList == [47]) with
    | true=>exact .inl ⟨rfl,fun x=>by rw [HJ.out,zj (i5 (by have:=eq_of_beq hsq;rw [iA] at this;exact this))];rfl⟩
    | false=>exact .inr ⟨rfl,fun x=>by rw [HJ.out,zi (fun e=>by rw [e,iA] at hsq;exact absurd hsq (by decide))];rfl⟩
   clear HJ
   rcases hcs with ⟨hsq,HJS⟩|⟨hsq,HJS⟩
   all_goals
    go_enter Tryz.func93,Tryz.ntmps93;go_wp2_with fail
    go_loopw [13,14] (fun v i wr=>∃(j:Nat) (us:List Value) (va:Option Addr) (vc:Nat),j<=t.kids.length/\i = .int .i64 j/\v = .slice va j vc/\pN w d T ta tc j us (.slice va j vc) wr/\Hid (∀x∈t.kids.take j,gh ok d (cX s x.1) x.2=true)) (fun _ i _=>t.kids.length-(intOf i).toNat)
    case atStart=>exact ⟨0,[],none,0,jq _,rfl,rfl,HST.out,fun x hx=>by simp at hx⟩
    case round =>
     obtain ⟨j,us,va,vc,hj,rfl,rfl,O,HOK⟩:=hrel;have hrow:=O.box;have g0:wr.cell? ⟨w.heap.size,0,none⟩=some (.string T.kind):=by rw [ze wr _ _ _ _ _ O.box];rfl
     have g1:wr.cell? ⟨w.heap.size,1,none⟩=some (.string T.data):=(by rw [ze wr _ _ _ _ _ O.box];rfl);have g2:wr.cell? ⟨w.heap.size,2,none⟩=some (.bool T.exec):=by rw [ze wr _ _ _ _ _ O.box];rfl
     have g3:wr.cell? ⟨w.heap.size,3,none⟩=some (.slice ta t.kids.length tc):=(by rw [<-HTL.out,ze wr _ _ _ _ _ O.box];rfl);by_cases hlt:j<t.kids.length
     ·obtain ⟨x,hx⟩:∃x,t.kids[j]? = some x:=⟨t.kids[j],jc hlt⟩
      obtain ⟨b,off,rfl,ux,K0⟩:∃b off,ta=some ⟨b,off,none⟩/\∃u,eH w B d b off j x u:=by
       rcases HL.out.2 with ⟨h0,_⟩|⟨b,off,cp,e,_,hk⟩
       ·rw [h0] at hlt;exact absurd hlt (by simp)
       ·simp only [jo] at e
        exact ⟨b,off,e.1,hk j x hx⟩
      have K:=K0.below O.below hB;obtain ⟨xa,xc,rfl⟩:=K.lies.form;have n0:=K.name;have n1:=K.kind;have n2:=K.data;have n3:=K.exec;have n4:=K.kids;have hBr:B<=wr.heap.size:=jm hB O.below.size;have lb:b<wr.heap.size:=jn K.lt hBr;have lw:w.heap.size<wr.heap.size:=be O.box;have hxm:=jg hx;have hxs:=HN.out x hxm;obtain ⟨y,HY⟩:∃y,Hid (y=dq rd d (cX s x.1) x.2):=⟨_,(rfl:_=_)⟩;obtain ⟨okb,HOB⟩:∃okb,Hid (okb=gh ok d (cX s x.1) x.2):=⟨_,(rfl:_=_)⟩
      have HC:Hid (Cl 93 #[.pointer (some ⟨mw,0,none⟩),.agg #[.string x.2.kind,.string x.2.data,.bool x.2.exec,.slice xa x.2.kids.length xc],.int .i64 k,.string (cX s x.1)] wr fun e w'=>Bl wr w'/\((okb=true/\∃u',e = .returned (.tuple #[.agg #[.string y.kind,.string y.data,.bool y.exec,u'],.int .i64 0])/\dh w' (fun b=>wr.heap.size<=b/\b<w'.heap.size) d y.kids u')∨(okb=false/\∃a b c ad n cp,e = .returned (.tuple #[.agg #[.string a,.string b,.bool c,.slice ad n cp],.int .i64 11])))):=by
       rw [HY.out,HOB.out];exact HIH.out x (.slice xa x.2.kids.length xc) wr hxm (HW0.out.trans (O.below.mono HW0.out.size)) K.lies
      have HOX:Hid (okb=false->gh ok (d+1) s t=false):=fun h=>HOKF.out x hxm (by rw [<-HOB.out];exact h);have HXT:Hid (T.kids[j]? = some (x.1,y)):=by show _=_;rw [HTK.out j x hx,HY.out]
      have HOJ:Hid (okb=true->∀y∈t.kids.take (j+1),gh ok d (cX s y.1) y.2=true):=fun h y hy=>by
       rw [List.take_add_one,hx] at hy
       rcases jT.1 hy with h1|h1
       ·exact HOK.out y h1
       ·have e:y=x:=by simpa using h1
        rw [e,<-HOB.out];exact h
      have hj0:(0:Int)<=(j:Int):=(by omega);have hj1:(j:Int)<(t.kids.length:Int):=(by omega);have HKLT:=kH K.lt;have HO:Hid _:=O;clear O hrow K K0 hx hxm HOK HY HOB;go_wp2_with fail
      rw [<-HJS.out x];refine jk HC.out ?_;rintro e w2 ⟨hb2,hres⟩;have lw2:w.heap.size<w2.heap.size:=jn lw hb2.size;have lb2:b<w2.heap.size:=jn lb hb2.size
      rcases hres with ⟨hok,u',rfl,hq⟩|⟨hok,ra,rb,rc,rad,rn,rcp,rfl⟩
      ·obtain ⟨xa',xc',rfl⟩:=hq.form
       have HON:=kH (HOJ.out hok);clear hok HOJ HOX;have g3':w2.cell? ⟨w.heap.size,3,none⟩=some (.slice (some ⟨b,off,none⟩) t.kids.length tc):=by rw [hb2.cell (p:=⟨w.heap.size,3,none⟩) lw];exact g3
       have n0':w2.cell? ⟨b,off+j*5,none⟩=some (.string x.1):=(by rw [hb2.cell (p:=⟨b,off+j*5,none⟩) lb];exact n0);have hown2:w2.ownsRow (w.heap.size+1+1) 153 5 (.slice va j vc) j (aT (T.kids.take j) us):=aH HO.out.own fun k hk=>hb2.block k (HO.out.own.lt k hk).2;have HOW2:Hid _:=hown2;have HQ:=kH hq;have HB2:Hid _:=hb2
       have HN2:Hid (∀o,((w2.alloc o).alloc (.cells #[.string x.1,.string y.kind,.string y.data,.bool y.exec,.slice xa' y.kids.length xc'] 153)).heap[w2.heap.size+1]? = some (.cells #[.string x.1,.string y.kind,.string y.data,.bool y.exec,.slice xa' y.kids.length xc'] 153 (0,0))):=fun o=>by
        have:=bM (w2.alloc o) #[.string x.1,.string y.kind,.string y.data,.bool y.exec,.slice xa' y.kids.length xc'] 153
        simpa using this
       have a1:(Value.slice va j vc).ownBlock≠some w.heap.size:=fun e=>(by have:=(HO.out.own.lt _ e).1;omega);have a2:(Value.slice va j vc).ownBlock≠some b:=fun e=>by have:=(HO.out.own.lt _ e).1;have:=HKLT.out;omega
       have a3:(Value.slice va j vc).ownBlock≠some w2.heap.size:=fun e=>(by have:=(HO.out.own.lt _ e).2;have:=hb2.size;omega);have hbs:w.heap.size+1+1<=w2.heap.size:=by have:=be HO.out.res;have:=hb2.size;omega
       clear hown2 hq hb2 n0 n1 n2 n3 n4 g0 g1 g2 g3;go_wp2_with fail
       go_region_held3 (fun w'=>w'.cell? ⟨w.heap.size,3,none⟩=some (.slice (some ⟨b,off,none⟩) t.kids.length tc)/\w'.cell? ⟨b,off+j*5,none⟩=some (.string x.1)/\w'.cell? ⟨w2.heap.size,0,none⟩=some (.string y.kind)/\w'.cell? ⟨w2.heap.size,1,none⟩=some (.string y.data)/\w'.cell? ⟨w2.heap.size,2,none⟩=some (.bool y.exec)/\w'.cell? ⟨w2.heap.size,3,none⟩=some (.slice xa' y.kids.length xc'))
        (first
         | go_keep
         | (go_split_ands;refine ⟨?_,?_,?_,?_,?_,?_⟩;(rw [hgrow.cell_far _ (by first|(simp;done)|(simp;omega)) (Ne.symm a1)];assumption);(rw [hgrow.cell_far _ (by first|(simp;done)|(simp;omega)) (Ne.symm a2)];assumption);(rw [hgrow.cell_far _ (by first|(simp;done)|(simp;omega)) (Ne.symm a3)];assumption);(rw [hgrow.cell_far _ (by first|(simp;done)|(simp;omega)) (Ne.symm a3)];assumption);(rw [hgrow.cell_far _ (by first|(simp;done)|(simp;omega)) (Ne.symm a3)];assumption);(rw [hgrow.cell_far _ (by first|(simp;done)|(simp;omega)) (Ne.symm a3)];assumption)))
        ((refine step_append_lies _ (by rfl) _ _ _ (by rfl) (w.heap.size+1+1) 153 i0 _ 5 80 Tryz.underlying30 hi0 hz0 hz1 hz2 rfl (by omega) (.slice va j vc) j (aT (T.kids.take j) us) (by rfl) ((jG (jG HOW2.out _) _).drew) ⟨w2.heap.size+1,0,none⟩ 1 1 [.string x.1,.string y.kind,.string y.data,.bool y.exec,.slice xa' y.kids.length xc'] (by rfl) (by rfl) (World.news_of_block (cs:=#[.string x.1,.string y.kind,.string y.data,.bool y.exec,.slice xa' y.kids.length xc']) (t:=153) (fr:=(0,0)) (HN2.out _)) (by simp [Value.oneCell']) (by omega) (by unfold maxLen;omega) (by omega) (by simp;omega) (w2.heap.size+1+1) (by simp) ?_;intro g cap' w5 hown5 hgrow hat hlt5))
       go_wp2_with fail
       have hO:=EX (x:=(x.1,y)) HO.out HXT.out HB2.out HQ.out (wa:=((w2.alloc (.cells #[.string y.kind,.string y.data,.bool y.exec,.slice xa' y.kids.length xc'] 32)).alloc (.cells #[.string x.1,.string y.kind,.string y.data,.bool y.exec,.slice xa' y.kids.length xc'] 153)).drew) (by go_grown) hown5 hgrow hat (by omega)
       go_roundw
       case rel=>exact ⟨j+1,us ++ [.slice xa' y.kids.length xc'],some ⟨g,0,none⟩,cap',by omega,by go_num,rfl,hO,HON⟩
       case measure=>simp [intOf];omega
      ·have HFX:=kH (HOX.out hok)
       have e1:w2.heap[w.heap.size+1]? = some (.cells #[.string { data:=#[] },.string { data:=#[] },.bool false,.slice none 0 0] 32 (0,0)):=(hb2.block _ (be HO.out.res)).trans HO.out.res;have lwr:w.heap.size+1<w2.heap.size:=be e1;obtain ⟨W5,hW5⟩:∃W5,W5=w2.alloc (.cells #[.string ra,.string rb,.bool rc,.slice rad rn rcp] 32):=⟨_,rfl⟩;have s1:W5.heap[w.heap.size+1]? = some (.cells #[.string { data:=#[] },.string { data:=#[] },.bool false,.slice none 0 0] 32 (0,0)):=by rw [hW5];exact (jp _ _ _ lwr).trans e1
       have HBE:Hid (Bl w ((((W5.setCell ⟨w.heap.size+1,0,none⟩ (.string { data:=#[] })).setCell ⟨w.heap.size+1,1,none⟩ (.string { data:=#[] })).setCell ⟨w.heap.size+1,2,none⟩ (.bool false)).setCell ⟨w.heap.size+1,3,none⟩ (.slice none 0 0))):=by
        have h4:Bl w W5:=(by rw [hW5];exact (HO.out.below.trans (hb2.mono HO.out.below.size)).alloc (by omega) _);refine ⟨h4.os,h4.tape,h4.output,by simp [World.setCell];exact h4.size,fun c hc=>?_⟩;rw [jf _ _ _ _ (fun e=>by have e2:c=w.heap.size+1:=e;omega),jf _ _ _ _ (fun e=>by have e2:c=w.heap.size+1:=e;omega),jf _ _ _ _ (fun e=>by have e2:c=w.heap.size+1:=e;omega),jf _ _ _ _ (fun e=>by have e2:c=w.heap.size+1:=e;omega)];exact h4.block c hc
       clear hok HOX HOJ g0 g1 g2 g3 n0 n1 n2 n3 n4 e1
       go_upto_region 17 with fail
       rw [<-hW5];have h0:W5.cell? ⟨w.heap.size+1,0,none⟩=some (.string { data:=#[] }):=by rw [ze _ _ _ _ _ _ s1];rfl
       have h1:W5.cell? ⟨w.heap.size+1,1,none⟩=some (.string { data:=#[] }):=(by rw [ze _ _ _ _ _ _ s1];rfl);have h2:W5.cell? ⟨w.heap.size+1,2,none⟩=some (.bool false):=by rw [ze _ _ _ _ _ _ s1];rfl
       have h3:W5.cell? ⟨w.heap.size+1,3,none⟩=some (.slice none 0 0):=(by rw [ze _ _ _ _ _ _ s1];rfl);have y0:W5.frozen? ⟨w.heap.size+1,0,none⟩=false:=ar s1 0;have y1:W5.frozen? ⟨w.heap.size+1,1,none⟩=false:=ar s1 1;have y2:W5.frozen? ⟨w.heap.size+1,2,none⟩=false:=ar s1 2;have y3:W5.frozen? ⟨w.heap.size+1,3,none⟩=false:=ar s1 3;clear s1 hW5;go_wp2_with fail
       refine zv (v:=.tuple #[.agg #[.string { data:=#[] },.string { data:=#[] },.bool false,.slice none 0 0],.int .i64 11]) (by simp [results,Tryz.results93,go_sem,h0,h1,h2,h3]) rfl ?_;exact (HPF.out _ _).2 ⟨HBE.out,.inr ⟨HFX.out,_,_,_,_,_,_,rfl⟩⟩
     ·have hjl:j=t.kids.length:=by omega
      have HFX:Hid (gh ok (d+1) s t=true):=HOKT.out (fun x hx=>HOK.out x (by rw [jr (by omega)];exact hx));have f3:wr.frozen? ⟨w.heap.size,3,none⟩=false:=ar O.box 3;have r0:wr.cell? ⟨w.heap.size+1,0,none⟩=some (.string { data:=#[] }):=by rw [ze wr _ _ _ _ _ O.res];rfl
      have r1:wr.cell? ⟨w.heap.size+1,1,none⟩=some (.string { data:=#[] }):=(by rw [ze wr _ _ _ _ _ O.res];rfl);have r2:wr.cell? ⟨w.heap.size+1,2,none⟩=some (.bool false):=by rw [ze wr _ _ _ _ _ O.res];rfl
      have r3:wr.cell? ⟨w.heap.size+1,3,none⟩=some (.slice none 0 0):=(by rw [ze wr _ _ _ _ _ O.res];rfl);have s0:wr.frozen? ⟨w.heap.size+1,0,none⟩=false:=ar O.res 0;have s1:wr.frozen? ⟨w.heap.size+1,1,none⟩=false:=ar O.res 1;have s2:wr.frozen? ⟨w.heap.size+1,2,none⟩=false:=ar O.res 2;have s3:wr.frozen? ⟨w.heap.size+1,3,none⟩=false:=ar O.res 3
      have HE:Hid _:=GF (w':=(((((wr.setCell ⟨w.heap.size,3,none⟩ (.slice va j vc)).setCell ⟨w.heap.size+1,0,none⟩ (.string T.kind)).setCell ⟨w.heap.size+1,1,none⟩ (.string T.data)).setCell ⟨w.heap.size+1,2,none⟩ (.bool T.exec)).setCell ⟨w.heap.size+1,3,none⟩ (.slice va j vc)))
       O (by rw [HTL.out];omega) (by rw [HTL.out];exact hlen) HTN.out rfl rfl rfl (by simp [World.setCell]) (fun k h1 h2=>by
        rw [jf _ _ _ _ h2,jf _ _ _ _ h2,jf _ _ _ _ h2,jf _ _ _ _ h2,jf _ _ _ _ h1])
      clear O hrow hjl;go_wp2_with fail
      refine zv (v:=.tuple #[.agg #[.string T.kind,.string T.data,.bool T.exec,.slice va j vc],.int .i64 0]) (by simp [results,Tryz.results93,go_sem,r0,r1,r2,r3]) rfl ?_;exact (HPF.out _ _).2 ⟨HE.out.2,.inl ⟨HFX.out,_,rfl,HE.out.1⟩⟩
end
end Go.Proofs.YtcflefeedcihjaaGreatDoor
