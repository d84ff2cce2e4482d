/-
  Trees whose data, names and depth are bounded, also with a node put at names; a node written at a place of a tree of one's own memory.
  A node dropped: what the tree is, in plain mathematics and in memory of its own.
  The numbers of errors that are told of paths and trees are those of sentinels.
  Conditions: those that each states.
-/
import Derived.Test.YtpjjpmikhjlgnaaGreatDoorD08
import Derived.Test.YtpjjpmikhjlgnaaGreatDoorD12
import Derived.Test.YtpjjpmikhjlgnaaGreatDoorD14
import Derived.Test.YtpjjpmikhjlgnaaGreatDoorD11
namespace Go.Proofs.YtpjjpmikhjlgnaaGreatDoor
open Go.RowKit

def OkT:Nat->Tree->Prop
 | 0,_=>False
 | n+1,t=>t.data.size<=2001/\∀x∈t.kids,x.1.size<=30/\OkT n x.2
theorem OkT.up:∀ {n m:Nat} {t:Tree},n<=m->OkT n t->OkT m t
 | 0,_,_,_,h=>h.elim
 | _+1,0,_,h,_=>by omega
 | _+1,_+1,_,hm,⟨h1,h2⟩=>⟨h1,fun x hx=>⟨(h2 x hx).1,OkT.up (by omega) (h2 x hx).2⟩⟩
theorem OkT.items:∀ {d n:Nat} {p:ByteArray} {k:Nat} {t:Tree},OkT n t->∀x∈pre d p k t,x.1.size<=p.size+31*n/\x.2.1<=k+n/\x.2.2.data.size<=2001
 | 0,_,_,_,_,_,x,hx=>by simp [pre] at hx
 | _+1,0,_,_,_,h,_,_=>h.elim
 | d+1,n+1,p,k,t,⟨h1,h2⟩,x,hx=>by
  simp only [pre] at hx
  rcases List.mem_cons.1 hx with rfl|hx
  ·exact ⟨by simp only;omega,by simp only;omega,h1⟩
  ·obtain ⟨y,hy,hx⟩:=List.mem_flatMap.1 hx
   have hn:=h2 y hy
   have ih:=OkT.items (d:=d) (p:=p++slash++y.1) (k:=k+1) hn.2 x hx
   simp only [ByteArray.size_append] at ih
   have e:slash.size=1:=rfl
   exact ⟨by omega,by omega,ih.2.2⟩
theorem OkT.ok {n d:Nat} {t:Tree} (h:OkT n t) (hn:n<=1000):OkItems (pre d ByteArray.empty 0 t):=fun x hx=>by
 have h1:=h.items x hx
 have e0:ByteArray.empty.size=0:=rfl
 exact ⟨by unfold maxLen;omega,by omega,h1.2.2⟩
theorem OkT.alive {n d:Nat} {t:Tree} (h:OkT n t) (hn:n<=1000):Alive ck ckOk 0 (pre d ByteArray.empty 0 t):=alive_ck _ 0 (by omega) (h.ok hn)
theorem OkT.of:∀ {d m k n:Nat} {p:ByteArray} {t:Tree},Fit d t->k+n=m+1->(∀x∈pre d p k t,x.2.1<=m/\x.2.2.data.size<=2001/\∀y∈x.2.2.kids,y.1.size<=30)->OkT n t
 | 0,_,_,_,_,_,h,_,_=>h.elim
 | d+1,m,k,n,p,t,hf,hk,h=>by
  simp only [pre] at h
  have h0:=h (p,k,t) List.mem_cons_self
  cases n with
  | zero=>simp only at h0;omega
  | succ n =>
   refine ⟨h0.2.1,fun y hy=>⟨h0.2.2 y hy,?_⟩⟩
   exact OkT.of (m:=m) (k:=k+1) (p:=p++slash++y.1) (hf y hy) (by omega) fun x hx=>h x (List.mem_cons_of_mem _ (List.mem_flatMap.2 ⟨y,hy,hx⟩))
theorem OkT.small {most d:Nat} {t:Tree} (hd:Fit d t) (h:largeB most t=false):OkT 12 t:=by
 have e:=pre_eq hd h
 unfold largeB at h
 simp only [Bool.or_eq_false_iff,decide_eq_false_iff_not] at h
 refine OkT.of (m:=11) (k:=0) (p:=ByteArray.empty) hd (by omega) fun x hx=>?_
 rw [e] at hx
 have h1:=List.any_eq_false.1 h.2 x hx
 unfold itemLarge at h1
 simp only [Bool.or_eq_true,decide_eq_true_eq,not_or] at h1
 refine ⟨by omega,by omega,fun y hy=>?_⟩
 have h2:x.2.2.kids.any longName=false:=by simpa using h1.2
 have h3:=List.any_eq_false.1 h2 y hy
 unfold longName at h3
 simp only [decide_eq_true_eq] at h3
 omega
theorem name_size {x:ByteArray} (h:nameB x=true):1<=x.size/\x.size<=12:=by
 unfold nameB at h
 simp only [Bool.and_eq_true,decide_eq_true_eq] at h
 exact h.1.1.1
theorem node_bounds {t:Tree} (h:nodeErr t=none):t.data.size<=2000/\∀y∈t.kids,y.1.size<=12:=by
 unfold nodeErr at h
 split at h
 ·unfold fileErr at h
  split at h
  ·cases h
  ·split at h
   ·cases h
   ·refine ⟨by omega,fun y hy=>?_⟩
    have:=List.length_pos_of_mem hy
    omega
 ·split at h
  ·unfold dirErr at h
   split at h
   ·cases h
   ·rename_i h1
    split at h
    ·rename_i h2
     refine ⟨?_,fun y hy=>(name_size (List.all_eq_true.1 h2 y hy)).2⟩
     simp only [not_or] at h1
     have h3:t.data.toList.isEmpty=true:=by
      cases hh:t.data.toList.isEmpty with
      | true=>rfl
      | false=>exact absurd hh h1.1
     have h4:t.data.toList = []:=by simpa using h3
     have h5:t.data.toList.length=t.data.size:=by rw [ba_toList];rfl
     rw [h4] at h5
     simp at h5
     omega
    ·cases h
  ·split at h
   ·unfold linkErr at h
    split at h
    ·cases h
    ·rename_i h1
     split at h
     ·cases h
     ·refine ⟨by omega,fun y hy=>?_⟩
      have:=List.length_pos_of_mem hy
      exact absurd (.inr this) h1
   ·cases h
theorem OkT.well {d:Nat} {t:Tree} (hd:Fit d t) (h:treeErr d t=none):OkT 9 t :=
 OkT.of (m:=8) (k:=0) (p:=ByteArray.empty) hd (by omega) fun x hx=>by
  have h1:=(treeErr_none.1 h).2 x hx
  have h2:=node_bounds h1.2
  exact ⟨h1.1,by omega,fun y hy=>by have:=h2.2 y hy;omega⟩
theorem setKid_sub {l:List (ByteArray×Tree)} {x:ByteArray} {k:Tree} {z:ByteArray×Tree} (h:z∈setKid l x k):z=(x,k)∨z∈l:=by
 unfold setKid at h
 split at h
 ·rcases List.mem_or_eq_of_mem_set h with h|h
  ·exact .inr h
  ·exact .inl h
 ·rcases List.mem_append.1 h with h|h
  ·exact .inr (List.mem_of_mem_take h)
  ·rcases List.mem_cons.1 h with h|h
   ·exact .inl h
   ·exact .inr (List.mem_of_mem_drop h)
theorem OkT.set {X:Tree} {m:Nat} (hX:OkT m X):∀ {l:List ByteArray} {n:Nat} {t:Tree},OkT n t->(∀x∈l,x.size<=30)->OkT (n+l.length+m) (setAt X l t)
 | [],n,t,_,_=>hX.up (by simp)
 | x :: r,0,t,h,_=>h.elim
 | x :: r,n+1,t,h,hl=>by
  obtain ⟨h1,h2⟩:=h
  rw [show n+1+(x :: r).length+m=(n+1+r.length+m)+1 by simp;omega]
  refine ⟨h1,fun z hz=>?_⟩
  have hz':z∈setKid t.kids x (setAt X r ((kidOf t x).getD zeroT)):=hz
  rcases setKid_sub hz' with rfl|hz'
  ·refine ⟨hl x List.mem_cons_self,?_⟩
   have hr:∀y∈r,y.size<=30:=fun y hy=>hl y (List.mem_cons_of_mem _ hy)
   cases hk:kidOf t x with
   | none=>exact (OkT.set hX (l:=r) (n:=1) (t:=zeroT) ⟨by simp [zeroT],fun y hy=>by simp [zeroT] at hy⟩ hr).up (by omega)
   | some k=>exact (OkT.set hX (h2 _ (List.mem_of_getElem? (set_there k hk).2)).2 hr).up (by omega)
  ·exact ⟨(h2 z hz').1,(h2 z hz').2.up (by omega)⟩
end Go.Proofs.YtpjjpmikhjlgnaaGreatDoor
namespace Go.Proofs.YtpjjpmikhjlgnaaGreatDoor
open Go.RowKit

def set4 (w:World) (b o:Nat) (v0 v1 v2 v3:Value):World:=(((w.setCell ⟨b,o,none⟩ v0).setCell ⟨b,o+1,none⟩ v1).setCell ⟨b,o+2,none⟩ v2).setCell ⟨b,o+3,none⟩ v3
theorem set4_block (w:World) (b o:Nat) (v0 v1 v2 v3:Value) {k:Nat} (h:k≠b):(set4 w b o v0 v1 v2 v3).heap[k]? = w.heap[k]? := by
 unfold set4
 rw [Below.heap_setCell _ _ _ _ h,Below.heap_setCell _ _ _ _ h,Below.heap_setCell _ _ _ _ h,Below.heap_setCell _ _ _ _ h]
theorem set4_size (w:World) (b o:Nat) (v0 v1 v2 v3:Value):(set4 w b o v0 v1 v2 v3).heap.size=w.heap.size:=by simp [set4,World.setCell]
theorem cell_off {w:World} {b i j:Nat} {v:Value} (h:i≠j):(w.setCell ⟨b,i,none⟩ v).cell? ⟨b,j,none⟩=w.cell? ⟨b,j,none⟩:=World.cell?_setCell_other _ _ _ _ (fun e=>h (by injection e))
theorem cell_on {w:World} {a:Addr} {u v:Value} (h:w.cell? a=some u):(w.setCell a v).cell? a=some v:=World.cell?_setCell_same' _ _ _ (by rw [h];rfl)
theorem set4_oth (w:World) (b o:Nat) (v0 v1 v2 v3:Value) {j:Nat} (h:j<o∨o+4<=j):(set4 w b o v0 v1 v2 v3).cell? ⟨b,j,none⟩=w.cell? ⟨b,j,none⟩:=by
 unfold set4
 rw [cell_off (by omega),cell_off (by omega),cell_off (by omega),cell_off (by omega)]
theorem set4_in {w:World} {b o:Nat} {X k:Tree} {u:Value} (h:CellsAt w b o k u) (ux:Value):CellsAt (set4 w b o (.string X.kind) (.string X.data) (.bool X.exec) ux) b o X ux:=by
 unfold set4
 refine ⟨?_,?_,?_,?_⟩
 ·rw [cell_off (by omega),cell_off (by omega),cell_off (by omega)]
  exact cell_on h.kind
 ·rw [cell_off (by omega),cell_off (by omega)]
  exact cell_on (u:=.string k.data) (by rw [cell_off (by omega)];exact h.data)
 ·rw [cell_off (by omega)]
  exact cell_on (u:=.bool k.exec) (by rw [cell_off (by omega),cell_off (by omega)];exact h.exec)
 ·exact cell_on (u:=u) (by rw [cell_off (by omega),cell_off (by omega),cell_off (by omega)];exact h.kids)
theorem put_place {w w':World} {B b0 b o d dX:Nat} {Q P:Nat->Prop} {t t' X:Tree} {l:List ByteArray} {u' ux:Value} (hQ:∀q,Q q->q<B/\P q/\q≠b0) (hb0:P b0)
  (hbox:CellsAt w b0 0 t' u') (hO:OwnT w Q d t'.kids u') (had:AddrAt w l t' b0 0 b o) (hset:setAt X l t'=setAt X l t)
  (hX:Lies w' B dX X.kids ux) (hC:CellsAt w' b o X ux) (hsame:∀k,k≠b->P k->w'.heap[k]? = w.heap[k]?) (hoth:∀j,j<o∨o+4<=j->w'.cell? ⟨b,j,none⟩=w.cell? ⟨b,j,none⟩) :
  ∃uu,CellsAt w' b0 0 (setAt X l t) uu/\Lies w' B (d+dX) (setAt X l t).kids uu:=by
 rw [<-hset]
 cases l with
 | nil =>
  obtain ⟨rfl,rfl⟩:=had
  exact ⟨ux,hC,hX.up (Nat.le_refl _) (by omega)⟩
 | cons x r =>
  obtain ⟨hqb,hl⟩:=own_put hX hC hsame hoth (l:=x :: r) (by simp) (fun q hq=>⟨(hQ q hq).1,(hQ q hq).2.1⟩) hO hbox.kids had
  have hne:b0≠b:=fun e=>(hQ b hqb).2.2 e.symm
  have hc:∀j,w'.cell? ⟨b0,j,none⟩=w.cell? ⟨b0,j,none⟩:=fun j=>World.cell?_of_block (hsame b0 hne hb0)
  exact ⟨u',⟨by rw [hc];exact hbox.kind,by rw [hc];exact hbox.data,by rw [hc];exact hbox.exec,by rw [hc];exact hbox.kids⟩,hl⟩
theorem flat_len {α β:Type} {F:α->List β}:∀ {l:List α},(∀x∈l,1<=(F x).length)->l.length<=(l.flatMap F).length
 | [],_=>by simp
 | x :: l,h=>by
  have h1:=h x (by simp)
  have h2:=flat_len (F:=F) (l:=l) fun y hy=>h y (List.mem_cons_of_mem _ hy)
  simp only [List.flatMap_cons,List.length_append,List.length_cons]
  omega
theorem kids_few {d:Nat} {t:Tree} (hf:Fit d t) (h:treeErr d t=none):t.kids.length<=200:=by
 cases d with
 | zero=>exact hf.elim
 | succ d =>
  have h1:=(treeErr_none.1 h).1
  simp only [pre,List.length_cons] at h1
  have h2:=flat_len (F:=fun x:ByteArray×Tree=>pre d (ByteArray.empty++slash++x.1) (0+1) x.2) (l:=t.kids) fun x hx=>by
   have:=hf x hx
   cases d with
   | zero=>exact this.elim
   | succ d=>simp [pre]
  omega
theorem at_well:∀ {m:List ByteArray} {d:Nat} {t k:Tree},Fit d t->treeErr d t=none->atR m t=some k->∃e,e<=d/\Fit e k/\treeErr e k=none
 | [],d,t,k,hf,h,hk=>by
  simp only [atR,Option.some.injEq] at hk
  subst hk
  exact ⟨d,Nat.le_refl _,hf,h⟩
 | x :: m,0,t,k,hf,h,hk=>hf.elim
 | x :: m,d+1,t,k,hf,h,hk=>by
  simp only [atR] at hk
  cases hq:kidOf t x with
  | none=>rw [hq] at hk;cases hk
  | some q =>
   rw [hq] at hk
   have hm:=List.mem_of_getElem? (set_there q hq).2
   obtain ⟨e,h1,h2,h3⟩:=at_well (hf _ hm) (kid_well hm h) hk
   exact ⟨e,by omega,h2,h3⟩
theorem at_few {m:List ByteArray} {d:Nat} {t k:Tree} (hf:Fit d t) (h:treeErr d t=none) (hk:atR m t=some k):k.kids.length<=200:=by
 obtain ⟨e,_,h2,h3⟩:=at_well hf h hk
 exact kids_few h2 h3
theorem rises_fit:∀ {d:Nat} {t:Tree},RisesD d t->Fit d t
 | 0,_,h=>h
 | _+1,_,h=>fun x hx=>rises_fit (h.2 x hx)
theorem pre_up:∀ {d e:Nat} {p:ByteArray} {k:Nat} {t:Tree},Fit d t->d<=e->pre e p k t=pre d p k t
 | 0,_,_,_,_,h,_=>h.elim
 | _+1,0,_,_,_,_,h=>by omega
 | d+1,e+1,p,k,t,h,he=>by
  simp only [pre,List.cons.injEq,true_and]
  have hm:∀l:List (ByteArray×Tree),(∀x∈l,x∈t.kids)->(l.flatMap fun x=>pre e (p++slash++x.1) (k+1) x.2)=l.flatMap fun x=>pre d (p++slash++x.1) (k+1) x.2:=fun l=>by
   induction l with
   | nil=>intro _;rfl
   | cons x l ih =>
    intro hl
    rw [List.flatMap_cons,List.flatMap_cons,ih (fun y hy=>hl y (List.mem_cons_of_mem _ hy)),pre_up (h x (hl x List.mem_cons_self)) (by omega)]
  exact hm t.kids fun _ h=>h
theorem treeErr_up {d e:Nat} {t:Tree} (h:Fit d t) (he:d<=e):treeErr e t=treeErr d t:=by
 unfold treeErr
 rw [pre_up h he]
theorem Fit.up:∀ {d e:Nat} {t:Tree},d<=e->Fit d t->Fit e t
 | 0,_,_,_,h=>h.elim
 | _+1,0,_,h,_=>by omega
 | _+1,_+1,_,he,h=>fun x hx=>Fit.up (by omega) (h x hx)
def Fresh (w w':World) (d:Nat) (l:List (ByteArray×Tree)) (v:Value):Prop:=∀w9:World,(∀k,w.heap.size<=k->k<w'.heap.size->w9.heap[k]? = w'.heap[k]?)->w'.heap.size<=w9.heap.size->Lies w9 w'.heap.size d l v
theorem Fresh.lies {w w':World} {d:Nat} {l:List (ByteArray×Tree)} {v:Value} (h:Fresh w w' d l v):Lies w' w'.heap.size d l v:=h w' (fun _ _ _=>rfl) (Nat.le_refl _)
theorem LiesQ.fresh {w w':World} {d:Nat} {l:List (ByteArray×Tree)} {v:Value} {Q:Nat->Prop} (h:LiesQ w' Q d l v) (hQ:∀q,Q q->w.heap.size<=q/\q<w'.heap.size):Fresh w w' d l v:=fun _ h9 _=>(h.kept (fun k hk=>h9 k (hQ k hk).1 (hQ k hk).2) (fun _ hk=>hk)).lies fun k hk=>(hQ k hk).2
def putR (d e:Nat) (t:Tree) (s:ByteArray) (X:Tree):Except Nat Tree:=match treeErr d t with
 | some er=>.error er
 | none=>match splitR s with
  | none=>.error 4
  | some l=>if roomB l t=true then (match treeErr e (setAt X l t) with
   | some er=>.error er
   | none=>.ok (setAt X l t)) else .error 5
theorem putR_tree {d e er:Nat} {t X:Tree} {s:ByteArray} (h:treeErr d t=some er):putR d e t s X = .error er:=by unfold putR;rw [h]
theorem putR_split {d e:Nat} {t X:Tree} {s:ByteArray} (h:treeErr d t=none) (h2:splitR s=none):putR d e t s X = .error 4:=by unfold putR;rw [h];simp only [h2]
theorem putR_none {d e:Nat} {t X:Tree} {s:ByteArray} {l:List ByteArray} (h:treeErr d t=none) (h2:splitR s=some l) (h3:roomB l t=false):putR d e t s X = .error 5:=by
 unfold putR;rw [h];simp only [h2,h3];rfl
theorem putR_bad {d e er:Nat} {t X:Tree} {s:ByteArray} {l:List ByteArray} (h:treeErr d t=none) (h2:splitR s=some l) (h3:roomB l t=true) (h4:treeErr e (setAt X l t)=some er):putR d e t s X = .error er:=by
 unfold putR;rw [h];simp only [h2,h3,if_true,h4]
theorem putR_ok {d e:Nat} {t X:Tree} {s:ByteArray} {l:List ByteArray} (h:treeErr d t=none) (h2:splitR s=some l) (h3:roomB l t=true) (h4:treeErr e (setAt X l t)=none):putR d e t s X = .ok (setAt X l t):=by
 unfold putR;rw [h];simp only [h2,h3,if_true,h4]
end Go.Proofs.YtpjjpmikhjlgnaaGreatDoor
namespace Go.Proofs.YtpjjpmikhjlgnaaGreatDoor
open Go.RowKit

theorem rises_sub {l m : List (ByteArray × Tree)} (hr : Rises l) (hs : m.Sublist l) : Rises m := by
  have e : ∀ l : List (ByteArray × Tree), Rises l ↔ l.Pairwise fun x y => Op.bytesLess x.1.toList y.1.toList = true := fun l => by
    rw [List.pairwise_iff_getElem]
    constructor
    · intro h i j hi hj hij
      exact h i j _ _ hij (List.getElem?_eq_getElem hi) (List.getElem?_eq_getElem hj)
    · intro h i j x y hij hx hy
      obtain ⟨hi, rfl⟩ := List.getElem?_eq_some_iff.1 hx
      obtain ⟨hj, rfl⟩ := List.getElem?_eq_some_iff.1 hy
      exact h i j hi hj hij
  rw [e] at hr ⊢
  exact hr.sublist hs
theorem set_names {l : List (ByteArray × Tree)} {x : ByteArray} {k : Tree} (ht : thereAt l x = true) (i : Nat) : ((setKid l x k)[i]?).map (·.1) = (l[i]?).map (·.1) := by
  unfold setKid
  rw [if_pos ht]
  obtain ⟨y, hy, e⟩ := there_some ht
  by_cases h : placeOf l x = i
  · subst h
    rw [List.getElem?_set_self (List.getElem?_eq_some_iff.1 hy).1, hy]
    simp [e]
  · rw [List.getElem?_set_ne h]
theorem rises_set {l : List (ByteArray × Tree)} {x : ByteArray} {k : Tree} (hr : Rises l) (ht : thereAt l x = true) : Rises (setKid l x k) := fun i j y z hij hy hz => by
  have h1 := set_names (k := k) ht i
  have h2 := set_names (k := k) ht j
  rw [hy] at h1
  rw [hz] at h2
  cases hyl : l[i]? with
  | none => rw [hyl] at h1; cases h1
  | some y' =>
    cases hzl : l[j]? with
    | none => rw [hzl] at h2; cases h2
    | some z' =>
      rw [hyl] at h1
      rw [hzl] at h2
      simp only [Option.map_some, Option.some.injEq] at h1 h2
      rw [h1, h2]
      exact hr i j y' z' hij hyl hzl
theorem risesTo_of {l : List (ByteArray × Tree)} (hr : Rises l) : risesTo l l.length = true := by
  unfold risesTo
  rw [List.all_eq_true]
  intro j hj
  have hj' := List.mem_range.1 hj
  cases j with
  | zero => rfl
  | succ j =>
    have h1 : l[j]? = some l[j] := List.getElem?_eq_getElem (by omega)
    have h2 : l[j + 1]? = some l[j + 1] := List.getElem?_eq_getElem hj'
    have h3 := hr j (j + 1) _ _ (by omega) h1 h2
    simp only [Nat.add_sub_cancel, h1, h2, Option.map_some, Option.getD_some, h3, Bool.or_true]
/-- Of a dir, other kids. -/
theorem node_kids {t : Tree} {K : List (ByteArray × Tree)} (h : nodeErr t = none) (hne : t.kids ≠ []) (hn : ∀ x ∈ K, nameB x.1 = true) (hr : Rises K) : nodeErr { t with kids := K } = none := by
  have hp : 0 < t.kids.length := by
    cases hk : t.kids with
    | nil => exact absurd hk hne
    | cons a b => simp
  unfold nodeErr at h
  cases hf : isFile t with
  | true =>
    rw [if_pos hf] at h
    unfold fileErr at h
    rw [if_pos hp] at h
    cases h
  | false =>
    rw [if_neg (by rw [hf]; decide)] at h
    cases hd : isDir t with
    | false =>
      rw [if_neg (by rw [hd]; decide)] at h
      split at h
      · unfold linkErr at h
        rw [if_pos (.inr hp)] at h
        cases h
      · cases h
    | true =>
      rw [if_pos hd] at h
      have e1 : isFile { t with kids := K } = false := hf
      have e2 : isDir { t with kids := K } = true := hd
      unfold nodeErr
      rw [if_neg (by rw [e1]; decide), if_pos e2]
      unfold dirErr at h ⊢
      simp only
      split at h
      · cases h
      · rename_i h1
        rw [if_neg h1, if_pos (List.all_eq_true.2 hn), if_pos (risesTo_of hr)]
/-- A tree with a node dropped at names. -/
def dropAt : List ByteArray → Tree → Tree
  | [], t => t
  | [x], t => { t with kids := t.kids.eraseIdx (placeOf t.kids x) }
  | x :: y :: r, t => { t with kids := setKid t.kids x (dropAt (y :: r) ((kidOf t x).getD zeroT)) }
theorem names_well {t : Tree} (h : nodeErr t = none) (hne : t.kids ≠ []) : ∀ x ∈ t.kids, nameB x.1 = true := by
  have hp : 0 < t.kids.length := by
    cases hk : t.kids with
    | nil => exact absurd hk hne
    | cons a b => simp
  unfold nodeErr at h
  split at h
  · unfold fileErr at h
    rw [if_pos hp] at h
    cases h
  · split at h
    · unfold dirErr at h
      split at h
      · cases h
      · split at h
        · rename_i h2
          exact fun x hx => List.all_eq_true.1 h2 x hx
        · cases h
    · split at h
      · unfold linkErr at h
        rw [if_pos (.inr hp)] at h
        cases h
      · cases h
theorem sum_set {α : Type} (f : α → Nat) : ∀ {l : List α} {i : Nat} {x y : α}, l[i]? = some x → f y ≤ f x → ((l.set i y).map f).sum ≤ (l.map f).sum
  | [], i, x, y, h, _ => by simp at h
  | a :: l, 0, x, y, h, hf => by
    simp only [List.getElem?_cons_zero, Option.some.injEq] at h
    subst h
    simp only [List.set_cons_zero, List.map_cons, List.sum_cons]
    omega
  | a :: l, i + 1, x, y, h, hf => by
    have := sum_set f (l := l) (i := i) (x := x) (y := y) (by simpa using h) hf
    simp only [List.set_cons_succ, List.map_cons, List.sum_cons]
    omega
theorem sum_erase {α : Type} (f : α → Nat) : ∀ (l : List α) (i : Nat), ((l.eraseIdx i).map f).sum ≤ (l.map f).sum
  | [], i => by simp
  | a :: l, 0 => by simp
  | a :: l, i + 1 => by
    have := sum_erase f l i
    simp only [List.eraseIdx_cons_succ, List.map_cons, List.sum_cons]
    omega
/-- It is well, and no larger. -/
theorem drop_well : ∀ {l : List ByteArray} {d : Nat} {p : ByteArray} {n : Nat} {t k : Tree}, RisesD d t → atR l t = some k → (∀ x ∈ pre d p n t, x.2.1 ≤ 8 ∧ nodeErr x.2.2 = none) →
    (∀ x ∈ pre d p n (dropAt l t), x.2.1 ≤ 8 ∧ nodeErr x.2.2 = none) ∧ (pre d p n (dropAt l t)).length ≤ (pre d p n t).length ∧ RisesD d (dropAt l t)
  | _, 0, _, _, _, _, h, _, _ => h.elim
  | [], d + 1, p, n, t, k, h, _, hw => ⟨hw, Nat.le_refl _, h⟩
  | [x], d + 1, p, n, t, k, h, hk, hw => by
    have hk' : kidOf t x = some k := by
      simp only [atR] at hk
      cases hq : kidOf t x with
      | none => rw [hq] at hk; cases hk
      | some q => rw [hq] at hk; exact hk
    have hm := (kid_mem h.1).1 hk'
    have hne : t.kids ≠ [] := fun e => by rw [e] at hm; simp at hm
    have hsub : ∀ y ∈ t.kids.eraseIdx (placeOf t.kids x), y ∈ t.kids := fun y hy => List.mem_of_mem_eraseIdx hy
    simp only [pre, List.mem_cons, List.mem_flatMap, dropAt] at hw ⊢
    have ht := hw _ (.inl rfl)
    have hr := rises_sub h.1 (List.eraseIdx_sublist t.kids (placeOf t.kids x))
    refine ⟨?_, ?_, hr, fun y hy => h.2 y (hsub y hy)⟩
    · rintro y (rfl | ⟨z, hz, hy⟩)
      · exact ⟨ht.1, node_kids ht.2 hne (fun y hy => names_well ht.2 hne y (hsub y hy)) hr⟩
      · exact hw y (.inr ⟨z, hsub z hz, hy⟩)
    · simp only [List.length_cons, List.length_flatMap]
      have := sum_erase (fun y : ByteArray × Tree => (pre d (p ++ slash ++ y.1) (n + 1) y.2).length) t.kids (placeOf t.kids x)
      omega
  | x :: y :: r, d + 1, p, n, t, k, h, hk, hw => by
    cases hq : kidOf t x with
    | none => simp only [atR, hq] at hk; cases hk
    | some q =>
      have hk2 : atR (y :: r) q = some k := by
        rw [atR, hq] at hk
        exact hk
      have hm := (kid_mem h.1).1 hq
      have hne : t.kids ≠ [] := fun e => by rw [e] at hm; simp at hm
      have hth : thereAt t.kids x = true := (there_mem h.1).2 ⟨_, hm, rfl⟩
      have ih := drop_well (l := y :: r) (p := p ++ slash ++ x) (n := n + 1) (h.2 _ hm) hk2 fun z hz => hw z (by simp only [pre]; exact List.mem_cons_of_mem _ (List.mem_flatMap.2 ⟨_, hm, hz⟩))
      have hmem := fun z => setKid_mem (x := x) (k := dropAt (y :: r) q) h.1 z
      have hr := rises_set (k := dropAt (y :: r) q) h.1 hth
      simp only [pre, List.mem_cons, List.mem_flatMap, dropAt, hq, Option.getD_some] at hw ⊢
      have ht := hw _ (.inl rfl)
      refine ⟨?_, ?_, hr, fun z hz => ?_⟩
      · rintro z (rfl | ⟨v, hv, hz⟩)
        · refine ⟨ht.1, node_kids ht.2 hne (fun v hv => ?_) hr⟩
          rcases (hmem v).1 hv with rfl | ⟨_, hv⟩
          · exact names_well ht.2 hne (x, q) hm
          · exact names_well ht.2 hne v hv
        · rcases (hmem v).1 hv with rfl | ⟨_, hv⟩
          · exact ih.1 z hz
          · exact hw z (.inr ⟨v, hv, hz⟩)
      · obtain ⟨y', hy', e⟩ := there_some hth
        have hy2 : y' = (x, q) := by
          have hmm := List.mem_of_getElem? hy'
          have e2 : kidOf t x = some y'.2 := (kid_mem h.1).2 (by rw [← e]; exact hmm)
          rw [hq] at e2
          obtain ⟨u1, u2⟩ := y'
          simp only at e e2
          injection e2 with e2
          rw [e, e2]
        subst hy2
        have hs := sum_set (fun v : ByteArray × Tree => (pre d (p ++ slash ++ v.1) (n + 1) v.2).length) (y := (x, dropAt (y :: r) q)) hy' ih.2.1
        unfold setKid
        rw [if_pos hth]
        simp only [List.length_cons, List.length_flatMap]
        omega
      · rcases (hmem z).1 hz with rfl | ⟨_, hz⟩
        · exact ih.2.2
        · exact h.2 z hz
theorem drop_tree {l : List ByteArray} {d : Nat} {t k : Tree} (hf : Fit d t) (h : treeErr d t = none) (hk : atR l t = some k) : treeErr d (dropAt l t) = none ∧ RisesD d (dropAt l t) := by
  have hn := treeErr_none.1 h
  have := drop_well (p := ByteArray.empty) (n := 0) (rises_well hf h) hk hn.2
  exact ⟨treeErr_none.2 ⟨Nat.le_trans this.2.1 hn.1, this.1⟩, this.2.2⟩
/-- It is gone. -/
theorem at_drop : ∀ {l : List ByteArray} {d : Nat} {t k : Tree}, l ≠ [] → RisesD d t → atR l t = some k → atR l (dropAt l t) = none
  | [], _, _, _, h, _, _ => absurd rfl h
  | [x], d, t, k, _, h, hk => by
    simp only [atR, dropAt]
    have hr := rises_sub (rises_top h) (List.eraseIdx_sublist t.kids (placeOf t.kids x))
    cases hq : kidOf { t with kids := t.kids.eraseIdx (placeOf t.kids x) } x with
    | none => rfl
    | some q =>
      have hm := (kid_mem (t := { t with kids := t.kids.eraseIdx (placeOf t.kids x) }) hr).1 hq
      obtain ⟨i, hi⟩ := List.mem_iff_getElem?.1 hm
      rw [List.getElem?_eraseIdx] at hi
      split at hi
      · rename_i h1
        have := place_at (rises_top h) hi
        simp only at this
        omega
      · rename_i h1
        have := place_at (rises_top h) hi
        simp only at this
        omega
  | x :: y :: r, d, t, k, _, h, hk => by
    cases hq : kidOf t x with
    | none => simp only [atR, hq] at hk; cases hk
    | some q =>
      have hk2 : atR (y :: r) q = some k := by
        rw [atR, hq] at hk
        exact hk
      have hm := (kid_mem (rises_top h)).1 hq
      have hth : thereAt t.kids x = true := (there_mem (rises_top h)).2 ⟨_, hm, rfl⟩
      obtain ⟨e, he⟩ := rises_kid h hq
      have hs := kid_set (z := x) (x := x) (k := dropAt (y :: r) q) (rises_top h) (rises_set (rises_top h) hth)
      rw [if_pos rfl] at hs
      have ih := at_drop (l := y :: r) (by simp) he hk2
      simp only [dropAt, hq, Option.getD_some]
      rw [atR, hs]
      exact ih
end Go.Proofs.YtpjjpmikhjlgnaaGreatDoor
namespace Go.Proofs.YtpjjpmikhjlgnaaGreatDoor
open Go.RowKit

/-- A kid taken out, told by its dir. -/
theorem set_drop {x : ByteArray} : ∀ {m : List ByteArray} {t k : Tree}, atR m t = some k → setAt { k with kids := k.kids.eraseIdx (placeOf k.kids x) } m t = dropAt (m ++ [x]) t
  | [], t, k, h => by
    simp only [atR, Option.some.injEq] at h
    subst h
    rfl
  | z :: r, t, k, h => by
    simp only [atR] at h
    cases hq : kidOf t z with
    | none => rw [hq] at h; cases h
    | some q =>
      rw [hq] at h
      simp only at h
      have ih := set_drop (x := x) h
      have e : dropAt (z :: (r ++ [x])) t = { t with kids := setKid t.kids z (dropAt (r ++ [x]) ((kidOf t z).getD zeroT)) } := by
        cases r with
        | nil => rfl
        | cons y r => rfl
      show setAt _ (z :: r) t = dropAt (z :: (r ++ [x])) t
      rw [e]
      simp only [setAt, hq, Option.getD_some, ih]
/-- A kid taken out. -/
theorem drop_new {w w1 : World} {Q : Nat → Prop} {d b0 b o g c p : Nat} {t k : Tree} {m : List ByteArray} {u : Value} {xs : List Value}
    (hQ : ∀ q, Q q → q < w.heap.size ∧ q ≠ b0) (hbox : w.heap[b0]? = some (.cells #[.string t.kind, .string t.data, .bool t.exec, u] 24 (0, 0)))
    (hO : OwnT w Q d t.kids u) (hat : atR m t = some k) (had : AddrAt w m t b0 0 b o) (hud : w.cell? ⟨b, o + 3, none⟩ = some (.slice (some ⟨g, 0, none⟩) k.kids.length c)) (hp : p < k.kids.length) (hxs : w.ownsRow 0 65 5 (.slice (some ⟨g, 0, none⟩) k.kids.length c) k.kids.length xs)
    (hdel : w1.ownsRow 0 65 5 (.slice (some ⟨g, 0, none⟩) (k.kids.length - 1) c) (k.kids.length - 1) (xs.take (p * 5) ++ xs.drop ((p + 1) * 5))) (hg : w.grownBy w1 (some g)) :
    ∃ u', (w1.setCell ⟨b, o + 3, none⟩ (.slice (some ⟨g, 0, none⟩) (k.kids.length - 1) c)).heap[b0]? = some (.cells #[.string t.kind, .string t.data, .bool t.exec, u'] 24 (0, 0)) ∧
      OwnT (w1.setCell ⟨b, o + 3, none⟩ (.slice (some ⟨g, 0, none⟩) (k.kids.length - 1) c)) (fun q => Q q ∨ (w.heap.size ≤ q ∧ q < w1.heap.size)) (d + 1) (setAt { k with kids := k.kids.eraseIdx p } m t).kids u' ∧
      Kept (fun q => q = b0 ∨ Q q) w (w1.setCell ⟨b, o + 3, none⟩ (.slice (some ⟨g, 0, none⟩) (k.kids.length - 1) c)) := by
  obtain ⟨⟨y0, y1, y2, y3⟩, _⟩ := row4b hbox
  have hb0 : b0 < w.heap.size := lt_of_cell y0
  obtain ⟨Qk, dk, ud', hC, hOk, _, hQk, hmb, _⟩ := own_at hO (o0 := 0) ⟨y0, y1, y2, y3⟩ (fun i => free_of_row hbox i) (fun q hq => (hQ q hq).2) hat had
  obtain rfl : ud' = .slice (some ⟨g, 0, none⟩) k.kids.length c := Option.some.inj (hC.kids.symm.trans hud)
  have hown : ∀ q, (Value.slice (some ⟨g, 0, none⟩) k.kids.length c).ownBlock = some q → Qk q := own_block hOk
  have hQg : Qk g := hown g rfl
  have hbl : b < w.heap.size := lt_of_cell hud
  have hbo : g ≠ b := fun e => (hQk b (e ▸ hQg)).2 rfl
  have hb0o : g ≠ b0 := fun e => (hQ b0 (hQk b0 (e ▸ hQg)).1).2 rfl
  have hw1b : w1.heap[b]? = w.heap[b]? := hg.block b hbl fun e => hbo (Option.some.inj e).symm
  generalize hW2 : w1.setCell ⟨b, o + 3, none⟩ (.slice (some ⟨g, 0, none⟩) (k.kids.length - 1) c) = w2
  have hz2 : w2.heap.size = w1.heap.size := by rw [← hW2]; simp [World.setCell]
  have hoth : ∀ q, q ≠ b → w2.heap[q]? = w1.heap[q]? := fun q hq => by rw [← hW2]; exact Below.heap_setCell _ _ _ _ hq
  have hsame : ∀ q, q ≠ b → (Value.slice (some ⟨g, 0, none⟩) k.kids.length c).ownBlock ≠ some q → q < w.heap.size → w2.heap[q]? = w.heap[q]? := fun q h1 h2 h3 => by
    rw [hoth q h1]
    exact hg.block q h3 fun e => h2 e.symm
  have hK : ∀ Qk dk, OwnT w Qk dk k.kids (.slice (some ⟨g, 0, none⟩) k.kids.length c) → (∀ q, Qk q → q < w.heap.size ∧ q ≠ b) → OwnT w2 (fun q => Qk q ∨ (w.heap.size ≤ q ∧ q < w2.heap.size)) (dk + 1) (k.kids.eraseIdx p) (.slice (some ⟨g, 0, none⟩) (k.kids.length - 1) c) := fun Qk dk h hq => by
    refine (own_delete h (fun q h1 => (hq q h1).1) hp hxs hdel hg).kept (fun q h1 => hoth q ?_) (fun q h1 => by rw [hz2]; exact h1)
    rcases h1 with h1 | h1
    · exact (hq q h1).2
    · omega
  have hkept : Kept (fun q => q = b0 ∨ Q q) w w2 := by
    refine ⟨?_, ?_, ?_, by rw [hz2]; exact hg.size, fun q hq hc => ?_⟩
    · rw [← hW2]; exact hg.os
    · rw [← hW2]; exact hg.tape
    · rw [← hW2]; exact hg.output
    · refine hsame q (fun e => ?_) (fun e => hc (.inr (hQk q (hown q e)).1)) hq
      rcases hmb with rfl | hb
      · exact hc (.inl (by rw [e]; exact had.1))
      · exact hc (.inr (by rw [e]; exact hb))
  cases m with
  | nil =>
    simp only [atR, Option.some.injEq] at hat
    subst hat
    obtain ⟨rfl, rfl⟩ := had
    have hu : u = .slice (some ⟨g, 0, none⟩) t.kids.length c := by
      rw [Nat.zero_add, y3] at hud
      exact Option.some.inj hud
    subst hu
    refine ⟨.slice (some ⟨g, 0, none⟩) (t.kids.length - 1) c, ?_, ?_, hkept⟩
    · rw [← hW2, setCell_block hw1b]
      simp [World.setCell, Array.getElem?_modify, hbox]
    · have := hK Q d hO fun q hq => ⟨(hQ q hq).1, (hQ q hq).2⟩
      rw [hz2] at this
      exact this
  | cons z r =>
    have hQb : Q b := by
      rcases hmb with h | h
      · cases h
      · exact h
    have hne : b0 ≠ b := fun e => (hQ b hQb).2 e.symm
    have hb2 : w2.heap[b0]? = w.heap[b0]? := hsame b0 hne (fun e => hb0o (Option.some.inj e)) hb0
    have hblk : w2.heap[b]? = (w.setCell ⟨b, o + 3, none⟩ (.slice (some ⟨g, 0, none⟩) (k.kids.length - 1) c)).heap[b]? := by
      rw [← hW2]; exact setCell_block hw1b
    obtain ⟨_, _, hnew⟩ := own_kids (k := k) (K := k.kids.eraseIdx p) hud hblk hsame hK (l := z :: r) (by simp) (fun q hq => (hQ q hq).1) hO (by rw [Nat.zero_add]; exact y3) hat had
    refine ⟨u, by rw [hb2]; exact hbox, ?_, hkept⟩
    rw [hz2] at hnew
    exact hnew
/-- What Drop tells. -/
def dropR (d : Nat) (t : Tree) (s : ByteArray) : Except Nat Tree := match treeErr d t with
  | some er => .error er
  | none => match splitR s with
    | none => .error 4
    | some l => if l.isEmpty = true then .error 2 else (match atR l t with
      | none => .error 5
      | some _ => .ok (dropAt l t))
theorem dropR_tree {d er : Nat} {t : Tree} {s : ByteArray} (h : treeErr d t = some er) : dropR d t s = .error er := by unfold dropR; rw [h]
theorem dropR_split {d : Nat} {t : Tree} {s : ByteArray} (h : treeErr d t = none) (h2 : splitR s = none) : dropR d t s = .error 4 := by unfold dropR; rw [h]; simp only [h2]
theorem dropR_top {d : Nat} {t : Tree} {s : ByteArray} (h : treeErr d t = none) (h2 : splitR s = some []) : dropR d t s = .error 2 := by unfold dropR; rw [h]; simp only [h2]; rfl
theorem dropR_none {d : Nat} {t : Tree} {s : ByteArray} {m : List ByteArray} {x : ByteArray} (h : treeErr d t = none) (h2 : splitR s = some (m ++ [x])) (h3 : atR (m ++ [x]) t = none) : dropR d t s = .error 5 := by
  unfold dropR; rw [h]; simp only [h2, h3]; rw [if_neg (by simp)]
theorem dropR_ok {d : Nat} {t k : Tree} {s : ByteArray} {m : List ByteArray} {x : ByteArray} (h : treeErr d t = none) (h2 : splitR s = some (m ++ [x])) (h3 : atR (m ++ [x]) t = some k) : dropR d t s = .ok (dropAt (m ++ [x]) t) := by
  unfold dropR; rw [h]; simp only [h2, h3]; rw [if_neg (by simp)]
end Go.Proofs.YtpjjpmikhjlgnaaGreatDoor
namespace Go.Proofs.YtpjjpmikhjlgnaaGreatDoor
open Go.RowKit

theorem treeErr_lt {d e:Nat} {t:Tree} (h:treeErr d t=some e):e<13:=errOf_lt _ 0 h
theorem getR_lt {d er:Nat} {t:Tree} {s:ByteArray} (h:getR d t s = .error er):er<13:=by
 unfold getR at h
 cases ht:treeErr d t with
 | some e=>rw [ht] at h;injection h with h;rw [<-h];exact treeErr_lt ht
 | none =>
  rw [ht] at h
  simp only at h
  split at h
  ·injection h with h;omega
  ·split at h
   ·injection h with h;omega
   ·cases h
theorem putR_lt {d e er:Nat} {t X:Tree} {s:ByteArray} (h:putR d e t s X = .error er):er<13:=by
 unfold putR at h
 cases ht:treeErr d t with
 | some e=>rw [ht] at h;injection h with h;rw [<-h];exact treeErr_lt ht
 | none =>
  rw [ht] at h
  simp only at h
  split at h
  ·injection h with h;omega
  ·split at h
   ·rename_i l _ _
    cases h9:treeErr e (setAt X l t) with
    | some e9=>rw [h9] at h;injection h with h;rw [<-h];exact treeErr_lt h9
    | none=>rw [h9] at h;cases h
   ·injection h with h;omega
theorem dropR_lt {d er:Nat} {t:Tree} {s:ByteArray} (h:dropR d t s = .error er):er<13:=by
 unfold dropR at h
 cases ht:treeErr d t with
 | some e=>rw [ht] at h;injection h with h;rw [<-h];exact treeErr_lt ht
 | none =>
  rw [ht] at h
  simp only at h
  split at h
  ·injection h with h;omega
  ·split at h
   ·injection h with h;omega
   ·split at h
    ·injection h with h;omega
    ·cases h
end Go.Proofs.YtpjjpmikhjlgnaaGreatDoor
