/-
  Small trees, Put and Drop of package path.
  Conditions: those that each states.
-/
import Derived.Test.YtpjjpmikhjlgnaaGreatDoorSums
import Derived.Test.YtpjjpmikhjlgnaaGreatDoorOwnPut
import Derived.Test.YtpjjpmikhjlgnaaGreatDoorRoom
import Derived.Test.YtpjjpmikhjlgnaaGreatDoorPathT
import Derived.Test.YtpjjpmikhjlgnaaGreatDoorOCopy
import Derived.Test.YtpjjpmikhjlgnaaGreatDoorInsK
import Derived.Test.YtpjjpmikhjlgnaaGreatDoorDropM
namespace Go.Proofs.YtpjjpmikhjlgnaaGreatDoor
open Go.RowKit

theorem pre_path:∀(d:Nat) (p:ByteArray) (k:Nat) (t:Tree),(∀x∈pre d p k t,∀y∈x.2.2.kids,y.1.size<=30)->∀x∈pre d p k t,k<=x.2.1/\x.1.size+31*k<=p.size+31*x.2.1
 | 0,_,_,_,_,x,hx=>by simp [pre] at hx
 | d+1,p,k,t,h,x,hx=>by
  simp only [pre] at hx h
  rcases List.mem_cons.1 hx with rfl|hx
  ·exact ⟨Nat.le_refl _,Nat.le_refl _⟩
  ·obtain ⟨y,hy,hx⟩:=List.mem_flatMap.1 hx
   have hn:=h (p,k,t) List.mem_cons_self y hy
   have ih:=pre_path d (p++slash++y.1) (k+1) y.2 (fun z hz=>h z (List.mem_cons_of_mem _ (List.mem_flatMap.2 ⟨y,hy,hz⟩))) x hx
   simp only [ByteArray.size_append] at ih
   have e:slash.size=1:=rfl
   exact ⟨by omega,by omega⟩
theorem small_ok {most d:Nat} {t:Tree} (hd:Fit d t) (h:largeB most t=false):OkItems (pre d ByteArray.empty 0 t)/\(pre d ByteArray.empty 0 t).length<=most:=by
 have e:=pre_eq hd h
 unfold largeB at h
 simp only [Bool.or_eq_false_iff,decide_eq_false_iff_not] at h
 have hit:∀x∈pre d ByteArray.empty 0 t,¬(11<x.2.1∨(100<x.2.2.data.size/\x.2.2.data.size≠2001)∨20<x.2.2.kind.size)/\∀y∈x.2.2.kids,y.1.size<=30:=fun x hx=>by
  rw [e] at hx
  have h1:=List.any_eq_false.1 h.2 x hx
  unfold itemLarge at h1
  simp only [Bool.or_eq_true,decide_eq_true_eq,not_or] at h1
  refine ⟨by omega,fun y hy=>?_⟩
  have h2:x.2.2.kids.any longName=false:=by simpa using h1.2
  have h3:=List.any_eq_false.1 h2 y hy
  unfold longName at h3
  simp only [decide_eq_true_eq] at h3
  omega
 refine ⟨fun x hx=>?_,by rw [e];omega⟩
 have h1:=(hit x hx).1
 have h2:=(pre_path d ByteArray.empty 0 t (fun z hz=>(hit z hz).2) x hx).2
 have e0:ByteArray.empty.size=0:=rfl
 exact ⟨by unfold maxLen;omega,by omega,by omega⟩
theorem largeN_bounds (n:Nat) (t:Tree):0<=largeN n t/\largeN n t<=1:=by
 unfold largeN
 split <;> omega
theorem largeN_zero {n:Nat} {t:Tree} (h:largeN n t=0):largeB n t=false:=by
 cases hl:largeB n t
 ·rfl
 ·rw [largeN_yes hl] at h;omega
theorem keeps {W w':World} (h:Below W.heap.size W w') {b:Nat} (hb:b<W.heap.size) (i:Nat):w'.cell? ⟨b,i,none⟩=W.cell? ⟨b,i,none⟩:=h.cell (p:=⟨b,i,none⟩) hb
theorem box_cells (w:World) (k d:ByteArray) (x:Bool) (ad:Option Addr) (n c:Nat):(w.alloc (.cells #[.string k,.string d,.bool x,.slice ad n c] 24)).cell? ⟨w.heap.size,0,none⟩=some (.string k)/\(w.alloc (.cells #[.string k,.string d,.bool x,.slice ad n c] 24)).cell? ⟨w.heap.size,1,none⟩=some (.string d)/\(w.alloc (.cells #[.string k,.string d,.bool x,.slice ad n c] 24)).cell? ⟨w.heap.size,2,none⟩=some (.bool x)/\(w.alloc (.cells #[.string k,.string d,.bool x,.slice ad n c] 24)).cell? ⟨w.heap.size,3,none⟩=some (.slice ad n c):=by
 have h:∀i,(w.alloc (.cells #[.string k,.string d,.bool x,.slice ad n c] 24)).cell? ⟨w.heap.size,i,none⟩ = #[Value.string k,.string d,.bool x,.slice ad n c][i]? := fun i=>World.cell?_alloc_at _ _ _ _ rfl
 exact ⟨h 0,h 1,h 2,h 3⟩
theorem box_keeps {W w':World} (h:Below W.heap.size W w') {b:Nat} (hb:b<W.heap.size) {k d:ByteArray} {x:Bool} {v:Value}
  (hc:W.cell? ⟨b,0,none⟩=some (.string k)/\W.cell? ⟨b,1,none⟩=some (.string d)/\W.cell? ⟨b,2,none⟩=some (.bool x)/\W.cell? ⟨b,3,none⟩=some v) :
  w'.cell? ⟨b,0,none⟩=some (.string k)/\w'.cell? ⟨b,1,none⟩=some (.string d)/\w'.cell? ⟨b,2,none⟩=some (.bool x)/\w'.cell? ⟨b,3,none⟩=some v:=by
 simp only [keeps h hb]
 exact hc
def aFile:Tree:={ kind:={ data:=#[102,105,108,101] },data:={ data:=#[120,121] },exec:=false,kids:=[] }
def aDir:Tree:={ kind:={ data:=#[100,105,114] },data:={ data:=#[] },exec:=false,kids:=[({ data:=#[97] },aFile)] }
theorem aDir_err:treeErr 2 aDir=none:=by kernel_rfl
theorem aDir_ok:OkItems (pre 2 ByteArray.empty 0 aDir):=fun x hx=>by
 have e:pre 2 ByteArray.empty 0 aDir = [(ByteArray.empty,0,aDir),(ByteArray.empty++slash ++ { data:=#[97] },1,aFile)]:=rfl
 rw [e] at hx
 simp only [List.mem_cons,List.not_mem_nil,or_false] at hx
 rcases hx with rfl|rfl
 ·exact ⟨by decide,by decide,by decide⟩
 ·exact ⟨by decide,by decide,by decide⟩
end Go.Proofs.YtpjjpmikhjlgnaaGreatDoor
namespace Go.Proofs.YtpjjpmikhjlgnaaGreatDoor
open Go.RowKit

def OkT:Nat->Tree->Prop
 | 0,_=>False
 | n+1,t=>t.data.size<=2001/\∀x∈t.kids,x.1.size<=30/\OkT n x.2
theorem OkT.up:∀ {n m:Nat} {t:Tree},n<=m->OkT n t->OkT m t
 | 0,_,_,_,h=>h.elim
 | _+1,0,_,h,_=>by omega
 | _+1,_+1,_,hm,⟨h1,h2⟩=>⟨h1,fun x hx=>⟨(h2 x hx).1,OkT.up (by omega) (h2 x hx).2⟩⟩
theorem OkT.items:∀ {d n:Nat} {p:ByteArray} {k:Nat} {t:Tree},OkT n t->∀x∈pre d p k t,x.1.size<=p.size+31*n/\x.2.1<=k+n/\x.2.2.data.size<=2001
 | 0,_,_,_,_,_,x,hx=>by simp [pre] at hx
 | _+1,0,_,_,_,h,_,_=>h.elim
 | d+1,n+1,p,k,t,⟨h1,h2⟩,x,hx=>by
  simp only [pre] at hx
  rcases List.mem_cons.1 hx with rfl|hx
  ·exact ⟨by simp only;omega,by simp only;omega,h1⟩
  ·obtain ⟨y,hy,hx⟩:=List.mem_flatMap.1 hx
   have hn:=h2 y hy
   have ih:=OkT.items (d:=d) (p:=p++slash++y.1) (k:=k+1) hn.2 x hx
   simp only [ByteArray.size_append] at ih
   have e:slash.size=1:=rfl
   exact ⟨by omega,by omega,ih.2.2⟩
theorem OkT.ok {n d:Nat} {t:Tree} (h:OkT n t) (hn:n<=1000):OkItems (pre d ByteArray.empty 0 t):=fun x hx=>by
 have h1:=h.items x hx
 have e0:ByteArray.empty.size=0:=rfl
 exact ⟨by unfold maxLen;omega,by omega,h1.2.2⟩
theorem OkT.alive {n d:Nat} {t:Tree} (h:OkT n t) (hn:n<=1000):Alive ck ckOk 0 (pre d ByteArray.empty 0 t):=alive_ck _ 0 (by omega) (h.ok hn)
theorem OkT.of:∀ {d m k n:Nat} {p:ByteArray} {t:Tree},Fit d t->k+n=m+1->(∀x∈pre d p k t,x.2.1<=m/\x.2.2.data.size<=2001/\∀y∈x.2.2.kids,y.1.size<=30)->OkT n t
 | 0,_,_,_,_,_,h,_,_=>h.elim
 | d+1,m,k,n,p,t,hf,hk,h=>by
  simp only [pre] at h
  have h0:=h (p,k,t) List.mem_cons_self
  cases n with
  | zero=>simp only at h0;omega
  | succ n =>
   refine ⟨h0.2.1,fun y hy=>⟨h0.2.2 y hy,?_⟩⟩
   exact OkT.of (m:=m) (k:=k+1) (p:=p++slash++y.1) (hf y hy) (by omega) fun x hx=>h x (List.mem_cons_of_mem _ (List.mem_flatMap.2 ⟨y,hy,hx⟩))
theorem OkT.small {most d:Nat} {t:Tree} (hd:Fit d t) (h:largeB most t=false):OkT 12 t:=by
 have e:=pre_eq hd h
 unfold largeB at h
 simp only [Bool.or_eq_false_iff,decide_eq_false_iff_not] at h
 refine OkT.of (m:=11) (k:=0) (p:=ByteArray.empty) hd (by omega) fun x hx=>?_
 rw [e] at hx
 have h1:=List.any_eq_false.1 h.2 x hx
 unfold itemLarge at h1
 simp only [Bool.or_eq_true,decide_eq_true_eq,not_or] at h1
 refine ⟨by omega,by omega,fun y hy=>?_⟩
 have h2:x.2.2.kids.any longName=false:=by simpa using h1.2
 have h3:=List.any_eq_false.1 h2 y hy
 unfold longName at h3
 simp only [decide_eq_true_eq] at h3
 omega
theorem name_size {x:ByteArray} (h:nameB x=true):1<=x.size/\x.size<=12:=by
 unfold nameB at h
 simp only [Bool.and_eq_true,decide_eq_true_eq] at h
 exact h.1.1.1
theorem node_bounds {t:Tree} (h:nodeErr t=none):t.data.size<=2000/\∀y∈t.kids,y.1.size<=12:=by
 unfold nodeErr at h
 split at h
 ·unfold fileErr at h
  split at h
  ·cases h
  ·split at h
   ·cases h
   ·refine ⟨by omega,fun y hy=>?_⟩
    have:=List.length_pos_of_mem hy
    omega
 ·split at h
  ·unfold dirErr at h
   split at h
   ·cases h
   ·rename_i h1
    split at h
    ·rename_i h2
     refine ⟨?_,fun y hy=>(name_size (List.all_eq_true.1 h2 y hy)).2⟩
     simp only [not_or] at h1
     have h3:t.data.toList.isEmpty=true:=by
      cases hh:t.data.toList.isEmpty with
      | true=>rfl
      | false=>exact absurd hh h1.1
     have h4:t.data.toList = []:=by simpa using h3
     have h5:t.data.toList.length=t.data.size:=by rw [ba_toList];rfl
     rw [h4] at h5
     simp at h5
     omega
    ·cases h
  ·split at h
   ·unfold linkErr at h
    split at h
    ·cases h
    ·rename_i h1
     split at h
     ·cases h
     ·refine ⟨by omega,fun y hy=>?_⟩
      have:=List.length_pos_of_mem hy
      exact absurd (.inr this) h1
   ·cases h
theorem OkT.well {d:Nat} {t:Tree} (hd:Fit d t) (h:treeErr d t=none):OkT 9 t :=
 OkT.of (m:=8) (k:=0) (p:=ByteArray.empty) hd (by omega) fun x hx=>by
  have h1:=(treeErr_none.1 h).2 x hx
  have h2:=node_bounds h1.2
  exact ⟨h1.1,by omega,fun y hy=>by have:=h2.2 y hy;omega⟩
theorem setKid_sub {l:List (ByteArray×Tree)} {x:ByteArray} {k:Tree} {z:ByteArray×Tree} (h:z∈setKid l x k):z=(x,k)∨z∈l:=by
 unfold setKid at h
 split at h
 ·rcases List.mem_or_eq_of_mem_set h with h|h
  ·exact .inr h
  ·exact .inl h
 ·rcases List.mem_append.1 h with h|h
  ·exact .inr (List.mem_of_mem_take h)
  ·rcases List.mem_cons.1 h with h|h
   ·exact .inl h
   ·exact .inr (List.mem_of_mem_drop h)
theorem OkT.set {X:Tree} {m:Nat} (hX:OkT m X):∀ {l:List ByteArray} {n:Nat} {t:Tree},OkT n t->(∀x∈l,x.size<=30)->OkT (n+l.length+m) (setAt X l t)
 | [],n,t,_,_=>hX.up (by simp)
 | x :: r,0,t,h,_=>h.elim
 | x :: r,n+1,t,h,hl=>by
  obtain ⟨h1,h2⟩:=h
  rw [show n+1+(x :: r).length+m=(n+1+r.length+m)+1 by simp;omega]
  refine ⟨h1,fun z hz=>?_⟩
  have hz':z∈setKid t.kids x (setAt X r ((kidOf t x).getD zeroT)):=hz
  rcases setKid_sub hz' with rfl|hz'
  ·refine ⟨hl x List.mem_cons_self,?_⟩
   have hr:∀y∈r,y.size<=30:=fun y hy=>hl y (List.mem_cons_of_mem _ hy)
   cases hk:kidOf t x with
   | none=>exact (OkT.set hX (l:=r) (n:=1) (t:=zeroT) ⟨by simp [zeroT],fun y hy=>by simp [zeroT] at hy⟩ hr).up (by omega)
   | some k=>exact (OkT.set hX (h2 _ (List.mem_of_getElem? (set_there k hk).2)).2 hr).up (by omega)
  ·exact ⟨(h2 z hz').1,(h2 z hz').2.up (by omega)⟩
end Go.Proofs.YtpjjpmikhjlgnaaGreatDoor
namespace Go.Proofs.YtpjjpmikhjlgnaaGreatDoor
open Go.RowKit

def set4 (w:World) (b o:Nat) (v0 v1 v2 v3:Value):World:=(((w.setCell ⟨b,o,none⟩ v0).setCell ⟨b,o+1,none⟩ v1).setCell ⟨b,o+2,none⟩ v2).setCell ⟨b,o+3,none⟩ v3
theorem set4_block (w:World) (b o:Nat) (v0 v1 v2 v3:Value) {k:Nat} (h:k≠b):(set4 w b o v0 v1 v2 v3).heap[k]? = w.heap[k]? := by
 unfold set4
 rw [Below.heap_setCell _ _ _ _ h,Below.heap_setCell _ _ _ _ h,Below.heap_setCell _ _ _ _ h,Below.heap_setCell _ _ _ _ h]
theorem set4_size (w:World) (b o:Nat) (v0 v1 v2 v3:Value):(set4 w b o v0 v1 v2 v3).heap.size=w.heap.size:=by simp [set4,World.setCell]
theorem cell_off {w:World} {b i j:Nat} {v:Value} (h:i≠j):(w.setCell ⟨b,i,none⟩ v).cell? ⟨b,j,none⟩=w.cell? ⟨b,j,none⟩:=World.cell?_setCell_other _ _ _ _ (fun e=>h (by injection e))
theorem cell_on {w:World} {a:Addr} {u v:Value} (h:w.cell? a=some u):(w.setCell a v).cell? a=some v:=World.cell?_setCell_same' _ _ _ (by rw [h];rfl)
theorem set4_oth (w:World) (b o:Nat) (v0 v1 v2 v3:Value) {j:Nat} (h:j<o∨o+4<=j):(set4 w b o v0 v1 v2 v3).cell? ⟨b,j,none⟩=w.cell? ⟨b,j,none⟩:=by
 unfold set4
 rw [cell_off (by omega),cell_off (by omega),cell_off (by omega),cell_off (by omega)]
theorem set4_in {w:World} {b o:Nat} {X k:Tree} {u:Value} (h:CellsAt w b o k u) (ux:Value):CellsAt (set4 w b o (.string X.kind) (.string X.data) (.bool X.exec) ux) b o X ux:=by
 unfold set4
 refine ⟨?_,?_,?_,?_⟩
 ·rw [cell_off (by omega),cell_off (by omega),cell_off (by omega)]
  exact cell_on h.kind
 ·rw [cell_off (by omega),cell_off (by omega)]
  exact cell_on (u:=.string k.data) (by rw [cell_off (by omega)];exact h.data)
 ·rw [cell_off (by omega)]
  exact cell_on (u:=.bool k.exec) (by rw [cell_off (by omega),cell_off (by omega)];exact h.exec)
 ·exact cell_on (u:=u) (by rw [cell_off (by omega),cell_off (by omega),cell_off (by omega)];exact h.kids)
theorem put_place {w w':World} {B b0 b o d dX:Nat} {Q P:Nat->Prop} {t t' X:Tree} {l:List ByteArray} {u' ux:Value} (hQ:∀q,Q q->q<B/\P q/\q≠b0) (hb0:P b0)
  (hbox:CellsAt w b0 0 t' u') (hO:OwnT w Q d t'.kids u') (had:AddrAt w l t' b0 0 b o) (hset:setAt X l t'=setAt X l t)
  (hX:Lies w' B dX X.kids ux) (hC:CellsAt w' b o X ux) (hsame:∀k,k≠b->P k->w'.heap[k]? = w.heap[k]?) (hoth:∀j,j<o∨o+4<=j->w'.cell? ⟨b,j,none⟩=w.cell? ⟨b,j,none⟩) :
  ∃uu,CellsAt w' b0 0 (setAt X l t) uu/\Lies w' B (d+dX) (setAt X l t).kids uu:=by
 rw [<-hset]
 cases l with
 | nil =>
  obtain ⟨rfl,rfl⟩:=had
  exact ⟨ux,hC,hX.up (Nat.le_refl _) (by omega)⟩
 | cons x r =>
  obtain ⟨hqb,hl⟩:=own_put hX hC hsame hoth (l:=x :: r) (by simp) (fun q hq=>⟨(hQ q hq).1,(hQ q hq).2.1⟩) hO hbox.kids had
  have hne:b0≠b:=fun e=>(hQ b hqb).2.2 e.symm
  have hc:∀j,w'.cell? ⟨b0,j,none⟩=w.cell? ⟨b0,j,none⟩:=fun j=>World.cell?_of_block (hsame b0 hne hb0)
  exact ⟨u',⟨by rw [hc];exact hbox.kind,by rw [hc];exact hbox.data,by rw [hc];exact hbox.exec,by rw [hc];exact hbox.kids⟩,hl⟩
theorem flat_len {α β:Type} {F:α->List β}:∀ {l:List α},(∀x∈l,1<=(F x).length)->l.length<=(l.flatMap F).length
 | [],_=>by simp
 | x :: l,h=>by
  have h1:=h x (by simp)
  have h2:=flat_len (F:=F) (l:=l) fun y hy=>h y (List.mem_cons_of_mem _ hy)
  simp only [List.flatMap_cons,List.length_append,List.length_cons]
  omega
theorem kids_few {d:Nat} {t:Tree} (hf:Fit d t) (h:treeErr d t=none):t.kids.length<=200:=by
 cases d with
 | zero=>exact hf.elim
 | succ d =>
  have h1:=(treeErr_none.1 h).1
  simp only [pre,List.length_cons] at h1
  have h2:=flat_len (F:=fun x:ByteArray×Tree=>pre d (ByteArray.empty++slash++x.1) (0+1) x.2) (l:=t.kids) fun x hx=>by
   have:=hf x hx
   cases d with
   | zero=>exact this.elim
   | succ d=>simp [pre]
  omega
theorem at_well:∀ {m:List ByteArray} {d:Nat} {t k:Tree},Fit d t->treeErr d t=none->atR m t=some k->∃e,e<=d/\Fit e k/\treeErr e k=none
 | [],d,t,k,hf,h,hk=>by
  simp only [atR,Option.some.injEq] at hk
  subst hk
  exact ⟨d,Nat.le_refl _,hf,h⟩
 | x :: m,0,t,k,hf,h,hk=>hf.elim
 | x :: m,d+1,t,k,hf,h,hk=>by
  simp only [atR] at hk
  cases hq:kidOf t x with
  | none=>rw [hq] at hk;cases hk
  | some q =>
   rw [hq] at hk
   have hm:=List.mem_of_getElem? (set_there q hq).2
   obtain ⟨e,h1,h2,h3⟩:=at_well (hf _ hm) (kid_well hm h) hk
   exact ⟨e,by omega,h2,h3⟩
theorem at_few {m:List ByteArray} {d:Nat} {t k:Tree} (hf:Fit d t) (h:treeErr d t=none) (hk:atR m t=some k):k.kids.length<=200:=by
 obtain ⟨e,_,h2,h3⟩:=at_well hf h hk
 exact kids_few h2 h3
theorem rises_fit:∀ {d:Nat} {t:Tree},RisesD d t->Fit d t
 | 0,_,h=>h
 | _+1,_,h=>fun x hx=>rises_fit (h.2 x hx)
theorem pre_up:∀ {d e:Nat} {p:ByteArray} {k:Nat} {t:Tree},Fit d t->d<=e->pre e p k t=pre d p k t
 | 0,_,_,_,_,h,_=>h.elim
 | _+1,0,_,_,_,_,h=>by omega
 | d+1,e+1,p,k,t,h,he=>by
  simp only [pre,List.cons.injEq,true_and]
  have hm:∀l:List (ByteArray×Tree),(∀x∈l,x∈t.kids)->(l.flatMap fun x=>pre e (p++slash++x.1) (k+1) x.2)=l.flatMap fun x=>pre d (p++slash++x.1) (k+1) x.2:=fun l=>by
   induction l with
   | nil=>intro _;rfl
   | cons x l ih =>
    intro hl
    rw [List.flatMap_cons,List.flatMap_cons,ih (fun y hy=>hl y (List.mem_cons_of_mem _ hy)),pre_up (h x (hl x List.mem_cons_self)) (by omega)]
  exact hm t.kids fun _ h=>h
theorem treeErr_up {d e:Nat} {t:Tree} (h:Fit d t) (he:d<=e):treeErr e t=treeErr d t:=by
 unfold treeErr
 rw [pre_up h he]
theorem Fit.up:∀ {d e:Nat} {t:Tree},d<=e->Fit d t->Fit e t
 | 0,_,_,_,h=>h.elim
 | _+1,0,_,h,_=>by omega
 | _+1,_+1,_,he,h=>fun x hx=>Fit.up (by omega) (h x hx)
def Fresh (w w':World) (d:Nat) (l:List (ByteArray×Tree)) (v:Value):Prop:=∀w9:World,(∀k,w.heap.size<=k->k<w'.heap.size->w9.heap[k]? = w'.heap[k]?)->w'.heap.size<=w9.heap.size->Lies w9 w'.heap.size d l v
theorem Fresh.lies {w w':World} {d:Nat} {l:List (ByteArray×Tree)} {v:Value} (h:Fresh w w' d l v):Lies w' w'.heap.size d l v:=h w' (fun _ _ _=>rfl) (Nat.le_refl _)
theorem LiesQ.fresh {w w':World} {d:Nat} {l:List (ByteArray×Tree)} {v:Value} {Q:Nat->Prop} (h:LiesQ w' Q d l v) (hQ:∀q,Q q->w.heap.size<=q/\q<w'.heap.size):Fresh w w' d l v:=fun _ h9 _=>(h.kept (fun k hk=>h9 k (hQ k hk).1 (hQ k hk).2) (fun _ hk=>hk)).lies fun k hk=>(hQ k hk).2
def putR (d e:Nat) (t:Tree) (s:ByteArray) (X:Tree):Except Nat Tree:=match treeErr d t with
 | some er=>.error er
 | none=>match splitR s with
  | none=>.error 4
  | some l=>if roomB l t=true then (match treeErr e (setAt X l t) with
   | some er=>.error er
   | none=>.ok (setAt X l t)) else .error 5
theorem putR_tree {d e er:Nat} {t X:Tree} {s:ByteArray} (h:treeErr d t=some er):putR d e t s X = .error er:=by unfold putR;rw [h]
theorem putR_split {d e:Nat} {t X:Tree} {s:ByteArray} (h:treeErr d t=none) (h2:splitR s=none):putR d e t s X = .error 4:=by unfold putR;rw [h];simp only [h2]
theorem putR_none {d e:Nat} {t X:Tree} {s:ByteArray} {l:List ByteArray} (h:treeErr d t=none) (h2:splitR s=some l) (h3:roomB l t=false):putR d e t s X = .error 5:=by
 unfold putR;rw [h];simp only [h2,h3];rfl
theorem putR_bad {d e er:Nat} {t X:Tree} {s:ByteArray} {l:List ByteArray} (h:treeErr d t=none) (h2:splitR s=some l) (h3:roomB l t=true) (h4:treeErr e (setAt X l t)=some er):putR d e t s X = .error er:=by
 unfold putR;rw [h];simp only [h2,h3,if_true,h4]
theorem putR_ok {d e:Nat} {t X:Tree} {s:ByteArray} {l:List ByteArray} (h:treeErr d t=none) (h2:splitR s=some l) (h3:roomB l t=true) (h4:treeErr e (setAt X l t)=none):putR d e t s X = .ok (setAt X l t):=by
 unfold putR;rw [h];simp only [h2,h3,if_true,h4]
end Go.Proofs.YtpjjpmikhjlgnaaGreatDoor
namespace Go.Proofs.YtpjjpmikhjlgnaaGreatDoor
set_option maxHeartbeats 4000000
set_option maxRecDepth 100000
open Go.RowKit
attribute [local go_sem ↓] Go.wp_at_zero Go.wp_at_succ

def PutPost (a : Nat → Addr) (d dX : Nat) (t : Tree) (s : ByteArray) (X : Tree) (w : World) (e : Ending) (w' : World) : Prop := Below w.heap.size w w' ∧
  ((∃ er, putR d (d + 1 + dX) t s X = .error er ∧ e = .returned (.tuple #[.agg #[.string { data := #[] }, .string { data := #[] }, .bool false, .slice none 0 0], .iface 181 (.pointer (some (a er)))])) ∨
   (∃ Y u, putR d (d + 1 + dX) t s X = .ok Y ∧ e = .returned (.tuple #[.agg #[.string Y.kind, .string Y.data, .bool Y.exec, u], .nilIface]) ∧ Fresh w w' (d + 1 + dX) Y.kids u))

theorem put_any (a:Nat->Addr) (d dX B:Nat) (t X:Tree) (u ux:Value) (s:ByteArray) (w:World) (S:PSen a w) (hB:B<=w.heap.size) (hl:Lies w B d t.kids u) (hlx:Lies w B dX X.kids ux) (hal:Alive ck ckOk 0 (pre d ByteArray.empty 0 t)) (hs:s.size<4294967281)
  (haY:∀l,splitR s=some l->roomB l t=true->Alive ck ckOk 0 (pre (d+1+dX) ByteArray.empty 0 (setAt X l t))) :
  Calls Tryz.prog 15 #[.agg #[.string t.kind,.string t.data,.bool t.exec,u],.string s,.agg #[.string X.kind,.string X.data,.bool X.exec,ux]] w (PutPost a d dX t s X w):=by
 obtain ⟨ta,tc,rfl⟩:=hl.form
 obtain ⟨xa,xc,rfl⟩:=hlx.form
 have hfit:Fit d t:=hl.fit
 have hA:Below w.heap.size w (((w.alloc (.cells #[.string t.kind,.string t.data,.bool t.exec,.slice ta t.kids.length tc] 24)).alloc (.cells #[.string X.kind,.string X.data,.bool X.exec,.slice xa X.kids.length xc] 24)).alloc (.cells #[.string { data:=#[] },.string { data:=#[] },.bool false,.slice none 0 0] 24)):=(((Below.refl _ _).alloc (Nat.le_refl _) _).alloc (by simp) _).alloc (by simp;omega) _
 have hz:(((w.alloc (.cells #[.string t.kind,.string t.data,.bool t.exec,.slice ta t.kids.length tc] 24)).alloc (.cells #[.string X.kind,.string X.data,.bool X.exec,.slice xa X.kids.length xc] 24)).alloc (.cells #[.string { data:=#[] },.string { data:=#[] },.bool false,.slice none 0 0] 24)).heap.size=w.heap.size+3:=by simp
 have hbox:(((w.alloc (.cells #[.string t.kind,.string t.data,.bool t.exec,.slice ta t.kids.length tc] 24)).alloc (.cells #[.string X.kind,.string X.data,.bool X.exec,.slice xa X.kids.length xc] 24)).alloc (.cells #[.string { data:=#[] },.string { data:=#[] },.bool false,.slice none 0 0] 24)).heap[w.heap.size]? = some (.cells #[.string t.kind,.string t.data,.bool t.exec,.slice ta t.kids.length tc] 24 (0,0)):=by
  rw [Below.heap_alloc _ _ _ (by simp;omega),Below.heap_alloc _ _ _ (by simp)];exact row_alloc' _ _ _
 have hxb:(((w.alloc (.cells #[.string t.kind,.string t.data,.bool t.exec,.slice ta t.kids.length tc] 24)).alloc (.cells #[.string X.kind,.string X.data,.bool X.exec,.slice xa X.kids.length xc] 24)).alloc (.cells #[.string { data:=#[] },.string { data:=#[] },.bool false,.slice none 0 0] 24)).heap[w.heap.size+1]? = some (.cells #[.string X.kind,.string X.data,.bool X.exec,.slice xa X.kids.length xc] 24 (0,0)):=by
  rw [Below.heap_alloc _ _ _ (by simp)]
  have:=row_alloc' (w.alloc (.cells #[.string t.kind,.string t.data,.bool t.exec,.slice ta t.kids.length tc] 24)) #[.string X.kind,.string X.data,.bool X.exec,.slice xa X.kids.length xc] 24
  simpa using this
 have hres:(((w.alloc (.cells #[.string t.kind,.string t.data,.bool t.exec,.slice ta t.kids.length tc] 24)).alloc (.cells #[.string X.kind,.string X.data,.bool X.exec,.slice xa X.kids.length xc] 24)).alloc (.cells #[.string { data:=#[] },.string { data:=#[] },.bool false,.slice none 0 0] 24)).heap[w.heap.size+2]? = some (.cells #[.string { data:=#[] },.string { data:=#[] },.bool false,.slice none 0 0] 24 (0,0)):=by
  have:=row_alloc' ((w.alloc (.cells #[.string t.kind,.string t.data,.bool t.exec,.slice ta t.kids.length tc] 24)).alloc (.cells #[.string X.kind,.string X.data,.bool X.exec,.slice xa X.kids.length xc] 24)) #[.string { data:=#[] },.string { data:=#[] },.bool false,.slice none 0 0] 24
  simpa using this
 have HBG:Hid _:=pbegin_any a d B t (.slice ta t.kids.length tc) s _ (S.below hA) (by rw [hz];omega) (hl.below hA hB) hal hs
 have HSE:Hid (PSen a w):=S
 have HA:Hid _:=hA
 have HLI:Hid (Lies w B d t.kids (.slice ta t.kids.length tc)):=hl
 have HLX:Hid (Lies w B dX X.kids (.slice xa X.kids.length xc)):=hlx
 have HBOX:Hid _:=hbox
 have HXB:Hid _:=hxb
 have HRES:Hid _:=hres
 have HFIT:Hid _:=hfit
 have HAY:Hid _:=haY
 clear hA S hl hlx hal hbox hxb hres hfit haY
 go_enter Tryz.func15,Tryz.ntmps15
 go_wp2_with fail
 refine Calls.mono HBG.out ?_
 clear HBG
 rintro e w1 ⟨hb1,h1⟩
 have HB1:Hid (Below w.heap.size w w1):=HA.out.trans (hb1.mono (by omega))
 have hz1:=hb1.size
 rw [hz] at hz1
 have hres1:=(hb1.block (w.heap.size+2) (by omega)).trans HRES.out
 have hxb1:=(hb1.block (w.heap.size+1) (by omega)).trans HXB.out
 have hbox1:=(hb1.block w.heap.size (by omega)).trans HBOX.out
 have HR1:Hid _:=hres1
 have HX1:Hid _:=hxb1
 obtain ⟨⟨q0,q1,q2,q3⟩,g0,g1,g2,g3⟩:=row4b hres1
 rcases h1 with ⟨er,ht,rfl⟩|⟨ht,h2,rfl⟩|⟨l,v,ht,h2,rfl,hv,hroom⟩
 ·have HF:Hid (putR d (d+1+dX) t s X = .error er):=putR_tree ht
  clear ht hb1 hres1 hbox1 hxb1
  go_wp2_with fail
  refine bodyPost_ret (v:=.tuple #[.agg #[.string { data:=#[] },.string { data:=#[] },.bool false,.slice none 0 0],.iface 181 (.pointer (some (a er)))]) (by simp [results,Tryz.results15,go_sem,q0,q1,q2,q3]) rfl ?_
  have hS:=((((But1.refl (w.heap.size+2) w1).set 0 (.string { data:=#[] })).set 1 (.string { data:=#[] })).set 2 (.bool false)).set 3 (.slice none 0 0)
  exact ⟨(hS.below HB1.out (by omega)),.inl ⟨er,HF.out,rfl⟩⟩
 ·have HF:Hid (putR d (d+1+dX) t s X = .error 4):=putR_split ht h2
  clear ht h2 hb1 hres1 hbox1 hxb1
  go_wp2_with fail
  refine bodyPost_ret (v:=.tuple #[.agg #[.string { data:=#[] },.string { data:=#[] },.bool false,.slice none 0 0],.iface 181 (.pointer (some (a 4)))]) (by simp [results,Tryz.results15,go_sem,q0,q1,q2,q3]) rfl ?_
  have hS:=((((But1.refl (w.heap.size+2) w1).set 0 (.string { data:=#[] })).set 1 (.string { data:=#[] })).set 2 (.bool false)).set 3 (.slice none 0 0)
  exact ⟨(hS.below HB1.out (by omega)),.inl ⟨4,HF.out,rfl⟩⟩
 ·obtain ⟨⟨y0,y1,y2,y3⟩,_⟩:=row4b hbox1
  have HCP:Hid _:=copy_own w.heap.size d t (.slice ta t.kids.length tc) w1 (by omega) ((HLI.out.below HB1.out hB).up hB (Nat.le_refl _))
  obtain ⟨va,vc,rfl,hroom2⟩:=hroom
  have HV:Hid (Texts w1 (.slice va l.length vc) l):=hv
  have HRO:Hid (RoomR (.slice va l.length vc) l.length):=⟨va,vc,rfl,hroom2⟩
  have HT:Hid (treeErr d t=none):=ht
  have H2:Hid (splitR s=some l):=h2
  clear ht h2 hb1 hres1 hbox1 hxb1 hv hroom2 q0 q1 q2 q3 g0 g1 g2 g3
  go_wp2_with fail
  refine Calls.mono HCP.out ?_
  clear HCP y0 y1 y2 y3
  rintro e w2 ⟨u2,rfl,ho2,hb2⟩
  obtain ⟨ra,rc,rfl⟩:=ho2.form
  have hz2:=hb2.size
  have HB2:Hid (Below w.heap.size w w2):=HB1.out.trans (hb2.mono HB1.out.size)
  have hA3:Below w2.heap.size w2 (w2.alloc (.cells #[.string t.kind,.string t.data,.bool t.exec,.slice ra t.kids.length rc] 24)):=(Below.refl _ _).alloc (Nat.le_refl _) _
  have hz3:(w2.alloc (.cells #[.string t.kind,.string t.data,.bool t.exec,.slice ra t.kids.length rc] 24)).heap.size=w2.heap.size+1:=by simp
  have hbx3:=row_alloc' w2 #[.string t.kind,.string t.data,.bool t.exec,.slice ra t.kids.length rc] 24
  have HRM:Hid _:=room_any (fun b=>w1.heap.size<=b/\b<w2.heap.size) d w2.heap.size t (.slice ra t.kids.length rc) l (.slice va l.length vc) _ (fun q hq=>⟨by omega,by omega⟩) hbx3 (ho2.kept (fun q hq=>hA3.block q hq.2) (fun _ hq=>hq)) (rises_well HFIT.out HT.out) ((HV.out.below hb2).below hA3) HRO.out (by have:=splitR_len H2.out;omega) (fun x hx=>by have:=name_size (List.all_eq_true.1 (splitR_names H2.out) x hx);omega) (fun m k hk=>by have:=at_few HFIT.out HT.out hk;omega)
  have HB3:Hid (Below w.heap.size w (w2.alloc (.cells #[.string t.kind,.string t.data,.bool t.exec,.slice ra t.kids.length rc] 24))):=HB2.out.trans (hA3.mono HB2.out.size)
  have HR3:Hid _:=(hA3.block (w.heap.size+2) (by omega)).trans ((hb2.block (w.heap.size+2) (by omega)).trans HR1.out)
  have HX3:Hid _:=(hA3.block (w.heap.size+1) (by omega)).trans ((hb2.block (w.heap.size+1) (by omega)).trans HX1.out)
  clear hb2 ho2 hbx3 hA3 HV HRO
  go_wp2_with fail
  refine Calls.mono HRM.out ?_
  clear HRM
  generalize w2.alloc (.cells #[.string t.kind,.string t.data,.bool t.exec,.slice ra t.kids.length rc] 24)=w3 at *
  rintro e w4 (⟨hrb,rfl,hb4⟩|⟨hrb,t',u',b,o,rfl,hk4,hbx4,ho4,had4,⟨kk,hkk⟩,hset⟩)
  ·have HF:Hid (putR d (d+1+dX) t s X = .error 5):=putR_none HT.out H2.out hrb
   have HB4:Hid (Below w.heap.size w w4):=HB3.out.trans (hb4.mono HB3.out.size)
   have hres4:=(hb4.block (w.heap.size+2) (by omega)).trans HR3.out
   have hz4:=hb4.size
   obtain ⟨⟨q0,q1,q2,q3⟩,g0,g1,g2,g3⟩:=row4b hres4
   have c5:=(HSE.out.below HB4.out).no
   have z5:=lt_of_cell c5
   have z5':1<w.heap.size:=lt_of_cell HSE.out.no
   have hne5:1≠w.heap.size+2:=by omega
   clear hb4 hrb hres4
   go_wp2_with fail
   go_region
   go_wp2_with fail
   refine bodyPost_ret (v:=.tuple #[.agg #[.string { data:=#[] },.string { data:=#[] },.bool false,.slice none 0 0],.iface 181 (.pointer (some (a 5)))]) (by simp [results,Tryz.results15,go_sem,q0,q1,q2,q3]) rfl ?_
   have hS:=((((But1.refl (w.heap.size+2) w4).set 0 (.string { data:=#[] })).set 1 (.string { data:=#[] })).set 2 (.bool false)).set 3 (.slice none 0 0)
   exact ⟨(hS.below HB4.out (by omega)).drew,.inl ⟨5,HF.out,rfl⟩⟩
  ·have hz4:=hk4.size
   have hlow:∀k,k<w1.heap.size->w4.heap[k]? = w3.heap[k]? := fun k hk=>hk4.block k (by omega) (by omega)
   have HB4:Hid (Below w.heap.size w w4):=HB3.out.trans ((hk4.below (B:=w1.heap.size) (fun k hk=>by rcases hk with hk|hk <;> omega) (by omega)).mono (by omega))
   have hres4:=(hlow (w.heap.size+2) (by omega)).trans HR3.out
   have hxb4:=(hlow (w.heap.size+1) (by omega)).trans HX3.out
   obtain ⟨⟨z0,z1,z2,z3⟩,_⟩:=row4b hbx4
   have hQ4:∀q,((w1.heap.size<=q/\q<w2.heap.size)∨(w3.heap.size<=q/\q<w4.heap.size))->q<w4.heap.size/\q≠w2.heap.size/\w1.heap.size<=q:=fun q hq=>by omega
   obtain ⟨Qk,dk,ud,hC,_,_,_,hmb,hfz⟩:=own_at ho4 (o0:=0) ⟨z0,z1,z2,z3⟩ (fun i=>free_of_row hbx4 i) (fun q hq=>(hQ4 q hq).2.1) hkk had4
   have hbl:b<w4.heap.size:=lt_of_cell hC.kind
   have hbw:w1.heap.size<=b:=by
    rcases hmb with rfl|hb
    ·have:=had4.1;omega
    ·exact (hQ4 b hb).2.2
   obtain ⟨⟨x0,x1,x2,x3⟩,_⟩:=row4b hxb4
   have c0:=hC.kind
   have c1:=hC.data
   have c2:=hC.exec
   have c3:=hC.kids
   have f0:=hfz o
   have f1:=hfz (o+1)
   have f2:=hfz (o+2)
   have f3:=hfz (o+3)
   have HC:Hid _:=hC
   have HFZ:Hid _:=hfz
   have HK4:Hid _:=hk4
   have HBX4:Hid _:=hbx4
   have HO4:Hid _:=ho4
   have HAD4:Hid _:=had4
   have HSET:Hid _:=hset
   have HRB:Hid _:=hrb
   have HR4:Hid _:=hres4
   have HX4:Hid _:=hxb4
   have HQ4:Hid _:=hQ4
   have HLOW:Hid _:=hlow
   have hbn:w.heap.size+1≠b:=by omega
   clear hC hfz hk4 hbx4 ho4 had4 hset hrb hres4 hxb4 hQ4 hlow hmb hkk z0 z1 z2 z3
   go_upto_region 9 with fail
   have hsz5:=set4_size w4 b o (.string X.kind) (.string X.data) (.bool X.exec) (.slice xa X.kids.length xc)
   have hbk5:=fun k (hk:k≠b)=>set4_block w4 b o (.string X.kind) (.string X.data) (.bool X.exec) (.slice xa X.kids.length xc) hk
   have hot5:=fun j (hj:j<o∨o+4<=j)=>set4_oth w4 b o (.string X.kind) (.string X.data) (.bool X.exec) (.slice xa X.kids.length xc) hj
   have hin5:=set4_in (X:=X) HC.out (.slice xa X.kids.length xc)
   have hB5:Below w.heap.size w (set4 w4 b o (.string X.kind) (.string X.data) (.bool X.exec) (.slice xa X.kids.length xc)):=(((HB4.out.setCell (p:=⟨b,o,none⟩) (show w.heap.size<=b by omega) _).setCell (p:=⟨b,o+1,none⟩) (show w.heap.size<=b by omega) _).setCell (p:=⟨b,o+2,none⟩) (show w.heap.size<=b by omega) _).setCell (p:=⟨b,o+3,none⟩) (show w.heap.size<=b by omega) _
   have hfr5:∀i,(set4 w4 b o (.string X.kind) (.string X.data) (.bool X.exec) (.slice xa X.kids.length xc)).frozen? ⟨b,i,none⟩=false:=fun i=>by
    unfold set4
    simp only [World.frozen?_setCell]
    exact HFZ.out i
   unfold set4 at hsz5 hbk5 hot5 hin5 hB5 hfr5
   generalize (((w4.setCell ⟨b,o,none⟩ (.string X.kind)).setCell ⟨b,o+1,none⟩ (.string X.data)).setCell ⟨b,o+2,none⟩ (.bool X.exec)).setCell ⟨b,o+3,none⟩ (.slice xa X.kids.length xc)=w5 at *
   obtain ⟨Y,hY⟩:∃Y,Y=setAt X l t:=⟨_,rfl⟩
   have HY:Hid (Y=setAt X l t):=hY
   have HPP:Hid (∀(w':World) (B':Nat) (uz:Value),w4.heap.size<=B'->Lies w' B' dX X.kids uz->CellsAt w' b o X uz->(∀k,k≠b->(k<w4.heap.size/\w1.heap.size<=k)->w'.heap[k]? = w4.heap[k]?)->(∀j,j<o∨o+4<=j->w'.cell? ⟨b,j,none⟩=w4.cell? ⟨b,j,none⟩)->∃uu,CellsAt w' w2.heap.size 0 Y uu/\Lies w' B' (d+1+dX) Y.kids uu):=fun w' B' uz h1 h2 h3 h4 h5=>by
    obtain ⟨⟨z0,z1,z2,z3⟩,_⟩:=row4b HBX4.out
    rw [HY.out]
    exact put_place (P:=fun k=>k<w4.heap.size/\w1.heap.size<=k) (fun q hq=>⟨by have:=HQ4.out q hq;omega,by have:=HQ4.out q hq;omega,by have:=HQ4.out q hq;omega⟩) (by omega) ⟨z0,z1,z2,z3⟩ HO4.out HAD4.out (HSET.out X) h2 h3 h4 h5
   obtain ⟨uu,hcY,hlY⟩:=HPP.out w5 w5.heap.size _ (by omega) ((HLX.out.below hB5 hB).up (by have:=hB5.size;omega) (Nat.le_refl _)) hin5 (fun k hk _=>hbk5 k hk) hot5
   obtain ⟨ya,yc,rfl⟩:=hlY.form
   have HCK:Hid _:=check_any a (d+1+dX) w5.heap.size Y (.slice ya Y.kids.length yc) w5 (HSE.out.below hB5).is.atB (Nat.le_refl _) hlY (by rw [HY.out];exact HAY.out l H2.out HRB.out)
   have y0:=hcY.kind
   have y1:=hcY.data
   have y2:=hcY.exec
   have y3:=hcY.kids
   simp only [Nat.zero_add] at y1 y2 y3
   have HBK5:Hid _:=hbk5
   have HOT5:Hid _:=hot5
   have HIN5:Hid _:=hin5
   have HFR5:Hid _:=hfr5
   have HB5:Hid (Below w.heap.size w w5):=hB5
   have HR5:Hid _:=(hbk5 (w.heap.size+2) (by omega)).trans HR4.out
   have HX5:Hid _:=(hbk5 (w.heap.size+1) (by omega)).trans HX4.out
   clear hbk5 hot5 hin5 hB5 hfr5 hcY hlY c0 c1 c2 c3 f0 f1 f2 f3 x0 x1 x2 x3 hY
   go_wp2_with fail
   refine Calls.mono HCK.out ?_
   clear HCK y0 y1 y2 y3
   rintro e w6 ⟨rfl,hb6⟩
   have hz6:=hb6.size
   have HB6:Hid (Below w.heap.size w w6):=HB5.out.trans (hb6.mono HB5.out.size)
   have HR6:Hid _:=(hb6.block (w.heap.size+2) (by omega)).trans HR5.out
   have HX6:Hid _:=(hb6.block (w.heap.size+1) (by omega)).trans HX5.out
   have HB56:Hid (Below w5.heap.size w5 w6):=hb6
   clear hb6
   cases hte:treeErr (d+1+dX) Y with
   | some er =>
    have HF:Hid (putR d (d+1+dX) t s X = .error er):=putR_bad HT.out H2.out HRB.out (by rw [<-HY.out];exact hte)
    obtain ⟨⟨q0,q1,q2,q3⟩,g0,g1,g2,g3⟩:=row4b HR6.out
    unfold errV
    clear hte
    go_wp2_with fail
    refine bodyPost_ret (v:=.tuple #[.agg #[.string { data:=#[] },.string { data:=#[] },.bool false,.slice none 0 0],.iface 181 (.pointer (some (a er)))]) (by simp [results,Tryz.results15,go_sem,q0,q1,q2,q3]) rfl ?_
    have hS:=((((But1.refl (w.heap.size+2) w6).set 0 (.string { data:=#[] })).set 1 (.string { data:=#[] })).set 2 (.bool false)).set 3 (.slice none 0 0)
    exact ⟨(hS.below HB6.out (by omega)),.inl ⟨er,HF.out,rfl⟩⟩
   | none =>
    have HF:Hid (putR d (d+1+dX) t s X = .ok Y):=show _=_ by rw [HY.out];exact putR_ok HT.out H2.out HRB.out (by rw [<-HY.out];exact hte)
    obtain ⟨⟨x0,x1,x2,x3⟩,_⟩:=row4b HX6.out
    have HCP:Hid _:=copy_any w.heap.size dX X (.slice xa X.kids.length xc) w6 (by omega) ((HLX.out.below HB6.out hB).up hB (Nat.le_refl _))
    unfold errV
    clear hte
    go_wp2_with fail
    refine Calls.mono HCP.out ?_
    clear HCP x0 x1 x2 x3
    rintro e w7 ⟨u7,rfl,hq7,hb7⟩
    obtain ⟨ka,kc,rfl⟩:=hq7.form
    have hz7:=hb7.size
    have HB57:Hid (Below w5.heap.size w5 w7):=HB56.out.trans (hb7.mono HB56.out.size)
    have hc7:∀j,w7.cell? ⟨b,j,none⟩=w5.cell? ⟨b,j,none⟩:=fun j=>HB57.out.cell (p:=⟨b,j,none⟩) (show b<w5.heap.size by omega)
    have hC7:CellsAt w7 b o X (.slice xa X.kids.length xc):=HIN5.out.same fun j _ _=>hc7 j
    have c0:=hC7.kind
    have c1:=hC7.data
    have c2:=hC7.exec
    have c3:=hC7.kids
    have hf7:∀j,w7.frozen? ⟨b,j,none⟩=false:=fun j=>by rw [HB57.out.frozen (p:=⟨b,j,none⟩) (show b<w5.heap.size by omega)];exact HFR5.out j
    have f0:=hf7 o
    have f1:=hf7 (o+1)
    have f2:=hf7 (o+2)
    have f3:=hf7 (o+3)
    have HB7:Hid (Below w.heap.size w w7):=HB5.out.trans (HB57.out.mono HB5.out.size)
    have HR7:Hid _:=(HB57.out.block (w.heap.size+2) (by omega)).trans HR5.out
    have HC7:Hid _:=hC7
    have HCE:Hid _:=hc7
    have HQ7:Hid (LiesQ w7 (fun b=>w6.heap.size<=b/\b<w7.heap.size) dX X.kids (.slice ka X.kids.length kc)):=hq7
    clear hb7 hq7 hC7 hc7 hf7
    go_upto_region 13 with fail
    have hsz8:=set4_size w7 b o (.string X.kind) (.string X.data) (.bool X.exec) (.slice ka X.kids.length kc)
    have hbk8:=fun k (hk:k≠b)=>set4_block w7 b o (.string X.kind) (.string X.data) (.bool X.exec) (.slice ka X.kids.length kc) hk
    have hot8:=fun j (hj:j<o∨o+4<=j)=>set4_oth w7 b o (.string X.kind) (.string X.data) (.bool X.exec) (.slice ka X.kids.length kc) hj
    have hin8:=set4_in (X:=X) HC7.out (.slice ka X.kids.length kc)
    have hB8:Below w.heap.size w (set4 w7 b o (.string X.kind) (.string X.data) (.bool X.exec) (.slice ka X.kids.length kc)):=(((HB7.out.setCell (p:=⟨b,o,none⟩) (show w.heap.size<=b by omega) _).setCell (p:=⟨b,o+1,none⟩) (show w.heap.size<=b by omega) _).setCell (p:=⟨b,o+2,none⟩) (show w.heap.size<=b by omega) _).setCell (p:=⟨b,o+3,none⟩) (show w.heap.size<=b by omega) _
    unfold set4 at hsz8 hbk8 hot8 hin8 hB8
    generalize (((w7.setCell ⟨b,o,none⟩ (.string X.kind)).setCell ⟨b,o+1,none⟩ (.string X.data)).setCell ⟨b,o+2,none⟩ (.bool X.exec)).setCell ⟨b,o+3,none⟩ (.slice ka X.kids.length kc)=w8 at *
    have hX8:Lies w8 w8.heap.size dX X.kids (.slice ka X.kids.length kc):=(HQ7.out.kept (w':=w8) (Q':=fun b=>w6.heap.size<=b/\b<w7.heap.size) (fun k hk=>hbk8 k (by omega)) (fun _ h=>h)).lies fun k hk=>by omega
    have hk8:∀k,k≠b->k<w4.heap.size->w8.heap[k]? = w4.heap[k]? := fun k hk hk4=>(hbk8 k hk).trans ((HB57.out.block k (by omega)).trans (HBK5.out k hk))
    have ho8:∀j,j<o∨o+4<=j->w8.cell? ⟨b,j,none⟩=w4.cell? ⟨b,j,none⟩:=fun j hj=>(hot8 j hj).trans ((HCE.out j).trans (HOT5.out j hj))
    obtain ⟨uv,hcV,hlV⟩:=HPP.out w8 w8.heap.size _ (by omega) hX8 hin8 (fun k hk hk4=>hk8 k hk hk4.1) ho8
    have HEND:Hid (∀w9,(∀k,w1.heap.size<=k->k<w8.heap.size->w9.heap[k]? = w8.heap[k]?)->w8.heap.size<=w9.heap.size->Lies w9 w8.heap.size (d+1+dX) Y.kids uv):=fun w9 h9 hs9=>by
     have hb9:∀j,w9.cell? ⟨b,j,none⟩=w8.cell? ⟨b,j,none⟩:=fun j=>World.cell?_of_block (h9 b hbw (by omega))
     have hX9:Lies w9 w8.heap.size dX X.kids (.slice ka X.kids.length kc):=(HQ7.out.kept (w':=w9) (Q':=fun b=>w6.heap.size<=b/\b<w7.heap.size) (fun k hk=>(h9 k (by omega) (by omega)).trans (hbk8 k (by omega))) (fun _ h=>h)).lies fun k hk=>by omega
     obtain ⟨uw,hcW,hlW⟩:=HPP.out w9 w8.heap.size _ (by omega) hX9 (hin8.same fun j _ _=>hb9 j) (fun k hk hk4=>(h9 k hk4.2 (by omega)).trans (hk8 k hk hk4.1)) (fun j hj=>(hb9 j).trans (ho8 j hj))
     have e:uw=uv:=by
      have h1:=hcW.kids
      rw [World.cell?_of_block (w:=w8) (h9 w2.heap.size (by omega) (by omega)),hcV.kids] at h1
      exact (Option.some.inj h1).symm
     rw [<-e]
     exact hlW
    obtain ⟨za,zc,rfl⟩:=hlV.form
    have y0:=hcV.kind
    have y1:=hcV.data
    have y2:=hcV.exec
    have y3:=hcV.kids
    simp only [Nat.zero_add] at y1 y2 y3
    have hres8:=(hbk8 (w.heap.size+2) (by omega)).trans HR7.out
    obtain ⟨⟨q0,q1,q2,q3⟩,g0,g1,g2,g3⟩:=row4b hres8
    have HB8:Hid _:=hB8
    clear hbk8 hot8 hin8 hB8 hcV hlV hres8 hX8 hk8 ho8 c0 c1 c2 c3 f0 f1 f2 f3
    go_wp2_with fail
    refine bodyPost_ret (v:=.tuple #[.agg #[.string Y.kind,.string Y.data,.bool Y.exec,.slice za Y.kids.length zc],.nilIface]) (by simp [results,Tryz.results15,go_sem,q0,q1,q2,q3]) rfl ?_
    have hS:=((((But1.refl (w.heap.size+2) w8).set 0 (.string Y.kind)).set 1 (.string Y.data)).set 2 (.bool Y.exec)).set 3 (.slice za Y.kids.length zc)
    exact ⟨hS.below HB8.out (by omega),.inr ⟨Y,_,HF.out,rfl,fun w9 h9 hs9=>by rw [hS.size] at hs9 ⊢;exact HEND.out w9 (fun k h1 h2=>(h9 k (by omega) (by rw [hS.size];exact h2)).trans (hS.block k (by omega))) hs9⟩⟩
end Go.Proofs.YtpjjpmikhjlgnaaGreatDoor
namespace Go.Proofs.YtpjjpmikhjlgnaaGreatDoor
set_option maxHeartbeats 4000000
set_option maxRecDepth 100000
open Go.RowKit
attribute [local go_sem ↓] Go.wp_at_zero Go.wp_at_succ

theorem append_zeroK {P:Program} (w:World) (base:Nat) (t ty e:TypeId) (i:TypeInfo) (size:Nat) (ht:P.underlying t=some (.slice e)) (hi:P.info? e=some i)
  (v:Value) (n:Nat) (xs:List Value) (hown:w.ownsRow base e size v n xs) (ad:Option Addr) (c:Nat) :
  (Builtin.append_ #[t,t] ty #[v,.slice ad 0 c]).run P w = .ok v w:=by
 cases ad with
 | none =>
  rcases hown.2 with ⟨rfl,rfl⟩|⟨g,cap,cur,rfl,_,_,hnc,_⟩
  ·simp [Builtin.append_,run_underlying ht,sizeOf,typeInfo,hi,Builtin.lenOf,Builtin.firstCells]
  ·simp [Builtin.append_,run_underlying ht,sizeOf,typeInfo,hi,Builtin.lenOf,Builtin.firstCells,hnc,storeCells]
 | some a =>
  rcases hown.2 with ⟨rfl,rfl⟩|⟨g,cap,cur,rfl,_,_,hnc,_⟩
  ·simp [Builtin.append_,run_underlying ht,sizeOf,typeInfo,hi,Builtin.lenOf,Builtin.firstCells,loadCells,loadCellsFrom]
  ·simp [Builtin.append_,run_underlying ht,sizeOf,typeInfo,hi,Builtin.lenOf,Builtin.firstCells,hnc,storeCells,loadCells,loadCellsFrom]
theorem step_append_runI {P:Program} {ops:Array Oper} {o:Oper} {a:Act} {w:World} {K:Act->World->Prop} {Q:Exit->Act->World->Prop} {E:Prop} (hg:o.guard=none) (s x:Operand) (t tn:TypeId)
  (ho:o.op = .call { callee:=.builtin .append,args:=#[s,x],argTypes:=#[t,tn] }) (vs vx:Value) (hs:a.eval s=vs) (hx:a.eval x=vx) {v':Value} {w':World} (hr:(Builtin.append_ #[t,tn] o.type #[vs,vx]).run P w = .ok v' w') (h:K (a.put o.dst v') w') :
  if Region.wanted o (yielded ops a.tmps)=true then Oper.wp P o a w K Q else E:=by
 have hw:Region.wanted o (yielded ops a.tmps)=true:=by simp [Region.wanted,hg]
 rw [if_pos hw]
 exact Lib.wp_append_run w s x t tn ho vs vx hs hx v' w' hr h
theorem ownsRow_takeN {w:World} {base m n size hc:Nat} {e:TypeId} {ha:Option Addr} {xs:List Value} (h:w.ownsRow base e size (.slice ha n hc) n xs) (hm:m<=n) (ha0:ha≠none):w.ownsRow base e size (.slice ha m hc) m (xs.take (m*size)):=by
 obtain ⟨h1,h2⟩:=h
 have hmn:m*size<=n*size:=Nat.mul_le_mul_right _ hm
 refine ⟨by rw [List.length_take];omega,?_⟩
 rcases h2 with ⟨e1,e2⟩|⟨g,cap,cur,e1,hb,hh,hnc,hcm,hs,ht⟩
 ·simp only [Value.slice.injEq] at e1
  exact absurd e1.1 ha0
 ·simp only [Value.slice.injEq] at e1
  obtain ⟨rfl,_,rfl⟩:=e1
  refine .inr ⟨g,hc,cur,rfl,hb,hh,by omega,hcm,hs,?_⟩
  rw [<-ht,List.take_take,Nat.min_eq_left hmn]
theorem append_down (w:World) (n c i b:Nat) (xs:List Value) (hi:i<n) (h:w.ownsRow 0 65 5 (.slice (some ⟨b,0,none⟩) n c) n xs) (h1:∀u∈xs,u.oneCell'=true) (hnc:n<=c):∃w',(Builtin.append_ #[22,22] 22 #[.slice (some ⟨b,0,none⟩) i c,.slice (if c=i+1 then some ⟨b,0,none⟩ else some ⟨b,(i+1)*5,none⟩) (n-(i+1)) (c-(i+1))]).run Tryz.prog w = .ok (.slice (some ⟨b,0,none⟩) (n-1) c) w' /\
  w'.ownsRow 0 65 5 (.slice (some ⟨b,0,none⟩) (n-1) c) (n-1) (xs.take (i*5)++xs.drop ((i+1)*5))/\w.grownBy w' (some b):=by
 obtain ⟨i0,hi0,hz0',hz1',hz2'⟩:=info_parts infoKid
 have hp:=ownsRow_takeN h (m:=i) (by omega) (by simp)
 have hxl:=h.1
 by_cases hl:i+1=n
 ·subst hl
  refine ⟨w,?_,?_,⟨rfl,rfl,rfl,Nat.le_refl _,fun _ _ _=>rfl⟩⟩
  ·rw [Nat.sub_self,Nat.add_sub_cancel]
   exact append_zeroK w 0 22 22 65 i0 5 Tryz.underlying22 hi0 _ i _ hp _ _
  ·rw [List.drop_eq_nil_of_le (by omega),List.append_nil,Nat.add_sub_cancel]
   exact hp
 ·rw [if_neg (by omega)]
  obtain ⟨w',hr,ho,hg⟩:=run_append_fits (P:=Tryz.prog) w 0 22 22 65 i0 5 Tryz.underlying22 hi0 hz1' b i c _ hp ⟨b,(i+1)*5,none⟩ (n-(i+1)) (c-(i+1)) (xs.drop ((i+1)*5)) (by rw [List.length_drop];omega)
   (fun j u hu=>by
    have hc:=h.cells (g:=b) rfl ((i+1)*5+j) u (by rw [List.getElem?_drop] at hu;exact hu)
    have hadd:∀k,(⟨b,0,none⟩:Addr).add k=⟨b,k,none⟩:=fun k=>by unfold Addr.add;split <;> simp_all
    have hadd2:(⟨b,(i+1)*5,none⟩:Addr).add j=⟨b,(i+1)*5+j,none⟩:=by unfold Addr.add;split <;> simp_all
    rw [hadd2,<-hadd]
    exact hc) (fun u hu=>h1 u (List.mem_of_mem_drop hu)) (by omega)
  have e:i+(n-(i+1))=n-1:=by omega
  rw [e] at hr ho
  exact ⟨w',hr,ho,hg⟩
theorem clear_one (w:World) (b o c:Nat) (cur:Array Value) (hb:w.heap[b]? = some (.cells cur 65 (0,0))) (hfit:o+5<=cur.size):∃zs:List Value,zs.length=5/\∀ty,(Builtin.clear_ #[22] ty #[.slice (some ⟨b,o,none⟩) 1 c]).run Tryz.prog w = .ok (.tuple #[]) (w.setRow b (cur.toList.take o++zs++cur.toList.drop (o+5)).toArray):=by
 refine ⟨[.string ⟨#[]⟩,.string ⟨#[]⟩,.string ⟨#[]⟩,.bool false,.slice none 0 0],rfl,fun ty=>?_⟩
 have hst:=run_storeCells_at Tryz.prog b o 65 [.string ⟨#[]⟩,.string ⟨#[]⟩,.string ⟨#[]⟩,.bool false,.slice none 0 0] 0 cur w hb (by simpa using hfit) (by simp [Value.oneCell'])
 have hzc:(Builtin.zeroCells (Value.agg #[.string ⟨#[]⟩,.string ⟨#[]⟩,.string ⟨#[]⟩,.bool false,.slice none 0 0]).cells 1).toList = [.string ⟨#[]⟩,.string ⟨#[]⟩,.string ⟨#[]⟩,.bool false,.slice none 0 0]:=by first|kernel_rfl|(simp [Builtin.zeroCells,Value.cells];rfl)|simp [Builtin.zeroCells,Value.cells,List.range,List.range.loop]
 have hz:=Tryz.zeroValue65 w
 have hu:=run_underlying (w:=w) Tryz.underlying22
 simp only [Builtin.clear_,Sem.run_bind,List.getElem?_toArray,List.getElem?_cons_zero,hu,Result.andThen_ok,hz,hzc,hst,Sem.run_pure]
 simp
theorem clear_last (w1:World) (n c b:Nat) (ys:List Value) (hn:0<n) (hnc:n<=c) (h:w1.ownsRow 0 65 5 (.slice (some ⟨b,0,none⟩) (n-1) c) (n-1) ys):∃w2,(∀ty,(Builtin.clear_ #[22] ty #[.slice (some ⟨b,(n-1)*5,none⟩) (n-(n-1)) (c-(n-1))]).run Tryz.prog w1 = .ok (.tuple #[]) w2)/\w2.ownsRow 0 65 5 (.slice (some ⟨b,0,none⟩) (n-1) c) (n-1) ys/\w1.grownBy w2 (some b):=by
 obtain ⟨h1,h2⟩:=h
 rcases h2 with ⟨e1,_⟩|⟨g,cap,cur,e1,hb,hh,hnc1,hcm,hs,ht⟩
 ·simp at e1
 ·simp only [Value.slice.injEq,Option.some.injEq,Addr.mk.injEq,and_true,true_and] at e1
  obtain ⟨rfl,rfl⟩:=e1
  obtain ⟨zs,hz,hr⟩:=clear_one w1 b ((n-1)*5) (c-(n-1)) cur hh (by omega)
  refine ⟨_,fun ty=>by rw [show n-(n-1)=1 by omega];exact hr ty,⟨h1,.inr ⟨b,c,_,rfl,hb,setRow_heap w1 b cur _ 65 _ hh,hnc1,hcm,?_,?_⟩⟩,⟨rfl,rfl,rfl,by simp,fun k _ hk=>setRow_other w1 b k _ (fun e=>hk (by rw [e]))⟩⟩
  ·simp only [List.size_toArray,List.length_append,List.length_take,List.length_drop,Array.length_toList,hz];omega
  ·rw [List.append_assoc,List.take_append_of_le_length (by rw [List.length_take,Array.length_toList];omega),List.take_take,Nat.min_self]
   exact ht

theorem delete_any (w:World) (n c i b:Nat) (xs:List Value) (hi:i<n) (hn:n<=1000000) (h:w.ownsRow 0 65 5 (.slice (some ⟨b,0,none⟩) n c) n xs) (h1:∀u∈xs,u.oneCell'=true) :
  Calls Tryz.prog 47 #[.slice (some ⟨b,0,none⟩) n c,.int .i64 (i:Int),.int .i64 ((i:Int)+1)] w fun e w'=>e = .returned (.slice (some ⟨b,0,none⟩) (n-1) c)/\w'.ownsRow 0 65 5 (.slice (some ⟨b,0,none⟩) (n-1) c) (n-1) (xs.take (i*5)++xs.drop ((i+1)*5))/\w.grownBy w' (some b):=by
 obtain ⟨hnc,hcm⟩:n<=c/\c<=maxLen:=by
  rcases h.2 with ⟨e,_⟩|⟨g,cap,cur,e,_,_,h2,h3,_⟩
  ·simp at e
  ·simp only [Value.slice.injEq] at e
   omega
 unfold maxLen at hcm
 obtain ⟨w1,hap,ho1,hg1⟩:=append_down w.drew n c i b xs hi h.drew h1 hnc
 obtain ⟨w2,hcl,ho2,hg2⟩:=clear_last w1 n c b _ (by omega) hnc ho1
 have HCL:Hid _:=hcl
 have HEND:Hid (w2.ownsRow 0 65 5 (.slice (some ⟨b,0,none⟩) (n-1) c) (n-1) (xs.take (i*5)++xs.drop ((i+1)*5))/\w.grownBy w2 (some b)):=⟨ho2,hg2.os.trans hg1.os,hg2.tape.trans hg1.tape,hg2.output.trans hg1.output,Nat.le_trans hg1.size hg2.size,fun k hk hne=>(hg2.block k (Nat.lt_of_lt_of_le hk hg1.size) hne).trans (hg1.block k hk hne)⟩
 have hz2:¬((i:Int)=(i:Int)+1):=by omega
 have hb1:(0:Int)<=(i:Int)+1:=by omega
 have htn:((i:Int)+1).toNat=i+1:=by omega
 have hb2:(i:Int)<=(i:Int)+1:=by omega
 have hb3:(i:Int)+1<=(n:Int):=by omega
 have hb4:(i:Int)<=(n:Int):=by omega
 have hb5:(i:Int)<=(c:Int):=by omega
 have hb6:¬(c=n-1):=by omega
 clear hcl ho1 hg1 ho2 hg2 h h1
 by_cases hci:c=i+1
 ·rw [if_pos hci] at hap
  subst hci
  have HAP:Hid _:=hap
  clear hap
  go_enter Tryz.func47,Tryz.ntmps47
  go_upto_region 5 with fail
  refine wp_region_held_drew (S:=fun _=>True) (by kernel_rfl) (trivial) (fun hHeld=>?_)
  refine wpAnyH_take (i:=0) (v:=.slice (some ⟨b,0,none⟩) n (i+1)) rfl (by kernel_rfl) (by kernel_rfl) (by kernel_rfl) (fun _ _ _ h=>h) (Or.inl ⟨by rfl,?_⟩) hHeld ?_
  ·intro w hSw;(try dsimp only at hSw);simp only [List.getElem_toArray,List.getElem_cons_zero];go_simp
  simp only [List.getElem_toArray,List.getElem_cons_zero,Act.put,List.setIfInBounds_toArray,List.set_cons_zero,List.set_cons_succ]
  refine wpAnyH_take (i:=1) (v:=.int .i64 (i:Int)) rfl (by kernel_rfl) (by kernel_rfl) (by kernel_rfl) (fun _ _ _ h=>h) (Or.inl ⟨by rfl,?_⟩) hHeld ?_
  ·intro w hSw;(try dsimp only at hSw);simp only [List.getElem_toArray,List.getElem_cons_zero,List.getElem_cons_succ];go_simp
  simp only [List.getElem_toArray,List.getElem_cons_zero,List.getElem_cons_succ,Act.put,List.setIfInBounds_toArray,List.set_cons_zero,List.set_cons_succ]
  refine wpAnyH_take (i:=2) (v:=.slice (some ⟨b,0,none⟩) i (i+1)) rfl (by kernel_rfl) (by kernel_rfl) (by kernel_rfl) (fun _ _ _ h=>h) (Or.inl ⟨by rfl,?_⟩) hHeld ?_
  ·intro w hSw;(try dsimp only at hSw);simp only [List.getElem_toArray,List.getElem_cons_zero,List.getElem_cons_succ];go_simp
  simp only [List.getElem_toArray,List.getElem_cons_zero,List.getElem_cons_succ,Act.put,List.setIfInBounds_toArray,List.set_cons_zero,List.set_cons_succ]
  refine wpAnyH_take (i:=3) (v:=.slice (some ⟨b,0,none⟩) n (i+1)) rfl (by kernel_rfl) (by kernel_rfl) (by kernel_rfl) (fun _ _ _ h=>h) (Or.inl ⟨by rfl,?_⟩) hHeld ?_
  ·intro w hSw;(try dsimp only at hSw);simp only [List.getElem_toArray,List.getElem_cons_zero,List.getElem_cons_succ];go_simp
  simp only [List.getElem_toArray,List.getElem_cons_zero,List.getElem_cons_succ,Act.put,List.setIfInBounds_toArray,List.set_cons_zero,List.set_cons_succ]
  refine wpAnyH_take (i:=4) (v:=.int .i64 ((i:Int)+1)) rfl (by kernel_rfl) (by kernel_rfl) (by kernel_rfl) (fun _ _ _ h=>h) (Or.inl ⟨by rfl,?_⟩) hHeld ?_
  ·intro w hSw;(try dsimp only at hSw);simp only [List.getElem_toArray,List.getElem_cons_zero,List.getElem_cons_succ];go_simp
  simp only [List.getElem_toArray,List.getElem_cons_zero,List.getElem_cons_succ,Act.put,List.setIfInBounds_toArray,List.set_cons_zero,List.set_cons_succ]
  refine wpAnyH_take (i:=5) (v:=.slice (some ⟨b,0,none⟩) (n-(i+1)) (i+1-(i+1))) rfl (by kernel_rfl) (by kernel_rfl) (by kernel_rfl) (fun _ _ _ h=>h) (Or.inl ⟨by rfl,?_⟩) hHeld ?_
  ·intro w hSw;(try dsimp only at hSw);simp only [List.getElem_toArray,List.getElem_cons_zero,List.getElem_cons_succ];go_simp
  simp only [List.getElem_toArray,List.getElem_cons_zero,List.getElem_cons_succ,Act.put,List.setIfInBounds_toArray,List.set_cons_zero,List.set_cons_succ]
  refine wpAnyH_ready (rs:=[6]) (by kernel_rfl) (by simp) ?_
  refine AllReadyH.cons rfl (fun K' hK=>?_) AllReadyH.nil
  refine step_append_runI (by rfl) _ _ 22 22 (by rfl) _ _ (by rfl) (by rfl) HAP.out ?_
  refine hK.out _ _ trivial (fun hHeld'=>?_)
  clear hK K' hHeld
  have hHeld:=hHeld'
  clear hHeld'
  refine wpAnyH_take (i:=7) (v:=.slice (some ⟨b,0,none⟩) (n-1) (i+1)) rfl (by kernel_rfl) (by kernel_rfl) (by kernel_rfl) (fun _ _ _ h=>h) (Or.inl ⟨by rfl,?_⟩) hHeld ?_
  ·intro w hSw;(try dsimp only at hSw);simp only [List.getElem_toArray,List.getElem_cons_zero,List.getElem_cons_succ];go_simp
  simp only [List.getElem_toArray,List.getElem_cons_zero,List.getElem_cons_succ,Act.put,List.setIfInBounds_toArray,List.set_cons_zero,List.set_cons_succ]
  refine wpAnyH_done (by kernel_rfl) ?_ _
  go_wp2_with fail
  rw [HCL.out]
  go_wp2_with fail
  go_ret
  exact ⟨rfl,HEND.out⟩
 ·rw [if_neg hci] at hap
  have HAP:Hid _:=hap
  clear hap
  go_enter Tryz.func47,Tryz.ntmps47
  go_upto_region 5 with fail
  refine wp_region_held_drew (S:=fun _=>True) (by kernel_rfl) (trivial) (fun hHeld=>?_)
  refine wpAnyH_take (i:=0) (v:=.slice (some ⟨b,0,none⟩) n c) rfl (by kernel_rfl) (by kernel_rfl) (by kernel_rfl) (fun _ _ _ h=>h) (Or.inl ⟨by rfl,?_⟩) hHeld ?_
  ·intro w hSw;(try dsimp only at hSw);simp only [List.getElem_toArray,List.getElem_cons_zero];go_simp
  simp only [List.getElem_toArray,List.getElem_cons_zero,Act.put,List.setIfInBounds_toArray,List.set_cons_zero,List.set_cons_succ]
  refine wpAnyH_take (i:=1) (v:=.int .i64 (i:Int)) rfl (by kernel_rfl) (by kernel_rfl) (by kernel_rfl) (fun _ _ _ h=>h) (Or.inl ⟨by rfl,?_⟩) hHeld ?_
  ·intro w hSw;(try dsimp only at hSw);simp only [List.getElem_toArray,List.getElem_cons_zero,List.getElem_cons_succ];go_simp
  simp only [List.getElem_toArray,List.getElem_cons_zero,List.getElem_cons_succ,Act.put,List.setIfInBounds_toArray,List.set_cons_zero,List.set_cons_succ]
  refine wpAnyH_take (i:=2) (v:=.slice (some ⟨b,0,none⟩) i c) rfl (by kernel_rfl) (by kernel_rfl) (by kernel_rfl) (fun _ _ _ h=>h) (Or.inl ⟨by rfl,?_⟩) hHeld ?_
  ·intro w hSw;(try dsimp only at hSw);simp only [List.getElem_toArray,List.getElem_cons_zero,List.getElem_cons_succ];go_simp
  simp only [List.getElem_toArray,List.getElem_cons_zero,List.getElem_cons_succ,Act.put,List.setIfInBounds_toArray,List.set_cons_zero,List.set_cons_succ]
  refine wpAnyH_take (i:=3) (v:=.slice (some ⟨b,0,none⟩) n c) rfl (by kernel_rfl) (by kernel_rfl) (by kernel_rfl) (fun _ _ _ h=>h) (Or.inl ⟨by rfl,?_⟩) hHeld ?_
  ·intro w hSw;(try dsimp only at hSw);simp only [List.getElem_toArray,List.getElem_cons_zero,List.getElem_cons_succ];go_simp
  simp only [List.getElem_toArray,List.getElem_cons_zero,List.getElem_cons_succ,Act.put,List.setIfInBounds_toArray,List.set_cons_zero,List.set_cons_succ]
  refine wpAnyH_take (i:=4) (v:=.int .i64 ((i:Int)+1)) rfl (by kernel_rfl) (by kernel_rfl) (by kernel_rfl) (fun _ _ _ h=>h) (Or.inl ⟨by rfl,?_⟩) hHeld ?_
  ·intro w hSw;(try dsimp only at hSw);simp only [List.getElem_toArray,List.getElem_cons_zero,List.getElem_cons_succ];go_simp
  simp only [List.getElem_toArray,List.getElem_cons_zero,List.getElem_cons_succ,Act.put,List.setIfInBounds_toArray,List.set_cons_zero,List.set_cons_succ]
  refine wpAnyH_take (i:=5) (v:=.slice (some ⟨b,(i+1)*5,none⟩) (n-(i+1)) (c-(i+1))) rfl (by kernel_rfl) (by kernel_rfl) (by kernel_rfl) (fun _ _ _ h=>h) (Or.inl ⟨by rfl,?_⟩) hHeld ?_
  ·intro w hSw;(try dsimp only at hSw);simp only [List.getElem_toArray,List.getElem_cons_zero,List.getElem_cons_succ];go_simp
  simp only [List.getElem_toArray,List.getElem_cons_zero,List.getElem_cons_succ,Act.put,List.setIfInBounds_toArray,List.set_cons_zero,List.set_cons_succ]
  refine wpAnyH_ready (rs:=[6]) (by kernel_rfl) (by simp) ?_
  refine AllReadyH.cons rfl (fun K' hK=>?_) AllReadyH.nil
  refine step_append_runI (by rfl) _ _ 22 22 (by rfl) _ _ (by rfl) (by rfl) HAP.out ?_
  refine hK.out _ _ trivial (fun hHeld'=>?_)
  clear hK K' hHeld
  have hHeld:=hHeld'
  clear hHeld'
  refine wpAnyH_take (i:=7) (v:=.slice (some ⟨b,0,none⟩) (n-1) c) rfl (by kernel_rfl) (by kernel_rfl) (by kernel_rfl) (fun _ _ _ h=>h) (Or.inl ⟨by rfl,?_⟩) hHeld ?_
  ·intro w hSw;(try dsimp only at hSw);simp only [List.getElem_toArray,List.getElem_cons_zero,List.getElem_cons_succ];go_simp
  simp only [List.getElem_toArray,List.getElem_cons_zero,List.getElem_cons_succ,Act.put,List.setIfInBounds_toArray,List.set_cons_zero,List.set_cons_succ]
  refine wpAnyH_done (by kernel_rfl) ?_ _
  go_wp2_with fail
  rw [HCL.out]
  go_wp2_with fail
  go_ret
  exact ⟨rfl,HEND.out⟩
end Go.Proofs.YtpjjpmikhjlgnaaGreatDoor
namespace Go.Proofs.YtpjjpmikhjlgnaaGreatDoor
set_option maxHeartbeats 4000000
set_option maxRecDepth 100000
open Go.RowKit
attribute [local go_sem ↓] Go.wp_at_zero Go.wp_at_succ

def DropPost (a : Nat → Addr) (d : Nat) (t : Tree) (s : ByteArray) (w : World) (e : Ending) (w' : World) : Prop := Below w.heap.size w w' ∧
  ((∃ er, dropR d t s = .error er ∧ e = .returned (.tuple #[.agg #[.string { data := #[] }, .string { data := #[] }, .bool false, .slice none 0 0], .iface 181 (.pointer (some (a er)))])) ∨
   (∃ Y u, dropR d t s = .ok Y ∧ e = .returned (.tuple #[.agg #[.string Y.kind, .string Y.data, .bool Y.exec, u], .nilIface]) ∧ Fresh w w' (d + 1) Y.kids u))

theorem drop_any (a:Nat->Addr) (d B:Nat) (t:Tree) (u:Value) (s:ByteArray) (w:World) (S:PSen a w) (hB:B<=w.heap.size) (hl:Lies w B d t.kids u) (hal:Alive ck ckOk 0 (pre d ByteArray.empty 0 t)) (hs:s.size<4294967281) :
  Calls Tryz.prog 17 #[.agg #[.string t.kind,.string t.data,.bool t.exec,u],.string s] w (DropPost a d t s w):=by
 obtain ⟨ta,tc,rfl⟩:=hl.form
 have hfit:Fit d t:=hl.fit
 have hA:Below w.heap.size w ((w.alloc (.cells #[.string t.kind,.string t.data,.bool t.exec,.slice ta t.kids.length tc] 24)).alloc (.cells #[.string { data:=#[] },.string { data:=#[] },.bool false,.slice none 0 0] 24)):=((Below.refl _ _).alloc (Nat.le_refl _) _).alloc (by simp) _
 have hz:((w.alloc (.cells #[.string t.kind,.string t.data,.bool t.exec,.slice ta t.kids.length tc] 24)).alloc (.cells #[.string { data:=#[] },.string { data:=#[] },.bool false,.slice none 0 0] 24)).heap.size=w.heap.size+2:=by simp
 have hbox:((w.alloc (.cells #[.string t.kind,.string t.data,.bool t.exec,.slice ta t.kids.length tc] 24)).alloc (.cells #[.string { data:=#[] },.string { data:=#[] },.bool false,.slice none 0 0] 24)).heap[w.heap.size]? = some (.cells #[.string t.kind,.string t.data,.bool t.exec,.slice ta t.kids.length tc] 24 (0,0)):=by
  rw [Below.heap_alloc _ _ _ (by simp)];exact row_alloc' _ _ _
 have hres:((w.alloc (.cells #[.string t.kind,.string t.data,.bool t.exec,.slice ta t.kids.length tc] 24)).alloc (.cells #[.string { data:=#[] },.string { data:=#[] },.bool false,.slice none 0 0] 24)).heap[w.heap.size+1]? = some (.cells #[.string { data:=#[] },.string { data:=#[] },.bool false,.slice none 0 0] 24 (0,0)):=by
  have:=row_alloc' (w.alloc (.cells #[.string t.kind,.string t.data,.bool t.exec,.slice ta t.kids.length tc] 24)) #[.string { data:=#[] },.string { data:=#[] },.bool false,.slice none 0 0] 24
  simpa using this
 have HBG:Hid _:=pbegin_any a d B t (.slice ta t.kids.length tc) s _ (S.below hA) (by rw [hz];omega) (hl.below hA hB) hal hs
 have HSE:Hid (PSen a w):=S
 have HA:Hid _:=hA
 have HLI:Hid (Lies w B d t.kids (.slice ta t.kids.length tc)):=hl
 have HBOX:Hid _:=hbox
 have HRES:Hid _:=hres
 have HFIT:Hid _:=hfit
 clear hA S hl hal hbox hres hfit
 go_enter Tryz.func17,Tryz.ntmps17
 go_wp2_with fail
 refine Calls.mono HBG.out ?_
 clear HBG
 rintro e w1 ⟨hb1,h1⟩
 have HB1:Hid (Below w.heap.size w w1):=HA.out.trans (hb1.mono (by omega))
 have hz1:=hb1.size
 rw [hz] at hz1
 have hres1:=(hb1.block (w.heap.size+1) (by omega)).trans HRES.out
 have hbox1:=(hb1.block w.heap.size (by omega)).trans HBOX.out
 have HR1:Hid _:=hres1
 obtain ⟨⟨q0,q1,q2,q3⟩,g0,g1,g2,g3⟩:=row4b hres1
 rcases h1 with ⟨er,ht,rfl⟩|⟨ht,h2,rfl⟩|⟨l,v,ht,h2,rfl,hv,hroom⟩
 ·have HF:Hid (dropR d t s = .error er):=dropR_tree ht
  clear ht hb1 hres1 hbox1
  go_wp2_with fail
  refine bodyPost_ret (v:=.tuple #[.agg #[.string { data:=#[] },.string { data:=#[] },.bool false,.slice none 0 0],.iface 181 (.pointer (some (a er)))]) (by simp [results,Tryz.results17,go_sem,q0,q1,q2,q3]) rfl ?_
  have hS:=((((But1.refl (w.heap.size+1) w1).set 0 (.string { data:=#[] })).set 1 (.string { data:=#[] })).set 2 (.bool false)).set 3 (.slice none 0 0)
  exact ⟨(hS.below HB1.out (by omega)),.inl ⟨er,HF.out,rfl⟩⟩
 ·have HF:Hid (dropR d t s = .error 4):=dropR_split ht h2
  clear ht h2 hb1 hres1 hbox1
  go_wp2_with fail
  refine bodyPost_ret (v:=.tuple #[.agg #[.string { data:=#[] },.string { data:=#[] },.bool false,.slice none 0 0],.iface 181 (.pointer (some (a 4)))]) (by simp [results,Tryz.results17,go_sem,q0,q1,q2,q3]) rfl ?_
  have hS:=((((But1.refl (w.heap.size+1) w1).set 0 (.string { data:=#[] })).set 1 (.string { data:=#[] })).set 2 (.bool false)).set 3 (.slice none 0 0)
  exact ⟨(hS.below HB1.out (by omega)),.inl ⟨4,HF.out,rfl⟩⟩
 ·obtain ⟨⟨y0,y1,y2,y3⟩,_⟩:=row4b hbox1
  rcases List.eq_nil_or_concat l with rfl|⟨m,x,rfl⟩
  ·have HF:Hid (dropR d t s = .error 2):=dropR_top ht h2
   obtain ⟨va,vc,rfl,_⟩:=hroom
   have c5:=(HSE.out.below HB1.out).is.shape
   have z5:=lt_of_cell c5
   have z5':2<w.heap.size:=lt_of_cell HSE.out.is.shape
   have hne5:2≠w.heap.size+1:=by omega
   clear ht h2 hb1 hres1 hbox1 hv y0 y1 y2 y3
   go_wp2_with fail
   go_region
   go_wp2_with fail
   refine bodyPost_ret (v:=.tuple #[.agg #[.string { data:=#[] },.string { data:=#[] },.bool false,.slice none 0 0],.iface 181 (.pointer (some (a 2)))]) (by simp [results,Tryz.results17,go_sem,q0,q1,q2,q3]) rfl ?_
   have hS:=((((But1.refl (w.heap.size+1) w1).set 0 (.string { data:=#[] })).set 1 (.string { data:=#[] })).set 2 (.bool false)).set 3 (.slice none 0 0)
   exact ⟨(hS.below HB1.out (by omega)).drew,.inl ⟨2,HF.out,rfl⟩⟩
  ·rw [List.concat_eq_append] at *
   have HCP:Hid _:=copy_own w.heap.size d t (.slice ta t.kids.length tc) w1 (by omega) ((HLI.out.below HB1.out hB).up hB (Nat.le_refl _))
   obtain ⟨va,vc,rfl,hvc,hvm⟩:=hroom
   have hlm:(m ++ [x]).length=m.length+1:=by simp
   obtain ⟨va',vc',ev,hcs⟩:=hv
   simp only [Value.slice.injEq] at ev
   obtain ⟨rfl,_,rfl⟩:=ev
   obtain ⟨nb,no,rfl,hnx⟩:=hcs m.length x (by simp)
   have htm:Texts w1 (.slice (some ⟨nb,no,none⟩) m.length vc) m:=⟨_,_,rfl,fun i y hy=>hcs i y (by rw [List.getElem?_append_left (List.getElem?_eq_some_iff.1 hy).1];exact hy)⟩
   have hl8:=splitR_len h2
   rw [hlm] at hvc hl8 ⊢
   have HTM:Hid (Texts w1 (.slice (some ⟨nb,no,none⟩) m.length vc) m):=htm
   have HNX:Hid _:=hnx
   have HT:Hid (treeErr d t=none):=ht
   have H2:Hid (splitR s=some (m ++ [x])):=h2
   have hnl:=lt_of_cell hnx
   have hi0:(0:Int)<=(m.length:Int):=by omega
   have hi1:(m.length:Int)<(m.length:Int)+1:=by omega
   have hi2:(m.length:Int)<=(vc:Int):=by omega
   have hw1:IntKind.i64.wrap ((m.length:Int)+1-1)=(m.length:Int):=by rw [IntKind.wrap_i64];omega
   unfold maxLen at hvm
   have hvc0:¬vc=0:=by omega
   clear ht h2 hb1 hres1 hbox1 htm hnx hcs hlm q0 q1 q2 q3 g0 g1 g2 g3
   go_wp2_with fail
   refine Calls.mono HCP.out ?_
   clear HCP y0 y1 y2 y3
   rintro e w2 ⟨u2,rfl,ho2,hb2⟩
   obtain ⟨ra,rc,rfl⟩:=ho2.form
   have hz2:=hb2.size
   have HB2:Hid (Below w.heap.size w w2):=HB1.out.trans (hb2.mono HB1.out.size)
   have hA3:Below w2.heap.size w2 (w2.alloc (.cells #[.string t.kind,.string t.data,.bool t.exec,.slice ra t.kids.length rc] 24)):=(Below.refl _ _).alloc (Nat.le_refl _) _
   have hz3:(w2.alloc (.cells #[.string t.kind,.string t.data,.bool t.exec,.slice ra t.kids.length rc] 24)).heap.size=w2.heap.size+1:=by simp
   have hbx3:=row_alloc' w2 #[.string t.kind,.string t.data,.bool t.exec,.slice ra t.kids.length rc] 24
   have hO3:OwnT (w2.alloc (.cells #[.string t.kind,.string t.data,.bool t.exec,.slice ra t.kids.length rc] 24)) (fun b=>w1.heap.size<=b/\b<w2.heap.size) d t.kids (.slice ra t.kids.length rc):=ho2.kept (fun q hq=>hA3.block q hq.2) (fun _ hq=>hq)
   obtain ⟨⟨z0,z1,z2,z3⟩,_⟩:=row4b hbx3
   have HAT:Hid _:=at_any (w2.alloc (.cells #[.string t.kind,.string t.data,.bool t.exec,.slice ra t.kids.length rc] 24)).heap.size d w2.heap.size 0 t m _ _ (Nat.le_refl _) ⟨by omega,_,z0,z1,z2,z3,hO3.liesQ.lies fun q hq=>by omega⟩ (rises_well HFIT.out HT.out) ((HTM.out.below hb2).below hA3) (by omega)
   have HB3:Hid (Below w.heap.size w (w2.alloc (.cells #[.string t.kind,.string t.data,.bool t.exec,.slice ra t.kids.length rc] 24))):=HB2.out.trans (hA3.mono HB2.out.size)
   have HR3:Hid _:=(hA3.block (w.heap.size+1) (by omega)).trans ((hb2.block (w.heap.size+1) (by omega)).trans HR1.out)
   have cn3:(w2.alloc (.cells #[.string t.kind,.string t.data,.bool t.exec,.slice ra t.kids.length rc] 24)).cell? ⟨nb,no+m.length,none⟩=some (.string x):=by rw [hA3.cell (p:=⟨nb,no+m.length,none⟩) (show nb<w2.heap.size by omega),hb2.cell (p:=⟨nb,no+m.length,none⟩) hnl];exact HNX.out
   have HO3:Hid _:=hO3
   have HBX3:Hid _:=hbx3
   clear hb2 ho2 hbx3 hA3 HTM hO3 z0 z1 z2 z3
   go_wp2_with fail
   refine Calls.mono HAT.out ?_
   clear HAT
   generalize (w2.alloc (.cells #[.string t.kind,.string t.data,.bool t.exec,.slice ra t.kids.length rc] 24))=w3 at *
   have HCN:Hid _:=cn3
   rintro e w4 ⟨hb4,⟨hat,rfl⟩|⟨k,d',b,o,hat,rfl,⟨hbl,ud,c0,c1,c2,c3,hl⟩,hd',had⟩⟩
   ·have HF:Hid (dropR d t s = .error 5):=dropR_none HT.out H2.out (atR_more _ _ _ hat)
    have HB4:Hid (Below w.heap.size w w4):=HB3.out.trans (hb4.mono HB3.out.size)
    have hres4:=(hb4.block (w.heap.size+1) (by omega)).trans HR3.out
    have hz4:=hb4.size
    obtain ⟨⟨q0,q1,q2,q3⟩,g0,g1,g2,g3⟩:=row4b hres4
    have c5:=(HSE.out.below HB4.out).no
    have z5:=lt_of_cell c5
    have z5':1<w.heap.size:=lt_of_cell HSE.out.no
    have hne5:1≠w.heap.size+1:=by omega
    clear hb4 hat hres4 cn3
    go_wp2_with fail
    go_region
    go_wp2_with fail
    refine bodyPost_ret (v:=.tuple #[.agg #[.string { data:=#[] },.string { data:=#[] },.bool false,.slice none 0 0],.iface 181 (.pointer (some (a 5)))]) (by simp [results,Tryz.results17,go_sem,q0,q1,q2,q3]) rfl ?_
    have hS:=((((But1.refl (w.heap.size+1) w4).set 0 (.string { data:=#[] })).set 1 (.string { data:=#[] })).set 2 (.bool false)).set 3 (.slice none 0 0)
    exact ⟨(hS.below HB4.out (by omega)).drew,.inl ⟨5,HF.out,rfl⟩⟩
   ·obtain ⟨da,dc,rfl⟩:=hl.form
    have hz4:=hb4.size
    have HB4:Hid (Below w3.heap.size w3 w4):=hb4
    have hrk:Rises k.kids:=by
     obtain ⟨e,he⟩:=rises_at (rises_well HFIT.out HT.out) hat
     exact rises_top he
    have c3':w4.cell? ⟨b,o+3,none⟩=some (.slice da k.kids.length dc):=by rw [hb4.cell (p:=⟨b,o+3,none⟩) hbl];exact c3
    have cn':w4.cell? ⟨nb,no+m.length,none⟩=some (.string x):=by rw [hb4.cell (p:=⟨nb,no+m.length,none⟩) (show nb<w3.heap.size by omega)];exact cn3
    have hfk:∀w',Below w4.heap.size w4 w'->Calls Tryz.prog 46 #[.slice da k.kids.length dc,.string x] w' fun e w''=>e = .returned (.tuple #[.int .i64 (placeOf k.kids x:Int),.bool (thereAt k.kids x)])/\Below w'.heap.size w' w'':=fun w' h=>find_any w3.heap.size d' k.kids (.slice da k.kids.length dc) x w' (by have:=h.size;omega) (hl.below (hb4.trans (h.mono hz4)) (Nat.le_refl _)) hrk
    have HS10:Hid (∀wx,Below w4.drew.heap.size w4.drew wx->((fun w'=>w'.cell? ⟨b,o+3,none⟩=some (.slice da k.kids.length dc)/\w'.cell? ⟨nb,no+m.length,none⟩=some (.string x)) wx:Prop)):=fun wx h=>by
     have h':Below w4.heap.size w4 wx:=(Below.refl _ _).drew.trans h
     refine ⟨?_,?_⟩
     ·rw [h'.cell (p:=⟨b,o+3,none⟩) (show b<w4.heap.size by omega)];exact c3'
     ·rw [h'.cell (p:=⟨nb,no+m.length,none⟩) (show nb<w4.heap.size by omega)];exact cn'
    have HATK:Hid _:=hat
    have HAD:Hid _:=had
    have HC3:Hid _:=c3
    have hbl3:=hbl
    have HL:Hid _:=hl
    clear hb4 hat c0 c1 c2 c3 hl had hrk
    cases hth:thereAt k.kids x with
    | false =>
     have HF:Hid (dropR d t s = .error 5):=dropR_none HT.out H2.out (by rw [atR_snoc,HATK.out];show kidOf k x=none;unfold kidOf;rw [hth];rfl)
     have HF10:Hid _:=hfk
     rw [hth] at HF10
     clear hfk hth
     generalize placeOf k.kids x=pl at *
     go_upto_region 10 with fail
     refine wp_region_held_drew (S:=fun w'=>w'.cell? ⟨b,o+3,none⟩=some (.slice da k.kids.length dc)/\w'.cell? ⟨nb,no+m.length,none⟩=some (.string x)) (by kernel_rfl) (⟨c3',cn'⟩) (fun hHeld=>?_)
     refine wpAnyH_take (i:=0) (v:=.pointer (some ⟨b,o,none⟩)) rfl (by kernel_rfl) (by kernel_rfl) (by kernel_rfl) (fun _ _ _ h=>h) (Or.inl ⟨by rfl,?_⟩) hHeld ?_
     ·intro w hSw;(try dsimp only at hSw);simp only [List.getElem_toArray,List.getElem_cons_zero];go_simp
     simp only [List.getElem_toArray,List.getElem_cons_zero,Act.put,List.setIfInBounds_toArray,List.set_cons_zero,List.set_cons_succ]
     refine wpAnyH_take (i:=1) (v:=.pointer (some ⟨b,o,none⟩)) rfl (by kernel_rfl) (by kernel_rfl) (by kernel_rfl) (fun _ _ _ h=>h) (Or.inl ⟨by rfl,?_⟩) hHeld ?_
     ·intro w hSw;(try dsimp only at hSw);simp only [List.getElem_toArray,List.getElem_cons_zero,List.getElem_cons_succ];go_simp
     simp only [List.getElem_toArray,List.getElem_cons_zero,List.getElem_cons_succ,Act.put,List.setIfInBounds_toArray,List.set_cons_zero,List.set_cons_succ]
     refine wpAnyH_take (i:=2) (v:=.pointer (some ⟨b,o+3,none⟩)) rfl (by kernel_rfl) (by kernel_rfl) (by kernel_rfl) (fun _ _ _ h=>h) (Or.inl ⟨by rfl,?_⟩) hHeld ?_
     ·intro w hSw;(try dsimp only at hSw);simp only [List.getElem_toArray,List.getElem_cons_zero,List.getElem_cons_succ];go_simp
     simp only [List.getElem_toArray,List.getElem_cons_zero,List.getElem_cons_succ,Act.put,List.setIfInBounds_toArray,List.set_cons_zero,List.set_cons_succ]
     refine wpAnyH_take (i:=3) (v:=.slice da k.kids.length dc) rfl (by kernel_rfl) (by kernel_rfl) (by kernel_rfl) (fun _ _ _ h=>h) (Or.inl ⟨by rfl,?_⟩) hHeld ?_
     ·intro w hSw;(try dsimp only at hSw);simp only [List.getElem_toArray,List.getElem_cons_zero,List.getElem_cons_succ];obtain ⟨s1,s2⟩:=hSw;go_simp
     simp only [List.getElem_toArray,List.getElem_cons_zero,List.getElem_cons_succ,Act.put,List.setIfInBounds_toArray,List.set_cons_zero,List.set_cons_succ]
     refine wpAnyH_take (i:=4) (v:=.slice (some ⟨nb,no,none⟩) (m.length+1) vc) rfl (by kernel_rfl) (by kernel_rfl) (by kernel_rfl) (fun _ _ _ h=>h) (Or.inl ⟨by rfl,?_⟩) hHeld ?_
     ·intro w hSw;(try dsimp only at hSw);simp only [List.getElem_toArray,List.getElem_cons_zero,List.getElem_cons_succ];go_simp
     simp only [List.getElem_toArray,List.getElem_cons_zero,List.getElem_cons_succ,Act.put,List.setIfInBounds_toArray,List.set_cons_zero,List.set_cons_succ]
     refine wpAnyH_take (i:=5) (v:=.slice (some ⟨nb,no,none⟩) (m.length+1) vc) rfl (by kernel_rfl) (by kernel_rfl) (by kernel_rfl) (fun _ _ _ h=>h) (Or.inl ⟨by rfl,?_⟩) hHeld ?_
     ·intro w hSw;(try dsimp only at hSw);simp only [List.getElem_toArray,List.getElem_cons_zero,List.getElem_cons_succ];go_simp
     simp only [List.getElem_toArray,List.getElem_cons_zero,List.getElem_cons_succ,Act.put,List.setIfInBounds_toArray,List.set_cons_zero,List.set_cons_succ]
     refine wpAnyH_take (i:=6) (v:=.int .i64 ((m.length:Int)+1)) rfl (by kernel_rfl) (by kernel_rfl) (by kernel_rfl) (fun _ _ _ h=>h) (Or.inl ⟨by rfl,?_⟩) hHeld ?_
     ·intro w hSw;(try dsimp only at hSw);simp only [List.getElem_toArray,List.getElem_cons_zero,List.getElem_cons_succ];go_simp
     simp only [List.getElem_toArray,List.getElem_cons_zero,List.getElem_cons_succ,Act.put,List.setIfInBounds_toArray,List.set_cons_zero,List.set_cons_succ]
     refine wpAnyH_take (i:=7) (v:=.int .i64 (m.length:Int)) rfl (by kernel_rfl) (by kernel_rfl) (by kernel_rfl) (fun _ _ _ h=>h) (Or.inl ⟨by rfl,?_⟩) hHeld ?_
     ·intro w hSw;(try dsimp only at hSw);simp only [List.getElem_toArray,List.getElem_cons_zero,List.getElem_cons_succ];go_simp;rw [IntKind.wrap_i64];omega
     simp only [List.getElem_toArray,List.getElem_cons_zero,List.getElem_cons_succ,Act.put,List.setIfInBounds_toArray,List.set_cons_zero,List.set_cons_succ]
     refine wpAnyH_take (i:=8) (v:=.pointer (some ⟨nb,no+m.length,none⟩)) rfl (by kernel_rfl) (by kernel_rfl) (by kernel_rfl) (fun _ _ _ h=>h) (Or.inl ⟨by rfl,?_⟩) hHeld ?_
     ·intro w hSw;(try dsimp only at hSw);simp only [List.getElem_toArray,List.getElem_cons_zero,List.getElem_cons_succ];go_simp
     simp only [List.getElem_toArray,List.getElem_cons_zero,List.getElem_cons_succ,Act.put,List.setIfInBounds_toArray,List.set_cons_zero,List.set_cons_succ]
     refine wpAnyH_take (i:=9) (v:=.string x) rfl (by kernel_rfl) (by kernel_rfl) (by kernel_rfl) (fun _ _ _ h=>h) (Or.inl ⟨by rfl,?_⟩) hHeld ?_
     ·intro w hSw;(try dsimp only at hSw);simp only [List.getElem_toArray,List.getElem_cons_zero,List.getElem_cons_succ];obtain ⟨s1,s2⟩:=hSw;go_simp
     simp only [List.getElem_toArray,List.getElem_cons_zero,List.getElem_cons_succ,Act.put,List.setIfInBounds_toArray,List.set_cons_zero,List.set_cons_succ]
     refine wpAnyH_ready (rs:=[10]) (by kernel_rfl) (by simp) ?_
     refine AllReadyH.cons rfl (fun K' hK=>?_) AllReadyH.nil
     simp only [List.getElem_toArray,List.getElem_cons_zero,List.getElem_cons_succ]
     go_simp
     refine Calls.mono (HF10.out _ (Below.refl _ _).drew) ?_
     rintro e wx ⟨rfl,hb5⟩
     go_wp2_with fail
     refine hK.out _ _ (HS10.out _ hb5) (fun hHeld'=>?_)
     clear hK K' hHeld
     have hHeld:=hHeld'
     clear hHeld'
     refine wpAnyH_take (i:=11) (v:=.tuple #[.int .i64 (pl:Int),.bool false]) rfl (by kernel_rfl) (by kernel_rfl) (by kernel_rfl) (fun _ _ _ h=>h) (Or.inl ⟨by rfl,?_⟩) hHeld ?_
     ·intro w hSw;(try dsimp only at hSw);simp only [List.getElem_toArray,List.getElem_cons_zero,List.getElem_cons_succ];go_simp
     simp only [List.getElem_toArray,List.getElem_cons_zero,List.getElem_cons_succ,Act.put,List.setIfInBounds_toArray,List.set_cons_zero,List.set_cons_succ]
     refine wpAnyH_take (i:=12) (v:=.int .i64 (pl:Int)) rfl (by kernel_rfl) (by kernel_rfl) (by kernel_rfl) (fun _ _ _ h=>h) (Or.inl ⟨by rfl,?_⟩) hHeld ?_
     ·intro w hSw;(try dsimp only at hSw);simp only [List.getElem_toArray,List.getElem_cons_zero,List.getElem_cons_succ];go_simp
     simp only [List.getElem_toArray,List.getElem_cons_zero,List.getElem_cons_succ,Act.put,List.setIfInBounds_toArray,List.set_cons_zero,List.set_cons_succ]
     refine wpAnyH_take (i:=13) (v:=.bool false) rfl (by kernel_rfl) (by kernel_rfl) (by kernel_rfl) (fun _ _ _ h=>h) (Or.inl ⟨by rfl,?_⟩) hHeld ?_
     ·intro w hSw;(try dsimp only at hSw);simp only [List.getElem_toArray,List.getElem_cons_zero,List.getElem_cons_succ];go_simp
     simp only [List.getElem_toArray,List.getElem_cons_zero,List.getElem_cons_succ,Act.put,List.setIfInBounds_toArray,List.set_cons_zero,List.set_cons_succ]
     refine wpAnyH_take (i:=14) (v:=.int .i64 (pl:Int)) rfl (by kernel_rfl) (by kernel_rfl) (by kernel_rfl) (fun _ _ _ h=>h) (Or.inl ⟨by rfl,?_⟩) hHeld ?_
     ·intro w hSw;(try dsimp only at hSw);simp only [List.getElem_toArray,List.getElem_cons_zero,List.getElem_cons_succ];go_simp
     simp only [List.getElem_toArray,List.getElem_cons_zero,List.getElem_cons_succ,Act.put,List.setIfInBounds_toArray,List.set_cons_zero,List.set_cons_succ]
     refine wpAnyH_take (i:=15) (v:=.bool false) rfl (by kernel_rfl) (by kernel_rfl) (by kernel_rfl) (fun _ _ _ h=>h) (Or.inl ⟨by rfl,?_⟩) hHeld ?_
     ·intro w hSw;(try dsimp only at hSw);simp only [List.getElem_toArray,List.getElem_cons_zero,List.getElem_cons_succ];go_simp
     simp only [List.getElem_toArray,List.getElem_cons_zero,List.getElem_cons_succ,Act.put,List.setIfInBounds_toArray,List.set_cons_zero,List.set_cons_succ]
     refine wpAnyH_done (by kernel_rfl) ?_ _
     have HB5:Hid (Below w.heap.size w wx):=HB3.out.trans ((HB4.out.trans (((Below.refl _ _).drew.trans hb5).mono HB4.out.size)).mono HB3.out.size)
     have hz5:w4.heap.size<=wx.heap.size:=hb5.size
     have hres5:wx.heap[w.heap.size+1]? = _:=(hb5.block (w.heap.size+1) (show w.heap.size+1<w4.heap.size by omega)).trans ((HB4.out.block (w.heap.size+1) (by omega)).trans HR3.out)
     obtain ⟨⟨q0,q1,q2,q3⟩,g0,g1,g2,g3⟩:=row4b hres5
     have c5:=(HSE.out.below HB5.out).no
     have z5:=lt_of_cell c5
     have z5':1<w.heap.size:=lt_of_cell HSE.out.no
     have hne5:1≠w.heap.size+1:=by omega
     clear hb5 hres5 c3' cn' cn3
     go_wp2_with fail
     go_region
     go_wp2_with fail
     refine bodyPost_ret (v:=.tuple #[.agg #[.string { data:=#[] },.string { data:=#[] },.bool false,.slice none 0 0],.iface 181 (.pointer (some (a 5)))]) (by simp [results,Tryz.results17,go_sem,q0,q1,q2,q3]) rfl ?_
     have hS:=((((But1.refl (w.heap.size+1) wx).set 0 (.string { data:=#[] })).set 1 (.string { data:=#[] })).set 2 (.bool false)).set 3 (.slice none 0 0)
     exact ⟨(hS.below HB5.out (by omega)).drew,.inl ⟨5,HF.out,rfl⟩⟩
    | true =>
     obtain ⟨y,hy,hyx⟩:=there_some hth
     have hpl:placeOf k.kids x<k.kids.length:=(List.getElem?_eq_some_iff.1 hy).1
     have hkk:atR (m ++ [x]) t=some y.2:=by
      rw [atR_snoc,HATK.out]
      show kidOf k x=some y.2
      unfold kidOf
      rw [if_pos hth,hy]
      rfl
     have HF:Hid (dropR d t s = .ok (dropAt (m ++ [x]) t)):=dropR_ok HT.out H2.out hkk
     have HF10:Hid _:=hfk
     rw [hth] at HF10
     have HSD:Hid (setAt { k with kids:=k.kids.eraseIdx (placeOf k.kids x) } m t=dropAt (m ++ [x]) t):=set_drop HATK.out
     have hkl:=at_few HFIT.out HT.out HATK.out
     obtain ⟨⟨z0,z1,z2,z3⟩,_⟩:=row4b HBX3.out
     obtain ⟨Qk,dk,ud,hC,hOk,_,hQk,hmb,hfz⟩:=own_at HO3.out (o0:=0) ⟨z0,z1,z2,z3⟩ (fun i=>free_of_row HBX3.out i) (fun q hq=>by omega) HATK.out HAD.out
     obtain rfl:ud = .slice da k.kids.length dc:=Option.some.inj (hC.kids.symm.trans HC3.out)
     obtain ⟨xs,hxo,hx1⟩:=own_row hOk
     obtain ⟨g,rfl⟩:∃g,da=some ⟨g,0,none⟩:=by
      rcases hxo.2 with ⟨_,e⟩|⟨g,cap,cur,e,_⟩
      ·omega
      ·simp only [Value.slice.injEq] at e
       exact ⟨g,e.1⟩
     have hQg:=own_block hOk g rfl
     have hgb:g≠b:=(hQk g hQg).2
     have hgl:w1.heap.size<=g/\g<w2.heap.size:=(hQk g hQg).1
     have hbw:w1.heap.size<=b:=by
      rcases hmb with rfl|hb
      ·have:=HAD.out.1;omega
      ·exact hb.1
     obtain ⟨s1,s2,s3⟩:=set_head (Y:={ k with kids:=k.kids.eraseIdx (placeOf k.kids x) }) HATK.out rfl rfl rfl
     rw [HSD.out] at s1 s2 s3
     have HX:Hid (∀wx,Below w3.heap.size w3 wx->wx.ownsRow 0 65 5 (.slice (some ⟨g,0,none⟩) k.kids.length dc) k.kids.length xs):=fun wx h=>ownsRow_ext' hxo fun q hq=>h.block q (by simp only [Value.ownBlock,Option.some.injEq] at hq;omega)
     have HNEW:Hid (∀wx w6,Below w3.heap.size w3 wx->w6.ownsRow 0 65 5 (.slice (some ⟨g,0,none⟩) (k.kids.length-1) dc) (k.kids.length-1) (xs.take (placeOf k.kids x*5)++xs.drop ((placeOf k.kids x+1)*5))->wx.grownBy w6 (some g) ->
       (w6.cell? ⟨b,o+3,none⟩=some (.slice (some ⟨g,0,none⟩) k.kids.length dc)/\w6.frozen? ⟨b,o+3,none⟩=false)/\∃u',(w6.setCell ⟨b,o+3,none⟩ (.slice (some ⟨g,0,none⟩) (k.kids.length-1) dc)).heap[w2.heap.size]? = some (.cells #[.string t.kind,.string t.data,.bool t.exec,u'] 24 (0,0)) /\
        OwnT (w6.setCell ⟨b,o+3,none⟩ (.slice (some ⟨g,0,none⟩) (k.kids.length-1) dc)) (fun q=>w1.heap.size<=q/\q<w6.heap.size) (d+1) (dropAt (m ++ [x]) t).kids u'/\Kept (fun q=>w1.heap.size<=q) wx (w6.setCell ⟨b,o+3,none⟩ (.slice (some ⟨g,0,none⟩) (k.kids.length-1) dc))):=fun wx w6 h h1 h2=>by
      have hw6:w6.heap[b]? = w3.heap[b]? := (h2.block b (by have:=h.size;omega) fun e=>hgb (Option.some.inj e).symm).trans (h.block b hbl3)
      have h2s:=h2.size
      have hs:=h.size
      obtain ⟨u',n1,n2,n3⟩:=drop_new (fun q hq=>⟨by omega,by omega⟩) ((h.block w2.heap.size (by omega)).trans HBX3.out) (HO3.out.kept (fun q hq=>h.block q (by omega)) (fun _ hq=>hq)) HATK.out (HAD.out.below h (fun b i v h=>lt_of_cell h)) (by rw [h.cell (p:=⟨b,o+3,none⟩) hbl3];exact HC3.out) hpl (HX.out wx h) h1 h2
      refine ⟨⟨by rw [World.cell?_of_block (w:=w3) hw6];exact HC3.out,by rw [World.frozen?_of_block (w:=w3) hw6];exact hfz _⟩,u',n1,?_,?_⟩
      ·rw [HSD.out] at n2
       exact n2.kept (fun _ _=>rfl) (fun q hq=>by rcases hq with hq|hq <;> omega)
      ·exact ⟨n3.os,n3.tape,n3.output,n3.size,fun q hq hc=>n3.block q hq fun e=>hc (by rcases e with e|e <;> omega)⟩
     have HDEL:Hid (∀wx,Below w3.heap.size w3 wx->Calls Tryz.prog 47 #[.slice (some ⟨g,0,none⟩) k.kids.length dc,.int .i64 (placeOf k.kids x:Int),.int .i64 ((placeOf k.kids x:Int)+1)] wx fun e w'=>e = .returned (.slice (some ⟨g,0,none⟩) (k.kids.length-1) dc)/\w'.ownsRow 0 65 5 (.slice (some ⟨g,0,none⟩) (k.kids.length-1) dc) (k.kids.length-1) (xs.take (placeOf k.kids x*5)++xs.drop ((placeOf k.kids x+1)*5))/\wx.grownBy w' (some g)):=fun wx h=>delete_any wx k.kids.length dc (placeOf k.kids x) g xs hpl (by omega) (HX.out wx h) hx1
     have HEQ:Hid ((dropAt (m ++ [x]) t).kind=t.kind/\(dropAt (m ++ [x]) t).data=t.data/\(dropAt (m ++ [x]) t).exec=t.exec):=⟨s1,s2,s3⟩
     clear hfk hth hy hyx hkk hC hOk hQk hmb hfz hxo hx1 hQg s1 s2 s3 z0 z1 z2 z3 HX
     generalize hplg:placeOf k.kids x=pl at *
     clear hplg
     go_upto_region 10 with fail
     refine wp_region_held_drew (S:=fun w'=>w'.cell? ⟨b,o+3,none⟩=some (.slice (some ⟨g,0,none⟩) k.kids.length dc)/\w'.cell? ⟨nb,no+m.length,none⟩=some (.string x)) (by kernel_rfl) (⟨c3',cn'⟩) (fun hHeld=>?_)
     refine wpAnyH_take (i:=0) (v:=.pointer (some ⟨b,o,none⟩)) rfl (by kernel_rfl) (by kernel_rfl) (by kernel_rfl) (fun _ _ _ h=>h) (Or.inl ⟨by rfl,?_⟩) hHeld ?_
     ·intro w hSw;(try dsimp only at hSw);simp only [List.getElem_toArray,List.getElem_cons_zero];go_simp
     simp only [List.getElem_toArray,List.getElem_cons_zero,Act.put,List.setIfInBounds_toArray,List.set_cons_zero,List.set_cons_succ]
     refine wpAnyH_take (i:=1) (v:=.pointer (some ⟨b,o,none⟩)) rfl (by kernel_rfl) (by kernel_rfl) (by kernel_rfl) (fun _ _ _ h=>h) (Or.inl ⟨by rfl,?_⟩) hHeld ?_
     ·intro w hSw;(try dsimp only at hSw);simp only [List.getElem_toArray,List.getElem_cons_zero,List.getElem_cons_succ];go_simp
     simp only [List.getElem_toArray,List.getElem_cons_zero,List.getElem_cons_succ,Act.put,List.setIfInBounds_toArray,List.set_cons_zero,List.set_cons_succ]
     refine wpAnyH_take (i:=2) (v:=.pointer (some ⟨b,o+3,none⟩)) rfl (by kernel_rfl) (by kernel_rfl) (by kernel_rfl) (fun _ _ _ h=>h) (Or.inl ⟨by rfl,?_⟩) hHeld ?_
     ·intro w hSw;(try dsimp only at hSw);simp only [List.getElem_toArray,List.getElem_cons_zero,List.getElem_cons_succ];go_simp
     simp only [List.getElem_toArray,List.getElem_cons_zero,List.getElem_cons_succ,Act.put,List.setIfInBounds_toArray,List.set_cons_zero,List.set_cons_succ]
     refine wpAnyH_take (i:=3) (v:=.slice (some ⟨g,0,none⟩) k.kids.length dc) rfl (by kernel_rfl) (by kernel_rfl) (by kernel_rfl) (fun _ _ _ h=>h) (Or.inl ⟨by rfl,?_⟩) hHeld ?_
     ·intro w hSw;(try dsimp only at hSw);simp only [List.getElem_toArray,List.getElem_cons_zero,List.getElem_cons_succ];obtain ⟨s1,s2⟩:=hSw;go_simp
     simp only [List.getElem_toArray,List.getElem_cons_zero,List.getElem_cons_succ,Act.put,List.setIfInBounds_toArray,List.set_cons_zero,List.set_cons_succ]
     refine wpAnyH_take (i:=4) (v:=.slice (some ⟨nb,no,none⟩) (m.length+1) vc) rfl (by kernel_rfl) (by kernel_rfl) (by kernel_rfl) (fun _ _ _ h=>h) (Or.inl ⟨by rfl,?_⟩) hHeld ?_
     ·intro w hSw;(try dsimp only at hSw);simp only [List.getElem_toArray,List.getElem_cons_zero,List.getElem_cons_succ];go_simp
     simp only [List.getElem_toArray,List.getElem_cons_zero,List.getElem_cons_succ,Act.put,List.setIfInBounds_toArray,List.set_cons_zero,List.set_cons_succ]
     refine wpAnyH_take (i:=5) (v:=.slice (some ⟨nb,no,none⟩) (m.length+1) vc) rfl (by kernel_rfl) (by kernel_rfl) (by kernel_rfl) (fun _ _ _ h=>h) (Or.inl ⟨by rfl,?_⟩) hHeld ?_
     ·intro w hSw;(try dsimp only at hSw);simp only [List.getElem_toArray,List.getElem_cons_zero,List.getElem_cons_succ];go_simp
     simp only [List.getElem_toArray,List.getElem_cons_zero,List.getElem_cons_succ,Act.put,List.setIfInBounds_toArray,List.set_cons_zero,List.set_cons_succ]
     refine wpAnyH_take (i:=6) (v:=.int .i64 ((m.length:Int)+1)) rfl (by kernel_rfl) (by kernel_rfl) (by kernel_rfl) (fun _ _ _ h=>h) (Or.inl ⟨by rfl,?_⟩) hHeld ?_
     ·intro w hSw;(try dsimp only at hSw);simp only [List.getElem_toArray,List.getElem_cons_zero,List.getElem_cons_succ];go_simp
     simp only [List.getElem_toArray,List.getElem_cons_zero,List.getElem_cons_succ,Act.put,List.setIfInBounds_toArray,List.set_cons_zero,List.set_cons_succ]
     refine wpAnyH_take (i:=7) (v:=.int .i64 (m.length:Int)) rfl (by kernel_rfl) (by kernel_rfl) (by kernel_rfl) (fun _ _ _ h=>h) (Or.inl ⟨by rfl,?_⟩) hHeld ?_
     ·intro w hSw;(try dsimp only at hSw);simp only [List.getElem_toArray,List.getElem_cons_zero,List.getElem_cons_succ];go_simp;rw [IntKind.wrap_i64];omega
     simp only [List.getElem_toArray,List.getElem_cons_zero,List.getElem_cons_succ,Act.put,List.setIfInBounds_toArray,List.set_cons_zero,List.set_cons_succ]
     refine wpAnyH_take (i:=8) (v:=.pointer (some ⟨nb,no+m.length,none⟩)) rfl (by kernel_rfl) (by kernel_rfl) (by kernel_rfl) (fun _ _ _ h=>h) (Or.inl ⟨by rfl,?_⟩) hHeld ?_
     ·intro w hSw;(try dsimp only at hSw);simp only [List.getElem_toArray,List.getElem_cons_zero,List.getElem_cons_succ];go_simp
     simp only [List.getElem_toArray,List.getElem_cons_zero,List.getElem_cons_succ,Act.put,List.setIfInBounds_toArray,List.set_cons_zero,List.set_cons_succ]
     refine wpAnyH_take (i:=9) (v:=.string x) rfl (by kernel_rfl) (by kernel_rfl) (by kernel_rfl) (fun _ _ _ h=>h) (Or.inl ⟨by rfl,?_⟩) hHeld ?_
     ·intro w hSw;(try dsimp only at hSw);simp only [List.getElem_toArray,List.getElem_cons_zero,List.getElem_cons_succ];obtain ⟨s1,s2⟩:=hSw;go_simp
     simp only [List.getElem_toArray,List.getElem_cons_zero,List.getElem_cons_succ,Act.put,List.setIfInBounds_toArray,List.set_cons_zero,List.set_cons_succ]
     refine wpAnyH_ready (rs:=[10]) (by kernel_rfl) (by simp) ?_
     refine AllReadyH.cons rfl (fun K' hK=>?_) AllReadyH.nil
     simp only [List.getElem_toArray,List.getElem_cons_zero,List.getElem_cons_succ]
     go_simp
     refine Calls.mono (HF10.out _ (Below.refl _ _).drew) ?_
     rintro e wx ⟨rfl,hb5⟩
     go_wp2_with fail
     refine hK.out _ _ (HS10.out _ hb5) (fun hHeld'=>?_)
     clear hK K' hHeld
     have hHeld:=hHeld'
     clear hHeld'
     refine wpAnyH_take (i:=11) (v:=.tuple #[.int .i64 (pl:Int),.bool true]) rfl (by kernel_rfl) (by kernel_rfl) (by kernel_rfl) (fun _ _ _ h=>h) (Or.inl ⟨by rfl,?_⟩) hHeld ?_
     ·intro w hSw;(try dsimp only at hSw);simp only [List.getElem_toArray,List.getElem_cons_zero,List.getElem_cons_succ];go_simp
     simp only [List.getElem_toArray,List.getElem_cons_zero,List.getElem_cons_succ,Act.put,List.setIfInBounds_toArray,List.set_cons_zero,List.set_cons_succ]
     refine wpAnyH_take (i:=12) (v:=.int .i64 (pl:Int)) rfl (by kernel_rfl) (by kernel_rfl) (by kernel_rfl) (fun _ _ _ h=>h) (Or.inl ⟨by rfl,?_⟩) hHeld ?_
     ·intro w hSw;(try dsimp only at hSw);simp only [List.getElem_toArray,List.getElem_cons_zero,List.getElem_cons_succ];go_simp
     simp only [List.getElem_toArray,List.getElem_cons_zero,List.getElem_cons_succ,Act.put,List.setIfInBounds_toArray,List.set_cons_zero,List.set_cons_succ]
     refine wpAnyH_take (i:=13) (v:=.bool true) rfl (by kernel_rfl) (by kernel_rfl) (by kernel_rfl) (fun _ _ _ h=>h) (Or.inl ⟨by rfl,?_⟩) hHeld ?_
     ·intro w hSw;(try dsimp only at hSw);simp only [List.getElem_toArray,List.getElem_cons_zero,List.getElem_cons_succ];go_simp
     simp only [List.getElem_toArray,List.getElem_cons_zero,List.getElem_cons_succ,Act.put,List.setIfInBounds_toArray,List.set_cons_zero,List.set_cons_succ]
     refine wpAnyH_take (i:=14) (v:=.int .i64 (pl:Int)) rfl (by kernel_rfl) (by kernel_rfl) (by kernel_rfl) (fun _ _ _ h=>h) (Or.inl ⟨by rfl,?_⟩) hHeld ?_
     ·intro w hSw;(try dsimp only at hSw);simp only [List.getElem_toArray,List.getElem_cons_zero,List.getElem_cons_succ];go_simp
     simp only [List.getElem_toArray,List.getElem_cons_zero,List.getElem_cons_succ,Act.put,List.setIfInBounds_toArray,List.set_cons_zero,List.set_cons_succ]
     refine wpAnyH_take (i:=15) (v:=.bool true) rfl (by kernel_rfl) (by kernel_rfl) (by kernel_rfl) (fun _ _ _ h=>h) (Or.inl ⟨by rfl,?_⟩) hHeld ?_
     ·intro w hSw;(try dsimp only at hSw);simp only [List.getElem_toArray,List.getElem_cons_zero,List.getElem_cons_succ];go_simp
     simp only [List.getElem_toArray,List.getElem_cons_zero,List.getElem_cons_succ,Act.put,List.setIfInBounds_toArray,List.set_cons_zero,List.set_cons_succ]
     refine wpAnyH_done (by kernel_rfl) ?_ _
     have HB5:Hid (Below w3.heap.size w3 wx):=HB4.out.trans (((Below.refl _ _).drew.trans hb5).mono HB4.out.size)
     have hz5:w4.heap.size<=wx.heap.size:=hb5.size
     have hres5:wx.heap[w.heap.size+1]? = _:=(HB5.out.block (w.heap.size+1) (by omega)).trans HR3.out
     have HR5:Hid _:=hres5
     have c35:wx.cell? ⟨b,o+3,none⟩=some (.slice (some ⟨g,0,none⟩) k.kids.length dc):=(HS10.out _ hb5).1
     have hwp:IntKind.i64.wrap ((pl:Int)+1)=(pl:Int)+1:=by rw [IntKind.wrap_i64];omega
     clear hb5 hres5 c3' cn' cn3
     go_wp2_with fail
     refine Calls.mono (HDEL.out _ HB5.out) ?_
     rintro e w6 ⟨rfl,h1,h2⟩
     obtain ⟨⟨r1,r2⟩,u',n1,n2,n3⟩:=HNEW.out _ _ HB5.out h1 h2
     have hz6:=h2.size
     have hs7:(w6.setCell ⟨b,o+3,none⟩ (.slice (some ⟨g,0,none⟩) (k.kids.length-1) dc)).heap.size=w6.heap.size:=by simp [World.setCell]
     clear h1 h2 HDEL HNEW c35
     go_upto_region 14 with fail
     generalize w6.setCell ⟨b,o+3,none⟩ (.slice (some ⟨g,0,none⟩) (k.kids.length-1) dc)=w7 at *
     obtain ⟨ba,bc,rfl⟩:=n2.form
     obtain ⟨⟨y0,y1,y2,y3⟩,_⟩:=row4b n1
     have hres7:=(n3.block (w.heap.size+1) (by omega) (by omega)).trans HR5.out
     obtain ⟨⟨q0,q1,q2,q3⟩,g0,g1,g2,g3⟩:=row4b hres7
     have HB7:Hid (Below w.heap.size w w7):=(HB3.out.trans (HB5.out.mono HB3.out.size)).trans (n3.below (B:=w.heap.size) (fun k hk=>by omega) (by omega))
     have HO7:Hid (OwnT w7 (fun q=>w1.heap.size<=q/\q<w6.heap.size) (d+1) (dropAt (m ++ [x]) t).kids (.slice ba (dropAt (m ++ [x]) t).kids.length bc)):=n2
     clear n1 n2 n3 hres7 r1 r2
     go_wp2_with fail
     refine bodyPost_ret (v:=.tuple #[.agg #[.string t.kind,.string t.data,.bool t.exec,.slice ba (dropAt (m ++ [x]) t).kids.length bc],.nilIface]) (by simp [results,Tryz.results17,go_sem,q0,q1,q2,q3]) rfl ?_
     have hS:=((((But1.refl (w.heap.size+1) w7).set 0 (.string t.kind)).set 1 (.string t.data)).set 2 (.bool t.exec)).set 3 (.slice ba (dropAt (m ++ [x]) t).kids.length bc)
     refine ⟨hS.below HB7.out (by omega),.inr ⟨dropAt (m ++ [x]) t,_,HF.out,?_,(HO7.out.kept (fun q hq=>hS.block q (by omega)) (fun _ h=>h)).liesQ.fresh fun q hq=>by rw [hS.size];omega⟩⟩
     rw [HEQ.out.1,HEQ.out.2.1,HEQ.out.2.2]
end Go.Proofs.YtpjjpmikhjlgnaaGreatDoor
