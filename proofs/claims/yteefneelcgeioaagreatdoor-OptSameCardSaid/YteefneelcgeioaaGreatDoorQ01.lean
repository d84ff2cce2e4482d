/-
  Sentinels out of a row's list of variables, variable by variable.
  Trees as plain mathematics: what a name is, what a node's error is, a tree's nodes in the order of the walk, and what is told of them. No program stands here.
  The eight sentinels that package tree and package pack hand back, as they lie in memory.
  From the reading of an argument as data to a tree in memory ('Lies').
  An argument that is a node: its cells, and its kids in memory; what a row's proof wants besides.
  Conditions: those that each states.
-/
import Derived.Test.YteefneelcgeioaaGreatDoorRows
import Derived.LaidLaws
import Derived.LaidHandle
import Derived.LaidMore
import Derived.Stop.LaidErr
import Derived.Below
import Derived.Laws.AppendOwn
import Derived.ProofKit
import Derived.SizedLaws
import Derived.Deep.Slices
import Derived.Lib.SmallJoins
import Derived.ChangeSame
import Derived.ChangeVars
namespace Go.Proofs.YteefneelcgeioaaGreatDoor
open Go.ChangeShapes Go.WideShapes Go.RowKit

def SentsL (W:World) (tp:TypeId):List Nat->List Addr->Prop
 | [],[]=>True
 | g :: gs,a :: la=>(W.cell? ⟨g,0,none⟩=some (.iface tp (.pointer (some a)))/\∃c t,W.heap[a.block]? = some (.cells c t (0,0)))/\SentsL W tp gs la
 | _,_=>False

theorem SentsL.at {W:World} {tp:TypeId}:∀ {gs:List Nat} {la:List Addr},SentsL W tp gs la->∀ {i g:Nat},gs[i]? = some g ->
  ∃a,la[i]? = some a/\W.cell? ⟨g,0,none⟩=some (.iface tp (.pointer (some a)))/\∃c t,W.heap[a.block]? = some (.cells c t (0,0))
 | [],_,_,i,g,hi=>by simp at hi
 | _ :: _,[],h,_,_,_=>by exact absurd h (by simp [SentsL])
 | g0 :: gs,a0 :: la,h,i,g,hi=>by
  obtain ⟨h0,h1⟩:=h
  cases i with
  | zero =>
   simp only [List.getElem?_cons_zero,Option.some.injEq] at hi
   subst hi
   exact ⟨a0,rfl,h0⟩
  | succ i =>
   simp only [List.getElem?_cons_succ] at hi ⊢
   exact SentsL.at h1 hi

theorem laid_list {P:Program} {W:World} {nm:String} {ti tp te ts:TypeId} {ms:Array (String×TypeId)} {f:Field}
    (hi:P.underlying ti=some (.interface ms)) (hrow:∀u,P.typeName? 3 u=some nm->u=tp)
    (hp:P.underlying tp=some (.pointer te)) (he:P.underlying te=some (.struct #[f])) (hft:f.type=ts) (hfo:f.offset=0) (hs:P.underlying ts=some .string) (hc:P.cellsOf te=1) (hcs:P.cellsOf ts=1) :
    ∀(l:List (String×Nat×List UInt8)) {ps:List MemPlace},DataW.LaidVars P W (l.map fun x=>(x.1,.iface nm (.ptr (.agg [.lit (.string x.2.2)])))) ps ->
      (∀x∈l,P.globalNamed x.1=some x.2.1/\(P.globals[x.2.1]?).map (·.type)=some ti) ->
      (∀b off,MemPlace.cell b off∈ps->(∃c t,W.heap[b]? = some (.cells c t (0,0)))/\∀u v,W.cell? ⟨b,off,none⟩=some (.iface u v)->Value.okWide P W .any 0 u v) ->
      ∃la:List Addr,SentsL W tp (l.map (·.2.1)) la/\(la.map fun a=>MemPlace.cell a.block a.off).Sublist ps
  | [],ps,_,_,_=>⟨[],trivial,List.nil_sublist _⟩
  | (n,g,text) :: l,ps,hv,hx,hrows=>by
    obtain ⟨g0,t0,cs0,f0,p0,q0,hg0,ht0,hv0,hd0,hq,e0⟩:=hv
    obtain ⟨hg,ht⟩:=hx (n,g,text) (List.mem_cons_self)
    simp only at hg ht
    obtain rfl:=Option.some.inj (hg.symm.trans hg0)
    obtain rfl:=Option.some.inj (ht.symm.trans ht0)
    subst e0
    obtain ⟨l0⟩:=cs0
    have ok0:∀u v,l0 = [.iface u v]->Value.okWide P W .any 0 u v:=fun u v e=>by
      subst e
      exact (hrows g 0 (by simp [MemPlace.row])).2 u v (by simpa using World.var?_cell hg0 hv0 0)
    obtain ⟨a0,s0,rfl,_,_,_,rfl⟩:=errorString_of_trod hi hrow hp he hft hfo hs hc hcs hd0 ok0
    obtain ⟨la,h1,h2⟩:=laid_list hi hrow hp he hft hfo hs hc hcs l hq (fun x hx'=>hx x (List.mem_cons_of_mem _ hx')) (fun b off hm=>hrows b off (List.mem_append_right _ hm))
    refine ⟨a0 :: la,⟨⟨?_,(hrows a0.block a0.off (by simp [MemPlace.row])).1⟩,h1⟩,?_⟩
    · simpa using World.var?_cell hg0 hv0 0
    · refine List.Sublist.trans (List.Sublist.cons_cons _ h2) ?_
      have e:MemPlace.cell a0.block a0.off :: q0=MemPlace.row a0 1++q0:=by simp [MemPlace.row]
      rw [e,List.append_assoc]
      exact List.sublist_append_right _ _

theorem star : "*errors.errorString" = "*" ++ "errors.errorString" := by decide
theorem rowS (u:TypeId) (h:Tryz.prog.typeName? 3 u=some "*errors.errorString"):u=235 :=
 typeName_ptr_named (nm := "errors.errorString") (by rw [←star];kernel_rfl) (by kernel_rfl) (by decide) u (by rw [←star];exact h)
theorem cellsES:Tryz.prog.cellsOf 257=1:=by kernel_rfl
theorem cellsStr:Tryz.prog.cellsOf 9=1:=by kernel_rfl

def textIn:DataW Unit->List UInt8
 | .iface _ (.ptr (.agg [.lit (.string s)]))=>s
 | _=>[]
end Go.Proofs.YteefneelcgeioaaGreatDoor
namespace Go.Proofs.YteefneelcgeioaaGreatDoor
open Go.RowKit

structure Tree where
 kind:ByteArray
 data:ByteArray
 exec:Bool
 kids:List (ByteArray×Tree)

def nb (c:Int):Bool:=decide ((97<=c/\c<=122)∨(48<=c/\c<=57)∨c=46∨c=45)
def nameB (s:ByteArray):Bool:=decide (1<=s.size/\s.size<=12) && !(s.toList == [46]) && !(s.toList == [46,46])&&s.data.toList.all fun c=>nb (c.toNat:Int)
theorem nameB_no {s:ByteArray} (h:¬((1<=s.size/\s.size<=12)/\(s.toList == [46])=false/\(s.toList == [46,46])=false)):nameB s=false:=by
 unfold nameB
 cases h1:s.toList == [46] <;> cases h2:s.toList == [46,46] <;> simp_all
 intro a b;have:=h a;omega
theorem nameB_yes {s:ByteArray} (h1:1<=s.size) (h2:s.size<=12) (h3:(s.toList == [46])=false) (h4:(s.toList == [46,46])=false):nameB s=s.data.toList.all fun c=>nb (c.toNat:Int):=by
 unfold nameB
 simp [h1,h2,h3,h4]
theorem take_snoc (s:ByteArray) (k:Nat) (h:k<s.size):s.data.toList.take (k+1)=s.data.toList.take k ++ [s[k]]:=by
 rw [List.take_succ_eq_append_getElem (by simpa using h)];rfl
theorem all_snoc {p:UInt8->Bool} (s:ByteArray) (k:Nat) (h:k<s.size):(s.data.toList.take (k+1)).all p=((s.data.toList.take k).all p&&p s[k]):=by
 rw [take_snoc s k h];simp
theorem all_whole {p:UInt8->Bool} (s:ByteArray):(s.data.toList.take s.size).all p=s.data.toList.all p:=by
 rw [List.take_of_length_le (by simp)]
theorem all_miss {p:UInt8->Bool} (s:ByteArray) (k:Nat) (h:k<s.size) (hp:p s[k]=false):s.data.toList.all p=false:=by
 rw [List.all_eq_false]
 exact ⟨s[k],by rw [Array.mem_toList_iff];exact Array.getElem_mem _,by simp [hp]⟩

/-! ### The error of a node by itself: the number of a sentinel (0 text, 1 bound, 2 shape, 3 kind, 4 name, 9 order) -/
def isFile (t:Tree):Bool:=t.kind.toList == [102,105,108,101]
def isDir (t:Tree):Bool:=t.kind.toList == [100,105,114]
def isLink (t:Tree):Bool:=t.kind.toList == [108,105,110,107]
def fileErr (t:Tree):Option Nat:=if 0<t.kids.length then some 2 else if 2000<t.data.size then some 1 else none
def seen (c:UInt8):Bool:=decide (33<=(c.toNat:Int)/\(c.toNat:Int)<=126)
def linkErr (t:Tree):Option Nat :=
 if t.exec=true∨0<t.kids.length then some 2 else if t.data.size<1∨40<t.data.size then some 1 else if t.data.data.toList.all seen=true then none else some 0
def risesTo (l:List (ByteArray×Tree)) (k:Nat):Bool:=(List.range k).all fun j=>j==0||Op.bytesLess ((l[j-1]?.map (·.1)).getD ByteArray.empty).toList ((l[j]?.map (·.1)).getD ByteArray.empty).toList
def dirErr (t:Tree):Option Nat :=
 if t.data.toList.isEmpty=false∨t.exec=true then some 2 else if (t.kids.all fun x=>nameB x.1)=true then (if risesTo t.kids t.kids.length=true then none else some 9) else some 4
def nodeErr (t:Tree):Option Nat:=if isFile t=true then fileErr t else if isDir t=true then dirErr t else if isLink t=true then linkErr t else some 3

/-! ### Memory -/
def Lies (w:World) (B:Nat):Nat->List (ByteArray×Tree)->Value->Prop
 | 0,_,_=>False
 | d+1,l,v=>∃ad cap,v = .slice ad l.length cap/\l.length<=1759218604390/\∀i x,l[i]? = some x->∃b off u,ad=some ⟨b,off,none⟩/\b<B/\x.1.size<=140737488355328 /\
   w.cell? ⟨b,off+i*5,none⟩=some (.string x.1)/\w.cell? ⟨b,off+i*5+1,none⟩=some (.string x.2.kind)/\w.cell? ⟨b,off+i*5+2,none⟩=some (.string x.2.data) /\
   w.cell? ⟨b,off+i*5+3,none⟩=some (.bool x.2.exec)/\w.cell? ⟨b,off+i*5+4,none⟩=some u/\Lies w B d x.2.kids u

structure KidAt (w:World) (B d b off i:Nat) (x:ByteArray×Tree) (u:Value):Prop where
 lt:b<B
 size:x.1.size<=140737488355328
 name:w.cell? ⟨b,off+i*5,none⟩=some (.string x.1)
 kind:w.cell? ⟨b,off+i*5+1,none⟩=some (.string x.2.kind)
 data:w.cell? ⟨b,off+i*5+2,none⟩=some (.string x.2.data)
 exec:w.cell? ⟨b,off+i*5+3,none⟩=some (.bool x.2.exec)
 kids:w.cell? ⟨b,off+i*5+4,none⟩=some u
 lies:Lies w B d x.2.kids u

theorem Lies.open {w:World} {B d:Nat} {l:List (ByteArray×Tree)} {v:Value} (h:Lies w B (d+1) l v) :
  l.length<=1759218604390/\((l = []/\∃ad cap,v = .slice ad 0 cap)∨∃b off cap,v = .slice (some ⟨b,off,none⟩) l.length cap/\b<B/\∀i x,l[i]? = some x->∃u,KidAt w B d b off i x u):=by
 obtain ⟨ad,cap,rfl,hlen,hk⟩:=h
 refine ⟨hlen,?_⟩
 cases l with
 | nil=>exact .inl ⟨rfl,ad,cap,rfl⟩
 | cons x0 r =>
  obtain ⟨b,off,_,rfl,hb,_⟩:=hk 0 x0 rfl
  refine .inr ⟨b,off,cap,rfl,hb,fun i x hx=>?_⟩
  obtain ⟨b',off',u,e,h1,h2,h3,h4,h5,h6,h7,h8⟩:=hk i x hx
  simp only [Option.some.injEq,Addr.mk.injEq] at e
  obtain ⟨rfl,rfl,_⟩:=e
  exact ⟨u,h1,h2,h3,h4,h5,h6,h7,h8⟩

theorem Lies.kept {w w':World} {B:Nat} (hb:∀k,k<B->w'.heap[k]? = w.heap[k]?):∀ {d:Nat} {l:List (ByteArray×Tree)} {v:Value},Lies w B d l v->Lies w' B d l v
 | 0,_,_,h=>h
 | d+1,l,v,⟨ad,cap,e,hlen,hk⟩=>⟨ad,cap,e,hlen,fun i x hx=>by
  obtain ⟨b,off,u,e,h1,h2,h3,h4,h5,h6,h7,h8⟩:=hk i x hx
  have hc:∀o,w'.cell? ⟨b,o,none⟩=w.cell? ⟨b,o,none⟩:=fun o=>World.cell?_of_block (hb b h1)
  exact ⟨b,off,u,e,h1,h2,by rw [hc];exact h3,by rw [hc];exact h4,by rw [hc];exact h5,by rw [hc];exact h6,by rw [hc];exact h7,Lies.kept hb h8⟩⟩
theorem Lies.below {w w':World} {B d:Nat} {l:List (ByteArray×Tree)} {v:Value} (h:Lies w B d l v) {C:Nat} (hb:Below C w w') (hC:B<=C):Lies w' B d l v :=
 h.kept fun k hk=>hb.block k (by omega)
theorem Lies.up {w:World} {B B':Nat} (hB:B<=B'):∀ {d d':Nat} {l:List (ByteArray×Tree)} {v:Value},d<=d'->Lies w B d l v->Lies w B' d' l v
 | 0,_,_,_,_,h=>absurd h (by simp [Lies])
 | d+1,0,_,_,hd,_=>by omega
 | d+1,d'+1,l,v,hd,⟨ad,cap,e,hlen,hk⟩=>⟨ad,cap,e,hlen,fun i x hx=>by
  obtain ⟨b,off,u,e,h1,h2,h3,h4,h5,h6,h7,h8⟩:=hk i x hx
  exact ⟨b,off,u,e,by omega,h2,h3,h4,h5,h6,h7,Lies.up hB (by omega) h8⟩⟩

theorem KidAt.below {w w':World} {B d b off i:Nat} {x:ByteArray×Tree} {u:Value} (h:KidAt w B d b off i x u) {C:Nat} (hb:Below C w w') (hC:B<=C):KidAt w' B d b off i x u:=by
 have hc:∀o,w'.cell? ⟨b,o,none⟩=w.cell? ⟨b,o,none⟩:=fun o=>hb.cell (p:=⟨b,o,none⟩) (Nat.lt_of_lt_of_le h.lt hC)
 exact ⟨h.lt,h.size,by rw [hc];exact h.name,by rw [hc];exact h.kind,by rw [hc];exact h.data,by rw [hc];exact h.exec,by rw [hc];exact h.kids,h.lies.below hb hC⟩

/-! ### Lists of kids, place by place -/
theorem kids_snoc {p:ByteArray×Tree->Bool} {l:List (ByteArray×Tree)} {k:Nat} {x:ByteArray×Tree} (h:l[k]? = some x):(l.take (k+1)).all p=((l.take k).all p&&p x):=by
 have hk:k<l.length:=(List.getElem?_eq_some_iff.1 h).1
 have e:l[k]=x:=(List.getElem?_eq_some_iff.1 h).2
 rw [List.take_succ_eq_append_getElem hk,e];simp
theorem kids_miss {p:ByteArray×Tree->Bool} {l:List (ByteArray×Tree)} {k:Nat} {x:ByteArray×Tree} (h:l[k]? = some x) (hp:p x=false):l.all p=false:=by
 rw [List.all_eq_false]
 exact ⟨x,List.mem_of_getElem? h,by simp [hp]⟩
theorem risesTo_succ {l:List (ByteArray×Tree)} {k:Nat} {x y:ByteArray×Tree} (hx:l[k]? = some x) (hy:l[k+1]? = some y):risesTo l (k+1+1)=(risesTo l (k+1)&&Op.bytesLess x.1.toList y.1.toList):=by
 unfold risesTo
 rw [List.range_succ (n:=k+1),List.all_append]
 simp [hx,hy]
theorem risesTo_mono {l:List (ByteArray×Tree)} {k n:Nat} (h:k<=n) (hf:risesTo l k=false):risesTo l n=false:=by
 unfold risesTo at *
 rw [List.all_eq_false] at *
 obtain ⟨j,hj,hp⟩:=hf
 exact ⟨j,List.mem_range.2 (by have:=List.mem_range.1 hj;omega),hp⟩
theorem risesTo_one (l:List (ByteArray×Tree)):risesTo l 1=true:=by simp [risesTo]
theorem Lies.form {w:World} {B:Nat}:∀ {d:Nat} {l:List (ByteArray×Tree)} {v:Value},Lies w B d l v->∃ad cap,v = .slice ad l.length cap
 | 0,_,_,h=>absurd h (by simp [Lies])
 | _+1,_,_,⟨ad,cap,e,_⟩=>⟨ad,cap,e⟩

/-! ### The walk: nodes with their paths and depths, in their order -/
def slash:ByteArray:={ data:=#[47] }
def pre:Nat->ByteArray->Nat->Tree->List (ByteArray×Nat×Tree)
 | 0,_,_,_=>[]
 | d+1,p,k,t=>(p,k,t) :: t.kids.flatMap fun x=>pre d (p++slash++x.1) (k+1) x.2
def runs {σ:Type} (step:σ->ByteArray×Nat×Tree->σ×Option Nat):σ->List (ByteArray×Nat×Tree)->σ×Option Nat
 | s,[]=>(s,none)
 | s,x :: r=>match step s x with
  | (s',none)=>runs step s' r
  | (s',some e)=>(s',some e)
theorem runs_append {σ:Type} {step:σ->ByteArray×Nat×Tree->σ×Option Nat}:∀(l1 l2:List (ByteArray×Nat×Tree)) (s:σ),(runs step s l1).2=none->runs step s (l1++l2)=runs step (runs step s l1).1 l2
 | [],_,_,_=>rfl
 | x :: r,l2,s,h=>by
  simp only [List.cons_append,runs] at h ⊢
  cases hx:step s x with
  | mk s' e =>
   rw [hx] at h
   cases e with
   | none=>exact runs_append r l2 s' h
   | some e=>simp at h
theorem runs_append_err {σ:Type} {step:σ->ByteArray×Nat×Tree->σ×Option Nat}:∀(l1 l2:List (ByteArray×Nat×Tree)) (s:σ) {e:Nat},(runs step s l1).2=some e->runs step s (l1++l2)=runs step s l1
 | [],_,_,_,h=>by simp [runs] at h
 | x :: r,l2,s,e,h=>by
  simp only [List.cons_append,runs] at h ⊢
  cases hx:step s x with
  | mk s' e' =>
   rw [hx] at h
   cases e' with
   | none=>exact runs_append_err r l2 s' h
   | some e'=>rfl
def Alive {σ:Type} (step:σ->ByteArray×Nat×Tree->σ×Option Nat) (ok:σ->ByteArray×Nat×Tree->Prop):σ->List (ByteArray×Nat×Tree)->Prop
 | _,[]=>True
 | s,x :: r=>ok s x/\((step s x).2=none->Alive step ok (step s x).1 r)
theorem Alive.append {σ:Type} {step:σ->ByteArray×Nat×Tree->σ×Option Nat} {ok:σ->ByteArray×Nat×Tree->Prop}:∀ {l1 l2:List (ByteArray×Nat×Tree)} {s:σ},Alive step ok s (l1++l2)->Alive step ok s l1/\((runs step s l1).2=none->Alive step ok (runs step s l1).1 l2)
 | [],_,_,h=>⟨trivial,fun _=>h⟩
 | x :: r,l2,s,⟨h1,h2⟩=>by
  cases hx:step s x with
  | mk s' e =>
   rw [hx] at h2
   cases e with
   | none =>
    have h3:=Alive.append (h2 rfl)
    refine ⟨⟨h1,fun _=>by rw [hx];exact h3.1⟩,fun h=>?_⟩
    simp only [runs,hx] at h ⊢
    exact h3.2 h
   | some e=>exact ⟨⟨h1,fun h=>by rw [hx] at h;cases h⟩,fun h=>by simp [runs,hx] at h⟩

structure Kept (C:Nat->Prop) (w w':World):Prop where
 os:w'.os=w.os
 tape:w'.tape=w.tape
 output:w'.output=w.output
 size:w.heap.size<=w'.heap.size
 block:∀k,k<w.heap.size->¬C k->w'.heap[k]? = w.heap[k]?
theorem Kept.of_below {C:Nat->Prop} {w w':World} (h:Below w.heap.size w w'):Kept C w w':=⟨h.os,h.tape,h.output,h.size,fun k hk _=>h.block k hk⟩
theorem Kept.below {C:Nat->Prop} {w w':World} {B:Nat} (h:Kept C w w') (hC:∀k,C k->B<=k) (hB:B<=w.heap.size):Below B w w' :=
 ⟨h.os,h.tape,h.output,h.size,fun k hk=>h.block k (by omega) fun hc=>by have:=hC k hc;omega⟩
theorem Kept.trans {C C':Nat->Prop} {w w1 w2:World} (h:Kept C w w1) (h':Kept C' w1 w2) (hC:∀k,C' k->C k∨w.heap.size<=k):Kept C w w2 :=
 ⟨h'.os.trans h.os,h'.tape.trans h.tape,h'.output.trans h.output,Nat.le_trans h.size h'.size,fun k hk hc=>by
  rw [h'.block k (Nat.lt_of_lt_of_le hk h.size) fun hc'=>by rcases hC k hc' with h1|h1;exact hc h1;omega]
  exact h.block k hk hc⟩
theorem flat_take {α β:Type} {l:List α} {j:Nat} {x:α} (h:l[j]? = some x) (F:α->List β):(l.take (j+1)).flatMap F=(l.take j).flatMap F++F x:=by
 have hk:j<l.length:=(List.getElem?_eq_some_iff.1 h).1
 have e:l[j]=x:=(List.getElem?_eq_some_iff.1 h).2
 rw [List.take_succ_eq_append_getElem hk,e];simp
theorem flat_split {α β:Type} {l:List α} {j:Nat} {x:α} (h:l[j]? = some x) (F:α->List β):l.flatMap F=(l.take j).flatMap F++(F x++(l.drop (j+1)).flatMap F):=by
 rw [<-List.append_assoc,<-flat_take h F,<-List.flatMap_append,List.take_append_drop]
theorem runs_flat_err {α σ:Type} {step:σ->ByteArray×Nat×Tree->σ×Option Nat} {l:List α} {j:Nat} {x:α} (h:l[j]? = some x) {F:α->List (ByteArray×Nat×Tree)} {s s' s2:σ} {e:Nat}
  (h1:runs step s ((l.take j).flatMap F)=(s',none)) (h2:runs step s' (F x)=(s2,some e)):runs step s (l.flatMap F)=(s2,some e):=by
 rw [flat_split h F,runs_append _ _ _ (by rw [h1]),h1]
 show runs step s' _=_
 rw [runs_append_err _ _ _ (by rw [h2]),h2]
theorem runs_flat_next {α σ:Type} {step:σ->ByteArray×Nat×Tree->σ×Option Nat} {l:List α} {j:Nat} {x:α} (h:l[j]? = some x) {F:α->List (ByteArray×Nat×Tree)} {s s' s2:σ}
  (h1:runs step s ((l.take j).flatMap F)=(s',none)) (h2:runs step s' (F x)=(s2,none)):runs step s ((l.take (j+1)).flatMap F)=(s2,none):=by
 rw [flat_take h F,runs_append _ _ _ (by rw [h1]),h1]
 exact h2

/-! ### The same two -/
def headSame (s t:Tree):Bool:=(s.kind.toList==t.kind.toList)&&(s.data.toList==t.data.toList)&&(s.exec==t.exec)&&(s.kids.length==t.kids.length)
def sameB:Nat->Tree->Tree->Bool
 | 0,_,_=>false
 | d+1,s,t=>headSame s t&&(List.range s.kids.length).all fun i=>match s.kids[i]?,t.kids[i]? with
  | some x,some y=>(x.1.toList==y.1.toList)&&sameB d x.2 y.2
  | _,_=>false
def sameTo (d:Nat) (s t:Tree) (k:Nat):Bool:=(List.range k).all fun i=>match s.kids[i]?,t.kids[i]? with
 | some x,some y=>(x.1.toList==y.1.toList)&&sameB d x.2 y.2
 | _,_=>false
theorem sameB_succ (d:Nat) (s t:Tree):sameB (d+1) s t=(headSame s t&&sameTo d s t s.kids.length):=rfl
theorem sameTo_succ {d:Nat} {s t:Tree} {k:Nat} {x y:ByteArray×Tree} (hx:s.kids[k]? = some x) (hy:t.kids[k]? = some y):sameTo d s t (k+1)=(sameTo d s t k&&((x.1.toList==y.1.toList)&&sameB d x.2 y.2)):=by
 unfold sameTo
 rw [List.range_succ,List.all_append]
 simp [hx,hy]
theorem sameTo_mono {d:Nat} {s t:Tree} {k n:Nat} (h:k<=n) (hf:sameTo d s t k=false):sameTo d s t n=false:=by
 unfold sameTo at *
 rw [List.all_eq_false] at *
 obtain ⟨j,hj,hp⟩:=hf
 exact ⟨j,List.mem_range.2 (by have:=List.mem_range.1 hj;omega),hp⟩

/-! ### Kids in memory, in blocks of a kind -/
def LiesQ (w:World) (Q:Nat->Prop):Nat->List (ByteArray×Tree)->Value->Prop
 | 0,_,_=>False
 | d+1,l,v=>∃ad cap,v = .slice ad l.length cap/\l.length<=1759218604390/\∀i x,l[i]? = some x->∃b off u,ad=some ⟨b,off,none⟩/\Q b/\x.1.size<=140737488355328 /\
   w.cell? ⟨b,off+i*5,none⟩=some (.string x.1)/\w.cell? ⟨b,off+i*5+1,none⟩=some (.string x.2.kind)/\w.cell? ⟨b,off+i*5+2,none⟩=some (.string x.2.data) /\
   w.cell? ⟨b,off+i*5+3,none⟩=some (.bool x.2.exec)/\w.cell? ⟨b,off+i*5+4,none⟩=some u/\LiesQ w Q d x.2.kids u
theorem LiesQ.kept {w w':World} {Q Q':Nat->Prop} (hb:∀k,Q k->w'.heap[k]? = w.heap[k]?) (hq:∀k,Q k->Q' k):∀ {d:Nat} {l:List (ByteArray×Tree)} {v:Value},LiesQ w Q d l v->LiesQ w' Q' d l v
 | 0,_,_,h=>h
 | d+1,l,v,⟨ad,cap,e,hlen,hk⟩=>⟨ad,cap,e,hlen,fun i x hx=>by
  obtain ⟨b,off,u,e,h1,h2,h3,h4,h5,h6,h7,h8⟩:=hk i x hx
  have hc:∀o,w'.cell? ⟨b,o,none⟩=w.cell? ⟨b,o,none⟩:=fun o=>World.cell?_of_block (hb b h1)
  exact ⟨b,off,u,e,hq b h1,h2,by rw [hc];exact h3,by rw [hc];exact h4,by rw [hc];exact h5,by rw [hc];exact h6,by rw [hc];exact h7,LiesQ.kept hb hq h8⟩⟩
theorem LiesQ.lies {w:World} {Q:Nat->Prop} {B:Nat} (hq:∀k,Q k->k<B):∀ {d:Nat} {l:List (ByteArray×Tree)} {v:Value},LiesQ w Q d l v->Lies w B d l v
 | 0,_,_,h=>h
 | d+1,l,v,⟨ad,cap,e,hlen,hk⟩=>⟨ad,cap,e,hlen,fun i x hx=>by
  obtain ⟨b,off,u,e,h1,h2,h3,h4,h5,h6,h7,h8⟩:=hk i x hx
  exact ⟨b,off,u,e,hq b h1,h2,h3,h4,h5,h6,h7,LiesQ.lies hq h8⟩⟩
theorem LiesQ.form {w:World} {Q:Nat->Prop}:∀ {d:Nat} {l:List (ByteArray×Tree)} {v:Value},LiesQ w Q d l v->∃ad cap,v = .slice ad l.length cap
 | 0,_,_,h=>absurd h (by simp [LiesQ])
 | _+1,_,_,⟨ad,cap,e,_⟩=>⟨ad,cap,e⟩

def kidCells:List (ByteArray×Tree)->List Value->List Value
 | x :: l,u :: us=>.string x.1 :: .string x.2.kind :: .string x.2.data :: .bool x.2.exec :: u :: kidCells l us
 | _,_=>[]
theorem kidCells_snoc:∀(l:List (ByteArray×Tree)) (us:List Value) (x:ByteArray×Tree) (u:Value),l.length=us.length->kidCells (l ++ [x]) (us ++ [u])=kidCells l us ++ [.string x.1,.string x.2.kind,.string x.2.data,.bool x.2.exec,u]
 | [],[],x,u,_=>rfl
 | y :: l,v :: us,x,u,h=>by simp only [List.cons_append,kidCells];rw [kidCells_snoc l us x u (by simpa using h)]
 | [],_ :: _,_,_,h=>by simp at h
 | _ :: _,[],_,_,h=>by simp at h
theorem kidCells_at:∀ {l:List (ByteArray×Tree)} {us:List Value} {i:Nat} {x:ByteArray×Tree} {u:Value},l[i]? = some x->us[i]? = some u ->
  (kidCells l us)[i*5]? = some (.string x.1)/\(kidCells l us)[i*5+1]? = some (.string x.2.kind)/\(kidCells l us)[i*5+2]? = some (.string x.2.data)/\(kidCells l us)[i*5+3]? = some (.bool x.2.exec)/\(kidCells l us)[i*5+4]? = some u
 | [],_,i,x,u,h,_=>by simp at h
 | _ :: _,[],i,x,u,_,h=>by simp at h
 | y :: l,v :: us,0,x,u,h,h'=>by
  simp only [List.getElem?_cons_zero,Option.some.injEq] at h h'
  subst h;subst h'
  exact ⟨rfl,rfl,rfl,rfl,rfl⟩
 | y :: l,v :: us,i+1,x,u,h,h'=>by
  simp only [List.getElem?_cons_succ] at h h'
  have:=kidCells_at h h'
  have e:∀k,(i+1)*5+k=(i*5+k)+1+1+1+1+1:=fun k=>by omega
  simp only [kidCells]
  refine ⟨?_,?_,?_,?_,?_⟩
  ·rw [show (i+1)*5=(i*5)+1+1+1+1+1 from by omega];simpa using this.1
  ·rw [e];simpa using this.2.1
  ·rw [e];simpa using this.2.2.1
  ·rw [e];simpa using this.2.2.2.1
  ·rw [e];simpa using this.2.2.2.2
theorem LiesQ.made {w:World} {Q:Nat->Prop} {d base:Nat} {e:TypeId} {l:List (ByteArray×Tree)} {us:List Value} {v:Value} (hown:w.ownsRow base e 5 v l.length (kidCells l us)) (hlen:l.length<=1759218604390) (hu:us.length=l.length) (hv:∀g,v.ownBlock=some g->Q g)
  (hs:∀x∈l,x.1.size<=140737488355328) (hk:∀(i:Nat) (x:ByteArray×Tree) (u:Value),l[i]? = some x->us[i]? = some u->LiesQ w Q d x.2.kids u):LiesQ w Q (d+1) l v:=by
 have hform:∃ad cap,v = .slice ad l.length cap:=by
  rcases hown.2 with ⟨h,h'⟩|⟨g,cap,cur,h,_⟩
  ·exact ⟨none,0,by rw [h,h']⟩
  ·exact ⟨_,_,h⟩
 obtain ⟨ad,cap,hvf⟩:=hform
 refine ⟨ad,cap,hvf,hlen,fun i x hx=>?_⟩
 have hi:i<l.length:=(List.getElem?_eq_some_iff.1 hx).1
 obtain ⟨u,hui⟩:∃u,us[i]? = some u:=⟨us[i]'(by omega),List.getElem?_eq_getElem (by omega)⟩
 rcases hown.2 with ⟨_,h'⟩|⟨g,cap',cur,h,_,hg,_⟩
 ·omega
 ·rw [hvf] at h
  simp only [Value.slice.injEq] at h
  obtain ⟨rfl,_⟩:=h
  have hc:=hown.cells (g:=g) (by rw [hvf];rfl)
  have hadd:∀j,(⟨g,0,none⟩:Addr).add j=⟨g,j,none⟩:=fun j=>by unfold Addr.add;split <;> simp_all
  obtain ⟨h0,h1,h2,h3,h4⟩:=kidCells_at hx hui
  have c0:=hc _ _ h0
  have c1:=hc _ _ h1
  have c2:=hc _ _ h2
  have c3:=hc _ _ h3
  have c4:=hc _ _ h4
  rw [hadd] at c0 c1 c2 c3 c4
  exact ⟨g,0,u,rfl,hv g (by rw [hvf];rfl),hs x (List.mem_of_getElem? hx),by rw [Nat.zero_add];exact c0,by rw [Nat.zero_add];exact c1,by rw [Nat.zero_add];exact c2,by rw [Nat.zero_add];exact c3,by rw [Nat.zero_add];exact c4,hk i x u hx hui⟩
end Go.Proofs.YteefneelcgeioaaGreatDoor
namespace Go.Proofs.YteefneelcgeioaaGreatDoor
open Go.RowKit

theorem lt_of_cell {w:World} {p:Addr} {v:Value} (h:w.cell? p=some v):p.block<w.heap.size:=by
 rcases Nat.lt_or_ge p.block w.heap.size with h'|h'
 ·exact h'
 ·simp [World.cell?,Array.getElem?_eq_none h'] at h
theorem lt_of_row {w:World} {b:Nat} {o:Obj} (h:w.heap[b]? = some o):b<w.heap.size:=by
 rcases Nat.lt_or_ge b w.heap.size with h'|h'
 ·exact h'
 ·simp [Array.getElem?_eq_none h'] at h

structure Sen (a:Nat->Addr) (w:World):Prop where
 text:w.cell? ⟨9,0,none⟩=some (.iface 235 (.pointer (some (a 0))))
 bound:w.cell? ⟨6,0,none⟩=some (.iface 235 (.pointer (some (a 1))))
 shape:w.cell? ⟨3,0,none⟩=some (.iface 235 (.pointer (some (a 2))))
 kind:w.cell? ⟨7,0,none⟩=some (.iface 235 (.pointer (some (a 3))))
 name:w.cell? ⟨5,0,none⟩=some (.iface 235 (.pointer (some (a 4))))
 full:w.cell? ⟨0,0,none⟩=some (.iface 235 (.pointer (some (a 7))))
 deep:w.cell? ⟨4,0,none⟩=some (.iface 235 (.pointer (some (a 8))))
 order:w.cell? ⟨8,0,none⟩=some (.iface 235 (.pointer (some (a 9))))
theorem Sen.ext {a:Nat->Addr} {w w':World} (S:Sen a w) (h:∀g v,w.cell? ⟨g,0,none⟩=some v->g∈[9,6,3,7,5,0,4,8]->w'.cell? ⟨g,0,none⟩=w.cell? ⟨g,0,none⟩):Sen a w' where
 text:=by rw [h _ _ S.text (by decide)];exact S.text
 bound:=by rw [h _ _ S.bound (by decide)];exact S.bound
 shape:=by rw [h _ _ S.shape (by decide)];exact S.shape
 kind:=by rw [h _ _ S.kind (by decide)];exact S.kind
 name:=by rw [h _ _ S.name (by decide)];exact S.name
 full:=by rw [h _ _ S.full (by decide)];exact S.full
 deep:=by rw [h _ _ S.deep (by decide)];exact S.deep
 order:=by rw [h _ _ S.order (by decide)];exact S.order
theorem Sen.below {a:Nat->Addr} {w w':World} (S:Sen a w) (hb:Below w.heap.size w w'):Sen a w':=S.ext fun g _ hv _=>hb.cell (p:=⟨g,0,none⟩) (lt_of_cell hv)
structure SentsB (a:Nat->Addr) (B:Nat) (w:World):Prop where
 is:Sen a w
 low:∀g∈[9,6,3,7,5,0,4,8],g<B
theorem SentsB.below {a:Nat->Addr} {B C:Nat} {w w':World} (S:SentsB a B w) (hb:Below C w w') (hC:B<=C):SentsB a B w' where
 is:=S.is.ext fun g _ _ hg=>hb.cell (p:=⟨g,0,none⟩) (show g<C by have:=S.low g hg;omega)
 low:=S.low
theorem Sen.atB {a:Nat->Addr} {w:World} (S:Sen a w):SentsB a w.heap.size w where
 is:=S
 low g hg:=by
  simp only [List.mem_cons,List.not_mem_nil,or_false] at hg
  rcases hg with rfl|rfl|rfl|rfl|rfl|rfl|rfl|rfl
  ·exact lt_of_cell S.text
  ·exact lt_of_cell S.bound
  ·exact lt_of_cell S.shape
  ·exact lt_of_cell S.kind
  ·exact lt_of_cell S.name
  ·exact lt_of_cell S.full
  ·exact lt_of_cell S.deep
  ·exact lt_of_cell S.order
theorem SentsB.up {a:Nat->Addr} {B C:Nat} {w:World} (S:SentsB a B w) (h:B<=C):SentsB a C w:=⟨S.is,fun g hg=>Nat.lt_of_lt_of_le (S.low g hg) h⟩
end Go.Proofs.YteefneelcgeioaaGreatDoor
namespace Go.Proofs.YteefneelcgeioaaGreatDoor
set_option maxRecDepth 100000
open Go.ChangeShapes Go.WideShapes Go.RowKit

theorem cellsKid:Tryz.prog.cellsOf 86=5:=by kernel_rfl
theorem cellsNode:Tryz.prog.cellsOf 32=4:=by kernel_rfl
theorem bytesKid:Tryz.prog.bytesOf 86=80:=by kernel_rfl
theorem cellsBool:Tryz.prog.cellsOf 4=1:=by kernel_rfl
theorem cellsKids:Tryz.prog.cellsOf 30=1:=by kernel_rfl
theorem weights_all {H:Type} {P:Program} {e:TypeId}:∀ {l:List (DataW H)} {x:DataW H},x∈l->∀n∈x.weights P e,n∈DataW.weightsAll P e l
 | [],_,h,_,_=>by simp at h
 | d :: r,x,h,n,hn=>by
  rw [DataW.weightsAll,List.mem_append]
  rcases List.mem_cons.1 h with rfl|h
  ·exact .inl hn
  ·exact .inr (weights_all h n hn)

section
variable {H : Type} {enc : TypeId × Value → H} {w : World}

theorem list2 {α:Type}:∀ {l:List α},l.length=2->∃a b,l = [a,b]
 | [a,b],_=>⟨a,b,rfl⟩
theorem list4 {α:Type}:∀ {l:List α},l.length=4->∃a b c d,l = [a,b,c,d]
 | [a,b,c,d],_=>⟨a,b,c,d,rfl⟩
theorem list5 {α:Type}:∀ {l:List α},l.length=5->∃a b c d e,l = [a,b,c,d,e]
 | [a,b,c,d,e],_=>⟨a,b,c,d,e,rfl⟩
theorem node_of_trod {n:Nat} {cs:List Value} {x:DataW H×List MemPlace} (h:DataW.trod enc Tryz.prog w 0 (fun _=>true) true n 32 cs=some x) (hw:∀m∈x.1.weights Tryz.prog 32,m<=reachBytes) :
  ∃(kind data:ByteArray) (exec:Bool) (u:Value) (y:DataW H×List MemPlace) (m:Nat),m<n/\cs = [.string kind,.string data,.bool exec,u]/\DataW.trod enc Tryz.prog w 0 (fun _=>true) true m 30 [u]=some y/\(∀q∈y.1.weights Tryz.prog 30,q<=reachBytes)/\data.size<=maxLen:=by
 obtain ⟨xs,m,hfuel,hx,hcl,hxl,hf⟩:=DataW.trod_struct Tryz.underlying32 h
 rw [cellsNode] at hcl
 obtain ⟨c0,c1,c2,c3,rfl⟩:=list4 hcl
 obtain ⟨y0,y1,y2,y3,rfl⟩:=list4 (show xs.length=4 from hxl)
 have h0:DataW.trod enc Tryz.prog w 0 (fun _=>true) true m 9 ([c0,c1,c2,c3].take (Tryz.prog.cellsOf 9))=some y0:=hf 0 _ rfl
 have h1:DataW.trod enc Tryz.prog w 0 (fun _=>true) true m 9 ([c1,c2,c3].take (Tryz.prog.cellsOf 9))=some y1:=hf 1 _ rfl
 have h2:DataW.trod enc Tryz.prog w 0 (fun _=>true) true m 4 ([c2,c3].take (Tryz.prog.cellsOf 4))=some y2:=hf 2 _ rfl
 have h3:DataW.trod enc Tryz.prog w 0 (fun _=>true) true m 30 ([c3].take (Tryz.prog.cellsOf 30))=some y3:=hf 3 _ rfl
 rw [cellsStr] at h0 h1
 rw [cellsBool] at h2
 rw [cellsKids] at h3
 obtain ⟨kind,e0,_,_⟩:=DataW.trod_string Tryz.underlying9 h0
 obtain ⟨data,e1,_,hds⟩:=DataW.trod_string Tryz.underlying9 h1
 obtain ⟨exec,e2,_⟩:=DataW.trod_bool Tryz.underlying4 h2
 simp only [List.take_succ_cons,List.take_zero,List.cons.injEq,and_true] at e0 e1 e2
 subst e0;subst e1;subst e2
 refine ⟨kind,data,exec,c3,y3,m,by omega,rfl,h3,fun q hq=>hw q ?_,hds⟩
 rw [hx]
 have hwd:DataW.weights Tryz.prog 32 (.agg ([y0,y1,y2,y3].map (·.1)))=DataW.weightsEach Tryz.prog [9,9,4,30] ([y0,y1,y2,y3].map (·.1)):=by
  rw [DataW.weights];simp only [Tryz.underlying32];rfl
 rw [hwd]
 exact DataW.weights_mem_each (j:=3) rfl rfl q hq

theorem lies_of_trod:∀(n:Nat) (v:Value) (x:DataW H×List MemPlace),DataW.trod enc Tryz.prog w 0 (fun _=>true) true n 30 [v]=some x->(∀m∈x.1.weights Tryz.prog 30,m<=reachBytes)->∃l,Lies w w.heap.size n l v:=by
 intro n
 induction n using Nat.strongRecOn with
 | ind n ih =>
  intro v x h hw
  rcases DataW.trod_slice Tryz.underlying30 h with ⟨hcs,_⟩|⟨a,len,cap,elems,rest,m,hfuel,hcs,hx,_,hlc,_,hel,hE,_,_⟩
  ·simp only [List.cons.injEq,and_true] at hcs
   subst hcs
   cases n with
   | zero=>simp [DataW.trod] at h
   | succ n=>exact ⟨[],none,0,rfl,by simp,fun i x hx=>by simp at hx⟩
  ·simp only [List.cons.injEq,and_true] at hcs
   subst hcs;subst hfuel
   have hwd:x.1.weights Tryz.prog 30=((elems.map (·.1)).length+(rest.map (·.1)).length)*80 :: (DataW.weightsAll Tryz.prog 86 (elems.map (·.1))++DataW.weightsAll Tryz.prog 86 (rest.map (·.1))):=by
    rw [hx,DataW.weights];simp only [Tryz.underlying30,bytesKid]
   have hlen:len<=1759218604390:=by
    have:=hw _ (by rw [hwd];exact List.mem_cons_self)
    simp only [List.length_map,hel,reachBytes] at this
    omega
   have hplain:∀i,i<len->∃b off,a=⟨b,off,none⟩:=by
    intro i hi
    have hb:=hE 0 (by omega)
    rw [cellsKid] at hb
    obtain ⟨el,he⟩:∃el,elems[0]? = some el:=⟨elems[0]'(by omega),List.getElem?_eq_getElem (by omega)⟩
    rw [he] at hb
    obtain ⟨cs,hc,_⟩:=Option.bind_eq_some_iff.1 hb
    obtain ⟨_,hcl,hcc⟩:=World.cells?_some hc
    have k0:=hcc 0 (by omega)
    rw [List.getElem?_eq_getElem (by omega)] at k0
    obtain ⟨b,off,spot⟩:=a
    have hsp:spot=none:=by simpa [Addr.add] using World.cell?_spot k0
    subst hsp
    exact ⟨b,off,rfl⟩
   have hone:∀i,i<len->∃p:(ByteArray×Tree)×Value,(∃b off,a=⟨b,off,none⟩/\b<w.heap.size/\p.1.1.size<=140737488355328 /\
     w.cell? ⟨b,off+i*5,none⟩=some (.string p.1.1)/\w.cell? ⟨b,off+i*5+1,none⟩=some (.string p.1.2.kind)/\w.cell? ⟨b,off+i*5+2,none⟩=some (.string p.1.2.data) /\
     w.cell? ⟨b,off+i*5+3,none⟩=some (.bool p.1.2.exec)/\w.cell? ⟨b,off+i*5+4,none⟩=some p.2)/\Lies w w.heap.size m p.1.2.kids p.2:=by
    intro i hi
    have hb:=hE i hi
    rw [cellsKid] at hb
    obtain ⟨el,he⟩:∃el,elems[i]? = some el:=⟨elems[i]'(by omega),List.getElem?_eq_getElem (by omega)⟩
    rw [he] at hb
    obtain ⟨cs,hc,ht⟩:=Option.bind_eq_some_iff.1 hb
    obtain ⟨_,hcl,hcc⟩:=World.cells?_some hc
    obtain ⟨xs,m1,hm1,hx1,_,hxl,hf⟩:=DataW.trod_struct Tryz.underlying86 ht
    have hwel:∀q∈el.1.weights Tryz.prog 86,q<=reachBytes:=fun q hq=>hw q (by
     rw [hwd]
     exact List.mem_cons_of_mem _ (List.mem_append_left _ (weights_all (List.mem_map.2 ⟨el,List.mem_of_getElem? he,rfl⟩) q hq)))
    obtain ⟨z0,z1,rfl⟩:=list2 (show xs.length=2 from hxl)
    obtain ⟨c0,c1,c2,c3,c4,rfl⟩:=list5 hcl
    have h0:DataW.trod enc Tryz.prog w 0 (fun _=>true) true m1 9 ([c0,c1,c2,c3,c4].take (Tryz.prog.cellsOf 9))=some z0:=hf 0 _ rfl
    have h1:DataW.trod enc Tryz.prog w 0 (fun _=>true) true m1 32 ([c1,c2,c3,c4].take (Tryz.prog.cellsOf 32))=some z1:=hf 1 _ rfl
    rw [cellsStr] at h0
    rw [cellsNode] at h1
    have hwk:DataW.weights Tryz.prog 86 (.agg ([z0,z1].map (·.1)))=DataW.weightsEach Tryz.prog [9,32] ([z0,z1].map (·.1)):=by
     rw [DataW.weights];simp only [Tryz.underlying86];rfl
    rw [hx1] at hwel
    rw [hwk] at hwel
    obtain ⟨name,e0,ez,_⟩:=DataW.trod_string Tryz.underlying9 h0
    have hns:name.size<=140737488355328:=by
     have:=hwel name.data.toList.length (DataW.weights_mem_each (j:=0) (t:=9) (d:=z0.1) rfl rfl _ (by rw [ez];simp [DataW.weights]))
     simp only [reachBytes] at this
     have e:name.data.toList.length=name.size:=by simp
     omega
    obtain ⟨kind,data,exec,u,y,m2,hm2,e1,hy,hwy,_⟩:=node_of_trod h1 (fun q hq=>hwel q (DataW.weights_mem_each (j:=1) (t:=32) (d:=z1.1) rfl rfl q hq))
    obtain ⟨l,hl⟩:=ih m2 (by omega) u y hy hwy
    simp only [List.take_succ_cons,List.take_zero,List.cons.injEq,and_true] at e0 e1
    obtain ⟨rfl,rfl,rfl,rfl⟩:=e1
    subst e0
    have k0:=hcc 0 (by omega)
    have k1:=hcc 1 (by omega)
    have k2:=hcc 2 (by omega)
    have k3:=hcc 3 (by omega)
    have k4:=hcc 4 (by omega)
    simp only [List.getElem?_cons_zero,List.getElem?_cons_succ] at k0 k1 k2 k3 k4
    have ha:=hplain i hi
    obtain ⟨b,off,rfl⟩:=ha
    have hadd:∀(q o:Nat),(⟨b,q,none⟩:Addr).add o=⟨b,q+o,none⟩:=fun q o=>by unfold Addr.add;split <;> simp_all
    simp only [hadd,Nat.add_zero] at k0 k1 k2 k3 k4
    exact ⟨((name,⟨kind,data,exec,l⟩),c4),⟨b,off,rfl,lt_of_cell k0,hns,k0,k1,k2,k3,k4⟩,hl.up (Nat.le_refl _) (by omega)⟩
   haveI:Inhabited ((ByteArray×Tree)×Value):=⟨((ByteArray.empty,⟨ByteArray.empty,ByteArray.empty,false,[]⟩),.nilIface)⟩
   obtain ⟨f,hf⟩:=Deep.choose_lt hone
   refine ⟨(List.range len).map fun i=>(f i).1,some a,cap,by simp,by simpa using hlen,fun i x hx=>?_⟩
   have hi:i<len:=by have:=(List.getElem?_eq_some_iff.1 hx).1;simpa using this
   have ex:x=(f i).1:=by
    rw [List.getElem?_map,List.getElem?_range hi] at hx
    simpa using hx.symm
   subst ex
   obtain ⟨⟨b,off,e,q1,q2,q3,q4,q5,q6,q7⟩,q8⟩:=hf i hi
   exact ⟨b,off,(f i).2,by rw [e],q1,q2,q3,q4,q5,q6,q7,q8⟩
end
end Go.Proofs.YteefneelcgeioaaGreatDoor
namespace Go.Proofs.YteefneelcgeioaaGreatDoor
set_option maxRecDepth 100000
open Go.ChangeShapes Go.WideShapes Go.RowKit

theorem sums_own:ownKnob Tryz.prog.godebug=none:=by kernel_rfl
theorem sums_laidOut:laidOutB Tryz.prog=true:=by kernel_rfl
end Go.Proofs.YteefneelcgeioaaGreatDoor
