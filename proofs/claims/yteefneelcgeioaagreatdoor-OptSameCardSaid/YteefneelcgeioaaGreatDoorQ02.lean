/-
  An argument that is acts on trees.
  Lists of a tree's nodes, as the document's answer makes them: each node's kids right behind it, one node after the other. No program stands here.
  A tree in memory of its own: each list of kids in a row that nothing else of the tree shares; kids below a block, each list with its room told.
  A tree in memory by its nodes' cells, each row of kids in a block of its own: what a function that is handed nodes by their places may change.
  The contracts of the functions of package tree that look at one node, or at one name.
  Conditions: those that each states.
-/
import Derived.Test.YteefneelcgeioaaGreatDoorQ01
import Derived.Deep.MidRow
import Derived.OneCell
import Derived.Test.YteefneelcgeioaaGreatDoorProg
import Derived.WalkKit
import Derived.Handy
import Derived.Outline
import Derived.WalkLawsBesides
import Derived.WalkSpells
namespace Go.Proofs.YteefneelcgeioaaGreatDoor
set_option maxRecDepth 100000
open Go.ChangeShapes Go.WideShapes Go.RowKit

structure TAct where
 kind:ByteArray
 path:ByteArray
 s:ByteArray
 node:Tree
 k:Int
 n:Int
 bit:Int
structure TActAt (w:World) (d b o:Nat) (c:TAct) (u:Value):Prop where
 kind:w.cell? ⟨b,o,none⟩=some (.string c.kind)
 path:w.cell? ⟨b,o+1,none⟩=some (.string c.path)
 s:w.cell? ⟨b,o+2,none⟩=some (.string c.s)
 nkind:w.cell? ⟨b,o+3,none⟩=some (.string c.node.kind)
 ndata:w.cell? ⟨b,o+4,none⟩=some (.string c.node.data)
 nexec:w.cell? ⟨b,o+5,none⟩=some (.bool c.node.exec)
 nkids:w.cell? ⟨b,o+6,none⟩=some u
 k:w.cell? ⟨b,o+7,none⟩=some (.int .i64 c.k)
 n:w.cell? ⟨b,o+8,none⟩=some (.int .i64 c.n)
 bit:w.cell? ⟨b,o+9,none⟩=some (.int .i64 c.bit)
 lies:Lies w w.heap.size d c.node.kids u
def TActsIn (w:World) (d:Nat) (l:List TAct) (v:Value):Prop:=∃ad cap,v = .slice ad l.length cap/\(∀c∈l,c.kind.size<=maxLen/\c.path.size<=maxLen/\c.s.size<=maxLen/\(Lit.int .i64 c.k).wf=true/\(Lit.int .i64 c.n).wf=true/\(Lit.int .i64 c.bit).wf=true)/\∀i c,l[i]? = some c->∃b off u,ad=some ⟨b,off,none⟩/\b<w.heap.size/\TActAt w d b (off+i*10) c u
theorem cellsTA:Tryz.prog.cellsOf 34=10:=by kernel_rfl
theorem bytesTA:Tryz.prog.bytesOf 34=136:=by kernel_rfl
theorem cellsIntA:Tryz.prog.cellsOf 3=1:=by kernel_rfl
theorem list7 {α:Type}:∀ {l:List α},l.length=7->∃a b c d e f g,l = [a,b,c,d,e,f,g]
 | [a,b,c,d,e,f,g],_=>⟨a,b,c,d,e,f,g,rfl⟩
theorem list10 {α:Type}:∀ {l:List α},l.length=10->∃a b c d e f g h i j,l = [a,b,c,d,e,f,g,h,i,j]
 | [a,b,c,d,e,f,g,h,i,j],_=>⟨a,b,c,d,e,f,g,h,i,j,rfl⟩
section
variable {H : Type} {enc : TypeId × Value → H} {w : World}
theorem tacts_of_trod {n:Nat} {v:Value} {x:DataW H×List MemPlace} (h:DataW.trod enc Tryz.prog w 0 (fun _=>true) true n 22 [v]=some x) (hw:∀m∈x.1.weights Tryz.prog 22,m<=reachBytes):∃l,TActsIn w n l v:=by
 rcases DataW.trod_slice Tryz.underlying22 h with ⟨hcs,_⟩|⟨a,len,cap,elems,rest,m,hfuel,hcs,hx,_,hlc,_,hel,hE,_,_⟩
 ·simp only [List.cons.injEq,and_true] at hcs
  subst hcs
  exact ⟨[],none,0,rfl,fun c hc=>by simp at hc,fun i c hc=>by simp at hc⟩
 ·simp only [List.cons.injEq,and_true] at hcs
  subst hcs;subst hfuel
  have hwd:x.1.weights Tryz.prog 22=((elems.map (·.1)).length+(rest.map (·.1)).length)*136 :: (DataW.weightsAll Tryz.prog 34 (elems.map (·.1))++DataW.weightsAll Tryz.prog 34 (rest.map (·.1))):=by
   rw [hx,DataW.weights];simp only [Tryz.underlying22,bytesTA]
  have hone:∀i,i<len->∃p:TAct,(p.kind.size<=maxLen/\p.path.size<=maxLen/\p.s.size<=maxLen/\(Lit.int .i64 p.k).wf=true/\(Lit.int .i64 p.n).wf=true/\(Lit.int .i64 p.bit).wf=true)/\∃b off u,a=⟨b,off,none⟩/\b<w.heap.size/\TActAt w (m+1) b (off+i*10) p u:=by
   intro i hi
   have hb:=hE i hi
   rw [cellsTA] at hb
   obtain ⟨el,he⟩:∃el,elems[i]? = some el:=⟨elems[i]'(by omega),List.getElem?_eq_getElem (by omega)⟩
   rw [he] at hb
   obtain ⟨cs,hc,ht⟩:=Option.bind_eq_some_iff.1 hb
   obtain ⟨_,hcl,hcc⟩:=World.cells?_some hc
   obtain ⟨xs,m1,hm1,hx1,_,hxl,hf⟩:=DataW.trod_struct Tryz.underlying34 ht
   have hwel:∀q∈el.1.weights Tryz.prog 34,q<=reachBytes:=fun q hq=>hw q (by
    rw [hwd]
    exact List.mem_cons_of_mem _ (List.mem_append_left _ (weights_all (List.mem_map.2 ⟨el,List.mem_of_getElem? he,rfl⟩) q hq)))
   obtain ⟨z0,z1,z2,z3,z4,z5,z6,rfl⟩:=list7 (show xs.length=7 from hxl)
   obtain ⟨c0,c1,c2,c3,c4,c5,c6,c7,c8,c9,rfl⟩:=list10 hcl
   have h0:DataW.trod enc Tryz.prog w 0 (fun _=>true) true m1 9 ([c0,c1,c2,c3,c4,c5,c6,c7,c8,c9].take (Tryz.prog.cellsOf 9))=some z0:=hf 0 _ rfl
   have h1:DataW.trod enc Tryz.prog w 0 (fun _=>true) true m1 9 ([c1,c2,c3,c4,c5,c6,c7,c8,c9].take (Tryz.prog.cellsOf 9))=some z1:=hf 1 _ rfl
   have h2:DataW.trod enc Tryz.prog w 0 (fun _=>true) true m1 9 ([c2,c3,c4,c5,c6,c7,c8,c9].take (Tryz.prog.cellsOf 9))=some z2:=hf 2 _ rfl
   have h3:DataW.trod enc Tryz.prog w 0 (fun _=>true) true m1 32 ([c3,c4,c5,c6,c7,c8,c9].take (Tryz.prog.cellsOf 32))=some z3:=hf 3 _ rfl
   have h4:DataW.trod enc Tryz.prog w 0 (fun _=>true) true m1 3 ([c7,c8,c9].take (Tryz.prog.cellsOf 3))=some z4:=hf 4 _ rfl
   have h5:DataW.trod enc Tryz.prog w 0 (fun _=>true) true m1 3 ([c8,c9].take (Tryz.prog.cellsOf 3))=some z5:=hf 5 _ rfl
   have h6:DataW.trod enc Tryz.prog w 0 (fun _=>true) true m1 3 ([c9].take (Tryz.prog.cellsOf 3))=some z6:=hf 6 _ rfl
   rw [cellsStr] at h0 h1 h2
   rw [cellsNode] at h3
   rw [cellsIntA] at h4 h5 h6
   obtain ⟨kind,e0,_,hk⟩:=DataW.trod_string Tryz.underlying9 h0
   obtain ⟨path,e1,_,hp⟩:=DataW.trod_string Tryz.underlying9 h1
   obtain ⟨str,e2,_,hs⟩:=DataW.trod_string Tryz.underlying9 h2
   obtain ⟨nK,e4,_,w4⟩:=DataW.trod_int Tryz.underlying3 h4
   obtain ⟨nN,e5,_,w5⟩:=DataW.trod_int Tryz.underlying3 h5
   obtain ⟨nB,e6,_,w6⟩:=DataW.trod_int Tryz.underlying3 h6
   have hwn:∀q∈z3.1.weights Tryz.prog 32,q<=reachBytes:=fun q hq=>hwel q (by
    rw [hx1]
    have hwd2:DataW.weights Tryz.prog 34 (.agg ([z0,z1,z2,z3,z4,z5,z6].map (·.1)))=DataW.weightsEach Tryz.prog [9,9,9,32,3,3,3] ([z0,z1,z2,z3,z4,z5,z6].map (·.1)):=by
     rw [DataW.weights];simp only [Tryz.underlying34];rfl
    rw [hwd2]
    exact DataW.weights_mem_each (j:=3) rfl rfl q hq)
   have h3':DataW.trod enc Tryz.prog w 0 (fun _=>true) true m1 32 [c3,c4,c5,c6]=some z3:=h3
   obtain ⟨nk,ndd,ne,u,y,m2,hm2,ee,hy,hwy,_⟩:=node_of_trod h3' hwn
   obtain ⟨kl,hkl⟩:=lies_of_trod m2 u y hy hwy
   simp only [List.take_succ_cons,List.take_zero,List.cons.injEq,and_true] at e0 e1 e2 e4 e5 e6 ee
   subst e0;subst e1;subst e2;subst e4;subst e5;subst e6
   obtain ⟨rfl,rfl,rfl,rfl⟩:=ee
   have k0:=hcc 0 (by omega)
   have k1:=hcc 1 (by omega)
   have k2:=hcc 2 (by omega)
   have k3:=hcc 3 (by omega)
   have k4:=hcc 4 (by omega)
   have k5:=hcc 5 (by omega)
   have k6:=hcc 6 (by omega)
   have k7:=hcc 7 (by omega)
   have k8:=hcc 8 (by omega)
   have k9:=hcc 9 (by omega)
   simp only [List.getElem?_cons_zero,List.getElem?_cons_succ] at k0 k1 k2 k3 k4 k5 k6 k7 k8 k9
   obtain ⟨b,off,rfl⟩:∃b off,a=⟨b,off,none⟩:=by
    have hb0:=hE 0 (by omega)
    rw [cellsTA] at hb0
    obtain ⟨el0,he0⟩:∃el,elems[0]? = some el:=⟨elems[0]'(by omega),List.getElem?_eq_getElem (by omega)⟩
    rw [he0] at hb0
    obtain ⟨cs0,hc0,_⟩:=Option.bind_eq_some_iff.1 hb0
    obtain ⟨_,hcl0,hcc0⟩:=World.cells?_some hc0
    have j0:=hcc0 0 (by omega)
    rw [List.getElem?_eq_getElem (by omega)] at j0
    obtain ⟨b,off,spot⟩:=a
    have hsp:spot=none:=by simpa [Addr.add] using World.cell?_spot j0
    subst hsp
    exact ⟨b,off,rfl⟩
   simp only [Addr.add_mid,Nat.add_zero] at k0 k1 k2 k3 k4 k5 k6 k7 k8 k9
   exact ⟨⟨kind,path,str,⟨nk,ndd,ne,kl⟩,nK,nN,nB⟩,⟨hk,hp,hs,w4,w5,w6⟩,b,off,_,rfl,World.block_lt_of_cell? w _ k0,⟨k0,k1,k2,k3,k4,k5,k6,k7,k8,k9,hkl.up (Nat.le_refl _) (by omega)⟩⟩
  haveI:Inhabited TAct:=⟨⟨ByteArray.empty,ByteArray.empty,ByteArray.empty,⟨ByteArray.empty,ByteArray.empty,false,[]⟩,0,0,0⟩⟩
  obtain ⟨f,hf⟩:=Deep.choose_lt hone
  refine ⟨(List.range len).map f,some a,cap,by simp,fun c hc=>?_,fun i y hy=>?_⟩
  ·obtain ⟨i,hi,rfl⟩:=List.mem_map.1 hc
   exact (hf i (by simpa using hi)).1
  ·have hi:i<len:=by have:=(List.getElem?_eq_some_iff.1 hy).1;simpa using this
   have ey:y=f i:=by
    rw [List.getElem?_map,List.getElem?_range hi] at hy
    simpa using hy.symm
   subst ey
   obtain ⟨_,b,off,u,e,q⟩:=hf i hi
   exact ⟨b,off,u,by rw [e],q⟩
theorem tacts_arg {base:Nat} {v:Value} {d:DataW H} {p:List MemPlace} (hval:Value.okWide Tryz.prog w .any base 22 v) (h:DataW.Trod enc Tryz.prog w 0 (fun _=>true) true 22 v d p) (hw:∀m∈d.weights Tryz.prog 22,m<=reachBytes):∃l n,TActsIn w n l v:=by
 obtain ⟨va,vn,vc,rfl⟩:=okWide_slice Tryz.underlying22 hval
 obtain ⟨fuel,hf⟩:=h
 obtain ⟨l,hl⟩:=tacts_of_trod hf hw
 exact ⟨l,fuel,hl⟩
end
end Go.Proofs.YteefneelcgeioaaGreatDoor
namespace Go.Proofs.YteefneelcgeioaaGreatDoor
open Go.RowKit

def kidsOf (most:Nat) (x:ByteArray×Nat×Tree):List (ByteArray×Nat×Tree):=(x.2.2.kids.take (most+1)).map fun y=>(x.1++slash++y.1,x.2.1+1,y.2)
def grow (most deep:Nat) (l:List (ByteArray×Nat×Tree)) (i:Nat):List (ByteArray×Nat×Tree) :=
 match l[i]? with
 | none=>l
 | some x=>if deep<x.2.1 then l else l.take (i+1)++kidsOf most x++l.drop (i+1)
def listTo (most deep:Nat) (l:List (ByteArray×Nat×Tree)):Nat->List (ByteArray×Nat×Tree)
 | 0=>l
 | i+1=>grow most deep (listTo most deep l i) i
def listOf (most deep:Nat) (t:Tree):List (ByteArray×Nat×Tree):=listTo most deep [(ByteArray.empty,0,t)] (most+1)

theorem listTo_done {most deep : Nat} {l : List (ByteArray × Nat × Tree)} {i : Nat} (h : (listTo most deep l i).length ≤ i) : ∀ n, i ≤ n → listTo most deep l n = listTo most deep l i := by
  intro n hn
  induction n with
  | zero => have : i = 0 := by omega
            subst this; rfl
  | succ n ih =>
    rcases Nat.lt_or_ge n i with hlt | hge
    · have : i = n + 1 := by omega
      subst this; rfl
    · have e := ih hge
      show grow most deep (listTo most deep l n) n = _
      rw [e]
      unfold grow
      rw [List.getElem?_eq_none (by omega)]
theorem listTo_len {most deep:Nat} {l:List (ByteArray×Nat×Tree)}:∀i,(listTo most deep l i).length<=l.length+i*(most+1)
 | 0=>by simp [listTo]
 | i+1=>by
  have ih:=listTo_len (most:=most) (deep:=deep) (l:=l) i
  have e:(i+1)*(most+1)=i*(most+1)+(most+1):=by rw [Nat.add_mul];omega
  show (grow most deep (listTo most deep l i) i).length<=_
  unfold grow
  split
  ·omega
  ·rename_i x hx
   split
   ·omega
   ·have hi:i<(listTo most deep l i).length:=(List.getElem?_eq_some_iff.1 hx).1
    have hk:(kidsOf most x).length<=most+1:=by unfold kidsOf;simp;omega
    simp only [List.length_append,List.length_take,List.length_drop]
    omega

def itCells:List ((ByteArray×Nat×Tree)×Value)->List Value
 | []=>[]
 | x :: l=>.string x.1.1 :: .int .i64 (x.1.2.1:Int) :: .string x.1.2.2.kind :: .string x.1.2.2.data :: .bool x.1.2.2.exec :: x.2 :: itCells l
theorem itCells_append:∀(a b:List ((ByteArray×Nat×Tree)×Value)),itCells (a++b)=itCells a++itCells b
 | [],b=>rfl
 | x :: a,b=>by simp only [List.cons_append,itCells];rw [itCells_append a b]
theorem itCells_length:∀(a:List ((ByteArray×Nat×Tree)×Value)),(itCells a).length=a.length*6
 | []=>rfl
 | x :: a=>by simp only [itCells,List.length_cons,itCells_length a];omega
theorem itCells_at:∀ {l:List ((ByteArray×Nat×Tree)×Value)} {i:Nat} {x:(ByteArray×Nat×Tree)×Value},l[i]? = some x ->
  (itCells l)[i*6]? = some (.string x.1.1)/\(itCells l)[i*6+1]? = some (.int .i64 (x.1.2.1:Int))/\(itCells l)[i*6+2]? = some (.string x.1.2.2.kind)/\(itCells l)[i*6+3]? = some (.string x.1.2.2.data)/\(itCells l)[i*6+4]? = some (.bool x.1.2.2.exec)/\(itCells l)[i*6+5]? = some x.2
 | [],i,x,h=>by simp at h
 | y :: l,0,x,h=>by
  simp only [List.getElem?_cons_zero,Option.some.injEq] at h
  subst h
  exact ⟨rfl,rfl,rfl,rfl,rfl,rfl⟩
 | y :: l,i+1,x,h=>by
  simp only [List.getElem?_cons_succ] at h
  have:=itCells_at h
  have e:∀k,(i+1)*6+k=(i*6+k)+1+1+1+1+1+1:=fun k=>by omega
  simp only [itCells]
  refine ⟨?_,?_,?_,?_,?_,?_⟩
  ·rw [show (i+1)*6=(i*6)+1+1+1+1+1+1 from by omega];simpa using this.1
  ·rw [e];simpa using this.2.1
  ·rw [e];simpa using this.2.2.1
  ·rw [e];simpa using this.2.2.2.1
  ·rw [e];simpa using this.2.2.2.2.1
  ·rw [e];simpa using this.2.2.2.2.2
theorem itCells_oneCell {l:List ((ByteArray×Nat×Tree)×Value)} (h:∀x∈l,∃ad n c,x.2 = .slice ad n c):∀u∈itCells l,u.oneCell'=true:=by
 induction l with
 | nil=>intro u hu;simp [itCells] at hu
 | cons x l ih =>
  intro u hu
  obtain ⟨ad,n,c,e⟩:=h x List.mem_cons_self
  simp only [itCells,List.mem_cons] at hu
  rcases hu with rfl|rfl|rfl|rfl|rfl|rfl|hu
  ·rfl
  ·rfl
  ·rfl
  ·rfl
  ·rfl
  ·rw [e];rfl
  ·exact ih (fun y hy=>h y (List.mem_cons_of_mem _ hy)) u hu
theorem itCells_take {l:List ((ByteArray×Nat×Tree)×Value)} (k:Nat):itCells (l.take k)=(itCells l).take (k*6):=by
 induction l generalizing k with
 | nil=>simp [itCells]
 | cons x l ih =>
  cases k with
  | zero=>simp [itCells]
  | succ k =>
   simp only [List.take_succ_cons,itCells,ih]
   rw [show (k+1)*6=k*6+1+1+1+1+1+1 from by omega]
   simp only [List.take_succ_cons]
theorem itCells_drop {l:List ((ByteArray×Nat×Tree)×Value)} (k:Nat):itCells (l.drop k)=(itCells l).drop (k*6):=by
 induction l generalizing k with
 | nil=>simp [itCells]
 | cons x l ih =>
  cases k with
  | zero=>simp [itCells]
  | succ k =>
   simp only [List.drop_succ_cons,itCells,ih]
   rw [show (k+1)*6=k*6+1+1+1+1+1+1 from by omega]
   simp only [List.drop_succ_cons]
theorem ownsRow_lower {w:World} {base base':Nat} {e:TypeId} {size:Nat} {v:Value} {n:Nat} {xs:List Value} (h:w.ownsRow base e size v n xs) (hb:base'<=base):w.ownsRow base' e size v n xs:=by
 obtain ⟨h1,h2⟩:=h
 refine ⟨h1,?_⟩
 rcases h2 with h2|⟨g,cap,cur,hv,hg,hh,r⟩
 ·exact .inl h2
 ·exact .inr ⟨g,cap,cur,hv,by omega,hh,r⟩
theorem ownsRow_single (w:World) (base:Nat) (e:TypeId) (size:Nat) (cs:Array Value) (hb:base<=w.heap.size) (hs:cs.size=size):(w.alloc (.cells cs e)).ownsRow base e size (.slice (some ⟨w.heap.size,0,none⟩) 1 1) 1 cs.toList:=by
 refine ⟨by simp [hs],.inr ⟨w.heap.size,1,cs,rfl,hb,heap_alloc_new w _,Nat.le_refl _,by unfold maxLen;omega,by omega,?_⟩⟩
 rw [List.take_of_length_le (by simp;omega)]
end Go.Proofs.YteefneelcgeioaaGreatDoor
namespace Go.Proofs.YteefneelcgeioaaGreatDoor
open Go.RowKit

theorem row_alloc' (w:World) (c:Array Value) (t:TypeId):(w.alloc (.cells c t)).heap[w.heap.size]? = some (.cells c t (0,0)):=by
 show (w.heap.push _)[w.heap.size]? = _
 simp
theorem free_of_row {w:World} {b:Nat} {c:Array Value} {t:TypeId} (h:w.heap[b]? = some (.cells c t (0,0))) (i:Nat):w.frozen? ⟨b,i,none⟩=false:=by simp [World.frozen?,h]
theorem ownsRow_ext' {w w':World} {base:Nat} {e:TypeId} {size:Nat} {v:Value} {n:Nat} {xs:List Value} (h:w.ownsRow base e size v n xs) (hb:∀k,v.ownBlock=some k->w'.heap[k]? = w.heap[k]?):w'.ownsRow base e size v n xs:=by
 obtain ⟨h1,h2⟩:=h
 refine ⟨h1,?_⟩
 rcases h2 with h2|⟨g,cap,cur,hv,hg,hh,r⟩
 ·exact .inl h2
 ·subst hv
  exact .inr ⟨g,cap,cur,rfl,hg,by rw [hb g rfl];exact hh,r⟩
def OwnT (w:World):(Nat->Prop)->Nat->List (ByteArray×Tree)->Value->Prop
 | _,0,_,_=>False
 | Q,d+1,l,v=>l.length<=1759218604390/\(∀x∈l,x.1.size<=140737488355328)/\∃(us:List Value) (Qs:Nat->Nat->Prop),us.length=l.length/\w.ownsRow 0 86 5 v l.length (kidCells l us)/\(∀g,v.ownBlock=some g->Q g) /\
   (∀i x u,l[i]? = some x->us[i]? = some u->OwnT w (Qs i) d x.2.kids u)/\(∀i b,Qs i b->Q b/\v.ownBlock≠some b)/\∀i j b,i≠j->Qs i b->¬Qs j b
theorem OwnT.kept {w w':World}:∀ {d:Nat} {Q Q':Nat->Prop} {l:List (ByteArray×Tree)} {v:Value},(∀k,Q k->w'.heap[k]? = w.heap[k]?)->(∀k,Q k->Q' k)->OwnT w Q d l v->OwnT w' Q' d l v
 | 0,_,_,_,_,_,_,h=>h
 | _+1,_,_,_,_,hb,hq,⟨h1,h2,us,Qs,h3,h4,h5,h6,h7,h8⟩ =>
  ⟨h1,h2,us,Qs,h3,ownsRow_ext' h4 fun k hk=>hb k (h5 k hk),fun g hg=>hq g (h5 g hg),fun i x u hx hu=>OwnT.kept (fun k hk=>hb k (h7 i k hk).1) (fun _ hk=>hk) (h6 i x u hx hu),fun i b hi=>⟨hq b (h7 i b hi).1,(h7 i b hi).2⟩,h8⟩
theorem OwnT.liesQ {w:World}:∀ {d:Nat} {Q:Nat->Prop} {l:List (ByteArray×Tree)} {v:Value},OwnT w Q d l v->LiesQ w Q d l v
 | 0,_,_,_,h=>h
 | _+1,_,_,_,⟨h1,h2,_,_,h3,h4,h5,h6,h7,_⟩ =>
  LiesQ.made h4 h1 h3 h5 h2 fun i x u hx hu=>(OwnT.liesQ (h6 i x u hx hu)).kept (fun _ _=>rfl) fun k hk=>(h7 i k hk).1
theorem OwnT.form {w:World} {Q:Nat->Prop} {d:Nat} {l:List (ByteArray×Tree)} {v:Value} (h:OwnT w Q d l v):∃ad cap,v = .slice ad l.length cap:=h.liesQ.form
theorem OwnT.up {w:World}:∀ {d e:Nat} {Q:Nat->Prop} {l:List (ByteArray×Tree)} {v:Value},d<=e->OwnT w Q d l v->OwnT w Q e l v
 | 0,_,_,_,_,_,h=>h.elim
 | _+1,0,_,_,_,h,_=>by omega
 | _+1,_+1,_,_,_,hd,⟨h1,h2,us,Qs,h3,h4,h5,h6,h7,h8⟩=>⟨h1,h2,us,Qs,h3,h4,h5,fun i x u hx hu=>OwnT.up (by omega) (h6 i x u hx hu),h7,h8⟩
end Go.Proofs.YteefneelcgeioaaGreatDoor
namespace Go.Proofs.YteefneelcgeioaaGreatDoor
open Go.RowKit

def LiesC (w:World) (B:Nat):Nat->List (ByteArray×Tree)->Value->Prop
 | 0,_,_=>False
 | d+1,l,v=>∃ad cap,v = .slice ad l.length cap/\l.length<=cap/\cap<=maxLen/\l.length<=1759218604390/\∀i x,l[i]? = some x->∃b off u,ad=some ⟨b,off,none⟩/\b<B/\x.1.size<=140737488355328 /\
   w.cell? ⟨b,off+i*5,none⟩=some (.string x.1)/\w.cell? ⟨b,off+i*5+1,none⟩=some (.string x.2.kind)/\w.cell? ⟨b,off+i*5+2,none⟩=some (.string x.2.data) /\
   w.cell? ⟨b,off+i*5+3,none⟩=some (.bool x.2.exec)/\w.cell? ⟨b,off+i*5+4,none⟩=some u/\LiesC w B d x.2.kids u
theorem LiesC.lies {w:World} {B:Nat}:∀ {d:Nat} {l:List (ByteArray×Tree)} {v:Value},LiesC w B d l v->Lies w B d l v
 | 0,_,_,h=>h
 | d+1,l,v,⟨ad,cap,e,_,_,hlen,hk⟩=>⟨ad,cap,e,hlen,fun i x hx=>by
  obtain ⟨b,off,u,e,h1,h2,h3,h4,h5,h6,h7,h8⟩:=hk i x hx
  exact ⟨b,off,u,e,h1,h2,h3,h4,h5,h6,h7,LiesC.lies h8⟩⟩
theorem LiesC.kept {w w':World} {B:Nat} (hb:∀k,k<B->w'.heap[k]? = w.heap[k]?):∀ {d:Nat} {l:List (ByteArray×Tree)} {v:Value},LiesC w B d l v->LiesC w' B d l v
 | 0,_,_,h=>h
 | d+1,l,v,⟨ad,cap,e,hc,hm,hlen,hk⟩=>⟨ad,cap,e,hc,hm,hlen,fun i x hx=>by
  obtain ⟨b,off,u,e,h1,h2,h3,h4,h5,h6,h7,h8⟩:=hk i x hx
  have hc:∀o,w'.cell? ⟨b,o,none⟩=w.cell? ⟨b,o,none⟩:=fun o=>World.cell?_of_block (hb b h1)
  exact ⟨b,off,u,e,h1,h2,by rw [hc];exact h3,by rw [hc];exact h4,by rw [hc];exact h5,by rw [hc];exact h6,by rw [hc];exact h7,LiesC.kept hb h8⟩⟩
theorem LiesC.below {w w':World} {B d:Nat} {l:List (ByteArray×Tree)} {v:Value} (h:LiesC w B d l v) {C:Nat} (hb:Below C w w') (hC:B<=C):LiesC w' B d l v:=h.kept fun k hk=>hb.block k (by omega)
theorem LiesC.up {w:World} {B B':Nat} (hB:B<=B'):∀ {d:Nat} {l:List (ByteArray×Tree)} {v:Value},LiesC w B d l v->LiesC w B' d l v
 | 0,_,_,h=>h
 | d+1,l,v,⟨ad,cap,e,hc,hm,hlen,hk⟩=>⟨ad,cap,e,hc,hm,hlen,fun i x hx=>by
  obtain ⟨b,off,u,e,h1,h2,h3,h4,h5,h6,h7,h8⟩:=hk i x hx
  exact ⟨b,off,u,e,by omega,h2,h3,h4,h5,h6,h7,LiesC.up hB h8⟩⟩
theorem LiesC.cons {w:World} {B d:Nat} {x:ByteArray×Tree} {r:List (ByteArray×Tree)} {v:Value} (h:LiesC w B (d+1) (x :: r) v):∃b off cap u,v = .slice (some ⟨b,off,none⟩) (r.length+1) cap/\r.length+1<=cap/\cap<=maxLen/\b<B/\r.length+1<=1759218604390 /\
  w.cell? ⟨b,off,none⟩=some (.string x.1)/\w.cell? ⟨b,off+1,none⟩=some (.string x.2.kind)/\w.cell? ⟨b,off+2,none⟩=some (.string x.2.data)/\w.cell? ⟨b,off+3,none⟩=some (.bool x.2.exec)/\w.cell? ⟨b,off+4,none⟩=some u/\LiesC w B d x.2.kids u /\
  (cap=1->LiesC w B (d+1) r (.slice (some ⟨b,off,none⟩) r.length (cap-1)))/\LiesC w B (d+1) r (.slice (some ⟨b,off+5,none⟩) r.length (cap-1)):=by
 obtain ⟨ad,cap,e,hc,hm,hlen,hk⟩:=h
 obtain ⟨b,off,u,rfl,h1,h2,h3,h4,h5,h6,h7,h8⟩:=hk 0 x rfl
 simp only [Nat.zero_mul,Nat.add_zero] at h3 h4 h5 h6 h7
 simp only [List.length_cons] at hc hlen e
 have hcap:cap=1->r = []:=fun e1=>by
  cases r with
  | nil=>rfl
  | cons y r=>simp only [List.length_cons] at hc;omega
 refine ⟨b,off,cap,u,e,hc,hm,h1,hlen,h3,h4,h5,h6,h7,h8,fun e1=>?_,?_⟩
 ·rw [hcap e1]
  exact ⟨_,_,rfl,by simp,by omega,by simp,fun i x hx=>by simp at hx⟩
 ·refine ⟨_,_,rfl,by omega,by omega,by omega,fun i y hy=>?_⟩
  obtain ⟨b',off',u',e',g1,g2,g3,g4,g5,g6,g7,g8⟩:=hk (i+1) y hy
  simp only [Option.some.injEq,Addr.mk.injEq,and_true] at e'
  obtain ⟨rfl,rfl⟩:=e'
  have ea:∀j,off+(i+1)*5+j=off+5+i*5+j:=fun j=>by omega
  have e0:off+(i+1)*5=off+5+i*5:=by omega
  rw [ea] at g4 g5 g6 g7
  rw [e0] at g3
  exact ⟨b,off+5,u',rfl,g1,g2,g3,g4,g5,g6,g7,g8⟩
theorem LiesC.nil {w:World} {B d:Nat} {v:Value} (h:LiesC w B (d+1) [] v):∃ad cap,v = .slice ad 0 cap:=by
 obtain ⟨ad,cap,e,_⟩:=h
 exact ⟨ad,cap,e⟩
theorem LiesC.form {w:World} {B:Nat} {d:Nat} {l:List (ByteArray×Tree)} {v:Value} (h:LiesC w B d l v):∃ad cap,v = .slice ad l.length cap:=h.lies.form
end Go.Proofs.YteefneelcgeioaaGreatDoor
namespace Go.Proofs.YteefneelcgeioaaGreatDoor
open Go.RowKit

structure NodeC (w:World) (b o:Nat) (t:Tree) (u:Value):Prop where
 kind:w.cell? ⟨b,o,none⟩=some (.string t.kind)
 data:w.cell? ⟨b,o+1,none⟩=some (.string t.data)
 exec:w.cell? ⟨b,o+2,none⟩=some (.bool t.exec)
 kids:w.cell? ⟨b,o+3,none⟩=some u
theorem NodeC.same {w w':World} {b o:Nat} {t:Tree} {u:Value} (h:NodeC w b o t u) (hc:∀j,o<=j->j<o+4->w'.cell? ⟨b,j,none⟩=w.cell? ⟨b,j,none⟩):NodeC w' b o t u :=
 ⟨by rw [hc o (by omega) (by omega)];exact h.kind,by rw [hc (o+1) (by omega) (by omega)];exact h.data,by rw [hc (o+2) (by omega) (by omega)];exact h.exec,by rw [hc (o+3) (by omega) (by omega)];exact h.kids⟩
def RowT (w:World) (b:Nat) (cur:Array Value):Prop:=w.heap[b]? = some (.cells cur 32 (0,0))∨w.heap[b]? = some (.cells cur 86 (0,0))
def trTy:Obj->Bool
 | .cells _ t _=>t==32||t==86
 | _=>false
def TreeIn (w:World):(Nat->Prop)->Nat->Nat->Nat->Tree->Prop
 | _,0,_,_,_=>False
 | Q,d+1,b,o,t=>∃ad cap,NodeC w b o t (.slice ad t.kids.length cap)/\t.kids.length<=1759218604390/\t.kids.length<=cap/\(t.kids≠[]->∃(g:Nat) (cur:Array Value) (Qs:Nat->Nat->Prop),ad=some ⟨g,0,none⟩/\Q g/\w.heap[g]? = some (.cells cur 86 (0,0))/\t.kids.length*5<=cur.size /\
   (∀i x,t.kids[i]? = some x->x.1.size<=140737488355328/\w.cell? ⟨g,i*5,none⟩=some (.string x.1)/\TreeIn w (Qs i) d g (i*5+1) x.2)/\(∀i k,Qs i k->Q k/\k≠g)/\∀i j k,i≠j->Qs i k->¬Qs j k)
theorem TreeIn.kept {w w':World}:∀ {d:Nat} {Q Q':Nat->Prop} {b o:Nat} {t:Tree},TreeIn w Q d b o t->(∀k cur,Q k->w.heap[k]? = some (.cells cur 86 (0,0))->w'.heap[k]? = some (.cells cur 86 (0,0)))->(∀j,o<=j->j<o+4->w'.cell? ⟨b,j,none⟩=w.cell? ⟨b,j,none⟩)->(∀k,Q k->Q' k)->TreeIn w' Q' d b o t
 | 0,_,_,_,_,_,h,_,_,_=>h
 | d+1,Q,Q',b,o,t,⟨ad,cap,hn,hl,hlc,hk⟩,hq,hc,hqq=>⟨ad,cap,hn.same hc,hl,hlc,fun hne=>by
  obtain ⟨g,cur,Qs,e,hg,hr,hs,hi,hsub,hdis⟩:=hk hne
  have hr':=hq g cur hg hr
  have hcell:∀j,w'.cell? ⟨g,j,none⟩=w.cell? ⟨g,j,none⟩:=fun j=>World.cell?_of_block (by rw [hr,hr'])
  refine ⟨g,cur,Qs,e,hqq g hg,hr',hs,fun i x hx=>?_,fun i k h=>⟨hqq k (hsub i k h).1,(hsub i k h).2⟩,hdis⟩
  obtain ⟨h1,h2,h3⟩:=hi i x hx
  exact ⟨h1,by rw [hcell];exact h2,TreeIn.kept h3 (fun k cur hk hr=>hq k cur (hsub i k hk).1 hr) (fun j _ _=>hcell j) (fun _ h=>h)⟩⟩
theorem TreeIn.of_own {w:World}:∀ {d:Nat} {Q:Nat->Prop} {b o:Nat} {t:Tree} {u:Value},OwnT w Q d t.kids u->NodeC w b o t u->TreeIn w Q d b o t
 | 0,_,_,_,_,_,h,_=>h
 | d+1,Q,b,o,t,u,⟨h1,h2,us,Qs,h3,h4,h5,h6,h7,h8⟩,hn=>by
  rcases h4.2 with ⟨rfl,h0⟩|⟨g,cap,cur,rfl,_,hr,hlc,_,hsz,_⟩
  ·exact ⟨none,0,by rw [h0];exact hn,h1,by omega,fun hne=>absurd (List.eq_nil_of_length_eq_zero h0) hne⟩
  ·refine ⟨some ⟨g,0,none⟩,cap,hn,h1,hlc,fun _=>⟨g,cur,Qs,rfl,h5 g rfl,hr,by rw [hsz];exact Nat.mul_le_mul_right _ hlc,fun i x hx=>?_,fun i k hk=>⟨(h7 i k hk).1,fun e=>(h7 i k hk).2 (by rw [e];rfl)⟩,h8⟩⟩
   have hi:=(List.getElem?_eq_some_iff.1 hx).1
   obtain ⟨uu,hu⟩:∃uu,us[i]? = some uu:=⟨_,List.getElem?_eq_getElem (by rw [h3];exact hi)⟩
   have hc:=h4.cells (g:=g) rfl
   have hadd:∀j,(⟨g,0,none⟩:Addr).add j=⟨g,j,none⟩:=fun j=>by unfold Addr.add;split <;> simp_all
   obtain ⟨a0,a1,a2,a3,a4⟩:=kidCells_at hx hu
   have c0:=hc _ _ a0
   have c1:=hc _ _ a1
   have c2:=hc _ _ a2
   have c3:=hc _ _ a3
   have c4:=hc _ _ a4
   rw [hadd] at c0 c1 c2 c3 c4
   exact ⟨h2 x (List.mem_of_getElem? hx),c0,TreeIn.of_own (h6 i x uu hx hu) ⟨c1,c2,c3,c4⟩⟩
theorem TreeIn.lies {w:World} {B:Nat}:∀ {d:Nat} {Q:Nat->Prop} {b o:Nat} {t:Tree},TreeIn w Q d b o t->(∀k,Q k->k<B)->∃u,NodeC w b o t u/\Lies w B d t.kids u
 | 0,_,_,_,_,h,_=>h.elim
 | d+1,Q,b,o,t,⟨ad,cap,hn,hl,hlc,hk⟩,hB=>by
  refine ⟨_,hn,ad,cap,rfl,hl,fun i x hx=>?_⟩
  obtain ⟨g,cur,Qs,e,hg,hr,hs,hi,hsub,hdis⟩:=hk (fun h0=>by rw [h0] at hx;simp at hx)
  obtain ⟨h1,h2,h3⟩:=hi i x hx
  obtain ⟨u,hc,hl3⟩:=TreeIn.lies h3 (fun k hk=>hB k (hsub i k hk).1)
  refine ⟨g,0,u,e,hB g hg,h1,?_⟩
  simp only [Nat.zero_add]
  exact ⟨h2,hc.kind,hc.data,hc.exec,hc.kids,hl3⟩
structure EFrame (Q:Nat->Prop) (b o:Nat) (w w':World):Prop where
 tre:∀k obj,w.heap[k]? = some obj->trTy obj=true->k≠b->¬Q k->w'.heap[k]? = some obj
 blk:∀cur ty,w.heap[b]? = some (.cells cur ty (0,0))->∃cur',w'.heap[b]? = some (.cells cur' ty (0,0))/\cur'.size=cur.size/\∀j,(j<o∨o+4<=j)->cur'[j]? = cur[j]?
theorem EFrame.refl (Q:Nat->Prop) (b o:Nat) (w:World):EFrame Q b o w w:=⟨fun _ _ h _ _ _=>h,fun cur _ h=>⟨cur,h,rfl,fun _ _=>rfl⟩⟩
theorem EFrame.trans {Q:Nat->Prop} {b o:Nat} {w1 w2 w3:World} (h:EFrame Q b o w1 w2) (h':EFrame Q b o w2 w3):EFrame Q b o w1 w3 :=
 ⟨fun k obj hk ht hb hq=>h'.tre k obj (h.tre k obj hk ht hb hq) ht hb hq,fun cur ty hr=>by
  obtain ⟨c1,r1,s1,e1⟩:=h.blk cur ty hr
  obtain ⟨c2,r2,s2,e2⟩:=h'.blk c1 ty r1
  exact ⟨c2,r2,s2.trans s1,fun j hj=>(e2 j hj).trans (e1 j hj)⟩⟩
theorem EFrame.of_eq {Q:Nat->Prop} {b o:Nat} {w w':World} (h:w'.heap=w.heap):EFrame Q b o w w':=⟨fun _ _ hk _ _ _=>by rw [h];exact hk,fun cur _ hr=>⟨cur,by rw [h];exact hr,rfl,fun _ _=>rfl⟩⟩
theorem EFrame.kid {Q Q':Nat->Prop} {b o g o':Nat} {w w':World} (h:EFrame Q' g o' w w') (hg:Q g) (hsub:∀k,Q' k->Q k) (hb:¬Q b) (hr:∃cur,RowT w b cur):EFrame Q b o w w':=by
 obtain ⟨cur,hr⟩:=hr
 have hbg:b≠g:=fun e=>hb (by rw [e];exact hg)
 refine ⟨fun k obj hk ht _ hq=>h.tre k obj hk ht (fun e=>hq (by rw [e];exact hg)) (fun h'=>hq (hsub k h')),fun c ty hc=>?_⟩
 refine ⟨c,h.tre b _ hc ?_ hbg (fun h'=>hb (hsub b h')),rfl,fun _ _=>rfl⟩
 rcases hr with hr|hr <;> rw [hr] at hc <;> cases hc <;> rfl
theorem EFrame.cell {Q:Nat->Prop} {b o:Nat} {w w':World} (h:EFrame Q b o w w') {cur:Array Value} {ty:TypeId} (hr:w.heap[b]? = some (.cells cur ty (0,0))) {j:Nat} (hj:j<o∨o+4<=j):w'.cell? ⟨b,j,none⟩=w.cell? ⟨b,j,none⟩:=by
 obtain ⟨c1,r1,_,e1⟩:=h.blk cur ty hr
 rw [cell_of_row _ _ _ _ _ _ hr,cell_of_row _ _ _ _ _ _ r1,e1 j hj]
def topP (p:ByteArray):ByteArray:=if p.toList.isEmpty then slash else p
def filesL:Nat->ByteArray->Tree->List (ByteArray×Tree)
 | 0,_,_=>[]
 | d+1,p,t=>if isFile t=true then [(topP p,t)] else t.kids.flatMap fun x=>filesL d (p++slash++x.1) x.2
def mapL (g:ByteArray->Tree->Tree):Nat->ByteArray->Tree->Tree
 | 0,_,t=>t
 | d+1,p,t=>if isFile t=true then g (topP p) t else { t with kids:=t.kids.map fun x=>(x.1,mapL g d (p++slash++x.1) x.2) }
def GoodT:Nat->Tree->Prop
 | 0,_=>True
 | d+1,t=>(isFile t=true->t.kids = [])/\∀x∈t.kids,x.1.size<=12/\GoodT d x.2
def KidsAt (g:ByteArray->Tree->Tree) (d:Nat) (p:ByteArray) (ks:List (ByteArray×Tree)) (gb:Nat) (Qs:Nat->Nat->Prop) (j:Nat) (w:World):Prop :=
 ∃cur,w.heap[gb]? = some (.cells cur 86 (0,0))/\ks.length*5<=cur.size/\∀i x,ks[i]? = some x->x.1.size<=140737488355328/\w.cell? ⟨gb,i*5,none⟩=some (.string x.1)/\TreeIn w (Qs i) d gb (i*5+1) (if i<j then mapL g d (p++slash++x.1) x.2 else x.2)
theorem KidsAt.drew {g:ByteArray->Tree->Tree} {d:Nat} {p:ByteArray} {ks:List (ByteArray×Tree)} {gb:Nat} {Qs:Nat->Nat->Prop} {j:Nat} {w:World} (K:KidsAt g d p ks gb Qs j w):KidsAt g d p ks gb Qs j w.drew:=by
 obtain ⟨cur,h1,h2,h3⟩:=K
 exact ⟨cur,h1,h2,fun i x hx=>⟨(h3 i x hx).1,(h3 i x hx).2.1,(h3 i x hx).2.2.kept (fun _ _ _ h=>h) (fun _ _ _=>rfl) (fun _ h=>h)⟩⟩
theorem KidsAt.next {g:ByteArray->Tree->Tree} {d:Nat} {p:ByteArray} {ks:List (ByteArray×Tree)} {gb:Nat} {Qs:Nat->Nat->Prop} {j:Nat} {w w':World} {x:ByteArray×Tree} (K:KidsAt g d p ks gb Qs j w) (hx:ks[j]? = some x) (hT:TreeIn w' (Qs j) d gb (j*5+1) (mapL g d (p++slash++x.1) x.2)) (hF:EFrame (Qs j) gb (j*5+1) w w') (hsub:∀i k,Qs i k->k≠gb) (hdis:∀i j k,i≠j->Qs i k->¬Qs j k):KidsAt g d p ks gb Qs (j+1) w':=by
 obtain ⟨cur,h1,h2,h3⟩:=K
 obtain ⟨c1,r1,s1,_⟩:=hF.blk cur _ h1
 refine ⟨c1,r1,by rw [s1];exact h2,fun i y hy=>?_⟩
 obtain ⟨a1,a2,a3⟩:=h3 i y hy
 refine ⟨a1,?_,?_⟩
 ·rw [hF.cell h1 (j:=i*5) (by omega)];exact a2
 ·by_cases e:i=j
  ·subst e
   rw [hx] at hy;cases hy
   rw [if_pos (by omega)];exact hT
  ·have e2:(if i<j+1 then mapL g d (p++slash++y.1) y.2 else y.2)=(if i<j then mapL g d (p++slash++y.1) y.2 else y.2):=by
    by_cases h:i<j
    ·rw [if_pos h,if_pos (by omega)]
    ·rw [if_neg h,if_neg (by omega)]
   rw [e2]
   exact a3.kept (fun k c hk hr=>hF.tre k _ hr rfl (hsub i k hk) (hdis i j k e hk)) (fun q h1' h2'=>hF.cell h1 (by omega)) (fun _ h=>h)
theorem KidsAt.all {g:ByteArray->Tree->Tree} {d:Nat} {p:ByteArray} {t:Tree} {gb b o cap:Nat} {Q:Nat->Prop} {Qs:Nat->Nat->Prop} {w:World} (K:KidsAt g d p t.kids gb Qs t.kids.length w) (hn:NodeC w b o t (.slice (some ⟨gb,0,none⟩) t.kids.length cap)) (hl:t.kids.length<=1759218604390) (hlc:t.kids.length<=cap) (hg:Q gb) (hsub:∀i k,Qs i k->Q k/\k≠gb) (hdis:∀i j k,i≠j->Qs i k->¬Qs j k) (hf:isFile t=false):TreeIn w Q (d+1) b o (mapL g (d+1) p t):=by
 have e:mapL g (d+1) p t = { t with kids:=t.kids.map fun x=>(x.1,mapL g d (p++slash++x.1) x.2) }:=by rw [mapL,if_neg (by rw [hf];simp)]
 obtain ⟨cur,h1,h2,h3⟩:=K
 rw [e]
 refine ⟨some ⟨gb,0,none⟩,cap,?_,by simpa using hl,by simpa using hlc,fun _=>⟨gb,cur,Qs,rfl,hg,h1,by simpa using h2,fun i y hy=>?_,hsub,hdis⟩⟩
 ·simp only [List.length_map]
  exact ⟨hn.kind,hn.data,hn.exec,hn.kids⟩
 ·simp only [List.getElem?_map,Option.map_eq_some_iff] at hy
  obtain ⟨x,hx,rfl⟩:=hy
  obtain ⟨a1,a2,a3⟩:=h3 i x hx
  rw [if_pos (List.getElem?_eq_some_iff.1 hx).1] at a3
  exact ⟨a1,a2,a3⟩
structure EVisit (P:Program) (f:FuncId) (cp:Array Value) (tS:TypeId) (g:ByteArray->Tree->Tree) (J:List (ByteArray×Tree)->World->Prop) (E:Value->World->Prop) (B0:Nat):Prop where
 drew:∀r w,J r w->J r w.drew
 call:∀p t r w b o ad cap cur,J ((p,t) :: r) w->NodeC w b o t (.slice ad 0 cap)->RowT w b cur->o+4<=cur.size->isFile t=true->t.kids = []->B0<=b ->
  Calls P f (#[.string p,.pointer (some ⟨b,o,none⟩)]++cp) w fun e w'=>(e = .returned .nilIface/\J r w'/\(∃ad' cap',NodeC w' b o (g p t) (.slice ad' 0 cap'))/\(g p t).kids = []/\EFrame (fun _=>False) b o w w')∨(∃er,e = .returned (.iface tS er)/\E (.iface tS er) w')
def EPost (tS:TypeId) (Q:Nat->Prop) (d b o:Nat) (t':Tree) (r:List (ByteArray×Tree)) (J:List (ByteArray×Tree)->World->Prop) (E:Value->World->Prop) (w:World) (e:Ending) (w':World):Prop :=
 (e = .returned .nilIface/\J r w'/\TreeIn w' Q d b o t'/\EFrame Q b o w w')∨(∃er,e = .returned (.iface tS er)/\E (.iface tS er) w')
end Go.Proofs.YteefneelcgeioaaGreatDoor
namespace Go.Proofs.YteefneelcgeioaaGreatDoor
set_option maxHeartbeats 1000000
open Go.RowKit

theorem ret_bool {a b:Bool} (h:a=b):Ending.returned (.bool a) = .returned (.bool b):=by rw [h]

theorem nameByte_any (c:Int) (w:World):Calls Tryz.prog 99 #[.int .u8 c] w fun e w'=>e = .returned (.bool (nb c))/\w'=w:=by
 go_enter Tryz.func99,Tryz.ntmps99
 go_wp2
 all_goals (go_ret;refine ⟨ret_bool ?_,rfl⟩)
 all_goals (unfold nb;rw [Bool.eq_iff_iff];simp;try omega)

theorem name_any (s:ByteArray) (w:World) (hs:s.size<=maxLen):Calls Tryz.prog 74 #[.string s] w fun e w'=>e = .returned (.bool (nameB s))/\w'=w:=by
 unfold maxLen at hs
 by_cases hg:(1<=s.size/\s.size<=12)/\(s.toList == [46])=false/\(s.toList == [46,46])=false
 ·obtain ⟨⟨h1,h2⟩,h3,h4⟩:=hg
  have HE:Hid (nameB s=s.data.toList.all fun c=>nb (c.toNat:Int)):=nameB_yes h1 h2 h3 h4
  go_enter Tryz.func74,Tryz.ntmps74
  go_wp2_with fail
  go_loop [22] (fun i=>∃k:Nat,k<=s.size/\i = .int .i64 k/\(s.data.toList.take k).all (fun c=>nb (c.toNat:Int))=true) (fun i=>s.size-(intOf i).toNat)
  case atStart=>exact ⟨0,Nat.zero_le _,rfl,by simp⟩
  case round =>
   obtain ⟨k,hk,rfl,hall⟩:=hrel
   have HA:Hid ((s.data.toList.take k).all (fun c=>nb (c.toNat:Int))=true):=hall
   clear hall
   by_cases hlt:k<s.size
   ·have HS:=all_snoc (p:=fun c=>nb (c.toNat:Int)) s k hlt
    have HS:Hid _:=HS
    cases hc:nb (s[k].toNat:Int)
    ·have HM:Hid (s.data.toList.all (fun c=>nb (c.toNat:Int))=false):=all_miss (p:=fun c=>nb (c.toNat:Int)) s k hlt hc
     go_wp2_with fail
     refine (nameByte_any _ _).mono ?_
     rintro e w' ⟨rfl,rfl⟩
     go_wp2_with fail
     go_ret
     exact ⟨ret_bool (by rw [HE.out,HM.out]),rfl⟩
    ·have HC:Hid (nb (s[k].toNat:Int)=true):=hc
     go_wp2_with fail
     refine (nameByte_any _ _).mono ?_
     rintro e w' ⟨rfl,rfl⟩
     go_wp2_with fail
     go_round
     case rel=>exact ⟨k+1,by omega,by go_num,by rw [HS.out,HA.out];exact HC.out⟩
     case measure=>simp [intOf];omega
   ·have ek:k=s.size:=by omega
    have HB:Hid (s.data.toList.all (fun c=>nb (c.toNat:Int))=true):=by
     have:=HA.out
     rw [ek,all_whole] at this
     exact this
    clear ek
    go_wp2_with fail
    go_ret
    exact ⟨ret_bool (by rw [HE.out,HB.out]),rfl⟩
 ·have HE:Hid (nameB s=false):=nameB_no hg
  go_enter Tryz.func74,Tryz.ntmps74
  go_wp2_with fail
  all_goals first
   | (go_ret;exact ⟨ret_bool HE.out.symm,rfl⟩)
   | (exfalso;apply hg;refine ⟨⟨by omega,by omega⟩,?_,?_⟩ <;> simp_all)
end Go.Proofs.YteefneelcgeioaaGreatDoor
