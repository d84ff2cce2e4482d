/-
  Ma Mb MkC, joined.
  Conditions: those that each states.
-/
import Derived.Test.YtpiebpiljhlneaaGreatDoorZ11
import Derived.Test.YtpiebpiljhlneaaGreatDoorZ26
import Derived.BigRegion
namespace Go.Proofs.YtpiebpiljhlneaaGreatDoor
section
open Go.RowKit

def inoC (p:Option Ino×Value):List Value:=match p.1 with
 | some x=>[.bool true,.int .i64 (x.bytes:Int),.int .i64 (x.links:Int),.bool x.exec,p.2,.int .i64 (x.sum:Int)]
 | none=>[.bool false,.int .i64 0,.int .i64 0,.bool false,.slice none 0 0,.int .i64 0]
theorem inoC_len (p:Option Ino×Value):(inoC p).length=6:=by
 unfold inoC
 cases p.1 <;> rfl
def mtTy:Obj->Bool
 | .cells _ t _=>t==125||t==121||t==128||t==9||t==209
 | _=>false
structure MtAt (w:World) (B mt md:Nat) (la:Option Addr) (lc:Nat) (ia:Option Addr) (ic:Nat) (bl:List (List UInt8)) (tab:List (Option Ino)) (vs:List Value):Prop where
 box:w.heap[mt]? = some (.cells #[.pointer (some ⟨md,0,none⟩),.slice ia tab.length ic] 125 (0,0))
 disk:MkAt w md la lc none 0 bl []
 row:w.ownsRow B 121 6 (.slice ia tab.length ic) tab.length ((tab.zip vs).flatMap inoC)
 len:vs.length=tab.length
 its:∀(k:Nat) (x:Ino) (v:Value),tab[k]? = some (some x)->vs[k]? = some v->IntsT w v (ints x.blocks)
structure MtBut (T0:Nat) (w w':World):Prop where
 os:w'.os=w.os
 tape:w'.tape=w.tape
 output:w'.output=w.output
 size:w.heap.size<=w'.heap.size
 block:∀(k:Nat) (o:Obj),w.heap[k]? = some o->(k<T0∨mtTy o=false)->w'.heap[k]? = some o
namespace MtBut
variable {T0 : Nat} {w w' w'' : World}
theorem refl (T0:Nat) (w:World):MtBut T0 w w:=⟨rfl,rfl,rfl,Nat.le_refl _,fun _ _ h _=>h⟩
theorem trans (h:MtBut T0 w w') (h':MtBut T0 w' w''):MtBut T0 w w'' :=
 ⟨h'.os.trans h.os,h'.tape.trans h.tape,h'.output.trans h.output,Nat.le_trans h.size h'.size,fun k o hk hp=>h'.block k o (h.block k o hk hp) hp⟩
theorem of_below (h:Below w.heap.size w w'):MtBut T0 w w':=⟨h.os,h.tape,h.output,h.size,fun k o hk _=>by rw [h.block k (Array.getElem?_eq_some_iff.1 hk).1];exact hk⟩
theorem below (h:MtBut T0 w w') {B:Nat} {w0:World} (hB:B<=T0) (hs:B<=w.heap.size) (h0:Below B w0 w):Below B w0 w' :=
 ⟨h.os.trans h0.os,h.tape.trans h0.tape,h.output.trans h0.output,Nat.le_trans h0.size h.size,fun k hk=>by
  rw [<-h0.block k hk]
  have e:w.heap[k]? = some w.heap[k]:=Array.getElem?_eq_getElem (by omega)
  rw [e];exact h.block k _ e (.inl (by omega))⟩
end MtBut
theorem zipAt {α β:Type} {l:List α} {m:List β} {k:Nat} {x:α} {y:β} (h:l[k]? = some x) (h':m[k]? = some y):(l.zip m)[k]? = some (x,y):=by
 rw [List.getElem?_zip_eq_some];exact ⟨h,h'⟩
section
variable {w w' : World} {B mt md : Nat} {la : Option Addr} {lc : Nat} {ia : Option Addr} {ic : Nat} {bl : List (List UInt8)} {tab : List (Option Ino)} {vs : List Value}
theorem c6:∀p∈tab.zip vs,(inoC p).length=6:=fun p _=>inoC_len p
theorem MkAt.turn {p:Obj->Bool} {la wa:Option Addr} {lc wcp:Nat} {bl:List (List UInt8)} {wt:List (Nat×List UInt8)} (M:MkAt w md la lc wa wcp bl wt) (h:Turn p w w') (h1:∀c f,p (.cells c 128 f)=false) (h2:∀c f,p (.cells c 9 f)=false) (h3:∀c f,p (.cells c 209 f)=false):MkAt w' md la lc wa wcp bl wt :=
 M.ext fun k hk=>by
  rcases hk with rfl|⟨a,ha,rfl⟩|⟨a,ha,rfl⟩
  ·rw [M.disk];exact h _ _ M.disk (h1 _ _)
  ·obtain ⟨_,_,cur,h2',_⟩:=own_row M.lrow ha
   rw [h2'];exact h _ _ h2' (h2 _ _)
  ·obtain ⟨_,_,cur,h2',_⟩:=own_row M.wrow ha
   rw [h2'];exact h _ _ h2' (h3 _ _)
theorem rowKeep {e:TypeId} {size n:Nat} {v:Value} {xs:List Value} (h:w.ownsRow B e size v n xs) (hb:∀(k:Nat) (cur:Array Value),w.heap[k]? = some (.cells cur e (0,0))->w'.heap[k]? = some (.cells cur e (0,0))):w'.ownsRow B e size v n xs:=by
 refine ⟨h.1,?_⟩
 rcases h.2 with h2|⟨g,cap,cur,e1,e2,e3,e4⟩
 ·exact .inl h2
 ·exact .inr ⟨g,cap,cur,e1,e2,hb g cur e3,e4⟩
theorem MtAt.turn {p:Obj->Bool} (M:MtAt w B mt md la lc ia ic bl tab vs) (h:Turn p w w') (h0:∀c f,p (.cells c 125 f)=false) (h1:∀c f,p (.cells c 128 f)=false) (h2:∀c f,p (.cells c 9 f)=false) (h3:∀c f,p (.cells c 209 f)=false) (h4:∀c f,p (.cells c 121 f)=false) (h5:∀c f,p (.cells c 3 f)=false):MtAt w' B mt md la lc ia ic bl tab vs :=
 ⟨h _ _ M.box (h0 _ _),M.disk.turn h h1 h2 h3,rowKeep M.row fun _ _ hk=>h _ _ hk (h4 _ _),M.len,fun k x v hk hv=>(M.its k x v hk hv).turn h h5⟩
theorem MtAt.below (M:MtAt w B mt md la lc ia ic bl tab vs) (h:Below w.heap.size w w'):MtAt w' B mt md la lc ia ic bl tab vs :=
 M.turn (Turn.of_below (p:=fun _=>false) h) (fun _ _=>rfl) (fun _ _=>rfl) (fun _ _=>rfl) (fun _ _=>rfl) (fun _ _=>rfl) (fun _ _=>rfl)
theorem MtAt.tb {T0 mb:Nat} (M:MtAt w B mt md la lc ia ic bl tab vs) (h:TbBut T0 mb w w'):MtAt w' B mt md la lc ia ic bl tab vs :=
 M.turn (p:=tbTy) (fun k o hk hp=>h.block k o hk (.inr hp)) (fun _ _=>rfl) (fun _ _=>rfl) (fun _ _=>rfl) (fun _ _=>rfl) (fun _ _=>rfl) (fun _ _=>rfl)
theorem TbAt.mtb {F:Nat->Prop} {T0 T1 tb bb sp sb cap mb n:Nat} {bl:List (List UInt8)} {u:List Bool} {tab:List (Option Ino)} (T:TbAt w F T0 tb bb sp sb cap mb n bl u tab) (h:MtBut T1 w w'):TbAt w' F T0 tb bb sp sb cap mb n bl u tab:=by
 have ht:Turn mtTy w w':=fun k o hk hp=>h.block k o hk (.inr hp)
 obtain ⟨f,N⟩:=T.nodes
 exact ⟨ht _ _ T.box rfl,T.disk.turn ht (fun _ _=>rfl) (fun _ _=>rfl) (fun _ _=>rfl),T.space.turn ht (fun _ _=>rfl) (fun _ _=>rfl),⟨f,N.turn ht (fun _ _=>rfl) (fun _ _=>rfl) (fun _ _=>rfl)⟩,T.low⟩
theorem MtAt.cells (M:MtAt w B mt md la lc ia ic bl tab vs):w.cell? ⟨mt,0,none⟩=some (.pointer (some ⟨md,0,none⟩))/\w.cell? ⟨mt,1,none⟩=some (.slice ia tab.length ic)/\w.frozen? ⟨mt,1,none⟩=false:=by
 refine ⟨?_,?_,by simp [World.frozen?,M.box]⟩ <;> rw [cell_of_row _ _ _ _ _ _ M.box] <;> rfl
theorem MtAt.slot (M : MtAt w B mt md la lc ia ic bl tab vs) {k : Nat} {o : Option Ino} (hk : tab[k]? = some o) : ∃ v g, vs[k]? = some v ∧ ia = some ⟨g, 0, none⟩ ∧ (∀ i c, (inoC (o, v))[i]? = some c → w.cell? ⟨g, k * 6 + i, none⟩ = some c) ∧ (∀ i, w.frozen? ⟨g, i, none⟩ = false) := by
  have hl := (List.getElem?_eq_some_iff.1 hk).1
  have hv : vs[k]? = some (vs[k]'(by rw [M.len]; exact hl)) := List.getElem?_eq_getElem _
  rcases M.row.2 with ⟨_, h0⟩ | ⟨g, c, cur, e, _⟩
  · omega
  · simp only [Value.slice.injEq] at e
    obtain ⟨rfl, _, rfl⟩ := e
    refine ⟨_, g, hv, rfl, fun i cc hi => ?_, fun i => World.ownsRow.frozenAt M.row i⟩
    have hi6 : i < 6 := by have := (List.getElem?_eq_some_iff.1 hi).1; rw [inoC_len] at this; exact this
    rw [World.ownsRow.cellAt M.row (k * 6 + i) (by have : k * 6 + 6 ≤ tab.length * 6 := by omega
                                                   omega), flat_get c6 (zipAt hk hv) hi6]
    exact hi
theorem MtAt.ty {g:Nat} (M:MtAt w B mt md la lc (some ⟨g,0,none⟩) ic bl tab vs):∃cur,w.heap[g]? = some (.cells cur 121 (0,0)):=by
 rcases M.row.2 with ⟨h,_⟩|⟨g',c,cur,e,_,h,_⟩
 ·simp at h
 ·simp only [Value.slice.injEq,Option.some.injEq,Addr.mk.injEq] at e
  obtain ⟨⟨rfl,_⟩,_⟩:=e
  exact ⟨cur,h⟩
theorem MtAt.rowed {g:Nat} {tab':List (Option Ino)} {vs':List Value} (M:MtAt w B mt md la lc (some ⟨g,0,none⟩) ic bl tab vs) (hk:∀k,k≠g->w'.heap[k]? = w.heap[k]?) (hr:w'.ownsRow B 121 6 (.slice (some ⟨g,0,none⟩) tab.length ic) tab.length ((tab'.zip vs').flatMap inoC)) (hl:tab'.length=tab.length) (hl':vs'.length=tab'.length)
  (hi:∀(k:Nat) (x:Ino) (v:Value),tab'[k]? = some (some x)->vs'[k]? = some v->IntsT w v (ints x.blocks)):MtAt w' B mt md la lc (some ⟨g,0,none⟩) ic bl tab' vs':=by
 obtain ⟨cg,hg⟩:=M.ty
 have ht:Turn (fun o=>match o with | .cells _ t _=>t==121|_=>false) w w':=fun k o hk2 hp=>by
  rw [hk k (fun e=>by rw [e,hg] at hk2;cases hk2;exact absurd (show true=false from hp) (by simp))];exact hk2
 exact ⟨by rw [hl];exact ht _ _ M.box rfl,M.disk.turn ht (fun _ _=>rfl) (fun _ _=>rfl) (fun _ _=>rfl),by rw [hl];exact hr,hl',fun k x v h1 h2=>(hi k x v h1 h2).turn ht (fun _ _=>rfl)⟩
theorem MtAt.but {g:Nat} (M:MtAt w B mt md la lc (some ⟨g,0,none⟩) ic bl tab vs) {T0:Nat} (hT:T0<=B) (hg:w.grownBy w' (some g)):MtBut T0 w w':=by
 obtain ⟨cg,hc⟩:=M.ty
 have hgB:B<=g:=(World.ownsRow.lt M.row g rfl).1
 refine ⟨hg.os,hg.tape,hg.output,hg.size,fun k o hk hp=>?_⟩
 rw [hg.block k (Array.getElem?_eq_some_iff.1 hk).1 (fun e=>?_)]
 ·exact hk
 ·cases e
  rcases hp with hp|hp
  ·omega
  ·rw [hc] at hk;cases hk;exact absurd (show true=false from hp) (by simp)
theorem MtAt.links {g k:Nat} {x:Ino} (M:MtAt w B mt md la lc (some ⟨g,0,none⟩) ic bl tab vs) (hx:tab[k]? = some (some x)) (l:Nat):MtAt (w.setCell ⟨g,k*6+2,none⟩ (.int .i64 (l:Int))) B mt md la lc (some ⟨g,0,none⟩) ic bl (tab.set k (some { x with links:=l })) vs:=by
 obtain ⟨v,g',hv,e,_⟩:=M.slot hx
 have hl:=(List.getElem?_eq_some_iff.1 hx).1
 refine M.rowed (fun q hq=>Below.heap_setCell _ _ _ _ hq) ?_ (by simp) (by simp [M.len]) (fun q y z h1 h2=>?_)
 ·have h:=(World.ownsRow.stored M.row (k*6+2) (.int .i64 (l:Int))).1
  rw [set_flat (y:=(some { x with links:=l },v)) c6 (zipAt hx hv) (by omega) rfl] at h
  have e2:(tab.zip vs).set k (some { x with links:=l },v)=(tab.set k (some { x with links:=l })).zip vs:=by
   apply List.ext_getElem?
   intro q
   by_cases hq:q=k
   ·subst hq
    rw [List.getElem?_set_self (by rw [List.length_zip,M.len];omega),zipAt (List.getElem?_set_self hl) hv]
   ·rw [List.getElem?_set_ne (fun h=>hq h.symm)]
    simp only [List.zip,List.getElem?_zipWith,List.getElem?_set_ne (fun h=>hq h.symm)]
  rw [e2] at h;exact h
 ·by_cases hq:q=k
  ·subst hq
   rw [List.getElem?_set_self hl] at h1
   cases h1
   exact M.its q x z hx h2
  ·rw [List.getElem?_set_ne (fun h=>hq h.symm)] at h1
   exact M.its q y z h1 h2
theorem sets6 (xs:List Value) (o:Nat) (a b c d e f:Value) (h:o+6<=xs.length):(((((xs.set o a).set (o+1) b).set (o+2) c).set (o+3) d).set (o+4) e).set (o+5) f=over xs o [a,b,c,d,e,f]:=by
 rw [<-over_cons _ _ _ _ (by omega),<-over_cons _ _ _ _ (by simp;omega),<-over_cons _ _ _ _ (by simp;omega),<-over_cons _ _ _ _ (by simp;omega),<-over_cons _ _ _ _ (by simp;omega),<-over_cons _ _ _ _ (by simp;omega)]
 simp [over]
def put6 (w:World) (g o:Nat) (a b c d e f:Value):World:=(((((w.setCell ⟨g,o,none⟩ a).setCell ⟨g,o+1,none⟩ b).setCell ⟨g,o+2,none⟩ c).setCell ⟨g,o+3,none⟩ d).setCell ⟨g,o+4,none⟩ e).setCell ⟨g,o+5,none⟩ f
theorem put6_block (w:World) (g o:Nat) (a b c d e f:Value) {k:Nat} (h:k≠g):(put6 w g o a b c d e f).heap[k]? = w.heap[k]? := by
 unfold put6
 rw [Below.heap_setCell _ _ _ _ h,Below.heap_setCell _ _ _ _ h,Below.heap_setCell _ _ _ _ h,Below.heap_setCell _ _ _ _ h,Below.heap_setCell _ _ _ _ h,Below.heap_setCell _ _ _ _ h]
theorem grown1 (w:World) (g i:Nat) (v:Value):w.grownBy (w.setCell ⟨g,i,none⟩ v) (some g) :=
 ⟨rfl,rfl,rfl,by simp [World.setCell],fun k _ hk=>Below.heap_setCell _ _ _ _ (fun e=>hk (by rw [e]))⟩
theorem grown2 {w w1 w2:World} {g:Option Nat} (h:w.grownBy w1 g) (h':w1.grownBy w2 g):w.grownBy w2 g :=
 ⟨h'.os.trans h.os,h'.tape.trans h.tape,h'.output.trans h.output,Nat.le_trans h.size h'.size,fun k hk hne=>(h'.block k (Nat.lt_of_lt_of_le hk h.size) hne).trans (h.block k hk hne)⟩
theorem put6_grown (w:World) (g o:Nat) (a b c d e f:Value):w.grownBy (put6 w g o a b c d e f) (some g) :=
 grown2 (grown2 (grown2 (grown2 (grown2 (grown1 w g o a) (grown1 _ g _ b)) (grown1 _ g _ c)) (grown1 _ g _ d)) (grown1 _ g _ e)) (grown1 _ g _ f)
theorem MtAt.put {g k:Nat} {o0 o:Option Ino} {v a b c d e f:Value} (M:MtAt w B mt md la lc (some ⟨g,0,none⟩) ic bl tab vs) (hx:tab[k]? = some o0) (hc:inoC (o,v) = [a,b,c,d,e,f]) (hi:∀x,o=some x->IntsT w v (ints x.blocks)):MtAt (put6 w g (k*6) a b c d e f) B mt md la lc (some ⟨g,0,none⟩) ic bl (tab.set k o) (vs.set k v):=by
 obtain ⟨v0,g',hv,_⟩:=M.slot hx
 have hl:=(List.getElem?_eq_some_iff.1 hx).1
 have hl':=(List.getElem?_eq_some_iff.1 hv).1
 refine M.rowed (fun q hq=>put6_block _ _ _ _ _ _ _ _ _ hq) ?_ (by simp) (by simp [M.len]) (fun q y z h1 h2=>?_)
 ·have hxl:((tab.zip vs).flatMap inoC).length=tab.length*6:=by rw [flat_len c6,List.length_zip,M.len,Nat.min_self]
  have r0:=(World.ownsRow.stored M.row (k*6) a).1
  have r1:=(World.ownsRow.stored r0 (k*6+1) b).1
  have r2:=(World.ownsRow.stored r1 (k*6+2) c).1
  have r3:=(World.ownsRow.stored r2 (k*6+3) d).1
  have r4:=(World.ownsRow.stored r3 (k*6+4) e).1
  have r5:=(World.ownsRow.stored r4 (k*6+5) f).1
  rw [sets6 _ _ _ _ _ _ _ _ (by rw [hxl];omega),<-hc,over_flat (y:=(o,v)) c6 (zipAt hx hv) (inoC_len _)] at r5
  have e2:(tab.zip vs).set k (o,v)=(tab.set k o).zip (vs.set k v):=by
   apply List.ext_getElem?
   intro q
   by_cases hq:q=k
   ·subst hq
    rw [List.getElem?_set_self (by rw [List.length_zip,M.len];omega),zipAt (List.getElem?_set_self hl) (List.getElem?_set_self hl')]
   ·rw [List.getElem?_set_ne (fun h=>hq h.symm)]
    simp only [List.zip,List.getElem?_zipWith,List.getElem?_set_ne (fun h=>hq h.symm)]
  rw [e2] at r5;exact r5
 ·by_cases hq:q=k
  ·subst hq
   rw [List.getElem?_set_self hl] at h1
   rw [List.getElem?_set_self hl'] at h2
   cases h1;cases h2
   exact hi y rfl
  ·rw [List.getElem?_set_ne (fun h=>hq h.symm)] at h1 h2
   exact M.its q y z h1 h2
def usedM (tab:List (Option Ino)) (b:Nat):Bool:=tab.any fun o=>match o with
 | some x=>x.blocks.contains b
 | none=>false
def freeM (tab:List (Option Ino)) (n:Nat):List Nat:=(List.range n).filter fun b=>!usedM tab b
theorem usedM_iff {tab:List (Option Ino)} {b:Nat}:usedM tab b=true↔∃k x,slotT tab k=some x/\b∈x.blocks:=by
 unfold usedM
 rw [List.any_eq_true]
 constructor
 ·rintro ⟨o,ho,h⟩
  obtain ⟨k,hk⟩:=List.mem_iff_getElem?.1 ho
  cases o with
  | none=>cases h
  | some x=>exact ⟨k,x,slotT_of hk,by simpa using h⟩
 ·rintro ⟨k,x,hx,hb⟩
  exact ⟨some x,List.mem_of_getElem? (slotT_get hx),by simpa using hb⟩
theorem SInv.freeM {N:Nat} {bl:List (List UInt8)} {u:List Bool} {tab:List (Option Ino)} (S:SInv N bl u tab):freeM tab N=freeR u:=by
 unfold Proofs.YtpiebpiljhlneaaGreatDoor.freeM freeR whereR
 rw [S.lu]
 apply List.filter_congr
 intro b hb
 have hbN:b<u.length:=by rw [S.lu];simpa using hb
 rw [List.getElem?_eq_getElem hbN]
 simp only [Option.getD_some]
 congr 1
 rw [Bool.eq_iff_iff,usedM_iff]
 constructor
 ·rintro ⟨k,x,hx,h⟩
  have:=(S.own k x hx).2.1 b h
  rw [List.getElem?_eq_getElem hbN] at this
  simpa using this
 ·intro h
  exact S.all b (by rw [List.getElem?_eq_getElem hbN,h])
end
end
section
set_option maxHeartbeats 2000000
set_option maxRecDepth 100000
open Go.RowKit

structure MOk (tab:List (Option Ino)):Prop where
 len:tab.length<=5000
 blocks:∀k x,slotT tab k=some x->x.blocks.length<=1000
section
variable {w w' : World} {B mt md : Nat} {la : Option Addr} {lc : Nat} {ia : Option Addr} {ic : Nat} {bl : List (List UInt8)} {tab : List (Option Ino)} {vs : List Value}
theorem m_is (k:Int) (w:World) (M:MtAt w B mt md la lc ia ic bl tab vs) :
  Calls Tryz.prog 73 #[.pointer (some ⟨mt,0,none⟩),.int .i64 k] w fun e w'=>e = .returned (.bool (slotI tab k).isSome)/\w'=w:=by
 obtain ⟨_,c1,_⟩:=M.cells
 by_cases h0:0<=k
 ·by_cases h1:k<(tab.length:Int)
  ·obtain ⟨j,rfl⟩:∃j:Nat,k=(j:Int):=⟨k.toNat,by omega⟩
   have hj:j<tab.length:=by omega
   obtain ⟨v,g,_,rfl,hc,_⟩:=M.slot (List.getElem?_eq_getElem hj)
   have c0:w.cell? ⟨g,j*6,none⟩=some (.bool (slotI tab (j:Int)).isSome):=by
    rw [slotI_nat,slotT_of (List.getElem?_eq_getElem hj)]
    have h:=hc 0
    rw [Nat.add_zero] at h
    apply h
    cases tab[j] <;> rfl
   generalize (slotI tab (j:Int)).isSome=r at *
   have hn:¬(j:Int)<0:=by omega
   have hge:¬(tab.length:Int)<=(j:Int):=by omega
   clear M hc h0
   go_enter Tryz.func73,Tryz.ntmps73
   go_wp2_with fail
   go_ret
   exact ⟨rfl,rfl⟩
  ·have e:slotI tab k=none:=by
    unfold slotI
    rw [if_pos h0]
    unfold slotT
    rw [List.getElem?_eq_none (by omega)];rfl
   rw [e]
   have hn:¬k<0:=by omega
   have hge:(tab.length:Int)<=k:=by omega
   clear M h0 h1 e
   go_enter Tryz.func73,Tryz.ntmps73
   go_wp2_with fail
   go_ret
   exact ⟨rfl,rfl⟩
 ·have e:slotI tab k=none:=by unfold slotI;rw [if_neg h0]
  rw [e]
  have hn:k<0:=by omega
  clear M h0 e
  go_enter Tryz.func73,Tryz.ntmps73
  go_wp2_with fail
  go_ret
  exact ⟨rfl,rfl⟩
def usedTo (tab:List (Option Ino)) (b j:Nat):Bool:=usedM (tab.take j) b
theorem usedTo_next {b j:Nat} {o:Option Ino} (h:tab[j]? = some o):usedTo tab b (j+1)=(usedTo tab b j||usedM [o] b):=by
 obtain ⟨hj,e⟩:=List.getElem?_eq_some_iff.1 h
 unfold usedTo usedM
 rw [List.take_succ_eq_append_getElem hj,List.any_append,e]
theorem hasTo_ints (l:List Nat) (b:Nat):hasTo (ints l) (b:Int) (ints l).length=l.contains b:=by
 unfold hasTo
 rw [List.take_length,Bool.eq_iff_iff]
 simp only [ints,List.any_map,List.any_eq_true,Function.comp,beq_iff_eq,List.contains_iff_mem]
 exact ⟨fun ⟨x,hx,h⟩=>by rw [<-Int.ofNat.inj h];exact hx,fun h=>⟨b,h,rfl⟩⟩
theorem m_used (b:Nat) (w:World) (M:MtAt w B mt md la lc ia ic bl tab vs) (O:MOk tab) :
  Calls Tryz.prog 108 #[.pointer (some ⟨mt,0,none⟩),.int .i64 (b:Int)] w fun e w'=>e = .returned (.bool (usedM tab b))/\w'=w:=by
 obtain ⟨_,c1,_⟩:=M.cells
 have HM:Hid _:=M
 have hl:=O.len
 have HO:Hid _:=O
 clear M O
 go_enter Tryz.func108,Tryz.ntmps108
 go_wp2_with fail
 go_loopw [5] (fun i wr=>∃j:Nat,j<=tab.length/\i = .int .i64 j/\wr=w/\usedTo tab b j=false) (fun i _=>tab.length-(intOf i).toNat)
 case atStart=>exact ⟨0,Nat.zero_le _,rfl,rfl,rfl⟩
 case round =>
  obtain ⟨j,hj,rfl,rfl,hu⟩:=hrel
  have HU:Hid (usedTo tab b j=false):=hu
  clear hu
  by_cases hlt:j<tab.length
  ·obtain ⟨o,ho⟩:∃o,tab[j]? = some o:=⟨_,List.getElem?_eq_getElem hlt⟩
   obtain ⟨v,g,hv,rfl,hc,_⟩:=MtAt.slot HM.out ho
   have HN:Hid (usedTo tab b (j+1)=usedM [o] b):=by show _=_;rw [usedTo_next ho,HU.out];rfl
   cases o with
   | none =>
    have c0:wr.cell? ⟨g,j*6,none⟩=some (.bool false):=hc 0 _ rfl
    clear hc ho hv
    go_wp2_with fail
    exact ⟨⟨j+1,by omega,by simp,by first|rfl|trivial,by rw [HN.out];rfl⟩,by simp [intOf];omega⟩
   | some x =>
    have c0:wr.cell? ⟨g,j*6,none⟩=some (.bool true):=hc 0 _ rfl
    have c4:wr.cell? ⟨g,j*6+4,none⟩=some v:=hc 4 _ rfl
    have iv:=MtAt.its HM.out j x v ho hv
    have HH:=hasInts_any v (ints x.blocks) (b:Int) wr iv.at (by rw [ints_len];have:=MOk.blocks HO.out j x (slotT_of ho);omega)
    rw [hasTo_ints] at HH
    have HN2:Hid (usedTo tab b (j+1)=x.blocks.contains b):=by show _=_;rw [HN.out];simp [usedM]
    have HALL:Hid (x.blocks.contains b=true->usedM tab b=true):=fun h=>usedM_iff.2 ⟨j,x,slotT_of ho,by simpa using h⟩
    clear hc ho hv iv
    generalize x.blocks.contains b=r at *
    cases r with
    | true =>
     have HT:Hid (usedM tab b=true):=HALL.out rfl
     go_wp2_with (go_at_call 156;refine HH.mono ?_;rintro e w2 ⟨rfl,hw⟩;rw [hw];clear hw)
     go_ret
     exact ⟨by rw [HT.out];rfl,rfl⟩
    | false =>
     go_wp2_with (go_at_call 156;refine HH.mono ?_;rintro e w2 ⟨rfl,hw⟩;rw [hw];clear hw)
     exact ⟨⟨j+1,by omega,by simp,by first|rfl|trivial,HN2.out⟩,by simp [intOf];omega⟩
  ·obtain rfl:j=tab.length:=by omega
   have HF:Hid (usedM tab b=false):=by have:=HU.out;unfold usedTo at this;rwa [List.take_length] at this
   go_wp2_with fail
   go_ret
   exact ⟨by rw [HF.out];rfl,rfl⟩
theorem m_need (s:Nat) (hs:s<=100000) (w:World):Calls Tryz.prog 90 #[.int .i64 (s:Int)] w fun e w'=>e = .returned (.int .i64 (needN s:Int))/\w'=w:=by
 have h16:∀j:Nat,j<needN s↔(0:Int)<(s:Int)-16*(j:Int):=fun j=>by unfold needN;omega
 have HH:Hid _:=h16
 have hnd:needN s<=10000:=by unfold needN;omega
 clear h16
 generalize needN s=nd at *
 go_enter Tryz.func90,Tryz.ntmps90
 go_wp2_with fail
 go_loopw [0,3] (fun b n wr=>∃j:Nat,j<=nd/\b = .int .i64 ((s:Int)-16*(j:Int))/\n = .int .i64 j/\wr=w) (fun _ n _=>nd-(intOf n).toNat)
 case atStart=>exact ⟨0,Nat.zero_le _,by simp,rfl,rfl⟩
 case round =>
  obtain ⟨j,hj,rfl,rfl,rfl⟩:=hrel
  by_cases hlt:j<nd
  ·have hp:=(HH.out j).1 hlt
   go_wp2_with fail
   exact ⟨⟨j+1,by omega,by simp;omega,by simp,by first|rfl|trivial⟩,by simp [intOf];omega⟩
  ·obtain rfl:j=nd:=by omega
   have hp:¬(0:Int)<(s:Int)-16*(j:Int):=fun h=>absurd ((HH.out j).2 h) (by omega)
   go_wp2_with fail
   go_ret
   exact ⟨rfl,rfl⟩
theorem freeM_next (tab:List (Option Ino)) (n:Nat):freeM tab (n+1)=if usedM tab n then freeM tab n else freeM tab n ++ [n]:=by
 unfold freeM
 rw [List.range_succ,List.filter_append]
 cases h:usedM tab n <;> simp [h]
theorem freeM_len (tab:List (Option Ino)) (n:Nat):(freeM tab n).length<=n:=by
 unfold freeM
 exact Nat.le_trans (List.length_filter_le _ _) (by simp)
def allM (tab:List (Option Ino)) (n:Nat):List Nat:=(List.range n).filter fun k=>(slotT tab k).isSome
theorem allM_next (tab:List (Option Ino)) (n:Nat):allM tab (n+1)=if (slotT tab n).isSome then allM tab n ++ [n] else allM tab n:=by
 unfold allM
 rw [List.range_succ,List.filter_append]
 cases h:(slotT tab n).isSome <;> simp [h]
theorem allM_len (tab:List (Option Ino)) (n:Nat):(allM tab n).length<=n:=by
 unfold allM
 exact Nat.le_trans (List.length_filter_le _ _) (by simp)
theorem MkAt.lcell {w:World} {md:Nat} {la wa:Option Addr} {lc wcp:Nat} {bl:List (List UInt8)} {wt:List (Nat×List UInt8)} (M:MkAt w md la lc wa wcp bl wt):w.cell? ⟨md,0,none⟩=some (.slice la bl.length lc):=by
 rw [cell_of_row _ _ _ _ _ _ M.disk];rfl
theorem m_free (w:World) (M:MtAt w B mt md la lc ia ic bl tab vs) (O:MOk tab) (hbl:bl.length<=512) :
  Calls Tryz.prog 58 #[.pointer (some ⟨mt,0,none⟩)] w fun e w'=>∃v,e = .returned v/\OwnI w' w.heap.size v (freeM tab bl.length)/\Below w.heap.size w w':=by
 obtain ⟨i0,hi0,hz0,hz1,hz2⟩:=info_parts infoIn
 have HM:Hid _:=M
 have HUS:Hid (∀(b:Nat) (W:World),Below w.heap.size w W->Calls Tryz.prog 108 #[.pointer (some ⟨mt,0,none⟩),.int .i64 (b:Int)] W fun e w'=>e = .returned (.bool (usedM tab b))/\w'=W):=fun b W hW=>m_used b W (M.below hW) O
 have HCL:Hid (∀W,Below w.heap.size w W->(W.cell? ⟨mt,0,none⟩=some (.pointer (some ⟨md,0,none⟩))/\W.cell? ⟨md,0,none⟩=some (.slice la bl.length lc))):=fun W hW=>⟨(M.below hW).cells.1,(M.below hW).disk.lcell⟩
 clear M O
 generalize bl.length=N at *
 go_enter Tryz.func58,Tryz.ntmps58
 go_wp2_with fail
 go_loopw [3,4] (fun l i wr=>∃j:Nat,j<=N/\i = .int .i64 j/\OwnI wr w.heap.size l (freeM tab j)/\Below w.heap.size w wr) (fun _ i _=>N-(intOf i).toNat)
 case atStart=>exact ⟨0,Nat.zero_le _,rfl,OwnI.nil _ _,Below.refl _ _⟩
 case round =>
  obtain ⟨j,hj,rfl,ho,hb⟩:=hrel
  have HO:Hid (OwnI wr w.heap.size u3 (freeM tab j)):=ho
  have HB:Hid (Below w.heap.size w wr):=hb
  obtain ⟨c0,c1⟩:=HCL.out wr hb
  by_cases hlt:j<N
  ·have HN:Hid (freeM tab (j+1)=if usedM tab j then freeM tab j else freeM tab j ++ [j]):=freeM_next tab j
   have HC:=HUS.out j wr hb
   have hwl:=freeM_len tab j
   clear ho hb
   cases hp:usedM tab j with
   | false =>
    rw [hp] at HC HN
    have hsz:=HB.out.size
    obtain ⟨m,xs,HMm,HO1⟩:∃m xs,Hid (m=(freeM tab j).length/\xs=(ints (freeM tab j)).map (Value.int .i64))/\Hid (∀X,(wr.alloc X).ownsRow w.heap.size 3 1 u3 m xs):=⟨_,_,⟨rfl,rfl⟩,fun X=>OwnI.alloc HO.out X⟩
    have hm5:m<=512:=by rw [HMm.out.1];omega
    go_wp2_with (first
     | (go_at_call 108;refine HC.mono ?_;rintro e w2 ⟨rfl,hw⟩;rw [hw];clear hw)
     | (at_builtin;refine wpList_append_own _ (by rfl) (.tmp 23) (.tmp 25) 64 (by rfl) w.heap.size 3 i0 _ 1 8 Tryz.underlying64 hi0 hz0 hz1 hz2 rfl (by omega) _ m _ (by rfl) (HO1.out _) ⟨wr.heap.size,0,none⟩ 1 1 [.int .i64 (j:Int)] (by rfl) rfl (cell_one_new _ _ _) (fun u hu=>by rw [List.mem_singleton.1 hu];rfl) (by unfold maxLen;omega) (by omega) (by rw [World.size_alloc];omega) ?_;intro v' w3 hown hgrow _))
    refine ⟨⟨j+1,by omega,by simp,?_,(HB.out.alloc hsz _).grown hgrow (by rw [World.size_alloc];omega) (fun k hk=>(World.ownsRow.lt HO.out k hk).1)⟩,by simp [intOf];omega⟩
    rw [HN.out]
    obtain ⟨e1,e2⟩:=HMm.out
    rw [e1,e2] at hown
    unfold OwnI
    simpa [ints] using hown
   | true =>
    rw [hp] at HC HN
    go_wp2_with (go_at_call 108;refine HC.mono ?_;rintro e w2 ⟨rfl,hw⟩;rw [hw];clear hw)
    refine ⟨⟨j+1,by omega,by simp,by rw [HN.out];exact HO.out,HB.out⟩,by simp [intOf];omega⟩
  ·obtain rfl:j=N:=by omega
   clear ho hb
   go_wp2_with fail
   go_ret
   exact ⟨_,rfl,HO.out,HB.out⟩
theorem m_all (w:World) (M:MtAt w B mt md la lc ia ic bl tab vs) (hl:tab.length<=5000) :
  Calls Tryz.prog 78 #[.pointer (some ⟨mt,0,none⟩)] w fun e w'=>∃v,e = .returned v/\OwnI w' w.heap.size v (allM tab tab.length)/\Below w.heap.size w w':=by
 obtain ⟨i0,hi0,hz0,hz1,hz2⟩:=info_parts infoIn
 have HM:Hid _:=M
 have HCL:Hid (∀W,Below w.heap.size w W->(W.cell? ⟨mt,1,none⟩=some (.slice ia tab.length ic)/\∀j,j<tab.length->∃g,ia=some ⟨g,0,none⟩/\W.cell? ⟨g,j*6,none⟩=some (.bool (slotT tab j).isSome))):=fun W hW=>⟨(M.below hW).cells.2.1,fun j hj=>by
  obtain ⟨v,g,_,e,hc,_⟩:=(M.below hW).slot (List.getElem?_eq_getElem hj)
  refine ⟨g,e,?_⟩
  rw [slotT_of (List.getElem?_eq_getElem hj)]
  have h:=hc 0
  rw [Nat.add_zero] at h
  apply h
  cases tab[j] <;> rfl⟩
 clear M
 obtain ⟨N,HNN⟩:∃N,Hid (N=tab.length):=⟨_,(rfl:tab.length=_)⟩
 rw [<-HNN.out] at HCL hl ⊢
 go_enter Tryz.func78,Tryz.ntmps78
 go_wp2_with fail
 go_loopw [3,4] (fun l i wr=>∃j:Nat,j<=N/\i = .int .i64 j/\OwnI wr w.heap.size l (allM tab j)/\Below w.heap.size w wr) (fun _ i _=>N-(intOf i).toNat)
 case atStart=>exact ⟨0,Nat.zero_le _,rfl,OwnI.nil _ _,Below.refl _ _⟩
 case round =>
  obtain ⟨j,hj,rfl,ho,hb⟩:=hrel
  have HO:Hid (OwnI wr w.heap.size u3 (allM tab j)):=ho
  have HB:Hid (Below w.heap.size w wr):=hb
  obtain ⟨c0,hcs⟩:=HCL.out wr hb
  by_cases hlt:j<N
  ·obtain ⟨g,rfl,c1⟩:=hcs j hlt
   have HN:Hid (allM tab (j+1)=if (slotT tab j).isSome then allM tab j ++ [j] else allM tab j):=allM_next tab j
   have hwl:=allM_len tab j
   clear ho hb hcs
   cases hp:(slotT tab j).isSome with
   | true =>
    rw [hp] at c1 HN
    have hsz:=HB.out.size
    obtain ⟨m,xs,HMm,HO1⟩:∃m xs,Hid (m=(allM tab j).length/\xs=(ints (allM tab j)).map (Value.int .i64))/\Hid (∀X,(wr.alloc X).ownsRow w.heap.size 3 1 u3 m xs):=⟨_,_,⟨rfl,rfl⟩,fun X=>OwnI.alloc HO.out X⟩
    have hm5:m<=5000:=by rw [HMm.out.1];omega
    clear hp
    go_wp2_with (at_builtin;refine wpList_append_own _ (by rfl) (.tmp 22) (.tmp 24) 64 (by rfl) w.heap.size 3 i0 _ 1 8 Tryz.underlying64 hi0 hz0 hz1 hz2 rfl (by omega) _ m _ (by rfl) (HO1.out _) ⟨wr.heap.size,0,none⟩ 1 1 [.int .i64 (j:Int)] (by rfl) rfl (cell_one_new _ _ _) (fun u hu=>by rw [List.mem_singleton.1 hu];rfl) (by unfold maxLen;omega) (by omega) (by rw [World.size_alloc];omega) ?_;intro v' w3 hown hgrow _)
    refine ⟨⟨j+1,by omega,by simp,?_,(HB.out.alloc hsz _).grown hgrow (by rw [World.size_alloc];omega) (fun k hk=>(World.ownsRow.lt HO.out k hk).1)⟩,by simp [intOf];omega⟩
    rw [HN.out]
    obtain ⟨e1,e2⟩:=HMm.out
    rw [e1,e2] at hown
    unfold OwnI
    simpa [ints] using hown
   | false =>
    rw [hp] at c1 HN
    clear hp
    go_wp2_with fail
    refine ⟨⟨j+1,by omega,by simp,by rw [HN.out];exact HO.out,HB.out⟩,by simp [intOf];omega⟩
  ·obtain rfl:j=N:=by omega
   clear ho hb hcs
   go_wp2_with fail
   go_ret
   exact ⟨_,rfl,HO.out,HB.out⟩
end
end
section
set_option maxHeartbeats 2000000
set_option maxRecDepth 100000
open Go.RowKit

theorem setl_step {keep:Nat->Bool} {wt:List (Nat×List UInt8)} {bl:List (List UInt8)} {j:Nat} {x:Nat×List UInt8} (h:wt[j]? = some x):setl keep wt bl (j+1)=if keep j then (setl keep wt bl j).set x.1 x.2 else setl keep wt bl j:=by
 show (match wt[j]? with|some x=>if keep j then (setl keep wt bl j).set x.1 x.2 else setl keep wt bl j|none=>setl keep wt bl j)=_
 rw [h]
def keepAll (all:Bool) (keep:List Int) (i:Nat):Bool:=all||hasTo keep (i:Int) keep.length
theorem crashM_any {mb:Nat} {la:Option Addr} {lc:Nat} {wa:Option Addr} {wcp:Nat} {bl:List (List UInt8)} {wt:List (Nat×List UInt8)} (v:Value) (keep:List Int) (all:Bool) (w:World) (M:MkAt w mb la lc wa wcp bl wt) (hwl:wt.length<=100000) (hwt:∀x∈wt,x.1<bl.length) (hv:∀W,MkBut mb la wa w W->IntsAt W v keep) (hkl:keep.length<=100000) :
  Calls Tryz.prog 125 #[.pointer (some ⟨mb,0,none⟩),v,.bool all] w fun e w'=>e = .returned (.tuple #[])/\MkAt w' mb la lc none 0 (setl (keepAll all keep) wt bl wt.length) []/\MkBut mb la wa w w':=by
 have HM:Hid (MkAt w mb la lc wa wcp bl wt):=M
 have HV:Hid (∀W,MkBut mb la wa w W->IntsAt W v keep):=hv
 obtain ⟨ka,kc,rfl,_⟩:=hv w (MkBut.of_below (Below.refl _ _))
 obtain ⟨kf,HKF⟩:∃kf:Nat->Bool,kf=keepAll all keep:=⟨_,rfl⟩
 rw [<-HKF]
 have HKF:Hid (kf=keepAll all keep):=HKF
 have HWT:Hid (∀x∈wt,x.1<bl.length):=hwt
 clear M hv hwt
 go_enter Tryz.func125,Tryz.ntmps125
 go_wp2_with fail
 go_loopw [6] (fun i wr=>∃j:Nat,j<=wt.length/\i = .int .i64 j/\MkAt wr mb la lc wa wcp (setl kf wt bl j) wt/\MkBut mb la wa w wr) (fun i _=>wt.length-(intOf i).toNat)
 case atStart=>exact ⟨0,Nat.zero_le _,rfl,HM.out,MkBut.of_below (Below.refl _ _)⟩
 case round =>
  obtain ⟨j,hj,rfl,M,hbut⟩:=hrel
  have HMr:Hid _:=M
  have HB:Hid _:=hbut
  obtain ⟨c1,c2,c3⟩:=M.cells
  have f1:=c3 1
  have HC1:Hid _:=c1
  clear c3 c1
  by_cases hlt:j<wt.length
  ·obtain ⟨x,HX⟩:∃x,Hid (wt[j]? = some x):=⟨_,List.getElem?_eq_getElem hlt⟩
   obtain ⟨gw,rfl,q0,q1,_⟩:=M.w_at HX.out
   have HQ0:Hid _:=q0
   have HQ1:Hid (wr.cell? ⟨gw,j*2+1,none⟩=some (.string (sB x.2))):=q1
   have HH:=hasInts_any _ keep (j:Int) wr (HV.out wr hbut) hkl
   have HS:=setl_step (keep:=kf) (bl:=bl) HX.out
   have hkj:kf j=(all||hasTo keep (j:Int) keep.length):=by rw [HKF.out];rfl
   clear M hbut q0 q1
   cases hk:kf j with
   | false =>
    rw [hk] at HS hkj
    have HS':Hid (setl kf wt bl (j+1)=setl kf wt bl j):=HS
    obtain ⟨rfl,hh⟩:all=false/\hasTo keep (j:Int) keep.length=false:=by
     cases all with
     | true=>exact absurd hkj (by simp)
     | false=>exact ⟨rfl,(by simpa using hkj.symm)⟩
    rw [hh] at HH
    clear HS hkj hh
    go_wp2_with (go_at_call 156;refine HH.mono ?_;rintro e w' ⟨rfl,hw⟩;rw [hw];clear hw)
    exact ⟨⟨j+1,by omega,by simp,by rw [HS'.out];exact HMr.out,HB.out⟩,by simp [intOf];omega⟩
   | true =>
    rw [hk,if_pos rfl] at HS
    have HS':Hid (setl kf wt bl (j+1)=(setl kf wt bl j).set x.1 x.2):=HS
    have hxl:=HWT.out x (List.mem_of_getElem? HX.out)
    obtain ⟨BL,HBL⟩:∃BL,Hid (BL=setl kf wt bl j):=⟨_,(rfl:setl kf wt bl j=_)⟩
    have hBl:BL.length=bl.length:=by rw [HBL.out,setl_len]
    have c1:wr.cell? ⟨mb,0,none⟩=some (.slice la BL.length lc):=by rw [HBL.out];exact HC1.out
    obtain ⟨gl,rfl,cl,fl⟩:=HMr.out.l_at (k:=x.1) (b:=(setl kf wt bl j)[x.1]'(by rw [setl_len];exact hxl)) (List.getElem?_eq_getElem _)
    obtain ⟨old,cl'⟩:∃old,wr.cell? ⟨gl,x.1,none⟩=some (.string old):=⟨_,cl⟩
    have q0:=HQ0.out
    have q1:=HQ1.out
    have HE:Hid (MkAt (wr.setCell ⟨gl,x.1,none⟩ (.string (sB x.2))) mb (some ⟨gl,0,none⟩) lc (some ⟨gw,0,none⟩) wcp (setl kf wt bl (j+1)) wt):=by rw [HS'.out];exact HMr.out.set_l rfl x.2
    have HEB:Hid (MkBut mb (some ⟨gl,0,none⟩) (some ⟨gw,0,none⟩) w (wr.setCell ⟨gl,x.1,none⟩ (.string (sB x.2)))):=HB.out.trans (MkAt.but_l rfl _ _)
    clear HS cl
    have hxl2:x.1<BL.length:=by omega
    cases all with
    | true =>
     clear HH hkj
     go_wp2_with fail
     go_region
     go_wp2_with fail
     exact ⟨⟨j+1,by omega,by simp,HE.out.ext fun _ _=>rfl,MkBut.of_heap HEB.out rfl rfl rfl rfl⟩,by simp [intOf];omega⟩
    | false =>
     have hh:hasTo keep (j:Int) keep.length=true:=by rw [hk] at hkj;simpa using hkj.symm
     rw [hh] at HH
     clear hkj hh
     go_wp2_with (go_at_call 156;refine HH.mono ?_;rintro e w' ⟨rfl,hw⟩;rw [hw];clear hw)
     go_region
     go_wp2_with fail
     exact ⟨⟨j+1,by omega,by simp,HE.out.ext fun _ _=>rfl,MkBut.of_heap HEB.out rfl rfl rfl rfl⟩,by simp [intOf];omega⟩
  ·obtain rfl:j=wt.length:=by omega
   clear M hbut
   go_wp2_with fail
   go_returns
   exact ⟨rfl,HMr.out.forget,HB.out.trans (MkAt.but_forget _ _)⟩
end
end Go.Proofs.YtpiebpiljhlneaaGreatDoor
