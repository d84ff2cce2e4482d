/-
  Files by numbers: a table of inodes in memory; what may turn.
  The contracts of package inode's New, find, next, Link and Free.
  The contracts of package disk's Barrier and Crash, and of the law's own copy of numbers.
  Conditions: those that each states.
-/
import Derived.Maps.OwnSet
import Derived.Test.YteefneelcgeioaaGreatDoorQ06
import Derived.Test.YteefneelcgeioaaGreatDoorQ03
namespace Go.Proofs.YteefneelcgeioaaGreatDoor
open Go.RowKit Go.Maps

structure Ino where
 bytes:Nat
 links:Nat
 exec:Bool
 blocks:List Nat
 sum:Nat

def stR (v:Value):Option (DataW Unit×List MemPlace):=match v with
 | .pointer none=>some (.nil,[])
 | .pointer (some ⟨b,0,none⟩)=>some (.lit (.int .i64 (b:Int)),[])
 | _=>none
def mdat:Option Nat->DataW Unit
 | some b=>.lit (.int .i64 (b:Int))
 | none=>.nil
def ptrO (o:Option Nat):Value:=.pointer (o.map fun b=>⟨b,0,none⟩)
theorem stR_ptr (o:Option Nat):stR (ptrO o)=some (mdat o,[]):=by cases o <;> rfl
theorem stR_inv {v:Value} {o:Option Nat} {ps:List MemPlace} (h:stR v=some (mdat o,ps)):v=ptrO o:=by
 unfold stR at h
 split at h
 ·cases o with
  | none=>rfl
  | some b=>simp [mdat] at h
 ·cases o with
  | none=>simp [mdat] at h
  | some b' =>
   simp only [mdat,Option.some.injEq,Prod.mk.injEq,DataW.lit.injEq,Lit.int.injEq,true_and,Int.natCast_inj] at h
   rw [h.1];rfl
 ·cases h
def atI (f:Nat->Option Nat) (k:Int):Option Nat:=if 0<=k then f k.toNat else none
theorem atI_nat (f:Nat->Option Nat) (k:Nat):atI f (k:Int)=f k:=by simp [atI]
def upd (f:Nat->Option Nat) (k:Nat) (o:Option Nat):Nat->Option Nat:=fun j=>if j=k then o else f j
theorem keyed:Keyed Tryz.prog 3:=int_keyed Tryz.underlying3
theorem zeroPS (w:World):(zeroValue 101).run Tryz.prog w = .ok (.pointer none) w:=by kernel_rfl

def MpAt (w:World) (mb n:Nat) (f:Nat->Option Nat):Prop:=∃D:DataW Unit,w.ownsMap Tryz.prog 3 stR mb n D/\∀k:Int,D.atKey (.int .i64 k) .nil=mdat (atI f k)/\Maps.has D (.int .i64 k)=(atI f k).isSome
namespace MpAt
variable {w w' : World} {mb n : Nat} {f : Nat → Option Nat}
theorem made (w:World):MpAt (w.alloc (.map #[] 0)) w.heap.size 0 (fun _=>none) :=
 ⟨_,World.ownsMap_made _ _ _ _,fun k=>by
  have e:atI (fun _=>none) k=none:=by unfold atI;split <;> rfl
  rw [e];exact ⟨rfl,rfl⟩⟩
theorem obj (M:MpAt w mb n f):∃es clock,w.heap[mb]? = some (.map es clock):=by
 obtain ⟨D,⟨es,clock,hb,_⟩,_⟩:=M
 exact ⟨es,clock,hb⟩
theorem keep (M:MpAt w mb n f) (hb:w'.heap[mb]? = w.heap[mb]?):MpAt w' mb n f:=by
 obtain ⟨D,⟨es,clock,h,F,hs,hD⟩,hk⟩:=M
 exact ⟨D,⟨es,clock,hb.trans h,F,hs,hD⟩,hk⟩
theorem look (M:MpAt w mb n f) {k:Int} (hk:(Lit.int .i64 k).wf=true):(Instr.lookup 100 (.map (some mb)) (.int .i64 k) false).run Tryz.prog w = .ok (ptrO (atI f k)) w:=by
 obtain ⟨D,hown,hD⟩:=M
 obtain ⟨v,ps,hrun,hv⟩:=hown.lookup keyed Tryz.underlying100 (zeroPS w) (zd:=.nil) (zp:=[]) rfl (keyOf_int_mk Tryz.underlying3 hk)
 rw [(hD k).1] at hv
 rw [hrun,stR_inv hv]
theorem put (M:MpAt w mb n f) (hn:n<maxLen) {k:Nat} (hk:(Lit.int .i64 (k:Int)).wf=true) (b:Nat) :
  ∃w',(Instr.mapUpdate 100 (.map (some mb)) (.int .i64 (k:Int)) (.pointer (some ⟨b,0,none⟩))).run Tryz.prog w = .ok () w'/\MpAt w' mb (n+1) (upd f k (some b))/\w.grownBy w' (some mb):=by
 obtain ⟨D,hown,hD⟩:=M
 obtain ⟨w',hrun,hown',hg⟩:=hown.update keyed Tryz.underlying100 hn (keyOf_int_mk Tryz.underlying3 hk) (stR_ptr (some b))
 refine ⟨w',hrun,⟨_,hown',fun j=>?_⟩,hg⟩
 by_cases e:j=(k:Int)
 ·subst e
  rw [atKey_put_same (k:=Lit.int .i64 (k:Int)) hown.isMap trivial,has_put_same (k:=Lit.int .i64 (k:Int)) hown.isMap trivial,atI_nat]
  simp [upd]
 ·have hne:(Lit.int .i64 j)≠Lit.int .i64 (k:Int):=fun h=>e (by simpa using h)
  rw [atKey_put_other hne,has_put_other hne]
  have:atI (upd f k (some b)) j=atI f j:=by
   unfold atI upd
   split
   ·rw [if_neg (by omega)]
   ·rfl
  rw [this];exact hD j
theorem del (M:MpAt w mb n f) {k:Nat} (hk:(Lit.int .i64 (k:Int)).wf=true) (ty:TypeId) :
  ∃w',(Builtin.delete_ #[100,3] ty #[.map (some mb),.int .i64 (k:Int)]).run Tryz.prog w = .ok (.tuple #[]) w'/\MpAt w' mb n (upd f k none)/\w.grownBy w' (some mb):=by
 obtain ⟨D,hown,hD⟩:=M
 obtain ⟨w',hrun,hown',hg⟩:=hown.drop keyed Tryz.underlying100 (keyOf_int_mk Tryz.underlying3 hk) ty
 refine ⟨w',hrun,⟨_,hown',fun j=>?_⟩,hg.grown⟩
 by_cases e:j=(k:Int)
 ·subst e
  rw [atKey_del_same,has_del_same,atI_nat]
  simp [upd,mdat]
 ·have hne:(Lit.int .i64 j)≠Lit.int .i64 (k:Int):=fun h=>e (by simpa using h)
  rw [atKey_del_other hne,has_del_other hne]
  have:atI (upd f k none) j=atI f j:=by
   unfold atI upd
   split
   ·rw [if_neg (by omega)]
   ·rfl
  rw [this];exact hD j
end MpAt

def Turn (p:Obj->Bool) (w w':World):Prop:=∀(k:Nat) (o:Obj),w.heap[k]? = some o->p o=false->w'.heap[k]? = some o
def dkTy:Obj->Bool
 | .cells _ t _=>t==179||t==159||t==210
 | _=>false
def boTy:Obj->Bool
 | .cells _ t _=>t==4
 | _=>false
def stTy:Obj->Bool
 | .cells _ t _=>t==54
 | _=>false
def mpTy:Obj->Bool
 | .map _ _=>true
 | _=>false
def tbTy (o:Obj):Bool:=dkTy o||boTy o||stTy o||mpTy o
theorem Turn.of_below {p:Obj->Bool} {w w':World} (h:Below w.heap.size w w'):Turn p w w':=fun k o hk _=>by rw [h.block k (Array.getElem?_eq_some_iff.1 hk).1];exact hk
theorem Turn.of_but {w w':World} {bb:Nat} {va:Option Addr} {vc:Nat} {bl:List (List UInt8)} {wt:List (Nat×List UInt8)} (D:DkAt w bb va vc bl wt) (h:DkBut bb va w w'):Turn dkTy w w':=fun k o hk hp=>by
 rw [h.block k (Array.getElem?_eq_some_iff.1 hk).1 (fun e=>?_) (fun e=>?_) (fun a ha e=>?_)]
 ·exact hk
 ·subst e;rw [D.blocks] at hk;cases hk;exact absurd (show true=false from hp) (by simp)
 ·subst e;rw [D.disk] at hk;cases hk;exact absurd (show true=false from hp) (by simp)
 ·subst e
  rcases D.waits.2 with ⟨e,_⟩|⟨g,cap,cur,e,_,h1,_⟩
  ·cases ha;simp at e
  ·cases ha
   simp only [Value.slice.injEq,Option.some.injEq] at e
   rw [e.1] at hk
   simp only at hk
   rw [h1] at hk;cases hk;exact absurd (show true=false from hp) (by simp)
theorem Turn.of_marks {w w':World} {p b cap:Nat} {u:List Bool} (S:SpAt w p b cap u) (h:w.grownBy w' (some b)):Turn boTy w w':=fun k o hk hp=>by
 obtain ⟨cur,h1,_⟩:=S.row
 rw [h.block k (Array.getElem?_eq_some_iff.1 hk).1 (fun e=>?_)]
 ·exact hk
 ·cases e;rw [h1] at hk;cases hk;exact absurd (show true=false from hp) (by simp)
theorem Turn.of_map {w w':World} {mb n:Nat} {f:Nat->Option Nat} (M:MpAt w mb n f) (h:w.grownBy w' (some mb)):Turn mpTy w w':=fun k o hk hp=>by
 obtain ⟨es,cl,h1⟩:=M.obj
 rw [h.block k (Array.getElem?_eq_some_iff.1 hk).1 (fun e=>?_)]
 ·exact hk
 ·cases e;rw [h1] at hk;cases hk;exact absurd (show true=false from hp) (by simp)
theorem Turn.of_stat {w:World} {b i:Nat} {cur:Array Value} (h1:w.heap[b]? = some (.cells cur 54 (0,0))) (v:Value):Turn stTy w (w.setCell ⟨b,i,none⟩ v):=fun k o hk hp=>by
 rw [Below.heap_setCell _ _ _ _ (fun e=>?_)]
 ·exact hk
 ·subst e;rw [h1] at hk;cases hk;exact absurd (show true=false from hp) (by simp)
theorem DkAt.turn {p:Obj->Bool} {w w':World} {bb:Nat} {va:Option Addr} {vc:Nat} {bl:List (List UInt8)} {wt:List (Nat×List UInt8)} (D:DkAt w bb va vc bl wt) (h:Turn p w w') (h1:∀c f,p (.cells c 179 f)=false) (h2:∀c f,p (.cells c 159 f)=false) (h3:∀c f,p (.cells c 210 f)=false):DkAt w' bb va vc bl wt :=
 D.ext fun k hk=>by
  rcases hk with rfl|rfl|⟨a,ha,rfl⟩
  ·rw [D.blocks];exact h _ _ D.blocks (h1 _ _)
  ·rw [D.disk];exact h _ _ D.disk (h2 _ _)
  ·rcases D.waits.2 with ⟨e,_⟩|⟨g,cap,cur,e,_,hr,_⟩
   ·cases ha;simp at e
   ·cases ha
    simp only [Value.slice.injEq,Option.some.injEq] at e
    rw [e.1];simp only
    rw [hr];exact h _ _ hr (h3 _ _)
theorem SpAt.turn {p:Obj->Bool} {w w':World} {q b cap:Nat} {u:List Bool} (S:SpAt w q b cap u) (h:Turn p w w') (h1:∀c f,p (.cells c 184 f)=false) (h2:∀c f,p (.cells c 4 f)=false):SpAt w' q b cap u:=by
 obtain ⟨cur,hr,_⟩:=S.row
 exact S.keep (by rw [S.box];exact h _ _ S.box (h1 _ _)) (by rw [hr];exact h _ _ hr (h2 _ _))
theorem IntsT.turn {p:Obj->Bool} {w w':World} {v:Value} {l:List Int} (I:IntsT w v l) (h:Turn p w w') (h1:∀c f,p (.cells c 3 f)=false):IntsT w' v l :=
 I.keep fun b cur hb=>by rw [hb];exact h _ _ hb (h1 _ _)
theorem MpAt.turn {p:Obj->Bool} {w w':World} {mb n:Nat} {f:Nat->Option Nat} (M:MpAt w mb n f) (h:Turn p w w') (h1:∀es c,p (.map es c)=false):MpAt w' mb n f:=by
 obtain ⟨es,cl,hb⟩:=M.obj
 exact M.keep (by rw [hb];exact h _ _ hb (h1 _ _))

def RowV (w:World) (F:Nat->Prop) (v:Value):Prop:=∀(a:Addr) (l c:Nat),v = .slice (some a) l c->¬F a.block/\∃cur,w.heap[a.block]? = some (.cells cur 3 (0,0))
theorem RowV.turn {p:Obj->Bool} {w w':World} {F:Nat->Prop} {v:Value} (R:RowV w F v) (h:Turn p w w') (h1:∀c f,p (.cells c 3 f)=false):RowV w' F v:=fun a l c e=>by
 obtain ⟨hF,cur,hc⟩:=R a l c e
 exact ⟨hF,cur,h _ _ hc (h1 _ _)⟩
theorem RowV.of_own {w:World} {F:Nat->Prop} {B:Nat} {v:Value} {l:List Nat} (h:OwnI w B v l) (hF:∀g,F g->g<B):RowV w F v:=fun a n c e=>by
 rcases h.2 with ⟨h0,_⟩|⟨g,cap,cur,h0,h1,h2,_⟩
 ·rw [e] at h0;simp at h0
 ·rw [e] at h0
  simp only [Value.slice.injEq,Option.some.injEq] at h0
  rw [h0.1]
  exact ⟨fun hf=>by have:=hF g hf;omega,cur,h2⟩
def StAt (w:World) (F:Nat->Prop) (b:Nat) (x:Ino):Prop:=∃v,w.heap[b]? = some (.cells #[.int .i64 (x.bytes:Int),.int .i64 (x.links:Int),.bool x.exec,v,.int .u32 (x.sum:Int)] 54 (0,0))/\IntsT w v (ints x.blocks)/\RowV w F v
theorem StAt.turn {p:Obj->Bool} {w w':World} {F:Nat->Prop} {b:Nat} {x:Ino} (S:StAt w F b x) (h:Turn p w w') (h1:∀c f,p (.cells c 3 f)=false) (h2:∀c f,p (.cells c 54 f)=false):StAt w' F b x:=by
 obtain ⟨v,hb,hv,hr⟩:=S
 exact ⟨v,h _ _ hb (h2 _ _),hv.turn h h1,hr.turn h h1⟩
theorem StAt.links {w:World} {F:Nat->Prop} {b:Nat} {x:Ino} (S:StAt w F b x) (l:Nat):StAt (w.setCell ⟨b,1,none⟩ (.int .i64 (l:Int))) F b { x with links:=l }:=by
 obtain ⟨v,hb,hv,hr⟩:=S
 refine ⟨v,?_,hv.turn (Turn.of_stat hb _) (fun _ _=>rfl),hr.turn (Turn.of_stat hb _) (fun _ _=>rfl)⟩
 rw [row_setCell hb];rfl
theorem StAt.other {w:World} {F:Nat->Prop} {b b' i:Nat} {x y:Ino} (S:StAt w F b x) (S':StAt w F b' y) (hne:b≠b') (v:Value):StAt (w.setCell ⟨b',i,none⟩ v) F b x:=by
 obtain ⟨v1,hb,hv,hr⟩:=S
 obtain ⟨v2,hb',_⟩:=S'
 exact ⟨v1,by rw [Below.heap_setCell _ _ _ _ hne];exact hb,hv.turn (Turn.of_stat hb' _) (fun _ _=>rfl),hr.turn (Turn.of_stat hb' _) (fun _ _=>rfl)⟩

def slotT (tab:List (Option Ino)) (k:Nat):Option Ino:=(tab[k]?).join
structure NdAt (w:World) (F:Nat->Prop) (T0 mb n:Nat) (tab:List (Option Ino)) (f:Nat->Option Nat):Prop where
 map:MpAt w mb n f
 some_:∀k x,slotT tab k=some x->∃b,f k=some b/\T0<=b/\StAt w F b x
 none_:∀k,slotT tab k=none->f k=none
 inj:∀k j b,f k=some b->f j=some b->k=j
theorem NdAt.turn {p:Obj->Bool} {w w':World} {F:Nat->Prop} {T0 mb n:Nat} {tab:List (Option Ino)} {f:Nat->Option Nat} (N:NdAt w F T0 mb n tab f) (h:Turn p w w') (h1:∀es c,p (.map es c)=false) (h2:∀c f,p (.cells c 3 f)=false) (h3:∀c f,p (.cells c 54 f)=false):NdAt w' F T0 mb n tab f :=
 ⟨N.map.turn h h1,fun k x hx=>by obtain ⟨b,e,hb,S⟩:=N.some_ k x hx;exact ⟨b,e,hb,S.turn h h2 h3⟩,N.none_,N.inj⟩
structure TbAt (w:World) (F:Nat->Prop) (T0 tb bb sp sb cap mb n:Nat) (bl:List (List UInt8)) (u:List Bool) (tab:List (Option Ino)):Prop where
 box:w.heap[tb]? = some (.cells #[.pointer (some ⟨bb+1,0,none⟩),.pointer (some ⟨sp,0,none⟩),.map (some mb)] 105 (0,0))
 disk:DkAt w bb none 0 bl []
 space:SpAt w sp sb cap u
 nodes:∃f,NdAt w F T0 mb n tab f
 low:T0<=bb/\T0<=sb/\T0<=mb/\bl.length<=512/\u.length<=512/\tab.length<=n/\n<=100000
structure TbBut (T0 mb:Nat) (w w':World):Prop where
 os:w'.os=w.os
 tape:w'.tape=w.tape
 output:w'.output=w.output
 size:w.heap.size<=w'.heap.size
 block:∀(k:Nat) (o:Obj),w.heap[k]? = some o->(k<T0∨tbTy o=false)->w'.heap[k]? = some o
 maps:∀(k:Nat) (o:Obj),w.heap[k]? = some o->mpTy o=true->k≠mb->w'.heap[k]? = some o
namespace TbBut
variable {T0 mb : Nat} {w w' w'' : World}
theorem refl (T0 mb:Nat) (w:World):TbBut T0 mb w w:=⟨rfl,rfl,rfl,Nat.le_refl _,fun _ _ h _=>h,fun _ _ h _ _=>h⟩
theorem trans (h:TbBut T0 mb w w') (h':TbBut T0 mb w' w''):TbBut T0 mb w w'' :=
 ⟨h'.os.trans h.os,h'.tape.trans h.tape,h'.output.trans h.output,Nat.le_trans h.size h'.size,fun k o hk hp=>h'.block k o (h.block k o hk hp) hp,fun k o hk hp hm=>h'.maps k o (h.maps k o hk hp hm) hp hm⟩
theorem of_below (h:Below w.heap.size w w'):TbBut T0 mb w w':=⟨h.os,h.tape,h.output,h.size,fun k o hk _=>by rw [h.block k (Array.getElem?_eq_some_iff.1 hk).1];exact hk,fun k o hk _ _=>by rw [h.block k (Array.getElem?_eq_some_iff.1 hk).1];exact hk⟩
theorem of_but {bb:Nat} {va:Option Addr} {vc:Nat} {bl:List (List UInt8)} {wt:List (Nat×List UInt8)} (D:DkAt w bb va vc bl wt) (hT:T0<=bb) (h:DkBut bb va w w'):TbBut T0 mb w w' :=
 ⟨h.os,h.tape,h.output,h.size,fun k o hk hp=>by
  rcases hp with hp|hp
  ·rw [h.block k (Array.getElem?_eq_some_iff.1 hk).1 (by omega) (by omega) (fun a ha=>by have:=(D.low a ha).1;omega)];exact hk
  ·exact Turn.of_but D h k o hk (by unfold tbTy at hp;simp only [Bool.or_eq_false_iff] at hp;exact hp.1.1.1),fun k o hk hp _=>Turn.of_but D h k o hk (by cases o <;> first|rfl|(cases hp))⟩
theorem of_marks {p b cap:Nat} {u:List Bool} (S:SpAt w p b cap u) (hT:T0<=b) (h:w.grownBy w' (some b)):TbBut T0 mb w w' :=
 ⟨h.os,h.tape,h.output,h.size,fun k o hk hp=>by
  rcases hp with hp|hp
  ·rw [h.block k (Array.getElem?_eq_some_iff.1 hk).1 (fun e=>by cases e;omega)];exact hk
  ·exact Turn.of_marks S h k o hk (by unfold tbTy at hp;simp only [Bool.or_eq_false_iff] at hp;exact hp.1.1.2),fun k o hk hp _=>Turn.of_marks S h k o hk (by cases o <;> first|rfl|(cases hp))⟩
theorem of_map {n:Nat} {f:Nat->Option Nat} (M:MpAt w mb n f) (hT:T0<=mb) (h:w.grownBy w' (some mb)):TbBut T0 mb w w' :=
 ⟨h.os,h.tape,h.output,h.size,fun k o hk hp=>by
  rcases hp with hp|hp
  ·rw [h.block k (Array.getElem?_eq_some_iff.1 hk).1 (fun e=>by cases e;omega)];exact hk
  ·exact Turn.of_map M h k o hk (by unfold tbTy at hp;simp only [Bool.or_eq_false_iff] at hp;exact hp.2),fun k o hk _ hm=>by rw [h.block k (Array.getElem?_eq_some_iff.1 hk).1 (fun e=>hm (Option.some.inj e))];exact hk⟩
theorem of_stat {F:Nat->Prop} {b i:Nat} {x:Ino} (S:StAt w F b x) (hT:T0<=b) (v:Value):TbBut T0 mb w (w.setCell ⟨b,i,none⟩ v):=by
 obtain ⟨v1,hb,_⟩:=S
 refine ⟨rfl,rfl,rfl,by simp [World.setCell],fun k o hk hp=>?_,fun k o hk hp _=>Turn.of_stat hb v k o hk (by cases o <;> first|rfl|(cases hp))⟩
 rcases hp with hp|hp
 ·rw [Below.heap_setCell _ _ _ _ (by simp only;omega)];exact hk
 ·exact Turn.of_stat hb v k o hk (by unfold tbTy at hp;simp only [Bool.or_eq_false_iff] at hp;exact hp.1.2)
theorem below (h:TbBut T0 mb w w') {B:Nat} {w0:World} (hB:B<=T0) (hs:B<=w.heap.size) (h0:Below B w0 w):Below B w0 w' :=
 ⟨h.os.trans h0.os,h.tape.trans h0.tape,h.output.trans h0.output,Nat.le_trans h0.size h.size,fun k hk=>by
  rw [<-h0.block k hk]
  have e:w.heap[k]? = some w.heap[k]:=Array.getElem?_eq_getElem (by omega)
  rw [e];exact h.block k _ e (.inl (by omega))⟩
theorem cell {b:Nat} {i:Nat} {o:Obj} (h:TbBut T0 mb w w') (hk:w.heap[b]? = some o) (ht:b<T0∨tbTy o=false):w'.cell? ⟨b,i,none⟩=w.cell? ⟨b,i,none⟩ :=
 World.cell?_of_block (by rw [hk];exact h.block b o hk ht)
end TbBut
theorem TbAt.below {w w':World} {F:Nat->Prop} {T0 tb bb sp sb cap mb n:Nat} {bl:List (List UInt8)} {u:List Bool} {tab:List (Option Ino)} (T:TbAt w F T0 tb bb sp sb cap mb n bl u tab) (h:Below w.heap.size w w'):TbAt w' F T0 tb bb sp sb cap mb n bl u tab:=by
 have ht:Turn (fun _=>false) w w':=Turn.of_below h
 obtain ⟨f,N⟩:=T.nodes
 exact ⟨ht _ _ T.box rfl,T.disk.turn ht (fun _ _=>rfl) (fun _ _=>rfl) (fun _ _=>rfl),T.space.turn ht (fun _ _=>rfl) (fun _ _=>rfl),⟨f,N.turn ht (fun _ _=>rfl) (fun _ _=>rfl) (fun _ _=>rfl)⟩,T.low⟩
theorem TbAt.cells {w:World} {F:Nat->Prop} {T0 tb bb sp sb cap mb n:Nat} {bl:List (List UInt8)} {u:List Bool} {tab:List (Option Ino)} (T:TbAt w F T0 tb bb sp sb cap mb n bl u tab) :
  w.cell? ⟨tb,0,none⟩=some (.pointer (some ⟨bb+1,0,none⟩))/\w.cell? ⟨tb,1,none⟩=some (.pointer (some ⟨sp,0,none⟩))/\w.cell? ⟨tb,2,none⟩=some (.map (some mb)):=by
 refine ⟨?_,?_,?_⟩ <;> rw [cell_of_row _ _ _ _ _ _ T.box] <;> rfl
theorem TbAt.reF {w:World} {F F':Nat->Prop} {T0 tb bb sp sb cap mb n:Nat} {bl:List (List UInt8)} {u:List Bool} {tab:List (Option Ino)} (T:TbAt w F T0 tb bb sp sb cap mb n bl u tab) (h:∀(g:Nat) (cur:Array Value),w.heap[g]? = some (.cells cur 3 (0,0))->F' g->F g):TbAt w F' T0 tb bb sp sb cap mb n bl u tab:=by
 obtain ⟨f,N⟩:=T.nodes
 exact ⟨T.box,T.disk,T.space,⟨f,N.map,fun k x hx=>by
  obtain ⟨b,e,hb,v,h1,h2,h3⟩:=N.some_ k x hx
  exact ⟨b,e,hb,v,h1,h2,fun a l c ev=>by
   obtain ⟨hF,cur,hc⟩:=h3 a l c ev
   exact ⟨fun hf=>hF (h _ cur hc hf),cur,hc⟩⟩,N.none_,N.inj⟩,T.low⟩
theorem TbAt.keepF {w w':World} {F:Nat->Prop} {T0 tb bb sp sb cap mb n:Nat} {bl:List (List UInt8)} {u:List Bool} {tab:List (Option Ino)} (T:TbAt w F T0 tb bb sp sb cap mb n bl u tab) (h:∀(k:Nat) (o:Obj),w.heap[k]? = some o->(∀cur,o = .cells cur 3 (0,0)->¬F k)->w'.heap[k]? = some o):TbAt w' F T0 tb bb sp sb cap mb n bl u tab:=by
 have ht:Turn (fun o=>match o with | .cells _ t _=>t==3|_=>false) w w':=fun k o hk hp=>h k o hk (fun cur e=>by rw [e] at hp;simp at hp)
 obtain ⟨f,N⟩:=T.nodes
 refine ⟨ht _ _ T.box rfl,T.disk.turn ht (fun _ _=>rfl) (fun _ _=>rfl) (fun _ _=>rfl),T.space.turn ht (fun _ _=>rfl) (fun _ _=>rfl),⟨f,N.map.turn ht (fun _ _=>rfl),fun k x hx=>?_,N.none_,N.inj⟩,T.low⟩
 obtain ⟨b,e,hb,v,h1,h2,h3⟩:=N.some_ k x hx
 have hrow:∀(a:Addr) (l c:Nat),v = .slice (some a) l c->∀cur,w.heap[a.block]? = some (.cells cur 3 (0,0))->w'.heap[a.block]? = some (.cells cur 3 (0,0)):=fun a l c ev cur hc=>h _ _ hc (fun _ _=>(h3 a l c ev).1)
 refine ⟨b,e,hb,v,ht _ _ h1 rfl,?_,fun a l c ev=>?_⟩
 ·obtain ⟨ad,cp,ev,hcs⟩:=h2
  refine ⟨ad,cp,ev,fun hne=>?_⟩
  obtain ⟨g,off,cur,e1,e2,e3⟩:=hcs hne
  exact ⟨g,off,cur,e1,hrow ⟨g,off,none⟩ _ _ (by rw [ev,e1]) cur e2,e3⟩
 ·obtain ⟨hF,cur,hc⟩:=h3 a l c ev
  exact ⟨hF,cur,hrow a l c ev cur hc⟩
end Go.Proofs.YteefneelcgeioaaGreatDoor
namespace Go.Proofs.YteefneelcgeioaaGreatDoor
set_option maxHeartbeats 1000000
set_option maxRecDepth 100000
open Go.RowKit Go.Maps

theorem slotT_lt {tab:List (Option Ino)} {k:Nat} {x:Ino} (h:slotT tab k=some x):k<tab.length:=by
 unfold slotT at h
 by_cases hk:k<tab.length
 ·exact hk
 ·rw [List.getElem?_eq_none (by omega)] at h;cases h
theorem slotT_of {tab:List (Option Ino)} {k:Nat} {o:Option Ino} (h:tab[k]? = some o):slotT tab k=o:=by
 unfold slotT;rw [h];rfl
theorem slotT_set {tab:List (Option Ino)} {k:Nat} (hk:k<tab.length) (o:Option Ino) (j:Nat):slotT (tab.set k o) j=if j=k then o else slotT tab j:=by
 unfold slotT
 by_cases e:j=k
 ·subst e;rw [List.getElem?_set_self hk,if_pos rfl];rfl
 ·rw [List.getElem?_set_ne (fun h=>e h.symm),if_neg e]
def slotI (tab:List (Option Ino)) (k:Int):Option Ino:=if 0<=k then slotT tab k.toNat else none
theorem NdAt.no {w:World} {F:Nat->Prop} {T0 mb n:Nat} {tab:List (Option Ino)} {f:Nat->Option Nat} (N:NdAt w F T0 mb n tab f) {k:Int} (h:slotI tab k=none):atI f k=none:=by
 unfold slotI at h
 unfold atI
 split
 ·rw [if_pos (by assumption)] at h;exact N.none_ _ h
 ·rfl
def nextR (tab:List (Option Ino)):Nat:=tab.findIdx (·.isNone)
theorem nextR_le (tab:List (Option Ino)):nextR tab<=tab.length:=List.findIdx_le_length
theorem next_some {tab:List (Option Ino)} {j:Nat} (h:j<nextR tab):∃x,slotT tab j=some x:=by
 have h1:j<tab.length:=Nat.lt_of_lt_of_le h (nextR_le tab)
 have h2:=List.not_of_lt_findIdx h
 cases e:tab[j] with
 | none=>rw [e] at h2;simp at h2
 | some x=>exact ⟨x,slotT_of (by rw [List.getElem?_eq_getElem h1,e])⟩
theorem next_none (tab:List (Option Ino)):slotT tab (nextR tab)=none:=by
 unfold slotT
 by_cases h:nextR tab<tab.length
 ·rw [List.getElem?_eq_getElem h]
  have:=List.findIdx_getElem (p:=fun o:Option Ino=>o.isNone) (xs:=tab) (w:=h)
  simp only [Option.isNone_iff_eq_none] at this
  unfold nextR
  rw [this];rfl
 ·rw [List.getElem?_eq_none (by omega)];rfl
theorem wf_nat {k:Nat} (h:k<=1000000):(Lit.int .i64 (k:Int)).wf=true:=WalkArith.wf_i64 (by omega)

section
variable {F : Nat → Prop} {T0 tb bb sp sb cap mb n : Nat} {bl : List (List UInt8)} {u : List Bool} {tab : List (Option Ino)}
theorem im_find {f:Nat->Option Nat} (k:Int) (hk:(Lit.int .i64 k).wf=true) (w:World) (T:TbAt w F T0 tb bb sp sb cap mb n bl u tab) (N:NdAt w F T0 mb n tab f) :
  Calls Tryz.prog 46 #[.pointer (some ⟨tb,0,none⟩),.int .i64 k] w fun e w'=>e = .returned (ptrO (atI f k))/\w'=w:=by
 have HL:=N.map.look hk
 obtain ⟨_,_,c2⟩:=T.cells
 clear T N hk
 obtain ⟨v,hv⟩:∃v,v=ptrO (atI f k):=⟨_,rfl⟩
 rw [<-hv] at HL ⊢
 clear hv
 go_enter Tryz.func46,Tryz.ntmps46
 go_wp2_with fail
 go_ret
 exact ⟨rfl,rfl⟩
theorem im_next (w:World) (T:TbAt w F T0 tb bb sp sb cap mb n bl u tab) :
  Calls Tryz.prog 91 #[.pointer (some ⟨tb,0,none⟩)] w fun e w'=>e = .returned (.int .i64 (nextR tab:Int))/\w'=w:=by
 obtain ⟨f,N⟩:=T.nodes
 obtain ⟨_,_,c2⟩:=T.cells
 have hle:=nextR_le tab
 obtain ⟨_,_,_,_,_,hl1,hl2⟩:=T.low
 have HL:Hid (∀j:Nat,j<=nextR tab->(Instr.lookup 100 (.map (some mb)) (.int .i64 (j:Int)) false).run Tryz.prog w = .ok (ptrO (f j)) w):=fun j hj=>by
  rw [N.map.look (wf_nat (by omega)),atI_nat]
 have HS:Hid (∀j:Nat,j<nextR tab->∃b,f j=some b):=fun j hj=>by
  obtain ⟨x,hx⟩:=next_some hj
  obtain ⟨b,e,_⟩:=N.some_ j x hx
  exact ⟨b,e⟩
 have HN:Hid (f (nextR tab)=none):=N.none_ _ (next_none tab)
 have hm:nextR tab<=100000:=by omega
 clear T N hl1 hl2 hle
 generalize nextR tab=m at *
 go_enter Tryz.func91,Tryz.ntmps91
 go_wp2_with fail
 go_loopw [3] (fun i wr=>∃j:Nat,j<=m/\i = .int .i64 j/\wr=w) (fun i _=>m-(intOf i).toNat)
 case atStart=>exact ⟨0,Nat.zero_le _,rfl,rfl⟩
 case round =>
  obtain ⟨j,hj,rfl,rfl⟩:=hrel
  have hl:=HL.out j hj
  by_cases hlt:j<m
  ·obtain ⟨b,e⟩:=HS.out j hlt
   rw [e] at hl
   clear e
   unfold ptrO at hl
   simp only [Option.map_some] at hl
   go_wp2_with fail
   exact ⟨⟨j+1,by omega,by simp,by first|rfl|trivial⟩,by simp [intOf];omega⟩
  ·obtain rfl:j=m:=by omega
   rw [HN.out] at hl
   unfold ptrO at hl
   simp only [Option.map_none] at hl
   go_wp2_with fail
   go_ret
   exact ⟨rfl,rfl⟩
theorem NdAt.links {w:World} {f:Nat->Option Nat} {k b:Nat} {x:Ino} (N:NdAt w F T0 mb n tab f) (hx:slotT tab k=some x) (e:f k=some b) (S:StAt w F b x) (l:Nat):NdAt (w.setCell ⟨b,1,none⟩ (.int .i64 (l:Int))) F T0 mb n (tab.set k (some { x with links:=l })) f:=by
 obtain ⟨v,hb,_⟩:=id S
 have ht:=Turn.of_stat (i:=1) hb (.int .i64 (l:Int))
 refine ⟨N.map.turn ht (fun _ _=>rfl),fun j y hy=>?_,fun j hj=>?_,N.inj⟩
 ·rw [slotT_set (slotT_lt hx)] at hy
  split at hy
  ·rename_i ej
   subst ej;cases hy
   obtain ⟨b',e',hb',_⟩:=N.some_ _ x hx
   rw [e] at e';cases e'
   exact ⟨b,e,hb',S.links l⟩
  ·rename_i ej
   obtain ⟨b',e',hb',S'⟩:=N.some_ j y hy
   exact ⟨b',e',hb',S'.other S (fun h=>ej (N.inj _ _ _ (by rw [e',h]) e)) _⟩
 ·rw [slotT_set (slotT_lt hx)] at hj
  split at hj
  ·cases hj
  ·exact N.none_ j hj
theorem TbAt.links {w:World} {f:Nat->Option Nat} {k b:Nat} {x:Ino} (T:TbAt w F T0 tb bb sp sb cap mb n bl u tab) (N:NdAt w F T0 mb n tab f) (hx:slotT tab k=some x) (e:f k=some b) (S:StAt w F b x) (l:Nat):TbAt (w.setCell ⟨b,1,none⟩ (.int .i64 (l:Int))) F T0 tb bb sp sb cap mb n bl u (tab.set k (some { x with links:=l })):=by
 obtain ⟨v,hb,_⟩:=id S
 have ht:=Turn.of_stat (i:=1) hb (.int .i64 (l:Int))
 refine ⟨ht _ _ T.box rfl,T.disk.turn ht (fun _ _=>rfl) (fun _ _=>rfl) (fun _ _=>rfl),T.space.turn ht (fun _ _=>rfl) (fun _ _=>rfl),⟨f,N.links hx e S l⟩,by rw [List.length_set];exact T.low⟩
theorem StAt.cells {w:World} {b:Nat} {x:Ino} (S:StAt w F b x):w.cell? ⟨b,0,none⟩=some (.int .i64 (x.bytes:Int))/\w.cell? ⟨b,1,none⟩=some (.int .i64 (x.links:Int))/\w.frozen? ⟨b,1,none⟩=false/\w.cell? ⟨b,2,none⟩=some (.bool x.exec)/\w.cell? ⟨b,4,none⟩=some (.int .u32 (x.sum:Int))/\∃v,w.cell? ⟨b,3,none⟩=some v/\IntsT w v (ints x.blocks):=by
 obtain ⟨v,hb,hv⟩:=S
 refine ⟨?_,?_,by simp [World.frozen?,hb],?_,?_,v,?_,hv.1⟩ <;> rw [cell_of_row _ _ _ _ _ _ hb] <;> rfl
theorem im_link (k:Nat) (x:Ino) (hx:slotT tab k=some x) (hl:x.links<=1000000) (w:World) (T:TbAt w F T0 tb bb sp sb cap mb n bl u tab) :
  Calls Tryz.prog 38 #[.pointer (some ⟨tb,0,none⟩),.int .i64 (k:Int)] w fun e w'=>e = .returned .nilIface/\TbAt w' F T0 tb bb sp sb cap mb n bl u (tab.set k (some { x with links:=x.links+1 }))/\TbBut T0 mb w w':=by
 obtain ⟨f,N⟩:=T.nodes
 obtain ⟨b,eb,hb,S⟩:=N.some_ k x hx
 have hkl:=slotT_lt hx
 obtain ⟨_,_,_,_,_,hl1,hl2⟩:=T.low
 have HF:=im_find (k:Int) (wf_nat (by omega)) w T N
 rw [atI_nat,eb] at HF
 unfold ptrO at HF
 simp only [Option.map_some] at HF
 obtain ⟨_,c1,f1,_⟩:=S.cells
 have HT:Hid (TbAt (w.setCell ⟨b,1,none⟩ (.int .i64 ((x.links+1:Nat):Int))) F T0 tb bb sp sb cap mb n bl u (tab.set k (some { x with links:=x.links+1 }))/\TbBut T0 mb w (w.setCell ⟨b,1,none⟩ (.int .i64 ((x.links+1:Nat):Int)))):=⟨T.links N hx eb S _,TbBut.of_stat S hb _⟩
 clear T N S hx eb hkl hl1
 go_enter Tryz.func38,Tryz.ntmps38
 go_wp2_with (go_at_call 46;refine HF.mono ?_;rintro e w1 ⟨rfl,hw⟩;rw [hw];clear hw)
 go_ret
 exact ⟨rfl,by simpa using HT.out⟩
theorem im_free (w:World) (T:TbAt w F T0 tb bb sp sb cap mb n bl u tab) :
  Calls Tryz.prog 24 #[.pointer (some ⟨tb,0,none⟩)] w fun e w'=>e = .returned (.int .i64 ((freeR u).length:Int))/\Below w.heap.size w w':=by
 have HF:=sp_Free w T.space T.low.2.2.2.2.1
 obtain ⟨_,c1,_⟩:=T.cells
 clear T
 go_enter Tryz.func24,Tryz.ntmps24
 go_wp2_with (go_at_call 49;refine HF.mono ?_;rintro e w1 ⟨rfl,h2⟩)
 go_ret
 exact ⟨rfl,h2⟩
theorem im_new (w:World) (D:DkAt w bb none 0 bl []) (h1:1<=bl.length) (h2:bl.length<=512) (hT:T0<=bb) (hT':T0<=w.heap.size) :
  Calls Tryz.prog 56 #[.pointer (some ⟨bb+1,0,none⟩)] w fun e w'=>∃tb sp sb cap mb,e = .returned (.tuple #[.pointer (some ⟨tb,0,none⟩),.nilIface])/\TbAt w' F T0 tb bb sp sb cap mb 0 bl (List.replicate bl.length false) []/\Below w.heap.size w w':=by
 have HL:=len_any w D
 have HS:=sp_new bl.length h1 h2 w
 have HD:Hid (DkAt w bb none 0 bl []):=D
 have hmm := @run_makeMap Tryz.prog
 clear D
 go_enter Tryz.func56,Tryz.ntmps56
 go_wp2_with (first
  | (go_at_call 85;refine HL.mono ?_;rintro e w1 ⟨rfl,hw⟩;rw [hw];clear hw)
  | (go_at_call 84;refine HS.mono ?_;rintro e w1 ⟨rfl,hS,hb⟩))
 go_ret2
 have hb1:Below w.heap.size w1 ((w1.alloc (.map #[] 0)).alloc (.cells #[.pointer (some ⟨bb+1,0,none⟩),.pointer (some ⟨w.heap.size+1,0,none⟩),.map (some w1.heap.size)] 105)):=((Below.refl _ w1).alloc (hb.size) _).alloc (by have:=hb.size;simp;omega) _
 have hb2:Below w1.heap.size w1 ((w1.alloc (.map #[] 0)).alloc (.cells #[.pointer (some ⟨bb+1,0,none⟩),.pointer (some ⟨w.heap.size+1,0,none⟩),.map (some w1.heap.size)] 105)):=((Below.refl _ w1).alloc (Nat.le_refl _) _).alloc (by simp) _
 refine ⟨w1.heap.size+1,w.heap.size+1,w.heap.size,bl.length,w1.heap.size,by simp,⟨?_,HD.out.below (Nat.le_refl _) (hb.trans hb1),hS.below hb2,⟨fun _=>none,(MpAt.made w1).keep ?_,fun k x hx=>?_,fun _ _=>rfl,fun _ _ _ h=>by cases h⟩,hT,hT',Nat.le_trans hT' hb.size,h2,by simpa using h2,by simp,by omega⟩,hb.trans hb1⟩
 ·have h:=heap_alloc_last (w1.alloc (.map #[] 0)) (.cells #[.pointer (some ⟨bb+1,0,none⟩),.pointer (some ⟨w.heap.size+1,0,none⟩),.map (some w1.heap.size)] 105)
  rw [World.size_alloc] at h
  exact h
 ·exact Below.heap_alloc _ _ _ (by simp)
 ·simp [slotT] at hx
end
end Go.Proofs.YteefneelcgeioaaGreatDoor
namespace Go.Proofs.YteefneelcgeioaaGreatDoor
set_option maxHeartbeats 1000000
set_option maxRecDepth 100000
open Go.RowKit

theorem bar1_any (i:Nat) (W:World):Calls Tryz.prog 131 (#[.int .i64 (i:Int)] ++ #[]) W fun e W'=>e = .returned (.bool true)/\W'=W:=by
 show Calls Tryz.prog 131 #[.int .i64 (i:Int)] W _
 go_enter Tryz.func131,Tryz.ntmps131
 go_wp2_with fail
 go_ret
 exact ⟨rfl,rfl⟩
theorem barrier_any {bb:Nat} {va:Option Addr} {vc:Nat} {bl:List (List UInt8)} {wt:List (Nat×List UInt8)} (w:World) (D:DkAt w bb va vc bl wt) (hwl:wt.length<=100000) :
  Calls Tryz.prog 107 #[.pointer (some ⟨bb+1,0,none⟩)] w fun e w'=>e = .returned (.tuple #[])/\DkAt w' bb none 0 (setl (fun _=>true) wt bl wt.length) []/\DkBut bb va w w':=by
 have HS:=settle_any 131 #[] (fun _=>true) w D hwl (enters_of Tryz.func131 (by kernel_rfl) rfl) (fun i W _ _=>bar1_any i W)
 clear D
 go_enter Tryz.func107,Tryz.ntmps107
 go_wp2_with (go_at_call 130;refine HS.mono ?_;rintro e w1 ⟨rfl,hD,hB⟩)
 go_returns
 exact ⟨rfl,hD,hB⟩

def kpL (n:Nat) (keep:List Int):Nat->List Bool
 | 0=>List.replicate n false
 | j+1=>match keep[j]? with
  | some x=>if 0<=x/\x<(n:Int) then (kpL n keep j).set x.toNat true else kpL n keep j
  | none=>kpL n keep j
def keptB (n:Nat) (keep:List Int) (i:Nat):Bool:=(kpL n keep keep.length)[i]?.getD false


end Go.Proofs.YteefneelcgeioaaGreatDoor
