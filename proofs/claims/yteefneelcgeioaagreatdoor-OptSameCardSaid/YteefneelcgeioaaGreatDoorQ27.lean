/-
  The contract of tree.each: where a tree is well it hands each node, in the order of the walk, to a function that keeps to a contract of its own ('Told').
  The contracts of tree.Count and tree.Size: how many nodes a tree has, how many bytes its files; 0 of one that is not well.
  The contract of tree.Files: the paths of a tree's files in the order of the walk; nothing of one that is not well.
  What follows for the functions Count, Size and Files: their steps, folded over a list of nodes. No program stands here but by the numbers that its functions were proved at.
  The paths that a tree's files are told by: each is got, and is a file; no two are one; their bytes are the tree's size. Plain mathematics.
  A tree's files: with their paths, bare and filled. Plain mathematics.
  Conditions: those that each states.
-/
import Derived.Test.YteefneelcgeioaaGreatDoorQ20
import Derived.Test.YteefneelcgeioaaGreatDoorQ26
import Derived.Laws.EntriesVeiled
import Derived.Deep.AppendLies
import Derived.OwnWalk
import Derived.Deep.DeepMust
import Derived.Test.YteefneelcgeioaaGreatDoorQ24
namespace Go.Proofs.YteefneelcgeioaaGreatDoor
set_option maxHeartbeats 1000000
open Go.RowKit

structure Told (f:FuncId) (c:Value) (B:Nat) {σ:Type} (step:σ->ByteArray×Nat×Tree->σ) (ok:σ->ByteArray×Nat×Tree->Prop) (J:σ->(Nat->Prop)->World->Prop):Prop where
 low:∀s C w,J s C w->∀k,C k->B<=k/\k<w.heap.size
 ext:∀s C w w',J s C w->(∀k,C k->w'.heap[k]? = w.heap[k]?)->J s C w'
 bound:∀s x,ok s x->x.1.size<=maxLen/\x.2.1<=4611686018427387904
 call:∀s C w d p (k:Nat) t u,J s C w->B<=w.heap.size->Lies w B (d+1) t.kids u->ok s (p,k,t) ->
  Calls Tryz.prog f #[.string p,.agg #[.string t.kind,.string t.data,.bool t.exec,u],c] w fun e w' =>
   e = .returned (.tuple #[])/\∃C',J (step s (p,k,t)) C' w'/\Kept C w w'/\∀j,C' j->C j∨w.heap.size<=j

def boxJ {σ:Type} (J:σ->(Nat->Prop)->World->Prop) (B eb:Nat) (v:Value) (s:σ) (C:Nat->Prop) (w:World):Prop :=
 ∃C0,J s C0 w/\(∀k,C k↔C0 k∨k=eb)/\w.heap[eb]? = some (.cells #[v] 95 (0,0))/\¬C0 eb/\B<=eb

theorem runs_none {σ:Type} (step:σ->ByteArray×Nat×Tree->σ):∀(l:List (ByteArray×Nat×Tree)) (s:σ),runs (fun s x=>(step s x,none)) s l=(l.foldl step s,none)
 | [],_=>rfl
 | x :: r,s=>by simp only [runs,List.foldl_cons];exact runs_none step r (step s x)







theorem each1_Files1 {σ:Type} {step:σ->ByteArray×Nat×Tree->σ} {ok:σ->ByteArray×Nat×Tree->Prop} {J:σ->(Nat->Prop)->World->Prop} (a:Nat->Addr) (c:Addr) (B eb:Nat) (T:Told 43 (.pointer (some c)) B step ok J) :
  Visit a 71 (.pointer (some ⟨eb,0,none⟩)) B (fun s x=>(step s x,none)) ok (boxJ J B eb (.func (.func 43) #[] #[.pointer (some c)])) where
 low s C w h k hk:=by
  obtain ⟨C0,h1,h2,h3,_,h5⟩:=h
  rcases (h2 k).1 hk with h|h
  ·exact T.low s C0 w h1 k h
  ·subst h;exact ⟨h5,lt_of_row h3⟩
 ext s C w w' h hb:=by
  obtain ⟨C0,h1,h2,h3,h4,h5⟩:=h
  exact ⟨C0,T.ext s C0 w w' h1 (fun k hk=>hb k ((h2 k).2 (.inl hk))),h2,by rw [hb eb ((h2 eb).2 (.inr rfl))];exact h3,h4,h5⟩
 bound:=T.bound
 call:=by
  intro s C w d p k t u hJ S hB hl hok
  obtain ⟨C0,h1,h2,h3,h4,h5⟩:=hJ
  obtain ⟨ad,cap,rfl⟩:=hl.form
  have hel:eb<w.heap.size:=lt_of_row h3
  have q0:=cell_of_one h3
  have hW:∀o,Below w.heap.size w (w.alloc o):=fun o=>(Below.refl _ _).alloc (Nat.le_refl _) o
  have hcall:=T.call s C0 (w.alloc (.cells #[.string t.kind,.string t.data,.bool t.exec,.slice ad t.kids.length cap] 32)) d p k t (.slice ad t.kids.length cap)
   (T.ext s C0 w _ h1 fun k hk=>Below.heap_alloc _ _ _ (T.low s C0 w h1 k hk).2) (by simp;omega) (hl.below (hW _) hB) hok
  have HCALL:Hid _:=hcall
  have HW:Hid _:=hW
  have H2:Hid _:=h2
  have H1:Hid _:=h1
  have H3:Hid _:=h3
  have H4:Hid _:=h4
  clear hcall hW h1 h2 h3 h4 hl S hok
  go_enter Tryz.func71,Tryz.ntmps71
  go_wp2_with fail
  refine Calls.mono HCALL.out ?_
  rintro e w2 ⟨rfl,C2,hJ2,hK2,hC2⟩
  have HJ2:Hid _:=hJ2
  have HK2:Hid _:=hK2
  have HC2:Hid _:=hC2
  clear hJ2 hK2 hC2
  go_wp2_with fail
  go_ret
  refine ⟨rfl,fun j=>C2 j∨j=eb,⟨C2,HJ2.out,fun k=>Iff.rfl,?_,?_,h5⟩,?_,?_⟩
  ·rw [HK2.out.block eb (by simp;omega) H4.out,Below.heap_alloc _ _ _ hel];exact H3.out
  ·intro hc
   rcases HC2.out eb hc with h|h
   ·exact H4.out h
   ·simp at h;omega
  ·have hk:Kept C0 w w2:=(Kept.of_below (HW.out _)).trans HK2.out (fun j h=>.inl h)
   exact ⟨hk.os,hk.tape,hk.output,hk.size,fun j hj hc=>hk.block j hj fun h=>hc ((H2.out j).2 (.inl h))⟩
  ·intro j hj
   rcases hj with h|h
   ·rcases HC2.out j h with h|h
    ·exact .inl ((H2.out j).2 (.inl h))
    ·exact .inr (by simp at h;omega)
   ·exact .inl ((H2.out j).2 (.inr h))

theorem each_no_Files1 (a:Nat->Addr) (d B:Nat) (t:Tree) (u:Value) (c:Addr) (w:World) (S:SentsB a B w) (hB:B<=w.heap.size) (hl:Lies w B d t.kids u) (hal:Alive ck ckOk 0 (pre d ByteArray.empty 0 t)) (er:Nat) (hE:treeErr d t=some er) :
  Calls Tryz.prog 42 #[.agg #[.string t.kind,.string t.data,.bool t.exec,u],.func (.func 43) #[] #[.pointer (some c)]] w fun e w'=>e = .returned (.tuple #[])/\Below w.heap.size w w':=by
 obtain ⟨ad,cap,rfl⟩:=hl.form
 have hW:∀o o',Below w.heap.size w ((w.alloc o).alloc o'):=fun o o'=>((Below.refl _ _).alloc (Nat.le_refl _) o).alloc (by simp) o'
 have hcall:=fun o o'=>check_any a d B t (.slice ad t.kids.length cap) ((w.alloc o).alloc o') (S.below (hW o o') hB) (by simp;omega) (hl.below (hW o o') hB) hal
 rw [hE] at hcall
 have HCALL:Hid (∀o o',Calls Tryz.prog 31 #[.agg #[.string t.kind,.string t.data,.bool t.exec,.slice ad t.kids.length cap]] ((w.alloc o).alloc o') fun e w'=>e = .returned (.iface 235 (.pointer (some (a er))))/\Below ((w.alloc o).alloc o').heap.size ((w.alloc o).alloc o') w'):=hcall
 have HW:Hid _:=hW
 clear hcall hW S hl hal hE
 go_enter Tryz.func42,Tryz.ntmps42
 go_wp2_with fail
 refine Calls.mono (HCALL.out _ _) ?_
 rintro e w2 ⟨rfl,hb⟩
 go_wp2_with fail
 go_returns
 exact ⟨rfl,(HW.out _ _).trans (hb.mono (by simp;omega))⟩

theorem each_yes_Files1 {σ:Type} {step:σ->ByteArray×Nat×Tree->σ} {ok:σ->ByteArray×Nat×Tree->Prop} {J:σ->(Nat->Prop)->World->Prop} (a:Nat->Addr) (d B:Nat) (t:Tree) (u:Value) (c:Addr) (T:Told 43 (.pointer (some c)) B step ok J) (s:σ) (C:Nat->Prop) (w:World) (hJ:J s C w)
  (S:SentsB a B w) (hB:B<=w.heap.size) (hl:Lies w B d t.kids u) (hal:Alive ck ckOk 0 (pre d ByteArray.empty 0 t)) (hE:treeErr d t=none) (hal2:Alive (fun s x=>(step s x,none)) ok s (pre d ByteArray.empty 0 t)) :
  Calls Tryz.prog 42 #[.agg #[.string t.kind,.string t.data,.bool t.exec,u],.func (.func 43) #[] #[.pointer (some c)]] w fun e w'=>e = .returned (.tuple #[])/\∃C',J ((pre d ByteArray.empty 0 t).foldl step s) C' w'/\Kept C w w'/\∀j,C' j->C j∨w.heap.size<=j:=by
 obtain ⟨ad,cap,rfl⟩:=hl.form
 have hW:∀o o',Below w.heap.size w ((w.alloc o).alloc o'):=fun o o'=>((Below.refl _ _).alloc (Nat.le_refl _) o).alloc (by simp) o'
 have hcall:=fun o o'=>check_any a d B t (.slice ad t.kids.length cap) ((w.alloc o).alloc o') (S.below (hW o o') hB) (by simp;omega) (hl.below (hW o o') hB) hal
 rw [hE] at hcall
 have HCALL:Hid (∀o o',Calls Tryz.prog 31 #[.agg #[.string t.kind,.string t.data,.bool t.exec,.slice ad t.kids.length cap]] ((w.alloc o).alloc o') fun e w'=>e = .returned .nilIface/\Below ((w.alloc o).alloc o').heap.size ((w.alloc o).alloc o') w'):=hcall
 have hlow:=T.low s C w hJ
 have hrow:∀o,((w.alloc o).alloc (.cells #[.func (.func 43) #[] #[.pointer (some c)]] 95)).heap[w.heap.size+1]? = some (.cells #[.func (.func 43) #[] #[.pointer (some c)]] 95 (0,0)):=fun o=>by
  have:=row_alloc (w.alloc o) #[.func (.func 43) #[] #[.pointer (some c)]] 95
  simpa using this
 have hcn:∀o,((w.alloc o).alloc (.cells #[.func (.func 43) #[] #[.pointer (some c)]] 95)).cell? ⟨w.heap.size,0,none⟩=(w.alloc o).cell? ⟨w.heap.size,0,none⟩:=fun o=>World.cell?_alloc_lt _ _ _ (by simp)
 have HW:Hid _:=hW
 have HROW:Hid _:=hrow
 have HJ:Hid _:=hJ
 have HS:Hid _:=S
 have HL:Hid _:=hl
 clear hcall hW hJ S hl hal hE hrow hcn
 go_enter Tryz.func42,Tryz.ntmps42
 go_wp2_with fail
 refine Calls.mono (HCALL.out _ _) ?_
 rintro e w2 ⟨rfl,hb⟩
 have hbx:Below w.heap.size w w2:=(HW.out _ _).trans (hb.mono (by simp;omega))
 have hbox:∀j,w2.cell? ⟨w.heap.size,j,none⟩=((w.alloc (.cells #[.string t.kind,.string t.data,.bool t.exec,.slice ad t.kids.length cap] 32)).alloc (.cells #[.func (.func 43) #[] #[.pointer (some c)]] 95)).cell? ⟨w.heap.size,j,none⟩:=fun j=>hb.cell (p:=⟨w.heap.size,j,none⟩) (by simp;omega)
 have hsz:w.heap.size+1<w2.heap.size:=by have:=hb.size;simp at this;omega
 have g0:w2.cell? ⟨w.heap.size,0,none⟩=some (.string t.kind):=by rw [hbox];simp
 have g1:w2.cell? ⟨w.heap.size,1,none⟩=some (.string t.data):=by rw [hbox];simp
 have g2:w2.cell? ⟨w.heap.size,2,none⟩=some (.bool t.exec):=by rw [hbox];simp
 have g3:w2.cell? ⟨w.heap.size,3,none⟩=some (.slice ad t.kids.length cap):=by rw [hbox];simp
 have HR2:Hid (w2.heap[w.heap.size+1]? = some (.cells #[.func (.func 43) #[] #[.pointer (some c)]] 95 (0,0))):=show _=_ by rw [hb.block _ (by simp)];exact HROW.out _
 have hJ2:J s C w2:=T.ext s C w w2 HJ.out fun k hk=>hbx.block k (hlow k hk).2
 have hv:=walk_each1 a ⟨w.heap.size+1,0,none⟩ B (each1_Files1 a c B (w.heap.size+1) T) d t ByteArray.empty 0 (.slice ad t.kids.length cap) s (fun j=>C j∨j=w.heap.size+1) w2
  ⟨C,hJ2,fun k=>Iff.rfl,HR2.out,fun hc=>by have:=(hlow _ hc).2;omega,by omega⟩ (HS.out.below hbx hB) (by omega) (Lies.below HL.out hbx hB) hal2
 rw [runs_none] at hv
 have HV:Hid (Calls Tryz.prog 57 #[.string ByteArray.empty,.int .i64 (0:Nat),.agg #[.string t.kind,.string t.data,.bool t.exec,.slice ad t.kids.length cap],.func (.func 71) #[] #[.pointer (some ⟨w.heap.size+1,0,none⟩)]] w2 fun e w' =>
   e = .returned .nilIface/\∃C',boxJ J B (w.heap.size+1) (.func (.func 43) #[] #[.pointer (some c)]) ((pre d ByteArray.empty 0 t).foldl step s) C' w'/\Kept (fun j=>C j∨j=w.heap.size+1) w2 w'/\∀j,C' j->(C j∨j=w.heap.size+1)∨w2.heap.size<=j):=hv
 have HBX:Hid _:=hbx
 clear hv hbx hbox hb hJ2
 go_wp2_with fail
 refine Calls.mono HV.out ?_
 rintro e w3 ⟨rfl,C3,hJ3,hK3,hC3⟩
 have HJ3:Hid _:=hJ3
 have HK3:Hid _:=hK3
 have HC3:Hid _:=hC3
 clear hJ3 hK3 hC3
 go_wp2_with fail
 go_end0
 obtain ⟨C0,h1,h2,h3,h4,h5⟩:=HJ3.out
 refine ⟨rfl,C0,h1,?_,?_⟩
 ·refine (Kept.of_below HBX.out).trans HK3.out fun k hk=>?_
  rcases hk with h|h
  ·exact .inl h
  ·exact .inr (by omega)
 ·intro j hj
  rcases HC3.out j ((h2 j).2 (.inl hj)) with (h|h)|h
  ·exact .inl h
  ·exact .inr (by omega)
  ·exact .inr (by omega)
end Go.Proofs.YteefneelcgeioaaGreatDoor
namespace Go.Proofs.YteefneelcgeioaaGreatDoor
open Go.RowKit

def ctStep (n:Nat) (_:ByteArray×Nat×Tree):Nat:=n+1
def ctOk (n:Nat) (x:ByteArray×Nat×Tree):Prop:=n<=1000000/\x.1.size<=maxLen/\x.2.1<=4611686018427387904
def szStep (n:Nat) (x:ByteArray×Nat×Tree):Nat:=if isFile x.2.2=true then n+x.2.2.data.size else n
def szOk (n:Nat) (x:ByteArray×Nat×Tree):Prop:=n<=1000000000/\x.2.2.data.size<=1000000000/\x.1.size<=maxLen/\x.2.1<=4611686018427387904


def countOf (d:Nat) (t:Tree):Nat:=match treeErr d t with|none=>(pre d ByteArray.empty 0 t).foldl ctStep 0|some _=>0

def sizeOf (d:Nat) (t:Tree):Nat:=match treeErr d t with|none=>(pre d ByteArray.empty 0 t).foldl szStep 0|some _=>0
end Go.Proofs.YteefneelcgeioaaGreatDoor
namespace Go.Proofs.YteefneelcgeioaaGreatDoor
set_option maxHeartbeats 1000000
set_option maxRecDepth 100000
open Go.RowKit

def flStep (l:List ByteArray) (x:ByteArray×Nat×Tree):List ByteArray:=if isFile x.2.2=true then l ++ [if x.1.toList.isEmpty=true then slash else x.1] else l
def flOk (l:List ByteArray) (x:ByteArray×Nat×Tree):Prop:=l.length<=1000000/\x.1.size<=maxLen/\x.2.1<=4611686018427387904
def flJ (B c:Nat) (l:List ByteArray) (C:Nat->Prop) (w:World):Prop :=
 ∃v,(∀k,C k↔k=c∨v.ownBlock=some k)/\B<=c/\w.heap[c]? = some (.cells #[v] 49 (0,0))/\w.ownsRow (c+1) 9 1 v l.length (l.map Value.string)

theorem ownsRow_ext {w w':World} {base:Nat} {e:TypeId} {size:Nat} {v:Value} {n:Nat} {xs:List Value} (h:w.ownsRow base e size v n xs) (hb:∀k,v.ownBlock=some k->w'.heap[k]? = w.heap[k]?):w'.ownsRow base e size v n xs:=by
 obtain ⟨h1,h2⟩:=h
 refine ⟨h1,?_⟩
 rcases h2 with h2|⟨g,cap,cur,hv,hg,hh,r⟩
 ·exact .inl h2
 ·subst hv
  exact .inr ⟨g,cap,cur,rfl,hg,by rw [hb g rfl];exact hh,r⟩
theorem flJ_low {B c:Nat} {l:List ByteArray} {C:Nat->Prop} {w:World} (h:flJ B c l C w) (k:Nat) (hk:C k):B<=k/\k<w.heap.size:=by
 obtain ⟨v,h1,h2,h3,h4⟩:=h
 rcases (h1 k).1 hk with h|h
 ·subst h;exact ⟨h2,lt_of_row h3⟩
 ·have:=h4.lt k h;exact ⟨by omega,this.2⟩
theorem flJ_ext {B c:Nat} {l:List ByteArray} {C:Nat->Prop} {w w':World} (h:flJ B c l C w) (hb:∀k,C k->w'.heap[k]? = w.heap[k]?):flJ B c l C w':=by
 obtain ⟨v,h1,h2,h3,h4⟩:=h
 exact ⟨v,h1,h2,by rw [hb c ((h1 c).2 (.inl rfl))];exact h3,ownsRow_ext h4 fun k hk=>hb k ((h1 k).2 (.inr hk))⟩
theorem infoStr:(Tryz.prog.info? 9).map (fun i=>(i.zero,i.size,i.bytes))=some (some (.string { data:=#[] }),1,16):=by kernel_rfl

theorem far_row {w wa w1:World} {row:Option Nat} {c:Nat} {o:Obj} (h:w.heap[c]? = some o) (hba:Below w.heap.size w wa) (hg:wa.grownBy w1 row) (hne:row≠some c):w1.heap[c]? = some o:=by
 have hcl:=lt_of_row h
 rw [hg.block c (Nat.lt_of_lt_of_le hcl hba.size) (fun e=>hne e.symm),hba.block c hcl]
 exact h
theorem fl_next {B c:Nat} {l:List ByteArray} {C:Nat->Prop} {w wa w1:World} {v:Value} {q:ByteArray} {g cap H:Nat} (hC:∀k,C k↔k=c∨v.ownBlock=some k) (hBc:B<=c) (hrow:w.heap[c]? = some (.cells #[v] 49 (0,0))) (hown:w.ownsRow (c+1) 9 1 v l.length (l.map Value.string))
  (hba:Below w.heap.size w wa) (hown1:w1.ownsRow (c+1) 9 1 (.slice (some ⟨g,0,none⟩) (l.length+1) cap) (l.length+1) (l.map Value.string ++ [.string q])) (hgrow:wa.grownBy w1 v.ownBlock) (hat:v.ownBlock=some g∨g=H) (hH:w.heap.size<=H) :
  ∃C',flJ B c (l ++ [q]) C' (w1.setCell ⟨c,0,none⟩ (.slice (some ⟨g,0,none⟩) (l.length+1) cap))/\Kept C w (w1.setCell ⟨c,0,none⟩ (.slice (some ⟨g,0,none⟩) (l.length+1) cap))/\∀j,C' j->C j∨w.heap.size<=j:=by
 have hcl:c<w.heap.size:=lt_of_row hrow
 have hgc:=(hown1.lt g rfl).1
 have hvc:v.ownBlock≠some c:=fun h=>by have:=(hown.lt c h).1;omega
 refine ⟨fun k=>k=c∨k=g,⟨.slice (some ⟨g,0,none⟩) (l.length+1) cap,fun k=>?_,hBc,?_,?_⟩,?_,?_⟩
 ·simp only [Value.ownBlock,Option.some.injEq]
  exact ⟨fun h=>h.imp_right Eq.symm,fun h=>h.imp_right Eq.symm⟩
 ·refine row1_setCell (x:=v) ?_
  rw [hgrow.block c (Nat.lt_of_lt_of_le hcl hba.size) (fun h=>hvc h.symm),hba.block c hcl]
  exact hrow
 ·have:=ownsRow_setCell_other hown1 (a:=⟨c,0,none⟩) (by simp only [Value.ownBlock,ne_eq,Option.some.injEq];omega) (.slice (some ⟨g,0,none⟩) (l.length+1) cap)
  simpa using this
 ·refine ⟨?_,?_,?_,?_,fun k hk hc=>?_⟩
  ·exact hgrow.os.trans hba.os
  ·exact hgrow.tape.trans hba.tape
  ·exact hgrow.output.trans hba.output
  ·simp only [World.setCell,Array.size_modify];exact Nat.le_trans hba.size hgrow.size
  ·have hn:¬(k=c∨v.ownBlock=some k):=fun h=>hc ((hC k).2 h)
   rw [Below.heap_setCell _ _ _ _ (fun e=>hn (.inl e)),hgrow.block k (Nat.lt_of_lt_of_le hk hba.size) (fun h=>hn (.inr h.symm)),hba.block k hk]
 ·intro j hj
  rcases hj with h|h
  ·exact .inl ((hC j).2 (.inl h))
  ·rcases hat with h'|h'
   ·exact .inl ((hC j).2 (.inr (by rw [h];exact h')))
   ·exact .inr (by omega)

theorem files1_told (c B:Nat):Told 43 (.pointer (some ⟨c,0,none⟩)) B flStep flOk (flJ B c) where
 low _ _ _ h:=flJ_low h
 ext _ _ _ _ h:=flJ_ext h
 bound _ _ h:=⟨h.2.1,h.2.2⟩
 call:=by
  intro l C w d p k t u hJ hB hl ⟨hn,_⟩
  obtain ⟨v,hC,hBc,hrow,hown⟩:=hJ
  obtain ⟨ad,cap,rfl⟩:=hl.form
  have hcl:c<w.heap.size:=lt_of_row hrow
  have q0:=cell_of_one hrow
  have f0:=free_of_one hrow
  have HC:Hid _:=hC
  have HROW:Hid _:=hrow
  have HOWN:Hid _:=hown
  have HW:Hid (∀o o',Below w.heap.size w ((w.alloc o).alloc o')):=fun o o'=>((Below.refl _ _).alloc (Nat.le_refl _) o).alloc (by simp) o'
  have HV:Hid (v.ownBlock≠some c):=fun h=>by have:=(hown.lt c h).1;omega
  obtain ⟨i0,hi0,hz0,hz1,hz2⟩:=info_parts infoStr
  cases hf:(t.kind.toList == [102,105,108,101])
  ·have HE:Hid (flStep l (p,k,t)=l):=show _=_ by unfold flStep isFile;simp only [hf];rfl
   clear hC hrow hl hown
   go_enter Tryz.func43,Tryz.ntmps43
   go_wp2
   go_returns
   refine ⟨rfl,C,?_,Kept.of_below ((Below.refl _ _).alloc (Nat.le_refl _) _),fun j h=>.inl h⟩
   rw [HE.out]
   exact flJ_ext ⟨v,HC.out,hBc,HROW.out,HOWN.out⟩ fun k hk=>Below.heap_alloc _ _ _ (flJ_low ⟨v,HC.out,hBc,HROW.out,HOWN.out⟩ k hk).2
  ·cases hp:p.toList.isEmpty
   ·have HE:Hid (flStep l (p,k,t)=l ++ [p]):=show _=_ by unfold flStep isFile;simp only [hf,hp];rfl
    clear hC hrow hl hown
    have hN:∀o,((w.alloc o).alloc (.cells #[.string p] 9)).heap[w.heap.size+1]? = some (.cells #[.string p] 9 (0,0)):=fun o=>by
     have:=row_alloc (w.alloc o) #[.string p] 9
     simpa using this
    have HN:Hid _:=hN
    clear hN
    go_enter Tryz.func43,Tryz.ntmps43
    go_wp2_with (at_builtin;go_must (refine wpList_append_lies _ (by rfl) _ _ 49 (by rfl) (c+1) 9 i0 (.string { data:=#[] }) 1 16 Tryz.underlying49 hi0 hz0 hz1 hz2 rfl (by omega) v l.length (l.map Value.string) (by rfl) (World.ownsRow.alloc (World.ownsRow.alloc HOWN.out _) _) ⟨w.heap.size+1,0,none⟩ 1 1 [.string p] (by rfl) (by rfl) (World.news_of_block (cs:=#[.string p]) (t:=9) (fr:=(0,0)) (HN.out _)) (by simp [Value.oneCell']) (by omega) (by unfold maxLen;omega) (by omega) (by simp;omega) (w.heap.size+1+1) (by simp) ?_;intro g cap' w1 hown1 hgrow hat hlt;have e1:=cell_of_one (far_row HROW.out (HW.out _ _) hgrow HV.out);have e2:=free_of_one (far_row HROW.out (HW.out _ _) hgrow HV.out);have HG:Hid _:=hgrow;have HO1:Hid _:=hown1;have HAT:Hid _:=hat;clear hgrow hown1 hat))
    go_end0
    obtain ⟨C',j1,j2,j3⟩:=fl_next (B:=B) (C:=C) HC.out hBc HROW.out HOWN.out (HW.out _ _) HO1.out HG.out HAT.out (by omega)
    exact ⟨rfl,C',by rw [HE.out];exact j1,j2,j3⟩
   ·have HE:Hid (flStep l (p,k,t)=l ++ [slash]):=show _=_ by unfold flStep isFile;simp only [hf,hp];rfl
    clear hC hrow hl hown
    have hN:∀o,((w.alloc o).alloc (.cells #[.string { data:=#[47] }] 9)).heap[w.heap.size+1]? = some (.cells #[.string { data:=#[47] }] 9 (0,0)):=fun o=>by
     have:=row_alloc (w.alloc o) #[.string { data:=#[47] }] 9
     simpa using this
    have HN:Hid _:=hN
    clear hN
    go_enter Tryz.func43,Tryz.ntmps43
    go_wp2_with (at_builtin;go_must (refine wpList_append_lies _ (by rfl) _ _ 49 (by rfl) (c+1) 9 i0 (.string { data:=#[] }) 1 16 Tryz.underlying49 hi0 hz0 hz1 hz2 rfl (by omega) v l.length (l.map Value.string) (by rfl) (World.ownsRow.alloc (World.ownsRow.alloc HOWN.out _) _) ⟨w.heap.size+1,0,none⟩ 1 1 [.string { data:=#[47] }] (by rfl) (by rfl) (World.news_of_block (cs:=#[.string { data:=#[47] }]) (t:=9) (fr:=(0,0)) (HN.out _)) (by simp [Value.oneCell']) (by omega) (by unfold maxLen;omega) (by omega) (by simp;omega) (w.heap.size+1+1) (by simp) ?_;intro g cap' w1 hown1 hgrow hat hlt;have e1:=cell_of_one (far_row HROW.out (HW.out _ _) hgrow HV.out);have e2:=free_of_one (far_row HROW.out (HW.out _ _) hgrow HV.out);have HG:Hid _:=hgrow;have HO1:Hid _:=hown1;have HAT:Hid _:=hat;clear hgrow hown1 hat))
    go_end0
    obtain ⟨C',j1,j2,j3⟩:=fl_next (B:=B) (C:=C) HC.out hBc HROW.out HOWN.out (HW.out _ _) HO1.out HG.out HAT.out (by omega)
    exact ⟨rfl,C',by rw [HE.out];exact j1,j2,j3⟩

def filesOf (d:Nat) (t:Tree):List ByteArray:=match treeErr d t with|none=>(pre d ByteArray.empty 0 t).foldl flStep []|some _=>[]
theorem files_any (a:Nat->Addr) (d B:Nat) (t:Tree) (u:Value) (w:World) (S:SentsB a B w) (hB:B<=w.heap.size) (hl:Lies w B d t.kids u) (hal:Alive ck ckOk 0 (pre d ByteArray.empty 0 t))
  (hal2:treeErr d t=none->Alive (fun s x=>(flStep s x,none)) flOk [] (pre d ByteArray.empty 0 t)) :
  Calls Tryz.prog 17 #[.agg #[.string t.kind,.string t.data,.bool t.exec,u]] w fun e w'=>∃v,e = .returned v/\w'.ownsRow (w.heap.size+1+1) 9 1 v (filesOf d t).length ((filesOf d t).map Value.string)/\Below w.heap.size w w':=by
 obtain ⟨ad,cap,rfl⟩:=hl.form
 have hW:∀o o',Below w.heap.size w ((w.alloc o).alloc o'):=fun o o'=>((Below.refl _ _).alloc (Nat.le_refl _) o).alloc (by simp) o'
 have hrow:∀o,((w.alloc o).alloc (.cells #[.slice none 0 0] 49)).heap[w.heap.size+1]? = some (.cells #[.slice none 0 0] 49 (0,0)):=fun o=>by
  have:=row_alloc (w.alloc o) #[.slice none 0 0] 49
  simpa using this
 have HW:Hid _:=hW
 cases hE:treeErr d t with
 | some er =>
  have HO:Hid (filesOf d t = []):=show _=_ by unfold filesOf;rw [hE]
  have hcall:=fun o o'=>each_no_Files1 a d B t (.slice ad t.kids.length cap) ⟨w.heap.size+1,0,none⟩ ((w.alloc o).alloc o') (S.below (hW o o') hB) (by simp;omega) (hl.below (hW o o') hB) hal er hE
  have HCALL:Hid _:=hcall
  have HROW:Hid _:=hrow
  clear hcall hW hrow S hl hal hal2 hE
  go_enter Tryz.func17,Tryz.ntmps17
  go_wp2_with fail
  refine Calls.mono (HCALL.out _ _) ?_
  rintro e w2 ⟨rfl,hb⟩
  have g0:w2.cell? ⟨w.heap.size+1,0,none⟩=some (.slice none 0 0):=cell_of_one (by rw [hb.block _ (by simp)];exact HROW.out _)
  have HB:Hid _:=hb
  clear hb
  go_wp2_with fail
  go_ret
  refine ⟨.slice none 0 0,rfl,?_,(HW.out _ _).trans (HB.out.mono (by simp;omega))⟩
  rw [HO.out]
  exact World.ownsRow_nil _ _ _ _
 | none =>
  have HO:Hid (filesOf d t=(pre d ByteArray.empty 0 t).foldl flStep []):=show _=_ by unfold filesOf;rw [hE]
  have hcall:=fun o=>each_yes_Files1 a d w.heap.size t (.slice ad t.kids.length cap) ⟨w.heap.size+1,0,none⟩ (files1_told (w.heap.size+1) w.heap.size) [] (fun k=>k=w.heap.size+1) ((w.alloc o).alloc (.cells #[.slice none 0 0] 49))
   ⟨.slice none 0 0,fun k=>by simp [Value.ownBlock],by omega,hrow o,World.ownsRow_nil _ _ _ _⟩ (S.is.atB.below (hW o _) (Nat.le_refl _)) (by simp;omega) (Lies.below (hl.up hB (Nat.le_refl _)) (hW o _) (Nat.le_refl _)) hal hE (hal2 hE)
  have HCALL:Hid _:=hcall
  clear hcall hW hrow S hl hal hal2 hE
  go_enter Tryz.func17,Tryz.ntmps17
  go_wp2_with fail
  refine Calls.mono (HCALL.out _) ?_
  rintro e w2 ⟨rfl,C2,⟨v,h1,h2,h3,h4⟩,hK,hC⟩
  have g0:=cell_of_one h3
  have HK:Hid _:=hK
  have H4:Hid _:=h4
  clear h1 h2 h3 h4 hK hC
  go_wp2_with fail
  go_ret
  refine ⟨v,rfl,?_,(HW.out _ _).trans (HK.out.below (fun k hk=>by omega) (by simp;omega))⟩
  rw [HO.out]
  exact H4.out
end Go.Proofs.YteefneelcgeioaaGreatDoor
namespace Go.Proofs.YteefneelcgeioaaGreatDoor
open Go.RowKit

theorem alive_fl:∀(l:List (ByteArray×Nat×Tree)) (a:List ByteArray),a.length+l.length<=1000000->OkItems l->Alive (fun s x=>(flStep s x,none)) flOk a l
 | [],_,_,_=>trivial
 | x :: l,a,hn,h=>by
  have hx:=h x List.mem_cons_self
  simp only [List.length_cons] at hn
  refine ⟨⟨by omega,hx.1,hx.2.1⟩,fun _=>alive_fl l (flStep a x) ?_ (fun y hy=>h y (List.mem_cons_of_mem _ hy))⟩
  unfold flStep
  split
  ·simp;omega
  ·omega
end Go.Proofs.YteefneelcgeioaaGreatDoor
namespace Go.Proofs.YteefneelcgeioaaGreatDoor
open Go.RowKit

def filesN (d:Nat) (t:Tree):List (List ByteArray×Tree):=(preN d [] t).filter fun x=>isFile x.2
theorem fold_files:∀(l:List (List ByteArray×Tree)) (a:List ByteArray),(l.map fun x=>(joinB x.1,x.1.length,x.2)).foldl flStep a=a++(l.filter fun x=>isFile x.2).map fun x=>tellP x.1
 | [],a=>by simp
 | x :: l,a=>by
  rw [List.map_cons,List.foldl_cons,fold_files l]
  cases h:isFile x.2
  ·rw [List.filter_cons_of_neg (by simp [h])]
   simp [flStep,h]
  ·rw [List.filter_cons_of_pos (by simp [h])]
   simp [flStep,h,tellP]
theorem files_named {d:Nat} {t:Tree} (h:treeErr d t=none):filesOf d t=(filesN d t).map fun x=>tellP x.1:=by
 unfold filesOf filesN
 rw [h]
 have e:=pre_names d [] t
 have e2:pre d ByteArray.empty 0 t=(preN d [] t).map fun x=>(joinB x.1,x.1.length,x.2):=e
 simp only
 rw [e2,fold_files,List.nil_append]
def bytesTo (l:List (List ByteArray×Tree)):Nat:=(l.map fun x=>x.2.data.size).sum
theorem file_got {d:Nat} {t:Tree} (hf:Fit d t) (h:treeErr d t=none) {x:List ByteArray×Tree} (hx:x∈filesN d t):getR d t (tellP x.1) = .ok x.2/\isFile x.2=true/\x.1.length<=8/\x.1.all nameB=true:=by
 have hw:=treeErr_none.1 h
 unfold filesN at hx
 obtain ⟨hm,hfi⟩:=List.mem_filter.1 hx
 have e:=pre_names d [] t
 have e2:pre d ByteArray.empty 0 t=(preN d [] t).map fun x=>(joinB x.1,x.1.length,x.2):=e
 have h8:x.1.length<=8:=by
  have:=(hw.2 (joinB x.1,x.1.length,x.2) (by rw [e2];exact List.mem_map.2 ⟨x,hm,rfl⟩)).1
  simpa using this
 obtain ⟨m,em,ha,hall⟩:=preN_at (rises_well hf h) (names_tree (p:=ByteArray.empty) (k:=0) hf fun y hy=>(hw.2 y hy).2) x hm
 rw [List.nil_append] at em
 subst em
 exact ⟨getR_some h (tell_split h8 hall) ha,hfi,h8,hall⟩
theorem files_apart {d:Nat} {t:Tree} (hf:Fit d t) (h:treeErr d t=none) {i j:Nat} {x y:List ByteArray×Tree} (hij:i<j) (hx:(filesN d t)[i]? = some x) (hy:(filesN d t)[j]? = some y):tellP x.1≠tellP y.1:=by
 intro e
 have hxm:=file_got hf h (List.mem_of_getElem? hx)
 have hym:=file_got hf h (List.mem_of_getElem? hy)
 have e1:=tell_split hxm.2.2.1 hxm.2.2.2
 rw [e,tell_split hym.2.2.1 hym.2.2.2] at e1
 have e2:y.1=x.1:=Option.some.inj e1
 have hnd:((filesN d t).map (·.1)).Nodup:=by
  unfold filesN
  exact List.Nodup.sublist (List.Sublist.map _ List.filter_sublist) (preN_nodup (rises_well hf h))
 have hi:i<((filesN d t).map (·.1)).length:=by
  have:=(List.getElem?_eq_some_iff.1 hx).1
  simpa using this
 have:=(List.getElem?_inj hi hnd).1 (show ((filesN d t).map (·.1))[i]? = ((filesN d t).map (·.1))[j]? by rw [List.getElem?_map,List.getElem?_map,hx,hy];simp [e2])
 omega
end Go.Proofs.YteefneelcgeioaaGreatDoor
namespace Go.Proofs.YteefneelcgeioaaGreatDoor
open Go.RowKit Go.Maps

theorem bare_file:isFile bareF=true:=by kernel_rfl
theorem name_size {s:ByteArray} (h:nameB s=true):s.size<=12:=by
 unfold nameB at h
 simp only [Bool.and_eq_true,decide_eq_true_eq] at h
 exact h.1.1.1.2
theorem filesL_named:∀(d:Nat) (ns:List ByteArray) (t:Tree),GoodT d t->filesL d (joinB ns) t=((preN d ns t).filter fun x=>isFile x.2).map fun x=>(tellP x.1,x.2)
 | 0,_,_,_=>rfl
 | d+1,ns,t,hG=>by
  rw [filesL,preN]
  by_cases h:isFile t=true
  ·rw [if_pos h,hG.1 h,List.filter_cons_of_pos (by simpa using h)]
   rfl
  ·rw [if_neg h,List.filter_cons_of_neg (by simpa using h),List.filter_flatMap,List.map_flatMap]
   rw [List.flatMap_def,List.flatMap_def]
   congr 1
   refine List.map_congr_left fun x hx=>?_
   rw [<-joinB_app]
   exact filesL_named d (ns ++ [x.1]) x.2 (hG.2 x hx).2
theorem filesT_named {d:Nat} {t:Tree} (hG:GoodT d t):filesT d t=(filesN d t).map fun x=>(tellP x.1,x.2):=filesL_named d [] t hG
theorem filesT_of {d:Nat} {t:Tree} (hG:GoodT d t) (h:treeErr d t=none):filesOf d t=(filesT d t).map (·.1):=by
 rw [files_named h,filesT_named hG,List.map_map]
 rfl
theorem filesT_nodup {d:Nat} {t:Tree} (hf:Fit d t) (hG:GoodT d t) (h:treeErr d t=none):((filesT d t).map (·.1)).Nodup:=by
 rw [filesT_named hG,List.map_map]
 refine List.pairwise_iff_getElem.2 fun i j hi hj hij=>?_
 have hi':i<(filesN d t).length:=by simpa using hi
 have hj':j<(filesN d t).length:=by simpa using hj
 have:=files_apart hf h hij (List.getElem?_eq_getElem hi') (List.getElem?_eq_getElem hj')
 simpa using this
theorem mapL_mapL (g h:ByteArray->Tree->Tree) (hh:∀p x,isFile (h p x)=true):∀(d:Nat) (p:ByteArray) (t:Tree),mapL g d p (mapL h d p t)=mapL (fun q x=>g q (h q x)) d p t
 | 0,_,_=>rfl
 | d+1,p,t=>by
  by_cases e:isFile t=true
  ·rw [mapL.eq_2 h,if_pos e,mapL,if_pos (hh _ _),mapL,if_pos e]
  ·have e':¬isFile { t with kids:=t.kids.map fun x=>(x.1,mapL h d (p++slash++x.1) x.2) }=true:=e
   rw [mapL.eq_2 h,if_neg e,mapL,if_neg e',mapL,if_neg e]
   simp only [List.map_map]
   congr 1
   refine List.map_congr_left fun x hx=>?_
   show (x.1,_)=(x.1,_)
   rw [mapL_mapL g h hh d]
theorem mapL_id {g:ByteArray->Tree->Tree}:∀(d:Nat) (p:ByteArray) (t:Tree),(∀y∈filesL d p t,g y.1 y.2=y.2)->mapL g d p t=t
 | 0,_,_,_=>rfl
 | d+1,p,t,h=>by
  rw [mapL]
  rw [filesL] at h
  by_cases e:isFile t=true
  ·rw [if_pos e] at h ⊢
   exact h _ (List.mem_singleton.2 rfl)
  ·rw [if_neg e] at h ⊢
   have hk:(t.kids.map fun x=>(x.1,mapL g d (p++slash++x.1) x.2))=t.kids:=by
    have h2:(t.kids.map fun x=>(x.1,mapL g d (p++slash++x.1) x.2))=t.kids.map id:=List.map_congr_left fun x hx=>by
     rw [mapL_id d _ _ (fun y hy=>h y (List.mem_flatMap.2 ⟨x,hx,hy⟩))]
     rfl
    rw [h2,List.map_id]
   rw [hk]
   cases t;rfl
theorem filesL_map (g:ByteArray->Tree->Tree) (hg:∀p x,isFile (g p x)=true):∀(d:Nat) (p:ByteArray) (t:Tree),filesL d p (mapL g d p t)=(filesL d p t).map fun y=>(y.1,g y.1 y.2)
 | 0,_,_=>rfl
 | d+1,p,t=>by
  by_cases e:isFile t=true
  ·rw [mapL,if_pos e,filesL,if_pos (hg _ _),filesL,if_pos e]
   rfl
  ·have e':¬isFile { t with kids:=t.kids.map fun x=>(x.1,mapL g d (p++slash++x.1) x.2) }=true:=e
   rw [mapL,if_neg e,filesL,if_neg e',filesL,if_neg e,List.map_flatMap]
   simp only [List.flatMap_map]
   rw [List.flatMap_def,List.flatMap_def]
   congr 1
   refine List.map_congr_left fun x hx=>?_
   exact filesL_map g hg d _ _
theorem GoodT.map {g:ByteArray->Tree->Tree} (hg:∀p x,(g p x).kids = []):∀ {d:Nat} {p:ByteArray} {t:Tree},GoodT d t->GoodT d (mapL g d p t)
 | 0,_,_,_=>trivial
 | d+1,p,t,h=>by
  rw [mapL]
  by_cases e:isFile t=true
  ·rw [if_pos e]
   exact ⟨fun _=>hg _ _,fun x hx=>by rw [hg] at hx;cases hx⟩
  ·rw [if_neg e]
   refine ⟨fun e'=>absurd e' e,fun x hx=>?_⟩
   obtain ⟨y,hy,rfl⟩:=List.mem_map.1 hx
   exact ⟨(h.2 y hy).1,GoodT.map hg (h.2 y hy).2⟩
theorem bareT_good {d:Nat} {t:Tree} (h:GoodT d t):GoodT d (bareT d t):=h.map (fun _ _=>rfl)
theorem bareT_files (d:Nat) (t:Tree):filesT d (bareT d t)=(filesT d t).map fun y=>(y.1,bareF):=filesL_map _ (fun _ _=>bare_file) d _ t
theorem filesL_file:∀ {d:Nat} {p:ByteArray} {t:Tree},GoodT d t->∀y∈filesL d p t,isFile y.2=true/\y.2.kids = []
 | 0,_,_,_,y,hy=>by cases hy
 | d+1,p,t,h,y,hy=>by
  rw [filesL] at hy
  by_cases e:isFile t=true
  ·rw [if_pos e] at hy
   rw [List.mem_singleton.1 hy]
   exact ⟨e,h.1 e⟩
  ·rw [if_neg e] at hy
   obtain ⟨x,hx,hy'⟩:=List.mem_flatMap.1 hy
   exact filesL_file (h.2 x hx).2 y hy'
theorem fill_bare {bl:List (List UInt8)} {ι:ByteArray->Ino} {d:Nat} {t:Tree} (hG:GoodT d t) (h:∀y∈filesT d t,readD bl (ι y.1).blocks (ι y.1).bytes=y.2.data/\(ι y.1).exec=y.2.exec):fillT bl ι d (bareT d t)=t:=by
 unfold fillT bareT
 rw [mapL_mapL _ _ (fun _ _=>bare_file)]
 refine mapL_id d _ t fun y hy=>?_
 obtain ⟨h1,h2⟩:=h y hy
 obtain ⟨h3,h4⟩:=filesL_file hG y hy
 show nodeI bl (ι y.1)=y.2
 unfold nodeI
 rw [h1,h2]
 have hk:y.2.kind = { data:=#[102,105,108,101] }:=by
  unfold isFile at h3
  rw [beq_iff_eq,ByteArray.toList_eq] at h3
  exact bytes_eq h3
 cases hy2:y.2 with
 | mk kind data exec kids=>rw [hy2] at hk h4;simp only at hk h4;rw [hk,h4]
theorem file_node {t:Tree} (h:nodeErr t=none) (hf:isFile t=true):t.kids = []/\t.data.size<=2000:=by
 unfold nodeErr at h
 rw [if_pos hf] at h
 unfold fileErr at h
 split at h
 ·cases h
 ·split at h
  ·cases h
  ·rename_i h1 h2
   exact ⟨List.eq_nil_of_length_eq_zero (by omega),by omega⟩
theorem good_of:∀ {d:Nat} {p:ByteArray} {k:Nat} {t:Tree},(∀x∈pre d p k t,nodeErr x.2.2=none)->GoodT d t
 | 0,_,_,_,_=>trivial
 | d+1,p,k,t,h=>by
  have h0:=h (p,k,t) (List.mem_cons_self ..)
  refine ⟨fun e=>(file_node h0 e).1,fun x hx=>⟨name_size (names_dir h0 x hx),?_⟩⟩
  exact good_of (p:=p++slash++x.1) (k:=k+1) fun y hy=>h y (List.mem_cons_of_mem _ (List.mem_flatMap.2 ⟨x,hx,hy⟩))
theorem files_small:∀ {d:Nat} {p p':ByteArray} {k:Nat} {t:Tree},(∀x∈pre d p' k t,nodeErr x.2.2=none)->∀y∈filesL d p t,y.2.data.size<=2000/\y.1.size<=p.size+d*13+1
 | 0,_,_,_,_,_,y,hy=>by cases hy
 | d+1,p,p',k,t,h,y,hy=>by
  have h0:=h (p',k,t) (List.mem_cons_self ..)
  rw [filesL] at hy
  by_cases e:isFile t=true
  ·rw [if_pos e] at hy
   rw [List.mem_singleton.1 hy]
   refine ⟨(file_node h0 e).2,?_⟩
   show (topP p).size<=_
   unfold topP
   split
   ·have:slash.size=1:=rfl
    omega
   ·omega
  ·rw [if_neg e] at hy
   obtain ⟨x,hx,hy'⟩:=List.mem_flatMap.1 hy
   obtain ⟨a1,a2⟩:=files_small (p:=p++slash++x.1) (p':=p'++slash++x.1) (k:=k+1) (fun z hz=>h z (List.mem_cons_of_mem _ (List.mem_flatMap.2 ⟨x,hx,hz⟩))) y hy'
   refine ⟨a1,?_⟩
   have hn:=name_size (names_dir h0 x hx)
   have hs:slash.size=1:=rfl
   rw [ByteArray.size_append,ByteArray.size_append] at a2
   omega
end Go.Proofs.YteefneelcgeioaaGreatDoor
