/-
  Each Tells Files Sums3 An Ec Ed Ee Ef Eg Eh, joined.
  Conditions: those that each states.
-/
import Derived.Test.YthofhjnfkholoaaGreatDoorQ27
import Derived.Laws.EntriesVeiled
namespace Go.Proofs.YthofhjnfkholoaaGreatDoor
set_option maxHeartbeats 1000000
section
set_option maxRecDepth 100000
open Go.RowKit

structure An (f:FuncId) (c:Value) (B:Nat) {σ:Type} (step:σ->ByteArray×Nat×ab->σ) (ok:σ->ByteArray×Nat×ab->Prop) (J:σ->(Nat->Prop)->World->Prop):Prop where
 low:∀s C w,J s C w->∀k,C k->B<=k/\k<w.heap.size
 ext:∀s C w w',J s C w->(∀k,C k->w'.heap[k]? = w.heap[k]?)->J s C w'
 bound:∀s x,ok s x->x.1.size<=maxLen/\x.2.1<=4611686018427387904
 call:∀s C w d p (k:Nat) t u,J s C w->B<=w.heap.size->aE w B (d+1) t.kids u->ok s (p,k,t) ->
  Cl f #[.string p,.agg #[.string t.kind,.string t.data,.bool t.exec,u],c] w fun e w' =>
   e = .returned (.tuple #[])/\∃C',J (step s (p,k,t)) C' w'/\bO C w w'/\∀j,C' j->C j∨w.heap.size<=j

def Ix {σ:Type} (J:σ->(Nat->Prop)->World->Prop) (B eb:Nat) (v:Value) (s:σ) (C:Nat->Prop) (w:World):Prop :=
 ∃C0,J s C0 w/\(∀k,C k↔C0 k∨k=eb)/\w.heap[eb]? = some (.cells #[v] 212 (0,0))/\¬C0 eb/\B<=eb

theorem tU {σ:Type} (step:σ->ByteArray×Nat×ab->σ):∀(l:List (ByteArray×Nat×ab)) (s:σ),bp (fun s x=>(step s x,none)) s l=(l.foldl step s,none)
 | [],_=>rfl
 | x :: r,s=>by simp only [bp,List.foldl_cons];exact tU step r (step s x)







theorem vQ {σ:Type} {step:σ->ByteArray×Nat×ab->σ} {ok:σ->ByteArray×Nat×ab->Prop} {J:σ->(Nat->Prop)->World->Prop} (a:Nat->Addr) (c:Addr) (B eb:Nat) (T:An 119 (.pointer (some c)) B step ok J) :
  pq a 149 (.pointer (some ⟨eb,0,none⟩)) B (fun s x=>(step s x,none)) ok (Ix J B eb (.func (.func 119) #[] #[.pointer (some c)])) where
 low s C w h k hk:=by
  obtain ⟨C0,h1,h2,h3,_,h5⟩:=h
  rcases (h2 k).1 hk with h|h
  ·exact T.low s C0 w h1 k h
  ·subst h;exact ⟨h5,bL h3⟩
 ext s C w w' h hb:=by
  obtain ⟨C0,h1,h2,h3,h4,h5⟩:=h;exact ⟨C0,T.ext s C0 w w' h1 (fun k hk=>hb k ((h2 k).2 (.inl hk))),h2,by rw [hb eb ((h2 eb).2 (.inr rfl))];exact h3,h4,h5⟩
 bound:=T.bound
 call:=by
  intro s C w d p k t u hJ S hB hl hok;obtain ⟨C0,h1,h2,h3,h4,h5⟩:=hJ;obtain ⟨ad,cap,rfl⟩:=hl.form;have hel:eb<w.heap.size:=bL h3;have q0:=cell_of_one h3;have hW:∀o,Bl w (w.alloc o):=fun o=>(je _ _).alloc (jd _) o
  have hcall:=T.call s C0 (w.alloc (.cells #[.string t.kind,.string t.data,.bool t.exec,.slice ad t.kids.length cap] 53)) d p k t (.slice ad t.kids.length cap)
   (T.ext s C0 w _ h1 fun k hk=>jp _ _ _ (T.low s C0 w h1 k hk).2) (by simp;omega) (hl.below (hW _) hB) hok
  have HCALL:Hid _:=hcall;have HW:Hid _:=hW;have H2:Hid _:=h2;have H1:Hid _:=h1;have H3:Hid _:=h3;have H4:Hid _:=h4;clear hcall hW h1 h2 h3 h4 hl S hok;go_enter Tryz.func149,Tryz.ntmps149;go_wp2_with fail
  refine jk HCALL.out ?_;rintro e w2 ⟨rfl,C2,hJ2,hK2,hC2⟩;have HJ2:Hid _:=hJ2;have HK2:Hid _:=hK2;have HC2:Hid _:=hC2;clear hJ2 hK2 hC2;go_wp2_with fail
  go_ret;refine ⟨rfl,fun j=>C2 j∨j=eb,⟨C2,HJ2.out,fun k=>Iff.rfl,?_,?_,h5⟩,?_,?_⟩
  ·rw [HK2.out.block eb (by simp;omega) H4.out,jp _ _ _ hel];exact H3.out
  ·intro hc
   rcases HC2.out eb hc with h|h
   ·exact H4.out h
   ·simp at h;omega
  ·have hk:bO C0 w w2:=(bO.of_below (HW.out _)).trans HK2.out (fun j h=>.inl h)
   exact ⟨hk.os,hk.tape,hk.output,hk.size,fun j hj hc=>hk.block j hj fun h=>hc ((H2.out j).2 (.inl h))⟩
  ·intro j hj
   rcases hj with h|h
   ·rcases HC2.out j h with h|h
    ·exact .inl ((H2.out j).2 (.inl h))
    ·exact .inr (by simp at h;omega)
   ·exact .inl ((H2.out j).2 (.inr h))

theorem sU (a:Nat->Addr) (d B:Nat) (t:ab) (u:Value) (c:Addr) (w:World) (S:dJ a B w) (hB:B<=w.heap.size) (hl:aE w B d t.kids u) (hal:dw ck lB 0 (pre d ByteArray.empty 0 t)) (er:Nat) (hE:aR d t=some er) :
  Cl 118 #[.agg #[.string t.kind,.string t.data,.bool t.exec,u],.func (.func 119) #[] #[.pointer (some c)]] w fun e w'=>e = .returned (.tuple #[])/\Bl w w':=by
 obtain ⟨ad,cap,rfl⟩:=hl.form;have hW:∀o o',Bl w ((w.alloc o).alloc o'):=fun o o'=>((je _ _).alloc (jd _) o).alloc (by simp) o';have hcall:=fun o o'=>lV a d B t (.slice ad t.kids.length cap) ((w.alloc o).alloc o') (S.below (hW o o') hB) (by simp;omega) (hl.below (hW o o') hB) hal;rw [hE] at hcall;have HCALL:Hid (∀o o',Cl 124 #[.agg #[.string t.kind,.string t.data,.bool t.exec,.slice ad t.kids.length cap]] ((w.alloc o).alloc o') fun e w'=>e = .returned (.iface 319 (.pointer (some (a er))))/\Bl ((w.alloc o).alloc o') w'):=hcall;have HW:Hid _:=hW;clear hcall hW S hl hal hE;go_enter Tryz.func118,Tryz.ntmps118;go_wp2_with fail
 refine jk (HCALL.out _ _) ?_;rintro e w2 ⟨rfl,hb⟩;go_wp2_with fail
 go_returns;exact ⟨rfl,(HW.out _ _).trans (hb.mono (by simp;omega))⟩

theorem rQ {σ:Type} {step:σ->ByteArray×Nat×ab->σ} {ok:σ->ByteArray×Nat×ab->Prop} {J:σ->(Nat->Prop)->World->Prop} (a:Nat->Addr) (d B:Nat) (t:ab) (u:Value) (c:Addr) (T:An 119 (.pointer (some c)) B step ok J) (s:σ) (C:Nat->Prop) (w:World) (hJ:J s C w)
  (S:dJ a B w) (hB:B<=w.heap.size) (hl:aE w B d t.kids u) (hal:dw ck lB 0 (pre d ByteArray.empty 0 t)) (hE:aR d t=none) (hal2:dw (fun s x=>(step s x,none)) ok s (pre d ByteArray.empty 0 t)) :
  Cl 118 #[.agg #[.string t.kind,.string t.data,.bool t.exec,u],.func (.func 119) #[] #[.pointer (some c)]] w fun e w'=>e = .returned (.tuple #[])/\∃C',J ((pre d ByteArray.empty 0 t).foldl step s) C' w'/\bO C w w'/\∀j,C' j->C j∨w.heap.size<=j:=by
 obtain ⟨ad,cap,rfl⟩:=hl.form;have hW:∀o o',Bl w ((w.alloc o).alloc o'):=fun o o'=>((je _ _).alloc (jd _) o).alloc (by simp) o';have hcall:=fun o o'=>lV a d B t (.slice ad t.kids.length cap) ((w.alloc o).alloc o') (S.below (hW o o') hB) (by simp;omega) (hl.below (hW o o') hB) hal;rw [hE] at hcall;have HCALL:Hid (∀o o',Cl 124 #[.agg #[.string t.kind,.string t.data,.bool t.exec,.slice ad t.kids.length cap]] ((w.alloc o).alloc o') fun e w'=>e = .returned .nilIface/\Bl ((w.alloc o).alloc o') w'):=hcall;have hlow:=T.low s C w hJ
 have hrow:∀o,((w.alloc o).alloc (.cells #[.func (.func 119) #[] #[.pointer (some c)]] 212)).heap[w.heap.size+1]? = some (.cells #[.func (.func 119) #[] #[.pointer (some c)]] 212 (0,0)):=fun o=>by
  have:=j5 (w.alloc o) #[.func (.func 119) #[] #[.pointer (some c)]] 212
  simpa using this
 have hcn:∀o,((w.alloc o).alloc (.cells #[.func (.func 119) #[] #[.pointer (some c)]] 212)).cell? ⟨w.heap.size,0,none⟩=(w.alloc o).cell? ⟨w.heap.size,0,none⟩:=fun o=>World.cell?_alloc_lt _ _ _ (by simp);have HW:Hid _:=hW;have HROW:Hid _:=hrow;have HJ:Hid _:=hJ;have HS:Hid _:=S;have HL:Hid _:=hl;clear hcall hW hJ S hl hal hE hrow hcn;go_enter Tryz.func118,Tryz.ntmps118;go_wp2_with fail
 refine jk (HCALL.out _ _) ?_;rintro e w2 ⟨rfl,hb⟩;have hbx:Bl w w2:=(HW.out _ _).trans (hb.mono (by simp;omega));have hbox:∀j,w2.cell? ⟨w.heap.size,j,none⟩=((w.alloc (.cells #[.string t.kind,.string t.data,.bool t.exec,.slice ad t.kids.length cap] 53)).alloc (.cells #[.func (.func 119) #[] #[.pointer (some c)]] 212)).cell? ⟨w.heap.size,j,none⟩:=fun j=>hb.cell (p:=⟨w.heap.size,j,none⟩) (by simp;omega);have hsz:w.heap.size+1<w2.heap.size:=by have:=hb.size;simp at this;omega
 have g0:w2.cell? ⟨w.heap.size,0,none⟩=some (.string t.kind):=by rw [hbox];simp
 have g1:w2.cell? ⟨w.heap.size,1,none⟩=some (.string t.data):=by rw [hbox];simp
 have g2:w2.cell? ⟨w.heap.size,2,none⟩=some (.bool t.exec):=by rw [hbox];simp
 have g3:w2.cell? ⟨w.heap.size,3,none⟩=some (.slice ad t.kids.length cap):=by rw [hbox];simp
 have HR2:Hid (w2.heap[w.heap.size+1]? = some (.cells #[.func (.func 119) #[] #[.pointer (some c)]] 212 (0,0))):=show _=_ by rw [hb.block _ (by simp)];exact HROW.out _
 have hJ2:J s C w2:=T.ext s C w w2 HJ.out fun k hk=>hbx.block k (hlow k hk).2
 have hv:=Am a ⟨w.heap.size+1,0,none⟩ B (vQ a c B (w.heap.size+1) T) d t ByteArray.empty 0 (.slice ad t.kids.length cap) s (fun j=>C j∨j=w.heap.size+1) w2
  ⟨C,hJ2,fun k=>Iff.rfl,HR2.out,fun hc=>by have:=(hlow _ hc).2;omega,by omega⟩ (HS.out.below hbx hB) (by omega) (aE.below HL.out hbx hB) hal2
 rw [tU] at hv
 have HV:Hid (Cl 148 #[.string ByteArray.empty,.int .i64 (0:Nat),.agg #[.string t.kind,.string t.data,.bool t.exec,.slice ad t.kids.length cap],.func (.func 149) #[] #[.pointer (some ⟨w.heap.size+1,0,none⟩)]] w2 fun e w' =>
   e = .returned .nilIface/\∃C',Ix J B (w.heap.size+1) (.func (.func 119) #[] #[.pointer (some c)]) ((pre d ByteArray.empty 0 t).foldl step s) C' w'/\bO (fun j=>C j∨j=w.heap.size+1) w2 w'/\∀j,C' j->(C j∨j=w.heap.size+1)∨w2.heap.size<=j):=hv
 have HBX:Hid _:=hbx;clear hv hbx hbox hb hJ2;go_wp2_with fail
 refine jk HV.out ?_;rintro e w3 ⟨rfl,C3,hJ3,hK3,hC3⟩;have HJ3:Hid _:=hJ3;have HK3:Hid _:=hK3;have HC3:Hid _:=hC3;clear hJ3 hK3 hC3;go_wp2_with fail
 go_end0
 obtain ⟨C0,h1,h2,h3,h4,h5⟩:=HJ3.out;refine ⟨rfl,C0,h1,?_,?_⟩
 ·refine (bO.of_below HBX.out).trans HK3.out fun k hk=>?_
  rcases hk with h|h
  ·exact .inl h
  ·exact .inr (by omega)
 ·intro j hj
  rcases HC3.out j ((h2 j).2 (.inl hj)) with (h|h)|h
  ·exact .inl h
  ·exact .inr (by omega)
  ·exact .inr (by omega)
end
section
set_option maxRecDepth 100000
open Go.RowKit

def Iy (n:Nat) (_:ByteArray×Nat×ab):Nat:=n+1
def Ks (n:Nat) (x:ByteArray×Nat×ab):Prop:=n<=1000000/\x.1.size<=maxLen/\x.2.1<=4611686018427387904
def Iz (n:Nat) (x:ByteArray×Nat×ab):Nat:=if aI x.2.2=true then n+x.2.2.data.size else n
def Kt (n:Nat) (x:ByteArray×Nat×ab):Prop:=n<=1000000000/\x.2.2.data.size<=1000000000/\x.1.size<=maxLen/\x.2.1<=4611686018427387904


def JW (d:Nat) (t:ab):Nat:=match aR d t with|none=>(pre d ByteArray.empty 0 t).foldl Iy 0|some _=>0

def J4 (d:Nat) (t:ab):Nat:=match aR d t with|none=>(pre d ByteArray.empty 0 t).foldl Iz 0|some _=>0
end
section
set_option maxRecDepth 100000
open Go.RowKit

def dX (l:List ByteArray) (x:ByteArray×Nat×ab):List ByteArray:=if aI x.2.2=true then l ++ [if x.1.toList.isEmpty=true then aB else x.1] else l
def EO (l:List ByteArray) (x:ByteArray×Nat×ab):Prop:=l.length<=1000000/\x.1.size<=maxLen/\x.2.1<=4611686018427387904
def Ci (B c:Nat) (l:List ByteArray) (C:Nat->Prop) (w:World):Prop :=
 ∃v,(∀k,C k↔k=c∨v.ownBlock=some k)/\B<=c/\w.heap[c]? = some (.cells #[v] 44 (0,0))/\w.ownsRow (c+1) 9 1 v l.length (l.map Value.string)

theorem xw {w w':World} {base:Nat} {e:TypeId} {size:Nat} {v:Value} {n:Nat} {xs:List Value} (h:w.ownsRow base e size v n xs) (hb:∀k,v.ownBlock=some k->w'.heap[k]? = w.heap[k]?):w'.ownsRow base e size v n xs:=by
 obtain ⟨h1,h2⟩:=h;refine ⟨h1,?_⟩
 rcases h2 with h2|⟨g,cap,cur,hv,hg,hh,r⟩
 ·exact .inl h2
 ·subst hv
  exact .inr ⟨g,cap,cur,rfl,hg,by rw [hb g rfl];exact hh,r⟩
theorem yN {B c:Nat} {l:List ByteArray} {C:Nat->Prop} {w:World} (h:Ci B c l C w) (k:Nat) (hk:C k):B<=k/\k<w.heap.size:=by
 obtain ⟨v,h1,h2,h3,h4⟩:=h
 rcases (h1 k).1 hk with h|h
 ·subst h;exact ⟨h2,bL h3⟩
 ·have:=h4.lt k h;exact ⟨by omega,this.2⟩
theorem yO {B c:Nat} {l:List ByteArray} {C:Nat->Prop} {w w':World} (h:Ci B c l C w) (hb:∀k,C k->w'.heap[k]? = w.heap[k]?):Ci B c l C w':=by
 obtain ⟨v,h1,h2,h3,h4⟩:=h;exact ⟨v,h1,h2,by rw [hb c ((h1 c).2 (.inl rfl))];exact h3,xw h4 fun k hk=>hb k ((h1 k).2 (.inr hk))⟩
theorem GJ:(Tryz.prog.info? 9).map (fun i=>(i.zero,i.size,i.bytes))=some (some (.string { data:=#[] }),1,16):=by kernel_rfl

theorem pw {w wa w1:World} {row:Option Nat} {c:Nat} {o:Obj} (h:w.heap[c]? = some o) (hba:Bl w wa) (hg:wa.grownBy w1 row) (hne:row≠some c):w1.heap[c]? = some o:=by
 have hcl:=bL h;rw [hg.block c (jn hcl hba.size) (fun e=>hne e.symm),hba.block c hcl];exact h
theorem GK {B c:Nat} {l:List ByteArray} {C:Nat->Prop} {w wa w1:World} {v:Value} {q:ByteArray} {g cap H:Nat} (hC:∀k,C k↔k=c∨v.ownBlock=some k) (hBc:B<=c) (hrow:w.heap[c]? = some (.cells #[v] 44 (0,0))) (hown:w.ownsRow (c+1) 9 1 v l.length (l.map Value.string))
  (hba:Bl w wa) (hown1:w1.ownsRow (c+1) 9 1 (.slice (some ⟨g,0,none⟩) (l.length+1) cap) (l.length+1) (l.map Value.string ++ [.string q])) (hgrow:wa.grownBy w1 v.ownBlock) (hat:v.ownBlock=some g∨g=H) (hH:w.heap.size<=H) :
  ∃C',Ci B c (l ++ [q]) C' (w1.setCell ⟨c,0,none⟩ (.slice (some ⟨g,0,none⟩) (l.length+1) cap))/\bO C w (w1.setCell ⟨c,0,none⟩ (.slice (some ⟨g,0,none⟩) (l.length+1) cap))/\∀j,C' j->C j∨w.heap.size<=j:=by
 have hcl:c<w.heap.size:=bL hrow;have hgc:=(hown1.lt g rfl).1;have hvc:v.ownBlock≠some c:=fun h=>by have:=(hown.lt c h).1;omega
 refine ⟨fun k=>k=c∨k=g,⟨.slice (some ⟨g,0,none⟩) (l.length+1) cap,fun k=>?_,hBc,?_,?_⟩,?_,?_⟩
 ·simp only [Value.ownBlock,jh]
  exact ⟨fun h=>h.imp_right Eq.symm,fun h=>h.imp_right Eq.symm⟩
 ·refine oN (x:=v) ?_
  rw [hgrow.block c (jn hcl hba.size) (fun h=>hvc h.symm),hba.block c hcl];exact hrow
 ·have:=ownsRow_setCell_other hown1 (a:=⟨c,0,none⟩) (by simp only [Value.ownBlock,ne_eq,jh];omega) (.slice (some ⟨g,0,none⟩) (l.length+1) cap)
  simpa using this
 ·refine ⟨?_,?_,?_,?_,fun k hk hc=>?_⟩
  ·exact hgrow.os.trans hba.os
  ·exact hgrow.tape.trans hba.tape
  ·exact hgrow.output.trans hba.output
  ·simp only [World.setCell,Array.size_modify];exact jm hba.size hgrow.size
  ·have hn:¬(k=c∨v.ownBlock=some k):=fun h=>hc ((hC k).2 h)
   rw [jf _ _ _ _ (fun e=>hn (.inl e)),hgrow.block k (jn hk hba.size) (fun h=>hn (.inr h.symm)),hba.block k hk]
 ·intro j hj
  rcases hj with h|h
  ·exact .inl ((hC j).2 (.inl h))
  ·rcases hat with h'|h'
   ·exact .inl ((hC j).2 (.inr (by rw [h];exact h')))
   ·exact .inr (by omega)

theorem xx (c B:Nat):An 119 (.pointer (some ⟨c,0,none⟩)) B dX EO (Ci B c) where
 low _ _ _ h:=yN h
 ext _ _ _ _ h:=yO h
 bound _ _ h:=⟨h.2.1,h.2.2⟩
 call:=by
  intro l C w d p k t u hJ hB hl ⟨hn,_⟩;obtain ⟨v,hC,hBc,hrow,hown⟩:=hJ;obtain ⟨ad,cap,rfl⟩:=hl.form;have hcl:c<w.heap.size:=bL hrow;have q0:=cell_of_one hrow;have f0:=free_of_one hrow;have HC:Hid _:=hC;have HROW:Hid _:=hrow;have HOWN:Hid _:=hown;have HW:Hid (∀o o',Bl w ((w.alloc o).alloc o')):=fun o o'=>((je _ _).alloc (jd _) o).alloc (by simp) o';have HV:Hid (v.ownBlock≠some c):=fun h=>by have:=(hown.lt c h).1;omega
  obtain ⟨i0,hi0,hz0,hz1,hz2⟩:=info_parts GJ;cases hf:(t.kind.toList == [102,105,108,101])
  ·have HE:Hid (dX l (p,k,t)=l):=show _=_ by unfold dX aI;simp only [hf];rfl
   clear hC hrow hl hown;go_enter Tryz.func119,Tryz.ntmps119
   go_wp2
   go_returns;refine ⟨rfl,C,?_,bO.of_below ((je _ _).alloc (jd _) _),fun j h=>.inl h⟩;rw [HE.out];exact yO ⟨v,HC.out,hBc,HROW.out,HOWN.out⟩ fun k hk=>jp _ _ _ (yN ⟨v,HC.out,hBc,HROW.out,HOWN.out⟩ k hk).2
  ·cases hp:p.toList.isEmpty
   focus
    have HE:Hid (dX l (p,k,t)=l ++ [p]):=show _=_ by unfold dX aI;simp only [hf,hp];rfl
    clear hC hrow hl hown
    have hN:∀o,((w.alloc o).alloc (.cells #[.string p] 9)).heap[w.heap.size+1]? = some (.cells #[.string p] 9 (0,0)):=fun o=>by
     have:=j5 (w.alloc o) #[.string p] 9
     simpa using this
    have HN:Hid _:=hN;clear hN;go_enter Tryz.func119,Tryz.ntmps119
    go_wp2_with (at_builtin;go_must (refine wpList_append_lies _ (by rfl) _ _ 44 (by rfl) (c+1) 9 i0 (.string { data:=#[] }) 1 16 Tryz.underlying44 hi0 hz0 hz1 hz2 rfl (by omega) v l.length (l.map Value.string) (by rfl) (jG (jG HOWN.out _) _) ⟨w.heap.size+1,0,none⟩ 1 1 [.string p] (by rfl) (by rfl) (World.news_of_block (cs:=#[.string p]) (t:=9) (fr:=(0,0)) (HN.out _)) (by simp [Value.oneCell']) (by omega) (by unfold maxLen;omega) (by omega) (by simp;omega) (w.heap.size+1+1) (by simp) ?_;intro g cap' w1 hown1 hgrow hat hlt;have e1:=cell_of_one (pw HROW.out (HW.out _ _) hgrow HV.out);have e2:=free_of_one (pw HROW.out (HW.out _ _) hgrow HV.out);have HG:Hid _:=hgrow;have HO1:Hid _:=hown1;have HAT:Hid _:=hat;clear hgrow hown1 hat))
   rotate_left
   focus
    have HE:Hid (dX l (p,k,t)=l ++ [aB]):=show _=_ by unfold dX aI;simp only [hf,hp];rfl
    clear hC hrow hl hown
    have hN:∀o,((w.alloc o).alloc (.cells #[.string { data:=#[47] }] 9)).heap[w.heap.size+1]? = some (.cells #[.string { data:=#[47] }] 9 (0,0)):=fun o=>by
     have:=j5 (w.alloc o) #[.string { data:=#[47] }] 9
     simpa using this
    have HN:Hid _:=hN;clear hN;go_enter Tryz.func119,Tryz.ntmps119
    go_wp2_with (at_builtin;go_must (refine wpList_append_lies _ (by rfl) _ _ 44 (by rfl) (c+1) 9 i0 (.string { data:=#[] }) 1 16 Tryz.underlying44 hi0 hz0 hz1 hz2 rfl (by omega) v l.length (l.map Value.string) (by rfl) (jG (jG HOWN.out _) _) ⟨w.heap.size+1,0,none⟩ 1 1 [.string { data:=#[47] }] (by rfl) (by rfl) (World.news_of_block (cs:=#[.string { data:=#[47] }]) (t:=9) (fr:=(0,0)) (HN.out _)) (by simp [Value.oneCell']) (by omega) (by unfold maxLen;omega) (by omega) (by simp;omega) (w.heap.size+1+1) (by simp) ?_;intro g cap' w1 hown1 hgrow hat hlt;have e1:=cell_of_one (pw HROW.out (HW.out _ _) hgrow HV.out);have e2:=free_of_one (pw HROW.out (HW.out _ _) hgrow HV.out);have HG:Hid _:=hgrow;have HO1:Hid _:=hown1;have HAT:Hid _:=hat;clear hgrow hown1 hat))
   rotate_left
   all_goals
    go_end0
    obtain ⟨C',j1,j2,j3⟩:=GK (B:=B) (C:=C) HC.out hBc HROW.out HOWN.out (HW.out _ _) HO1.out HG.out HAT.out (by omega);exact ⟨rfl,C',by rw [HE.out];exact j1,j2,j3⟩

def gu (d:Nat) (t:ab):List ByteArray:=match aR d t with|none=>(pre d ByteArray.empty 0 t).foldl dX []|some _=>[]
theorem Cj (a:Nat->Addr) (d B:Nat) (t:ab) (u:Value) (w:World) (S:dJ a B w) (hB:B<=w.heap.size) (hl:aE w B d t.kids u) (hal:dw ck lB 0 (pre d ByteArray.empty 0 t))
  (hal2:aR d t=none->dw (fun s x=>(dX s x,none)) EO [] (pre d ByteArray.empty 0 t)) :
  Cl 85 #[.agg #[.string t.kind,.string t.data,.bool t.exec,u]] w fun e w'=>∃v,e = .returned v/\w'.ownsRow (w.heap.size+1+1) 9 1 v (gu d t).length ((gu d t).map Value.string)/\Bl w w':=by
 obtain ⟨ad,cap,rfl⟩:=hl.form;have hW:∀o o',Bl w ((w.alloc o).alloc o'):=fun o o'=>((je _ _).alloc (jd _) o).alloc (by simp) o'
 have hrow:∀o,((w.alloc o).alloc (.cells #[.slice none 0 0] 44)).heap[w.heap.size+1]? = some (.cells #[.slice none 0 0] 44 (0,0)):=fun o=>by
  have:=j5 (w.alloc o) #[.slice none 0 0] 44
  simpa using this
 have HW:Hid _:=hW
 cases hE:aR d t with
 | some er =>
  have HO:Hid (gu d t = []):=show _=_ by unfold gu;rw [hE]
  have hcall:=fun o o'=>sU a d B t (.slice ad t.kids.length cap) ⟨w.heap.size+1,0,none⟩ ((w.alloc o).alloc o') (S.below (hW o o') hB) (by simp;omega) (hl.below (hW o o') hB) hal er hE;have HCALL:Hid _:=hcall;have HROW:Hid _:=hrow;clear hcall hW hrow S hl hal hal2 hE;go_enter Tryz.func85,Tryz.ntmps85;go_wp2_with fail
  refine jk (HCALL.out _ _) ?_;rintro e w2 ⟨rfl,hb⟩;have g0:w2.cell? ⟨w.heap.size+1,0,none⟩=some (.slice none 0 0):=cell_of_one (by rw [hb.block _ (by simp)];exact HROW.out _);have HB:Hid _:=hb;clear hb;go_wp2_with fail
  go_ret;refine ⟨.slice none 0 0,rfl,?_,(HW.out _ _).trans (HB.out.mono (by simp;omega))⟩;rw [HO.out];exact qt _ _ _ _
 | none =>
  have HO:Hid (gu d t=(pre d ByteArray.empty 0 t).foldl dX []):=show _=_ by unfold gu;rw [hE]
  have hcall:=fun o=>rQ a d w.heap.size t (.slice ad t.kids.length cap) ⟨w.heap.size+1,0,none⟩ (xx (w.heap.size+1) w.heap.size) [] (fun k=>k=w.heap.size+1) ((w.alloc o).alloc (.cells #[.slice none 0 0] 44))
   ⟨.slice none 0 0,fun k=>by simp [Value.ownBlock],by omega,hrow o,qt _ _ _ _⟩ (S.is.atB.below (hW o _) (jd _)) (by simp;omega) (aE.below (hl.up hB (jd _)) (hW o _) (jd _)) hal hE (hal2 hE)
  have HCALL:Hid _:=hcall;clear hcall hW hrow S hl hal hal2 hE;go_enter Tryz.func85,Tryz.ntmps85;go_wp2_with fail
  refine jk (HCALL.out _) ?_;rintro e w2 ⟨rfl,C2,⟨v,h1,h2,h3,h4⟩,hK,hC⟩;have g0:=cell_of_one h3;have HK:Hid _:=hK;have H4:Hid _:=h4;clear h1 h2 h3 h4 hK hC;go_wp2_with fail
  go_ret;refine ⟨v,rfl,?_,(HW.out _ _).trans (HK.out.below (fun k hk=>by omega) (by simp;omega))⟩;rw [HO.out];exact H4.out
end
section
set_option maxRecDepth 100000
open Go.RowKit

theorem vR:∀(l:List (ByteArray×Nat×ab)) (a:List ByteArray),a.length+l.length<=1000000->mM l->dw (fun s x=>(dX s x,none)) EO a l
 | [],_,_,_=>trivial
 | x :: l,a,hn,h=>by
  have hx:=h x jy;simp only [jz] at hn;refine ⟨⟨by omega,hx.1,hx.2.1⟩,fun _=>vR l (dX a x) ?_ (fun y hy=>h y (jw _ hy))⟩;unfold dX
  split
  ·simp;omega
  ·omega
end
section
set_option maxRecDepth 100000
open Go.RowKit

def eP (d:Nat) (t:ab):List (List ByteArray×ab):=(f9 d [] t).filter fun x=>aI x.2
theorem rR:∀(l:List (List ByteArray×ab)) (a:List ByteArray),(l.map fun x=>(eD x.1,x.1.length,x.2)).foldl dX a=a++(l.filter fun x=>aI x.2).map fun x=>iX x.1
 | [],a=>by simp
 | x :: l,a=>by
  rw [jH,List.foldl_cons,rR l];cases h:aI x.2
  ·rw [qM (by simp [h])]
   simp [dX,h]
  ·rw [qL (by simp [h])]
   simp [dX,h,iX]
theorem xy {d:Nat} {t:ab} (h:aR d t=none):gu d t=(eP d t).map fun x=>iX x.1:=by
 unfold gu eP;rw [h];have e:=oS d [] t;have e2:pre d ByteArray.empty 0 t=(f9 d [] t).map fun x=>(eD x.1,x.1.length,x.2):=e
 simp only
 rw [e2,rR,qq]
def JX (l:List (List ByteArray×ab)):Nat:=(l.map fun x=>x.2.data.size).sum
theorem qQ {d:Nat} {t:ab} (hf:Fit d t) (h:aR d t=none) {x:List ByteArray×ab} (hx:x∈eP d t):vN d t (iX x.1) = .ok x.2/\aI x.2=true/\x.1.length<=8/\x.1.all aM=true:=by
 have hw:=cQ.1 h;unfold eP at hx;obtain ⟨hm,hfi⟩:=qK.1 hx;have e:=oS d [] t;have e2:pre d ByteArray.empty 0 t=(f9 d [] t).map fun x=>(eD x.1,x.1.length,x.2):=e
 have h8:x.1.length<=8:=by
  have:=(hw.2 (eD x.1,x.1.length,x.2) (by rw [e2];exact jv.2 ⟨x,hm,rfl⟩)).1
  simpa using this
 obtain ⟨m,em,ha,hall⟩:=yM (rM hf h) (rO (p:=ByteArray.empty) (k:=0) hf fun y hy=>(hw.2 y hy).2) x hm;rw [qq] at em;subst em;exact ⟨Ch h (kS h8 hall) ha,hfi,h8,hall⟩
theorem xz {d:Nat} {t:ab} (hf:Fit d t) (h:aR d t=none) {i j:Nat} {x y:List ByteArray×ab} (hij:i<j) (hx:(eP d t)[i]? = some x) (hy:(eP d t)[j]? = some y):iX x.1≠iX y.1:=by
 intro e;have hxm:=qQ hf h (jg hx);have hym:=qQ hf h (jg hy);have e1:=kS hxm.2.2.1 hxm.2.2.2;rw [e,kS hym.2.2.1 hym.2.2.2] at e1;have e2:y.1=x.1:=jO e1
 have hnd:((eP d t).map (·.1)).Nodup:=by
  unfold eP;exact List.Nodup.sublist (List.Sublist.map _ List.filter_sublist) (rP (rM hf h))
 have hi:i<((eP d t).map (·.1)).length:=by
  have:=(jb.1 hx).1
  simpa using this
 have:=(List.getElem?_inj hi hnd).1 (show ((eP d t).map (·.1))[i]? = ((eP d t).map (·.1))[j]? by rw [jx,jx,hx,hy];simp [e2])
 omega
end
section
set_option maxRecDepth 100000
open Go.RowKit Go.Maps

theorem Ck:aI eW=true:=by kernel_rfl
theorem tV {s:ByteArray} (h:aM s=true):s.size<=12:=by
 unfold aM at h;simp only [qS,zm] at h;exact h.1.1.1.2
theorem oU:∀(d:Nat) (ns:List ByteArray) (t:ab),fA d t->bZ d (eD ns) t=((f9 d ns t).filter fun x=>aI x.2).map fun x=>(iX x.1,x.2)
 | 0,_,_,_=>rfl
 | d+1,ns,t,hG=>by
  rw [bZ,f9];by_cases h:aI t=true
  ·rw [zj h,hG.1 h,qL (by simpa using h)]
   rfl
  ·rw [zi h,qM (by simpa using h),List.filter_flatMap,yC]
   rw [qr,qr]
   congr 1
   refine jQ fun x hx=>?_;rw [<-tR];exact oU d (ns ++ [x.1]) x.2 (hG.2 x hx).2
theorem lE {d:Nat} {t:ab} (hG:fA d t):ap d t=(eP d t).map fun x=>(iX x.1,x.2):=oU d [] t hG
theorem Cm {d:Nat} {t:ab} (hG:fA d t) (h:aR d t=none):gu d t=(ap d t).map (·.1):=by
 rw [xy h,lE hG,qC];rfl
theorem il {d:Nat} {t:ab} (hf:Fit d t) (hG:fA d t) (h:aR d t=none):((ap d t).map (·.1)).Nodup:=by
 rw [lE hG,qC];refine List.pairwise_iff_getElem.2 fun i j hi hj hij=>?_;have hi':i<(eP d t).length:=by simpa using hi
 have hj':j<(eP d t).length:=by simpa using hj
 have:=xz hf h hij (jc hi') (jc hj')
 simpa using this
theorem rS (g:ByteArray->ab->ab) (hg:∀p x,aI (g p x)=true):∀(d:Nat) (p:ByteArray) (t:ab),bZ d p (cO g d p t)=(bZ d p t).map fun y=>(y.1,g y.1 y.2)
 | 0,_,_=>rfl
 | d+1,p,t=>by
  by_cases e:aI t=true
  ·rw [cO,zj e,bZ,zj (hg _ _),bZ,zj e]
   rfl
  ·have e':¬aI { t with kids:=t.kids.map fun x=>(x.1,cO g d (p++aB++x.1) x.2) }=true:=e
   rw [cO,zi e,bZ,zi e',bZ,zi e,yC];simp only [List.flatMap_map];rw [qr,qr]
   congr 1
   refine jQ fun x hx=>?_;exact rS g hg d _ _
theorem xB (d:Nat) (t:ab):ap d (eB d t)=(ap d t).map fun y=>(y.1,eW):=rS _ (fun _ _=>Ck) d _ t
theorem oV {t:ab} (h:aD t=none) (hf:aI t=true):t.kids = []/\t.data.size<=2000:=by
 unfold aD at h;rw [zj hf] at h;unfold dk at h
 split at h
 ·cases h
 ·split at h
  ·cases h
  ·rename_i h1 h2
   exact ⟨qf (by omega),by omega⟩
theorem iO:∀ {d:Nat} {p:ByteArray} {k:Nat} {t:ab},(∀x∈pre d p k t,aD x.2.2=none)->fA d t
 | 0,_,_,_,_=>trivial
 | d+1,p,k,t,h=>by
  have h0:=h (p,k,t) (jy ..);refine ⟨fun e=>(oV h0 e).1,fun x hx=>⟨tV (oT h0 x hx),?_⟩⟩;exact iO (p:=p++aB++x.1) (k:=k+1) fun y hy=>h y (jw _ (jY.2 ⟨x,hx,hy⟩))
theorem mj:∀ {d:Nat} {p p':ByteArray} {k:Nat} {t:ab},(∀x∈pre d p' k t,aD x.2.2=none)->∀y∈bZ d p t,y.2.data.size<=2000/\y.1.size<=p.size+d*13+1
 | 0,_,_,_,_,_,y,hy=>by cases hy
 | d+1,p,p',k,t,h,y,hy=>by
  have h0:=h (p',k,t) (jy ..);rw [bZ] at hy;by_cases e:aI t=true
  ·rw [zj e] at hy
   rw [jF.1 hy];refine ⟨(oV h0 e).2,?_⟩;show (gQ p).size<=_;unfold gQ
   split
   ·have:aB.size=1:=rfl
    omega
   ·omega
  ·rw [zi e] at hy
   obtain ⟨x,hx,hy'⟩:=jY.1 hy;obtain ⟨a1,a2⟩:=mj (p:=p++aB++x.1) (p':=p'++aB++x.1) (k:=k+1) (fun z hz=>h z (jw _ (jY.2 ⟨x,hx,hz⟩))) y hy';refine ⟨a1,?_⟩;have hn:=tV (oT h0 x hx);have hs:aB.size=1:=rfl;rw [qe,qe] at a2;omega
end
section
set_option maxRecDepth 100000
open Go.RowKit Go.Maps

def eX (D:Nat) (o:Option ah) (t:ab):List (Nat×ByteArray×Bool):=match o with
 | none=>[]
 | some x=>refs x.fs (ap D t)
def cG (D:Nat) (tr:List (Option ah)) (pt:List ab):List (Nat×ByteArray×Bool):=(List.zipWith (eX D) tr pt).flatten
structure EP (N D:Nat) (s:aA) (tr:List (Option ah)) (pt:List ab):Prop where
 rf:EI N s (cG D tr pt)
 len:tr.length=pt.length
 tree:∀(k:Nat) (x:ah),bu tr (k:Int)=some x->∃t,pt[k]? = some t/\aR D t=none/\Fit D t/\x.t=eB D t/\x.fs.map (·.1)=(ap D t).map (·.1)
theorem lF {α:Type}:∀ {L:List (List α)} {k:Nat} {a:List α},L[k]? = some a->L.flatten.Perm (a++(L.set k []).flatten)
 | [],_,_,h=>by simp at h
 | b :: L,0,a,h=>by
  have e:b=a:=(by simpa using h);rw [e];exact List.Perm.refl _
 | b :: L,k+1,a,h=>by
  have ih:=lF (L:=L) (k:=k) (a:=a) (by simpa using h);rw [List.set_cons_succ,List.flatten_cons,List.flatten_cons]
  exact (List.Perm.append_left b ih).trans (by
   rw [<-jK,<-jK];exact List.Perm.append_right _ List.perm_append_comm)
theorem GL {D:Nat} {tr:List (Option ah)} {pt:List ab} {k:Nat} {t:ab} (o:Option ah) (ht:pt[k]? = some t) (hl:tr.length=pt.length):List.zipWith (eX D) (tr.set k o) pt=(List.zipWith (eX D) tr pt).set k (eX D o t):=by
 apply List.ext_getElem?
 intro i;have hk:=(jb.1 ht).1;by_cases e:i=k
 ·subst e
  rw [yx,jM (by omega),ht,jM (by rw [List.length_zipWith];omega)]
 ·rw [yx,jV (fun h=>e h.symm),jV (fun h=>e h.symm),yx]
theorem vS {tr:List (Option ah)} {k:Nat} {x:ah} (h:bu tr (k:Int)=some x):tr[k]? = some (some x):=by
 rw [dh] at h
 cases h':tr[k]? with
 | none=>rw [h'] at h;cases h
 | some z=>rw [h'] at h;cases z with
  | none=>cases h
  | some y=>cases h;rfl
theorem kh {D:Nat} {tr:List (Option ah)} {pt:List ab} {k:Nat} {t:ab} {x:ah} (o:Option ah) (hx:bu tr (k:Int)=some x) (ht:pt[k]? = some t) (hl:tr.length=pt.length):∃R,(cG D tr pt).Perm (refs x.fs (ap D t)++R)/\(cG D (tr.set k o) pt).Perm (eX D o t++R):=by
 have hz:(List.zipWith (eX D) tr pt)[k]? = some (refs x.fs (ap D t)):=by
  rw [yx,vS hx,ht];rfl
 refine ⟨((List.zipWith (eX D) tr pt).set k []).flatten,lF hz,?_⟩;unfold cG;rw [GL o ht hl];have h2:=lF (L:=(List.zipWith (eX D) tr pt).set k (eX D o t)) (k:=k) (a:=eX D o t) (jM (jb.1 hz).1);rw [List.set_set] at h2;exact h2
theorem lG:∀ {fs:List (ByteArray×Nat)} {l:List (ByteArray×ab)},fs.length=l.length->(refs fs l).map (·.1)=fs.map (·.2)
 | [],_,_=>rfl
 | _ :: _,[],h=>by simp at h
 | f :: fs,y :: l,h=>by
  have ih:=lG (fs:=fs) (l:=l) (by simpa using h);unfold refs at ih ⊢;rw [List.zipWith_cons_cons,jH,jH,ih]
theorem vT:∀(l:List (ByteArray×ab)) (s:aA),(cf s l).map (·.1)=l.map (·.1)
 | [],_=>rfl
 | x :: l,s=>by rw [cf,jH,jH,vT l]
theorem qT {p:ByteArray} {j:Nat}:∀ {fs:List (ByteArray×Nat)} {l:List (ByteArray×ab)} {q:Nat},fs.map (·.1)=l.map (·.1)->(fs.map (·.1)).Nodup->(p,q)∈fs->∃y R,(p,y)∈l/\(refs fs l).Perm ((q,y.data,y.exec) :: R)/\(refs (setF fs p j) l).Perm ((j,y.data,y.exec) :: R)
 | [],_,_,_,_,h=>by cases h
 | _ :: _,[],_,h,_,_=>by simp at h
 | f :: fs,y :: l,q,h,hn,hm=>by
  rw [jH,jH,qD] at h;rw [jH,yj] at hn;have hset:setF (f :: fs) p j=(if f.1=p then (p,j) else f) :: setF fs p j:=rfl;have hr:refs (f :: fs) (y :: l)=(f.2,y.2.data,y.2.exec) :: refs fs l:=rfl;rw [hr,hset];by_cases e:f.1=p
  ·have hno:setF fs p j=fs:=by
    unfold setF
    have h2:(fs.map fun x=>if x.1=p then (p,j) else x)=fs.map id:=jQ fun x hx=>by
     rw [zi (fun e2=>hn.1 (by rw [e,<-e2];exact qA (f:=(·.1)) hx))];rfl
    rw [h2,List.map_id]
   rcases jN.1 hm with e2|hm2
   ·rw [zj e,hno,<-e2]
    refine ⟨y.2,refs fs l,?_,List.Perm.refl _,List.Perm.refl _⟩
    have:y=(p,y.2):=by rw [<-e,h.1]
    rw [<-this];exact jy ..
   ·exact absurd (qA (f:=(·.1)) hm2) (by rw [<-e];exact hn.1)
  ·rcases jN.1 hm with e2|hm2
   ·exact absurd (by rw [<-e2]) e
   ·obtain ⟨z,R,h1,h2,h3⟩:=qT h.2 hn.2 hm2
    rw [zi e];refine ⟨z,(f.2,y.2.data,y.2.exec) :: R,jw _ h1,(List.Perm.cons _ h2).trans (List.Perm.swap _ _ _),?_⟩;show (((f.2,y.2.data,y.2.exec) :: refs (setF fs p j) l).Perm _);exact (List.Perm.cons _ h3).trans (List.Perm.swap _ _ _)
theorem EQ (fs:List (ByteArray×Nat)) (p:ByteArray) (j:Nat):(setF fs p j).map (·.1)=fs.map (·.1):=by
 unfold setF;rw [qC];refine jQ fun x _=>?_;show (if x.1=p then (p,j) else x).1=x.1
 split
 ·rename_i e;exact e.symm
 ·rfl
theorem Cn {l:List (ByteArray×ab)} (h:(l.map (·.1)).Nodup) {p:ByteArray} {a b:ab}:(p,a)∈l->(p,b)∈l->a=b:=by
 induction l with
 | nil=>intro h;cases h
 | cons x l ih =>
  rw [jH,yj] at h;intro ha hb
  rcases jN.1 ha with e1|h1
  ·rcases jN.1 hb with e2|h2
   ·rw [<-e1] at e2
    exact (congrArg Prod.snd e2).symm
   ·exact absurd (qA (f:=(·.1)) h2) (by rw [<-e1] at h;exact h.1)
  ·rcases jN.1 hb with e2|h2
   ·exact absurd (qA (f:=(·.1)) h1) (by rw [<-e2] at h;exact h.1)
   ·exact ih h.2 h1 h2
def px (s:aA) (fs:List (ByteArray×Nat)) (p:ByteArray):ak:=((bT fs p).bind (af s.tab)).getD ⟨0,0,false,[],0⟩
namespace EP
variable {N D : Nat} {s : aA} {tr : List (Option ah)} {pt : List ab}
end EP
end
section
set_option maxRecDepth 100000
open Go.RowKit Go.Maps

theorem Ao (T0 n d:Nat) (fb:Nat->Nat) (h1:1<=n) (h2:n<=512) (w:World) (hT:T0<=w.heap.size) :
  Cl 17 #[.int .i64 (n:Int)] w fun e w'=>∃dp tb bb sp sb cap mb m1 m2 md mt mw,e = .returned (.tuple #[.pointer (some ⟨dp,0,none⟩),.pointer (some ⟨mw,0,none⟩),.bool true])/\aL w' T0 dp tb mb m1 m2 0 d [] fb/\aq w' (fun _=>False) T0 tb bb sp sb cap mb 0 (List.replicate n zb) (List.replicate n false) []/\((∃la lc,bk w' md la lc none 0 (List.replicate n zb) [])/\w'.heap[mt]? = some (.cells #[.pointer (some ⟨md,0,none⟩),.slice none 0 0] 77 (0,0))/\w'.heap[mw]? = some (.cells #[.pointer (some ⟨mt,0,none⟩),.slice none 0 0,.int .i64 0] 58 (0,0))/\w.heap.size<=md/\w.heap.size<=mt/\w.heap.size<=mw)/\Bl w w':=by
 have HTO:=mf (fun _=>False) T0 n h1 h2 w hT;have HN:Hid (∀(W:World) (tb mb:Nat),mb<W.heap.size->T0<=W.heap.size->Cl 49 #[.pointer (some ⟨tb,0,none⟩)] W fun e w'=>∃dp m1 m2,e = .returned (.tuple #[.pointer (some ⟨dp,0,none⟩),.nilIface])/\aL w' T0 dp tb mb m1 m2 0 d [] fb/\Bl W w'):=fun W tb mb a b=>EH a b d fb;clear h1 h2;go_enter Tryz.func17,Tryz.ntmps17
 go_wp2_with (go_at_call 7;refine HTO.mono ?_;rintro e w1 ⟨tb,bb,sp,sb,cap,mb,md,mt,rfl,hT1,hM1,hb1⟩;(have HT1:=kH hT1);(have HM1:=kH hM1);(have HB1:=kH hb1);clear hT1 hM1 hb1 HTO)
 have hmb:mb<(w1.alloc (.cells #[.pointer (some ⟨mt,0,none⟩),.slice none 0 0,.int .i64 0] 58)).heap.size:=by
  obtain ⟨f,Nd⟩:=HT1.out.nodes;obtain ⟨es,cl,hb⟩:=Nd.map.obj
  have:=(ja.1 hb).1
  simp;omega
 have HN2:=HN.out _ tb mb hmb (by have:=HB1.out.size;simp;omega);refine jk HN2 ?_;rintro e w2 ⟨dp,m1,m2,rfl,D2,hb2⟩;have HD2:=kH D2;have hba:Bl w1 (w1.alloc (.cells #[.pointer (some ⟨mt,0,none⟩),.slice none 0 0,.int .i64 0] 58)):=(je _ w1).alloc (jd _) _;have HB2:Hid (Bl w1 w2):=hba.trans (hb2.mono (by simp))
 have HR2:Hid (w2.heap[w1.heap.size]? = some (.cells #[.pointer (some ⟨mt,0,none⟩),.slice none 0 0,.int .i64 0] 58 (0,0))):=by
  show _=_;rw [hb2.block _ (by simp)];exact heap_alloc_last w1 _
 clear D2 hb2 hba hmb HN2;go_wp2_with fail
 go_ret3;obtain ⟨⟨la,lc,M⟩,hr,q1,q2⟩:=HM1.out;refine ⟨dp,tb,bb,sp,sb,cap,mb,m1,m2,md,mt,w1.heap.size,rfl,HD2.out,HT1.out.below HB2.out,⟨⟨la,lc,M.below (jd _) HB2.out⟩,(HB2.out.block _ (ja.1 hr).1).trans hr,HR2.out,q1,q2,HB1.out.size⟩,HB1.out.trans (HB2.out.mono HB1.out.size)⟩
end
section
set_option maxRecDepth 100000
open Go.RowKit Go.Maps

theorem bE.low {T0 dp:Nat} {w w1 w2:World} (h:bE T0 dp w1 w2) (h0:Below T0 w w1) (hs:T0<=w.heap.size) (hd:T0<=dp):Below T0 w w2 :=
 ⟨h.os.trans h0.os,h.tape.trans h0.tape,h.output.trans h0.output,jm h0.size h.size,fun k hk=>by
  have hlt:k<w1.heap.size:=(by have:=h0.size;omega);rw [<-h0.block k hk];have e:w1.heap[k]? = some w1.heap[k]:=qN hlt;rw [e];exact h.block k _ e (.inl hk) (by omega)⟩
def yP:ab:=⟨⟨#[102,105,108,101]⟩,⟨#[120,121]⟩,false,[]⟩
end
section
set_option maxRecDepth 100000
open Go.RowKit Go.Maps

end
section
set_option maxRecDepth 100000
open Go.RowKit Go.Maps

def Jf (c:dT):Bool:=dq 40 c.node||decide (100<c.path.size)||decide (120<c.s.size)
def Kh (l:List dT):Bool:=decide (25<l.length)||l.any Jf
theorem oF.below {w w':World} {d b o:Nat} {c:dT} {u:Value} (h:oF w d b o c u) (hb:Bl w w') (hlt:b<w.heap.size):oF w' d b o c u:=by
 have hc:∀i,w'.cell? ⟨b,i,none⟩=w.cell? ⟨b,i,none⟩:=fun i=>hb.cell (p:=⟨b,i,none⟩) hlt;exact ⟨(hc _).trans h.kind,(hc _).trans h.path,(hc _).trans h.s,(hc _).trans h.nkind,(hc _).trans h.ndata,(hc _).trans h.nexec,(hc _).trans h.nkids,(hc _).trans h.k,(hc _).trans h.n,(hc _).trans h.bit,(h.lies.below hb (jd _)).up hb.size (jd _)⟩
end
end Go.Proofs.YthofhjnfkholoaaGreatDoor
