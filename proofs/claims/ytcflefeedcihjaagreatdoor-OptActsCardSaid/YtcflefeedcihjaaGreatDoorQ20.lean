/-
  Each Tells Files Sums3 Aj Ec Ed SpU, joined.
  Conditions: those that each states.
-/
import Derived.Test.YtcflefeedcihjaaGreatDoorQ19
import Derived.Laws.EntriesVeiled
import Derived.Test.YtcflefeedcihjaaGreatDoorQ17
namespace Go.Proofs.YtcflefeedcihjaaGreatDoor
set_option maxHeartbeats 2000000
section
set_option maxRecDepth 100000
open Go.RowKit

structure Aj (f:FuncId) (c:Value) (B:Nat) {σ:Type} (step:σ->ByteArray×Nat×ab->σ) (ok:σ->ByteArray×Nat×ab->Prop) (J:σ->(Nat->Prop)->World->Prop):Prop where
 low:∀s C w,J s C w->∀k,C k->B<=k/\k<w.heap.size
 ext:∀s C w w',J s C w->(∀k,C k->w'.heap[k]? = w.heap[k]?)->J s C w'
 bound:∀s x,ok s x->x.1.size<=maxLen/\x.2.1<=4611686018427387904
 call:∀s C w d p (k:Nat) t u,J s C w->B<=w.heap.size->aA w B (d+1) t.kids u->ok s (p,k,t) ->
  Cl f #[.string p,.agg #[.string t.kind,.string t.data,.bool t.exec,u],c] w fun e w' =>
   e = .returned (.tuple #[])/\∃C',J (step s (p,k,t)) C' w'/\bU C w w'/\∀j,C' j->C j∨w.heap.size<=j

def G9 {σ:Type} (J:σ->(Nat->Prop)->World->Prop) (B eb:Nat) (v:Value) (s:σ) (C:Nat->Prop) (w:World):Prop :=
 ∃C0,J s C0 w/\(∀k,C k↔C0 k∨k=eb)/\w.heap[eb]? = some (.cells #[v] 234 (0,0))/\¬C0 eb/\B<=eb

theorem ui {σ:Type} (step:σ->ByteArray×Nat×ab->σ):∀(l:List (ByteArray×Nat×ab)) (s:σ),bk (fun s x=>(step s x,none)) s l=(l.foldl step s,none)
 | [],_=>rfl
 | x :: r,s=>by simp only [bk,List.foldl_cons];exact ui step r (step s x)







theorem vY {σ:Type} {step:σ->ByteArray×Nat×ab->σ} {ok:σ->ByteArray×Nat×ab->Prop} {J:σ->(Nat->Prop)->World->Prop} (a:Nat->Addr) (c:Addr) (B eb:Nat) (T:Aj 136 (.pointer (some c)) B step ok J) :
  pE a 167 (.pointer (some ⟨eb,0,none⟩)) B (fun s x=>(step s x,none)) ok (G9 J B eb (.func (.func 136) #[] #[.pointer (some c)])) where
 low s C w h k hk:=by
  obtain ⟨C0,h1,h2,h3,_,h5⟩:=h
  rcases (h2 k).1 hk with h|h
  ·exact T.low s C0 w h1 k h
  ·subst h;exact ⟨h5,be h3⟩
 ext s C w w' h hb:=by
  obtain ⟨C0,h1,h2,h3,h4,h5⟩:=h;exact ⟨C0,T.ext s C0 w w' h1 (fun k hk=>hb k ((h2 k).2 (.inl hk))),h2,by rw [hb eb ((h2 eb).2 (.inr rfl))];exact h3,h4,h5⟩
 bound:=T.bound
 call:=by
  intro s C w d p k t u hJ S hB hl hok;obtain ⟨C0,h1,h2,h3,h4,h5⟩:=hJ;obtain ⟨ad,cap,rfl⟩:=hl.form;have hel:eb<w.heap.size:=be h3;have q0:=cell_of_one h3;have hW:∀o,Bl w (w.alloc o):=fun o=>(je _ _).alloc (jd _) o
  have hcall:=T.call s C0 (w.alloc (.cells #[.string t.kind,.string t.data,.bool t.exec,.slice ad t.kids.length cap] 32)) d p k t (.slice ad t.kids.length cap)
   (T.ext s C0 w _ h1 fun k hk=>jp _ _ _ (T.low s C0 w h1 k hk).2) (by simp;omega) (hl.below (hW _) hB) hok
  have HCALL:Hid _:=hcall;have HW:Hid _:=hW;have H2:Hid _:=h2;have H1:Hid _:=h1;have H3:Hid _:=h3;have H4:Hid _:=h4;clear hcall hW h1 h2 h3 h4 hl S hok;go_enter Tryz.func167,Tryz.ntmps167;go_wp2_with fail
  refine jk HCALL.out ?_;rintro e w2 ⟨rfl,C2,hJ2,hK2,hC2⟩;have HJ2:Hid _:=hJ2;have HK2:Hid _:=hK2;have HC2:Hid _:=hC2;clear hJ2 hK2 hC2;go_wp2_with fail
  go_ret;refine ⟨rfl,fun j=>C2 j∨j=eb,⟨C2,HJ2.out,fun k=>Iff.rfl,?_,?_,h5⟩,?_,?_⟩
  ·rw [HK2.out.block eb (by simp;omega) H4.out,jp _ _ _ hel];exact H3.out
  ·intro hc
   rcases HC2.out eb hc with h|h
   ·exact H4.out h
   ·simp at h;omega
  ·have hk:bU C0 w w2:=(bU.of_below (HW.out _)).trans HK2.out (fun j h=>.inl h)
   exact ⟨hk.os,hk.tape,hk.output,hk.size,fun j hj hc=>hk.block j hj fun h=>hc ((H2.out j).2 (.inl h))⟩
  ·intro j hj
   rcases hj with h|h
   ·rcases HC2.out j h with h|h
    ·exact .inl ((H2.out j).2 (.inl h))
    ·exact .inr (by simp at h;omega)
   ·exact .inl ((H2.out j).2 (.inr h))

theorem tG (a:Nat->Addr) (d B:Nat) (t:ab) (u:Value) (c:Addr) (w:World) (S:dI a B w) (hB:B<=w.heap.size) (hl:aA w B d t.kids u) (hal:dH ck lG 0 (pre d ByteArray.empty 0 t)) (er:Nat) (hE:aM d t=some er) :
  Cl 135 #[.agg #[.string t.kind,.string t.data,.bool t.exec,u],.func (.func 136) #[] #[.pointer (some c)]] w fun e w'=>e = .returned (.tuple #[])/\Bl w w':=by
 obtain ⟨ad,cap,rfl⟩:=hl.form;have hW:∀o o',Bl w ((w.alloc o).alloc o'):=fun o o'=>((je _ _).alloc (jd _) o).alloc (by simp) o';have hcall:=fun o o'=>me a d B t (.slice ad t.kids.length cap) ((w.alloc o).alloc o') (S.below (hW o o') hB) (by simp;omega) (hl.below (hW o o') hB) hal;rw [hE] at hcall;have HCALL:Hid (∀o o',Cl 69 #[.agg #[.string t.kind,.string t.data,.bool t.exec,.slice ad t.kids.length cap]] ((w.alloc o).alloc o') fun e w'=>e = .returned (.iface 329 (.pointer (some (a er))))/\Bl ((w.alloc o).alloc o') w'):=hcall;have HW:Hid _:=hW;clear hcall hW S hl hal hE;go_enter Tryz.func135,Tryz.ntmps135;go_wp2_with fail
 refine jk (HCALL.out _ _) ?_;rintro e w2 ⟨rfl,hb⟩;go_wp2_with fail
 go_returns;exact ⟨rfl,(HW.out _ _).trans (hb.mono (by simp;omega))⟩

theorem r8 {σ:Type} {step:σ->ByteArray×Nat×ab->σ} {ok:σ->ByteArray×Nat×ab->Prop} {J:σ->(Nat->Prop)->World->Prop} (a:Nat->Addr) (d B:Nat) (t:ab) (u:Value) (c:Addr) (T:Aj 136 (.pointer (some c)) B step ok J) (s:σ) (C:Nat->Prop) (w:World) (hJ:J s C w)
  (S:dI a B w) (hB:B<=w.heap.size) (hl:aA w B d t.kids u) (hal:dH ck lG 0 (pre d ByteArray.empty 0 t)) (hE:aM d t=none) (hal2:dH (fun s x=>(step s x,none)) ok s (pre d ByteArray.empty 0 t)) :
  Cl 135 #[.agg #[.string t.kind,.string t.data,.bool t.exec,u],.func (.func 136) #[] #[.pointer (some c)]] w fun e w'=>e = .returned (.tuple #[])/\∃C',J ((pre d ByteArray.empty 0 t).foldl step s) C' w'/\bU C w w'/\∀j,C' j->C j∨w.heap.size<=j:=by
 obtain ⟨ad,cap,rfl⟩:=hl.form;have hW:∀o o',Bl w ((w.alloc o).alloc o'):=fun o o'=>((je _ _).alloc (jd _) o).alloc (by simp) o';have hcall:=fun o o'=>me a d B t (.slice ad t.kids.length cap) ((w.alloc o).alloc o') (S.below (hW o o') hB) (by simp;omega) (hl.below (hW o o') hB) hal;rw [hE] at hcall;have HCALL:Hid (∀o o',Cl 69 #[.agg #[.string t.kind,.string t.data,.bool t.exec,.slice ad t.kids.length cap]] ((w.alloc o).alloc o') fun e w'=>e = .returned .nilIface/\Bl ((w.alloc o).alloc o') w'):=hcall;have hlow:=T.low s C w hJ
 have hrow:∀o,((w.alloc o).alloc (.cells #[.func (.func 136) #[] #[.pointer (some c)]] 234)).heap[w.heap.size+1]? = some (.cells #[.func (.func 136) #[] #[.pointer (some c)]] 234 (0,0)):=fun o=>by
  have:=kD (w.alloc o) #[.func (.func 136) #[] #[.pointer (some c)]] 234
  simpa using this
 have hcn:∀o,((w.alloc o).alloc (.cells #[.func (.func 136) #[] #[.pointer (some c)]] 234)).cell? ⟨w.heap.size,0,none⟩=(w.alloc o).cell? ⟨w.heap.size,0,none⟩:=fun o=>World.cell?_alloc_lt _ _ _ (by simp);have HW:Hid _:=hW;have HROW:Hid _:=hrow;have HJ:Hid _:=hJ;have HS:Hid _:=S;have HL:Hid _:=hl;clear hcall hW hJ S hl hal hE hrow hcn;go_enter Tryz.func135,Tryz.ntmps135;go_wp2_with fail
 refine jk (HCALL.out _ _) ?_;rintro e w2 ⟨rfl,hb⟩;have hbx:Bl w w2:=(HW.out _ _).trans (hb.mono (by simp;omega));have hbox:∀j,w2.cell? ⟨w.heap.size,j,none⟩=((w.alloc (.cells #[.string t.kind,.string t.data,.bool t.exec,.slice ad t.kids.length cap] 32)).alloc (.cells #[.func (.func 136) #[] #[.pointer (some c)]] 234)).cell? ⟨w.heap.size,j,none⟩:=fun j=>hb.cell (p:=⟨w.heap.size,j,none⟩) (by simp;omega);have hsz:w.heap.size+1<w2.heap.size:=by have:=hb.size;simp at this;omega
 have g0:w2.cell? ⟨w.heap.size,0,none⟩=some (.string t.kind):=by rw [hbox];simp
 have g1:w2.cell? ⟨w.heap.size,1,none⟩=some (.string t.data):=by rw [hbox];simp
 have g2:w2.cell? ⟨w.heap.size,2,none⟩=some (.bool t.exec):=by rw [hbox];simp
 have g3:w2.cell? ⟨w.heap.size,3,none⟩=some (.slice ad t.kids.length cap):=by rw [hbox];simp
 have HR2:Hid (w2.heap[w.heap.size+1]? = some (.cells #[.func (.func 136) #[] #[.pointer (some c)]] 234 (0,0))):=show _=_ by rw [hb.block _ (by simp)];exact HROW.out _
 have hJ2:J s C w2:=T.ext s C w w2 HJ.out fun k hk=>hbx.block k (hlow k hk).2
 have hv:=Ai a ⟨w.heap.size+1,0,none⟩ B (vY a c B (w.heap.size+1) T) d t ByteArray.empty 0 (.slice ad t.kids.length cap) s (fun j=>C j∨j=w.heap.size+1) w2
  ⟨C,hJ2,fun k=>Iff.rfl,HR2.out,fun hc=>by have:=(hlow _ hc).2;omega,by omega⟩ (HS.out.below hbx hB) (by omega) (aA.below HL.out hbx hB) hal2
 rw [ui] at hv
 have HV:Hid (Cl 117 #[.string ByteArray.empty,.int .i64 (0:Nat),.agg #[.string t.kind,.string t.data,.bool t.exec,.slice ad t.kids.length cap],.func (.func 167) #[] #[.pointer (some ⟨w.heap.size+1,0,none⟩)]] w2 fun e w' =>
   e = .returned .nilIface/\∃C',G9 J B (w.heap.size+1) (.func (.func 136) #[] #[.pointer (some c)]) ((pre d ByteArray.empty 0 t).foldl step s) C' w'/\bU (fun j=>C j∨j=w.heap.size+1) w2 w'/\∀j,C' j->(C j∨j=w.heap.size+1)∨w2.heap.size<=j):=hv
 have HBX:Hid _:=hbx;clear hv hbx hbox hb hJ2;go_wp2_with fail
 refine jk HV.out ?_;rintro e w3 ⟨rfl,C3,hJ3,hK3,hC3⟩;have HJ3:Hid _:=hJ3;have HK3:Hid _:=hK3;have HC3:Hid _:=hC3;clear hJ3 hK3 hC3;go_wp2_with fail
 go_end0
 obtain ⟨C0,h1,h2,h3,h4,h5⟩:=HJ3.out;refine ⟨rfl,C0,h1,?_,?_⟩
 ·refine (bU.of_below HBX.out).trans HK3.out fun k hk=>?_
  rcases hk with h|h
  ·exact .inl h
  ·exact .inr (by omega)
 ·intro j hj
  rcases HC3.out j ((h2 j).2 (.inl hj)) with (h|h)|h
  ·exact .inl h
  ·exact .inr (by omega)
  ·exact .inr (by omega)
end
section
set_option maxRecDepth 100000
open Go.RowKit

def Ha (n:Nat) (_:ByteArray×Nat×ab):Nat:=n+1
def Jy (n:Nat) (x:ByteArray×Nat×ab):Prop:=n<=1000000/\x.1.size<=maxLen/\x.2.1<=4611686018427387904
def Hb (n:Nat) (x:ByteArray×Nat×ab):Nat:=if au x.2.2=true then n+x.2.2.data.size else n
def Jz (n:Nat) (x:ByteArray×Nat×ab):Prop:=n<=1000000000/\x.2.2.data.size<=1000000000/\x.1.size<=maxLen/\x.2.1<=4611686018427387904


def Ja (d:Nat) (t:ab):Nat:=match aM d t with|none=>(pre d ByteArray.empty 0 t).foldl Ha 0|some _=>0

def Jg (d:Nat) (t:ab):Nat:=match aM d t with|none=>(pre d ByteArray.empty 0 t).foldl Hb 0|some _=>0
end
section
set_option maxRecDepth 100000
open Go.RowKit

def eD (l:List ByteArray) (x:ByteArray×Nat×ab):List ByteArray:=if au x.2.2=true then l ++ [if x.1.toList.isEmpty=true then ak else x.1] else l
def DX (l:List ByteArray) (x:ByteArray×Nat×ab):Prop:=l.length<=1000000/\x.1.size<=maxLen/\x.2.1<=4611686018427387904
def BP (B c:Nat) (l:List ByteArray) (C:Nat->Prop) (w:World):Prop :=
 ∃v,(∀k,C k↔k=c∨v.ownBlock=some k)/\B<=c/\w.heap[c]? = some (.cells #[v] 62 (0,0))/\w.ownsRow (c+1) 9 1 v l.length (l.map Value.string)

theorem xy {w w':World} {base:Nat} {e:TypeId} {size:Nat} {v:Value} {n:Nat} {xs:List Value} (h:w.ownsRow base e size v n xs) (hb:∀k,v.ownBlock=some k->w'.heap[k]? = w.heap[k]?):w'.ownsRow base e size v n xs:=by
 obtain ⟨h1,h2⟩:=h;refine ⟨h1,?_⟩
 rcases h2 with h2|⟨g,cap,cur,hv,hg,hh,r⟩
 ·exact .inl h2
 ·subst hv
  exact .inr ⟨g,cap,cur,rfl,hg,by rw [hb g rfl];exact hh,r⟩
theorem yU {B c:Nat} {l:List ByteArray} {C:Nat->Prop} {w:World} (h:BP B c l C w) (k:Nat) (hk:C k):B<=k/\k<w.heap.size:=by
 obtain ⟨v,h1,h2,h3,h4⟩:=h
 rcases (h1 k).1 hk with h|h
 ·subst h;exact ⟨h2,be h3⟩
 ·have:=h4.lt k h;exact ⟨by omega,this.2⟩
theorem yV {B c:Nat} {l:List ByteArray} {C:Nat->Prop} {w w':World} (h:BP B c l C w) (hb:∀k,C k->w'.heap[k]? = w.heap[k]?):BP B c l C w':=by
 obtain ⟨v,h1,h2,h3,h4⟩:=h;exact ⟨v,h1,h2,by rw [hb c ((h1 c).2 (.inl rfl))];exact h3,xy h4 fun k hk=>hb k ((h1 k).2 (.inr hk))⟩
theorem FK:(Tryz.prog.info? 9).map (fun i=>(i.zero,i.size,i.bytes))=some (some (.string { data:=#[] }),1,16):=by kernel_rfl

theorem pI {w wa w1:World} {row:Option Nat} {c:Nat} {o:Obj} (h:w.heap[c]? = some o) (hba:Bl w wa) (hg:wa.grownBy w1 row) (hne:row≠some c):w1.heap[c]? = some o:=by
 have hcl:=be h;rw [hg.block c (jn hcl hba.size) (fun e=>hne e.symm),hba.block c hcl];exact h
theorem FM {B c:Nat} {l:List ByteArray} {C:Nat->Prop} {w wa w1:World} {v:Value} {q:ByteArray} {g cap H:Nat} (hC:∀k,C k↔k=c∨v.ownBlock=some k) (hBc:B<=c) (hrow:w.heap[c]? = some (.cells #[v] 62 (0,0))) (hown:w.ownsRow (c+1) 9 1 v l.length (l.map Value.string))
  (hba:Bl w wa) (hown1:w1.ownsRow (c+1) 9 1 (.slice (some ⟨g,0,none⟩) (l.length+1) cap) (l.length+1) (l.map Value.string ++ [.string q])) (hgrow:wa.grownBy w1 v.ownBlock) (hat:v.ownBlock=some g∨g=H) (hH:w.heap.size<=H) :
  ∃C',BP B c (l ++ [q]) C' (w1.setCell ⟨c,0,none⟩ (.slice (some ⟨g,0,none⟩) (l.length+1) cap))/\bU C w (w1.setCell ⟨c,0,none⟩ (.slice (some ⟨g,0,none⟩) (l.length+1) cap))/\∀j,C' j->C j∨w.heap.size<=j:=by
 have hcl:c<w.heap.size:=be hrow;have hgc:=(hown1.lt g rfl).1;have hvc:v.ownBlock≠some c:=fun h=>by have:=(hown.lt c h).1;omega
 refine ⟨fun k=>k=c∨k=g,⟨.slice (some ⟨g,0,none⟩) (l.length+1) cap,fun k=>?_,hBc,?_,?_⟩,?_,?_⟩
 ·simp only [Value.ownBlock,jh]
  exact ⟨fun h=>h.imp_right Eq.symm,fun h=>h.imp_right Eq.symm⟩
 ·refine oR (x:=v) ?_
  rw [hgrow.block c (jn hcl hba.size) (fun h=>hvc h.symm),hba.block c hcl];exact hrow
 ·have:=ownsRow_setCell_other hown1 (a:=⟨c,0,none⟩) (by simp only [Value.ownBlock,ne_eq,jh];omega) (.slice (some ⟨g,0,none⟩) (l.length+1) cap)
  simpa using this
 ·refine ⟨?_,?_,?_,?_,fun k hk hc=>?_⟩
  ·exact hgrow.os.trans hba.os
  ·exact hgrow.tape.trans hba.tape
  ·exact hgrow.output.trans hba.output
  ·simp only [World.setCell,Array.size_modify];exact jm hba.size hgrow.size
  ·have hn:¬(k=c∨v.ownBlock=some k):=fun h=>hc ((hC k).2 h)
   rw [jf _ _ _ _ (fun e=>hn (.inl e)),hgrow.block k (jn hk hba.size) (fun h=>hn (.inr h.symm)),hba.block k hk]
 ·intro j hj
  rcases hj with h|h
  ·exact .inl ((hC j).2 (.inl h))
  ·rcases hat with h'|h'
   ·exact .inl ((hC j).2 (.inr (by rw [h];exact h')))
   ·exact .inr (by omega)

theorem xz (c B:Nat):Aj 136 (.pointer (some ⟨c,0,none⟩)) B eD DX (BP B c) where
 low _ _ _ h:=yU h
 ext _ _ _ _ h:=yV h
 bound _ _ h:=⟨h.2.1,h.2.2⟩
 call:=by
  intro l C w d p k t u hJ hB hl ⟨hn,_⟩;obtain ⟨v,hC,hBc,hrow,hown⟩:=hJ;obtain ⟨ad,cap,rfl⟩:=hl.form;have hcl:c<w.heap.size:=be hrow;have q0:=cell_of_one hrow;have f0:=free_of_one hrow;have HC:Hid _:=hC;have HROW:Hid _:=hrow;have HOWN:Hid _:=hown;have HW:Hid (∀o o',Bl w ((w.alloc o).alloc o')):=fun o o'=>((je _ _).alloc (jd _) o).alloc (by simp) o';have HV:Hid (v.ownBlock≠some c):=fun h=>by have:=(hown.lt c h).1;omega
  obtain ⟨i0,hi0,hz0,hz1,hz2⟩:=info_parts FK;cases hf:(t.kind.toList == [102,105,108,101])
  ·have HE:Hid (eD l (p,k,t)=l):=show _=_ by unfold eD au;simp only [hf];rfl
   clear hC hrow hl hown;go_enter Tryz.func136,Tryz.ntmps136
   go_wp2
   go_returns;refine ⟨rfl,C,?_,bU.of_below ((je _ _).alloc (jd _) _),fun j h=>.inl h⟩;rw [HE.out];exact yV ⟨v,HC.out,hBc,HROW.out,HOWN.out⟩ fun k hk=>jp _ _ _ (yU ⟨v,HC.out,hBc,HROW.out,HOWN.out⟩ k hk).2
  ·cases hp:p.toList.isEmpty
   focus
    have HE:Hid (eD l (p,k,t)=l ++ [p]):=show _=_ by unfold eD au;simp only [hf,hp];rfl
    clear hC hrow hl hown
    have hN:∀o,((w.alloc o).alloc (.cells #[.string p] 9)).heap[w.heap.size+1]? = some (.cells #[.string p] 9 (0,0)):=fun o=>by
     have:=kD (w.alloc o) #[.string p] 9
     simpa using this
    have HN:Hid _:=hN;clear hN;go_enter Tryz.func136,Tryz.ntmps136
    go_wp2_with (at_builtin;go_must (refine wpList_append_lies _ (by rfl) _ _ 62 (by rfl) (c+1) 9 i0 (.string { data:=#[] }) 1 16 Tryz.underlying62 hi0 hz0 hz1 hz2 rfl (by omega) v l.length (l.map Value.string) (by rfl) (jG (jG HOWN.out _) _) ⟨w.heap.size+1,0,none⟩ 1 1 [.string p] (by rfl) (by rfl) (World.news_of_block (cs:=#[.string p]) (t:=9) (fr:=(0,0)) (HN.out _)) (by simp [Value.oneCell']) (by omega) (by unfold maxLen;omega) (by omega) (by simp;omega) (w.heap.size+1+1) (by simp) ?_;intro g cap' w1 hown1 hgrow hat hlt;have e1:=cell_of_one (pI HROW.out (HW.out _ _) hgrow HV.out);have e2:=free_of_one (pI HROW.out (HW.out _ _) hgrow HV.out);have HG:Hid _:=hgrow;have HO1:Hid _:=hown1;have HAT:Hid _:=hat;clear hgrow hown1 hat))
   rotate_left
   focus
    have HE:Hid (eD l (p,k,t)=l ++ [ak]):=show _=_ by unfold eD au;simp only [hf,hp];rfl
    clear hC hrow hl hown
    have hN:∀o,((w.alloc o).alloc (.cells #[.string { data:=#[47] }] 9)).heap[w.heap.size+1]? = some (.cells #[.string { data:=#[47] }] 9 (0,0)):=fun o=>by
     have:=kD (w.alloc o) #[.string { data:=#[47] }] 9
     simpa using this
    have HN:Hid _:=hN;clear hN;go_enter Tryz.func136,Tryz.ntmps136
    go_wp2_with (at_builtin;go_must (refine wpList_append_lies _ (by rfl) _ _ 62 (by rfl) (c+1) 9 i0 (.string { data:=#[] }) 1 16 Tryz.underlying62 hi0 hz0 hz1 hz2 rfl (by omega) v l.length (l.map Value.string) (by rfl) (jG (jG HOWN.out _) _) ⟨w.heap.size+1,0,none⟩ 1 1 [.string { data:=#[47] }] (by rfl) (by rfl) (World.news_of_block (cs:=#[.string { data:=#[47] }]) (t:=9) (fr:=(0,0)) (HN.out _)) (by simp [Value.oneCell']) (by omega) (by unfold maxLen;omega) (by omega) (by simp;omega) (w.heap.size+1+1) (by simp) ?_;intro g cap' w1 hown1 hgrow hat hlt;have e1:=cell_of_one (pI HROW.out (HW.out _ _) hgrow HV.out);have e2:=free_of_one (pI HROW.out (HW.out _ _) hgrow HV.out);have HG:Hid _:=hgrow;have HO1:Hid _:=hown1;have HAT:Hid _:=hat;clear hgrow hown1 hat))
   rotate_left
   all_goals
    go_end0
    obtain ⟨C',j1,j2,j3⟩:=FM (B:=B) (C:=C) HC.out hBc HROW.out HOWN.out (HW.out _ _) HO1.out HG.out HAT.out (by omega);exact ⟨rfl,C',by rw [HE.out];exact j1,j2,j3⟩

def gP (d:Nat) (t:ab):List ByteArray:=match aM d t with|none=>(pre d ByteArray.empty 0 t).foldl eD []|some _=>[]
theorem BQ (a:Nat->Addr) (d B:Nat) (t:ab) (u:Value) (w:World) (S:dI a B w) (hB:B<=w.heap.size) (hl:aA w B d t.kids u) (hal:dH ck lG 0 (pre d ByteArray.empty 0 t))
  (hal2:aM d t=none->dH (fun s x=>(eD s x,none)) DX [] (pre d ByteArray.empty 0 t)) :
  Cl 84 #[.agg #[.string t.kind,.string t.data,.bool t.exec,u]] w fun e w'=>∃v,e = .returned v/\w'.ownsRow (w.heap.size+1+1) 9 1 v (gP d t).length ((gP d t).map Value.string)/\Bl w w':=by
 obtain ⟨ad,cap,rfl⟩:=hl.form;have hW:∀o o',Bl w ((w.alloc o).alloc o'):=fun o o'=>((je _ _).alloc (jd _) o).alloc (by simp) o'
 have hrow:∀o,((w.alloc o).alloc (.cells #[.slice none 0 0] 62)).heap[w.heap.size+1]? = some (.cells #[.slice none 0 0] 62 (0,0)):=fun o=>by
  have:=kD (w.alloc o) #[.slice none 0 0] 62
  simpa using this
 have HW:Hid _:=hW
 cases hE:aM d t with
 | some er =>
  have HO:Hid (gP d t = []):=show _=_ by unfold gP;rw [hE]
  have hcall:=fun o o'=>tG a d B t (.slice ad t.kids.length cap) ⟨w.heap.size+1,0,none⟩ ((w.alloc o).alloc o') (S.below (hW o o') hB) (by simp;omega) (hl.below (hW o o') hB) hal er hE;have HCALL:Hid _:=hcall;have HROW:Hid _:=hrow;clear hcall hW hrow S hl hal hal2 hE;go_enter Tryz.func84,Tryz.ntmps84;go_wp2_with fail
  refine jk (HCALL.out _ _) ?_;rintro e w2 ⟨rfl,hb⟩;have g0:w2.cell? ⟨w.heap.size+1,0,none⟩=some (.slice none 0 0):=cell_of_one (by rw [hb.block _ (by simp)];exact HROW.out _);have HB:Hid _:=hb;clear hb;go_wp2_with fail
  go_ret;refine ⟨.slice none 0 0,rfl,?_,(HW.out _ _).trans (HB.out.mono (by simp;omega))⟩;rw [HO.out];exact qt _ _ _ _
 | none =>
  have HO:Hid (gP d t=(pre d ByteArray.empty 0 t).foldl eD []):=show _=_ by unfold gP;rw [hE]
  have hcall:=fun o=>r8 a d w.heap.size t (.slice ad t.kids.length cap) ⟨w.heap.size+1,0,none⟩ (xz (w.heap.size+1) w.heap.size) [] (fun k=>k=w.heap.size+1) ((w.alloc o).alloc (.cells #[.slice none 0 0] 62))
   ⟨.slice none 0 0,fun k=>by simp [Value.ownBlock],by omega,hrow o,qt _ _ _ _⟩ (S.is.atB.below (hW o _) (jd _)) (by simp;omega) (aA.below (hl.up hB (jd _)) (hW o _) (jd _)) hal hE (hal2 hE)
  have HCALL:Hid _:=hcall;clear hcall hW hrow S hl hal hal2 hE;go_enter Tryz.func84,Tryz.ntmps84;go_wp2_with fail
  refine jk (HCALL.out _) ?_;rintro e w2 ⟨rfl,C2,⟨v,h1,h2,h3,h4⟩,hK,hC⟩;have g0:=cell_of_one h3;have HK:Hid _:=hK;have H4:Hid _:=h4;clear h1 h2 h3 h4 hK hC;go_wp2_with fail
  go_ret;refine ⟨v,rfl,?_,(HW.out _ _).trans (HK.out.below (fun k hk=>by omega) (by simp;omega))⟩;rw [HO.out];exact H4.out
end
section
set_option maxRecDepth 100000
open Go.RowKit

theorem vZ:∀(l:List (ByteArray×Nat×ab)) (a:List ByteArray),a.length+l.length<=1000000->mQ l->dH (fun s x=>(eD s x,none)) DX a l
 | [],_,_,_=>trivial
 | x :: l,a,hn,h=>by
  have hx:=h x jy;simp only [jz] at hn;refine ⟨⟨by omega,hx.1,hx.2.1⟩,fun _=>vZ l (eD a x) ?_ (fun y hy=>h y (jw _ hy))⟩;unfold eD
  split
  ·simp;omega
  ·omega
end
section
set_option maxRecDepth 100000
open Go.RowKit

def fh (d:Nat) (t:ab):List (List ByteArray×ab):=(gH d [] t).filter fun x=>au x.2
theorem r9:∀(l:List (List ByteArray×ab)) (a:List ByteArray),(l.map fun x=>(eO x.1,x.1.length,x.2)).foldl eD a=a++(l.filter fun x=>au x.2).map fun x=>kx x.1
 | [],a=>by simp
 | x :: l,a=>by
  rw [jH,List.foldl_cons,r9 l];cases h:au x.2
  ·rw [qM (by simp [h])]
   simp [eD,h]
  ·rw [qL (by simp [h])]
   simp [eD,h,kx]
theorem xA {d:Nat} {t:ab} (h:aM d t=none):gP d t=(fh d t).map fun x=>kx x.1:=by
 unfold gP fh;rw [h];have e:=oX d [] t;have e2:pre d ByteArray.empty 0 t=(gH d [] t).map fun x=>(eO x.1,x.1.length,x.2):=e
 simp only
 rw [e2,r9,qq]
def Jb (l:List (List ByteArray×ab)):Nat:=(l.map fun x=>x.2.data.size).sum
theorem ro {d:Nat} {t:ab} (hf:Fit d t) (h:aM d t=none) {x:List ByteArray×ab} (hx:x∈fh d t):vW d t (kx x.1) = .ok x.2/\au x.2=true/\x.1.length<=8/\x.1.all aL=true:=by
 have hw:=co.1 h;unfold fh at hx;obtain ⟨hm,hfi⟩:=qK.1 hx;have e:=oX d [] t;have e2:pre d ByteArray.empty 0 t=(gH d [] t).map fun x=>(eO x.1,x.1.length,x.2):=e
 have h8:x.1.length<=8:=by
  have:=(hw.2 (eO x.1,x.1.length,x.2) (by rw [e2];exact jv.2 ⟨x,hm,rfl⟩)).1
  simpa using this
 obtain ⟨m,em,ha,hall⟩:=yT (rZ hf h) (nR (p:=ByteArray.empty) (k:=0) hf fun y hy=>(hw.2 y hy).2) x hm;rw [qq] at em;subst em;exact ⟨BO h (lj h8 hall) ha,hfi,h8,hall⟩
theorem xB {d:Nat} {t:ab} (hf:Fit d t) (h:aM d t=none) {i j:Nat} {x y:List ByteArray×ab} (hij:i<j) (hx:(fh d t)[i]? = some x) (hy:(fh d t)[j]? = some y):kx x.1≠kx y.1:=by
 intro e;have hxm:=ro hf h (jg hx);have hym:=ro hf h (jg hy);have e1:=lj hxm.2.2.1 hxm.2.2.2;rw [e,lj hym.2.2.1 hym.2.2.2] at e1;have e2:y.1=x.1:=jO e1
 have hnd:((fh d t).map (·.1)).Nodup:=by
  unfold fh;exact List.Nodup.sublist (List.Sublist.map _ List.filter_sublist) (r7 (rZ hf h))
 have hi:i<((fh d t).map (·.1)).length:=by
  have:=(jb.1 hx).1
  simpa using this
 have:=(List.getElem?_inj hi hnd).1 (show ((fh d t).map (·.1))[i]? = ((fh d t).map (·.1))[j]? by rw [jx,jx,hx,hy];simp [e2])
 omega
end
section
set_option maxRecDepth 100000
open Go.RowKit Go.Maps

theorem oZ:au eY=true:=by kernel_rfl
theorem o5 {s:ByteArray} (h:aL s=true):s.size<=12:=by
 unfold aL at h;simp only [qS,zm] at h;exact h.1.1.1.2
theorem o8:∀(d:Nat) (ns:List ByteArray) (t:ab),cB d t->bF d (eO ns) t=((gH d ns t).filter fun x=>au x.2).map fun x=>(kx x.1,x.2)
 | 0,_,_,_=>rfl
 | d+1,ns,t,hG=>by
  rw [bF,gH];by_cases h:au t=true
  ·rw [zj h,hG.1 h,qL (by simpa using h)]
   rfl
  ·rw [zi h,qM (by simpa using h),List.filter_flatMap,yC]
   rw [qr,qr]
   congr 1
   refine jQ fun x hx=>?_;rw [<-uh];exact o8 d (ns ++ [x.1]) x.2 (hG.2 x hx).2
theorem lJ {d:Nat} {t:ab} (hG:cB d t):aj d t=(fh d t).map fun x=>(kx x.1,x.2):=o8 d [] t hG
theorem BR {d:Nat} {t:ab} (hG:cB d t) (h:aM d t=none):gP d t=(aj d t).map (·.1):=by
 rw [xA h,lJ hG,qC];rfl
theorem d7 {d:Nat} {t:ab} (hf:Fit d t) (hG:cB d t) (h:aM d t=none):((aj d t).map (·.1)).Nodup:=by
 rw [lJ hG,qC];refine List.pairwise_iff_getElem.2 fun i j hi hj hij=>?_;have hi':i<(fh d t).length:=by simpa using hi
 have hj':j<(fh d t).length:=by simpa using hj
 have:=xB hf h hij (jc hi') (jc hj')
 simpa using this
theorem uj (g h:ByteArray->ab->ab) (hh:∀p x,au (h p x)=true):∀(d:Nat) (p:ByteArray) (t:ab),bA g d p (bA h d p t)=bA (fun q x=>g q (h q x)) d p t
 | 0,_,_=>rfl
 | d+1,p,t=>by
  by_cases e:au t=true
  ·rw [bA.eq_2 h,zj e,bA,zj (hh _ _),bA,zj e]
  ·have e':¬au { t with kids:=t.kids.map fun x=>(x.1,bA h d (p++ak++x.1) x.2) }=true:=e
   rw [bA.eq_2 h,zi e,bA,zi e',bA,zi e];simp only [qC]
   congr 1
   refine jQ fun x hx=>?_;show (x.1,_)=(x.1,_);rw [uj g h hh d]
theorem nS (g:ByteArray->ab->ab) (hg:∀p x,au (g p x)=true):∀(d:Nat) (p:ByteArray) (t:ab),bF d p (bA g d p t)=(bF d p t).map fun y=>(y.1,g y.1 y.2)
 | 0,_,_=>rfl
 | d+1,p,t=>by
  by_cases e:au t=true
  ·rw [bA,zj e,bF,zj (hg _ _),bF,zj e]
   rfl
  ·have e':¬au { t with kids:=t.kids.map fun x=>(x.1,bA g d (p++ak++x.1) x.2) }=true:=e
   rw [bA,zi e,bF,zi e',bF,zi e,yC];simp only [List.flatMap_map];rw [qr,qr]
   congr 1
   refine jQ fun x hx=>?_;exact nS g hg d _ _
theorem cB.map {g:ByteArray->ab->ab} (hg:∀p x,(g p x).kids = []):∀ {d:Nat} {p:ByteArray} {t:ab},cB d t->cB d (bA g d p t)
 | 0,_,_,_=>trivial
 | d+1,p,t,h=>by
  rw [bA];by_cases e:au t=true
  ·rw [zj e]
   exact ⟨fun _=>hg _ _,fun x hx=>by rw [hg] at hx;cases hx⟩
  ·rw [zi e]
   refine ⟨fun e'=>absurd e' e,fun x hx=>?_⟩;obtain ⟨y,hy,rfl⟩:=jv.1 hx;exact ⟨(h.2 y hy).1,cB.map hg (h.2 y hy).2⟩
theorem sd {d:Nat} {t:ab} (h:cB d t):cB d (dF d t):=h.map (fun _ _=>rfl)
theorem mq (d:Nat) (t:ab):aj d (dF d t)=(aj d t).map fun y=>(y.1,eY):=nS _ (fun _ _=>oZ) d _ t
theorem o9 {t:ab} (h:aF t=none) (hf:au t=true):t.kids = []/\t.data.size<=2000:=by
 unfold aF at h;rw [zj hf] at h;unfold dw at h
 split at h
 ·cases h
 ·split at h
  ·cases h
  ·rename_i h1 h2
   exact ⟨qf (by omega),by omega⟩
theorem gQ:∀ {d:Nat} {p:ByteArray} {k:Nat} {t:ab},(∀x∈pre d p k t,aF x.2.2=none)->cB d t
 | 0,_,_,_,_=>trivial
 | d+1,p,k,t,h=>by
  have h0:=h (p,k,t) (jy ..);refine ⟨fun e=>(o9 h0 e).1,fun x hx=>⟨o5 (oY h0 x hx),?_⟩⟩;exact gQ (p:=p++ak++x.1) (k:=k+1) fun y hy=>h y (jw _ (jY.2 ⟨x,hx,hy⟩))
theorem ky:∀ {d:Nat} {p p':ByteArray} {k:Nat} {t:ab},(∀x∈pre d p' k t,aF x.2.2=none)->∀y∈bF d p t,y.2.data.size<=2000/\y.1.size<=p.size+d*13+1
 | 0,_,_,_,_,_,y,hy=>by cases hy
 | d+1,p,p',k,t,h,y,hy=>by
  have h0:=h (p',k,t) (jy ..);rw [bF] at hy;by_cases e:au t=true
  ·rw [zj e] at hy
   rw [jF.1 hy];refine ⟨(o9 h0 e).2,?_⟩;show (dG p).size<=_;unfold dG
   split
   ·have:ak.size=1:=rfl
    omega
   ·omega
  ·rw [zi e] at hy
   obtain ⟨x,hx,hy'⟩:=jY.1 hy;obtain ⟨a1,a2⟩:=ky (p:=p++ak++x.1) (p':=p'++ak++x.1) (k:=k+1) (fun z hz=>h z (jw _ (jY.2 ⟨x,hx,hz⟩))) y hy';refine ⟨a1,?_⟩;have hn:=o5 (oY h0 x hx);have hs:ak.size=1:=rfl;rw [qe,qe] at a2;omega
end
section
set_option maxRecDepth 100000
open Go.RowKit Go.Maps

def fi (D:Nat) (o:Option ah) (t:ab):List (Nat×ByteArray×Bool):=match o with
 | none=>[]
 | some x=>refs x.fs (aj D t)
def bD (D:Nat) (tr:List (Option ah)) (pt:List ab):List (Nat×ByteArray×Bool):=(List.zipWith (fi D) tr pt).flatten
structure eu (N D:Nat) (s:ay) (tr:List (Option ah)) (pt:List ab):Prop where
 rf:i9 N s (bD D tr pt)
 len:tr.length=pt.length
 tree:∀(k:Nat) (x:ah),aY tr (k:Int)=some x->∃t,pt[k]? = some t/\aM D t=none/\Fit D t/\x.t=dF D t/\x.fs.map (·.1)=(aj D t).map (·.1)
theorem lK {α:Type}:∀ {L:List (List α)} {k:Nat} {a:List α},L[k]? = some a->L.flatten.Perm (a++(L.set k []).flatten)
 | [],_,_,h=>by simp at h
 | b :: L,0,a,h=>by
  have e:b=a:=(by simpa using h);rw [e];exact List.Perm.refl _
 | b :: L,k+1,a,h=>by
  have ih:=lK (L:=L) (k:=k) (a:=a) (by simpa using h);rw [List.set_cons_succ,List.flatten_cons,List.flatten_cons]
  exact (List.Perm.append_left b ih).trans (by
   rw [<-jK,<-jK];exact List.Perm.append_right _ List.perm_append_comm)
theorem FN {D:Nat} {tr:List (Option ah)} {pt:List ab} {k:Nat} {t:ab} (o:Option ah) (ht:pt[k]? = some t) (hl:tr.length=pt.length):List.zipWith (fi D) (tr.set k o) pt=(List.zipWith (fi D) tr pt).set k (fi D o t):=by
 apply List.ext_getElem?
 intro i;have hk:=(jb.1 ht).1;by_cases e:i=k
 ·subst e
  rw [yx,jM (by omega),ht,jM (by rw [List.length_zipWith];omega)]
 ·rw [yx,jV (fun h=>e h.symm),jV (fun h=>e h.symm),yx]
theorem v7 {tr:List (Option ah)} {k:Nat} {x:ah} (h:aY tr (k:Int)=some x):tr[k]? = some (some x):=by
 rw [cD] at h
 cases h':tr[k]? with
 | none=>rw [h'] at h;cases h
 | some z=>rw [h'] at h;cases z with
  | none=>cases h
  | some y=>cases h;rfl
theorem gI {D:Nat} {tr:List (Option ah)} {pt:List ab} {k:Nat} {t:ab} {x:ah} (o:Option ah) (hx:aY tr (k:Int)=some x) (ht:pt[k]? = some t) (hl:tr.length=pt.length):∃R,(bD D tr pt).Perm (refs x.fs (aj D t)++R)/\(bD D (tr.set k o) pt).Perm (fi D o t++R):=by
 have hz:(List.zipWith (fi D) tr pt)[k]? = some (refs x.fs (aj D t)):=by
  rw [yx,v7 hx,ht];rfl
 refine ⟨((List.zipWith (fi D) tr pt).set k []).flatten,lK hz,?_⟩;unfold bD;rw [FN o ht hl];have h2:=lK (L:=(List.zipWith (fi D) tr pt).set k (fi D o t)) (k:=k) (a:=fi D o t) (jM (jb.1 hz).1);rw [List.set_set] at h2;exact h2
theorem lL:∀ {fs:List (ByteArray×Nat)} {l:List (ByteArray×ab)},fs.length=l.length->(refs fs l).map (·.1)=fs.map (·.2)
 | [],_,_=>rfl
 | _ :: _,[],h=>by simp at h
 | f :: fs,y :: l,h=>by
  have ih:=lL (fs:=fs) (l:=l) (by simpa using h);unfold refs at ih ⊢;rw [List.zipWith_cons_cons,jH,jH,ih]
theorem rp:∀(l:List (ByteArray×ab)) (s:ay),(bS s l).map (·.1)=l.map (·.1)
 | [],_=>rfl
 | x :: l,s=>by rw [bS,jH,jH,rp l]
theorem lM {p:ByteArray} {j:Nat}:∀ {fs:List (ByteArray×Nat)} {l:List (ByteArray×ab)} {q:Nat},fs.map (·.1)=l.map (·.1)->(fs.map (·.1)).Nodup->(p,q)∈fs->∃y R,(p,y)∈l/\(refs fs l).Perm ((q,y.data,y.exec) :: R)/\(refs (setF fs p j) l).Perm ((j,y.data,y.exec) :: R)
 | [],_,_,_,_,h=>by cases h
 | _ :: _,[],_,h,_,_=>by simp at h
 | f :: fs,y :: l,q,h,hn,hm=>by
  rw [jH,jH,qD] at h;rw [jH,yj] at hn;have hset:setF (f :: fs) p j=(if f.1=p then (p,j) else f) :: setF fs p j:=rfl;have hr:refs (f :: fs) (y :: l)=(f.2,y.2.data,y.2.exec) :: refs fs l:=rfl;rw [hr,hset];by_cases e:f.1=p
  ·have hno:setF fs p j=fs:=by
    unfold setF
    have h2:(fs.map fun x=>if x.1=p then (p,j) else x)=fs.map id:=jQ fun x hx=>by
     rw [zi (fun e2=>hn.1 (by rw [e,<-e2];exact qA (f:=(·.1)) hx))];rfl
    rw [h2,List.map_id]
   rcases jN.1 hm with e2|hm2
   ·rw [zj e,hno,<-e2]
    refine ⟨y.2,refs fs l,?_,List.Perm.refl _,List.Perm.refl _⟩
    have:y=(p,y.2):=by rw [<-e,h.1]
    rw [<-this];exact jy ..
   ·exact absurd (qA (f:=(·.1)) hm2) (by rw [<-e];exact hn.1)
  ·rcases jN.1 hm with e2|hm2
   ·exact absurd (by rw [<-e2]) e
   ·obtain ⟨z,R,h1,h2,h3⟩:=lM h.2 hn.2 hm2
    rw [zi e];refine ⟨z,(f.2,y.2.data,y.2.exec) :: R,jw _ h1,(List.Perm.cons _ h2).trans (List.Perm.swap _ _ _),?_⟩;show (((f.2,y.2.data,y.2.exec) :: refs (setF fs p j) l).Perm _);exact (List.Perm.cons _ h3).trans (List.Perm.swap _ _ _)
theorem v8 (fs:List (ByteArray×Nat)) (p:ByteArray) (j:Nat):(setF fs p j).map (·.1)=fs.map (·.1):=by
 unfold setF;rw [qC];refine jQ fun x _=>?_;show (if x.1=p then (p,j) else x).1=x.1
 split
 ·rename_i e;exact e.symm
 ·rfl
theorem uk {l:List (ByteArray×ab)} (h:(l.map (·.1)).Nodup) {p:ByteArray} {a b:ab}:(p,a)∈l->(p,b)∈l->a=b:=by
 induction l with
 | nil=>intro h;cases h
 | cons x l ih =>
  rw [jH,yj] at h;intro ha hb
  rcases jN.1 ha with e1|h1
  ·rcases jN.1 hb with e2|h2
   ·rw [<-e1] at e2
    exact (congrArg Prod.snd e2).symm
   ·exact absurd (qA (f:=(·.1)) h2) (by rw [<-e1] at h;exact h.1)
  ·rcases jN.1 hb with e2|h2
   ·exact absurd (qA (f:=(·.1)) h1) (by rw [<-e2] at h;exact h.1)
   ·exact ih h.2 h1 h2
def cH (s:ay) (fs:List (ByteArray×Nat)) (p:ByteArray):am:=((bG fs p).bind (af s.tab)).getD ⟨0,0,false,[],0⟩
namespace eu
variable {N D : Nat} {s : ay} {tr : List (Option ah)} {pt : List ab}
theorem put (I:eu N D s tr pt) {t:ab} (hw:aM D t=none) (hf:Fit D t) (hn:aG (aj D t)<=(aE s.u).length):eu N D (aW s (aj D t)) (tr ++ [some ⟨dF D t,bS s (aj D t)⟩]) (pt ++ [t]):=by
 have hall:=fun x hx=>((co.1 hw).2 x hx).2;have hrf:=I.rf.makes (aj D t) (fun x hx=>(ky hall x hx).1) hn
 have he:bD D (tr ++ [some ⟨dF D t,bS s (aj D t)⟩]) (pt ++ [t])=bD D tr pt++refs (bS s (aj D t)) (aj D t):=by
  unfold bD;rw [List.zipWith_append I.len,List.flatten_append]
  simp [fi]
 refine ⟨by rw [he];exact hrf.perm List.perm_append_comm,by simp [I.len],fun k x hx=>?_⟩;rw [lE] at hx
 split at hx
 ·rename_i e
  cases hx
  have e':k=pt.length:=(by rw [<-I.len];omega);exact ⟨t,by rw [e'];simp,hw,hf,rfl,rp _ _⟩
 ·obtain ⟨t',h1,h2⟩:=I.tree k x hx
  exact ⟨t',by rw [jD (jb.1 h1).1];exact h1,h2⟩
theorem share (I:eu N D s tr pt) {k:Nat} {x:ah} {p:ByteArray} {was j:Nat} {y z:am} (hx:aY tr (k:Int)=some x) (hp:bG x.fs p=some was) (hy:af s.tab was=some y) (hz:af s.tab j=some z) (hne:¬j=was) (hc:aR (aq s.bl z.blocks z.bytes)=z.sum) (hl:fU s.bl y z=true):eu N D (bh (cG s j z) was y) (tr.set k (some { x with fs:=setF x.fs p j })) pt:=by
 obtain ⟨t,ht,hw,hf,e1,e2⟩:=I.tree k x hx;have hG:=gQ fun y hy=>((co.1 hw).2 y hy).2;obtain ⟨R,p1,p2⟩:=gI (D:=D) (some { x with fs:=setF x.fs p j }) hx ht I.len;obtain ⟨f,R2,hm,q1,q2⟩:=lM (j:=j) e2 (by rw [e2];exact d7 hf hG hw) (dC _ hp);have I1:=I.rf.perm (p1.trans (q1.append_right R));obtain ⟨y',hy',h1,h2,h3⟩:=I1.held _ (jy ..)
 simp only at hy' h1 h2
 rw [hy] at hy';cases hy'
 obtain ⟨k1,k2⟩:=(fd _ _ _).1 hl;have I2:=I1.link hz hc
 have hy1:af (cG s j z).tab was=some y:=by
  show af (s.tab.set j _) was=_;rw [bT (aK hz),zi (fun e=>hne e.symm)];exact hy
 have I3:=(I2.perm (List.Perm.swap _ _ _)).unlink hy1;rw [<-k1,h1,<-k2,h2] at I3;refine ⟨I3.perm ((p2.trans (q2.append_right R)).symm),by simp [I.len],fun i v hv=>?_⟩;rw [eQ hx] at hv
 split at hv
 ·rename_i e
  cases hv
  have e':i=k:=(by omega);subst e';exact ⟨t,ht,hw,hf,e1,by rw [v8];exact e2⟩
 ·exact I.tree i v hv
theorem files (I:eu N D s tr pt) {k:Nat} {x:ah} {t:ab} (hx:aY tr (k:Int)=some x) (ht:pt[k]? = some t):∀y∈aj D t,∃q,bG x.fs y.1=some q/\af s.tab q=some (cH s x.fs y.1)/\aq s.bl (cH s x.fs y.1).blocks (cH s x.fs y.1).bytes=y.2.data/\(cH s x.fs y.1).exec=y.2.exec/\(cH s x.fs y.1).sum=aR y.2.data:=by
 obtain ⟨t',ht',hw,hf,e1,e2⟩:=I.tree k x hx;rw [ht] at ht';cases ht'
 have hG:=gQ fun y hy=>((co.1 hw).2 y hy).2;have hnd:=d7 hf hG hw;obtain ⟨R,p1,p2⟩:=gI (D:=D) none hx ht I.len;intro y hy;obtain ⟨f,hfm,ef⟩:=jv.1 (show y.1∈x.fs.map (·.1) by rw [e2];exact qA (f:=(·.1)) hy);obtain ⟨q,hq⟩:=yA.1 (ld x.fs hfm);rw [ef] at hq;obtain ⟨z,R2,hz,q1,_⟩:=lM (j:=0) e2 (by rw [e2];exact hnd) (dC _ hq);have hzy:z=y.2:=uk hnd hz (show (y.1,y.2)∈_ from hy);subst hzy;obtain ⟨i,hi,h1,h2,h3⟩:=(I.rf.perm (p1.trans (q1.append_right R))).held _ (jy ..)
 simp only at hi h1 h2 h3
 have hι:cH s x.fs y.1=i:=by
  unfold cH;rw [hq];show (af s.tab q).getD _=i;rw [hi];rfl
 rw [hι];exact ⟨q,hq,hi,h1,h2,h3⟩
end eu
end
section
set_option maxRecDepth 100000
open Go.RowKit

theorem wb (v1 v2:Value) (l:List Int) (w:World) (h1:dJ w v1 l) (h2:dJ w v2 l) (hl:l.length<=100000) :
  Cl 21 #[v1,v2] w fun e w'=>e = .returned (.bool true)/\Bl w w':=by
 obtain ⟨a1,c1,rfl,hc1⟩:=h1;obtain ⟨a2,c2,rfl,hc2⟩:=h2;have HC1:=kH hc1;have HC2:=kH hc2;clear hc1 hc2;go_enter Tryz.func21,Tryz.ntmps21;go_wp2_with fail
 go_loopw [5] (fun i wr=>∃j:Nat,j<=l.length/\i = .int .i64 j/\Bl w wr) (fun i _=>l.length-(intOf i).toNat)
 case atStart=>exact ⟨0,jq _,rfl,je _ _⟩
 case round =>
  obtain ⟨j,hj,rfl,hb⟩:=hrel;have HB:=kH hb;by_cases hlt:j<l.length
  ·obtain ⟨x,hx⟩:∃x,l[j]? = some x:=⟨_,jc hlt⟩
   obtain ⟨b1,o1,rfl,k1⟩:=HC1.out j x hx;obtain ⟨b2,o2,rfl,k2⟩:=HC2.out j x hx;have d1:wr.cell? ⟨b1,o1+j,none⟩=some (.int .i64 x):=by rw [hb.cell (p:=⟨b1,o1+j,none⟩) (ji w _ k1)];exact k1
   have d2:wr.cell? ⟨b2,o2+j,none⟩=some (.int .i64 x):=(by rw [hb.cell (p:=⟨b2,o2+j,none⟩) (ji w _ k2)];exact k2);clear hb hx k1 k2;go_wp2_with fail
   go_quiet (fail)
   go_wp2_with fail
   exact ⟨⟨j+1,by omega,by simp,⟨HB.out.os,HB.out.tape,HB.out.output,HB.out.size,HB.out.block⟩⟩,by simp [intOf];omega⟩
  ·clear hb
   go_wp2_with fail
   go_ret;exact ⟨rfl,HB.out⟩
end
end Go.Proofs.YtcflefeedcihjaaGreatDoor
