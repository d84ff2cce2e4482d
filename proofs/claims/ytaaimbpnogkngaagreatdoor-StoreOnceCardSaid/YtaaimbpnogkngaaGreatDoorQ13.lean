/- Each Tells Files Sums3 AU Ec Ed Ef Small Ej Ek El Em, joined. Conditions: as each states. -/
import Derived.Test.YtaaimbpnogkngaaGreatDoorQ12
import Derived.Laws.EntriesVeiled
import Derived.Test.YtaaimbpnogkngaaGreatDoorQ11
namespace Go.Proofs.YtaaimbpnogkngaaGreatDoor
set_option maxHeartbeats 1000000
set_option maxRecDepth 100000
section
open Go.RowKit

structure AU (f:FuncId) (c:Yv) (B:Nat) {σ:Type} (step:σ->Yb×Nat×ab->σ) (ok:σ->Yb×Nat×ab->Prop) (J:σ->(Nat->Prop)->Yw->Prop):Prop where
 low:∀s C w,J s C w->∀k,C k->B<=k/\k<w.heap.size
 ext:∀s C w w',J s C w->(∀k,C k->w'.heap[k]? = w.heap[k]?)->J s C w'
 bound:∀s x,ok s x->x.1.size<=maxLen/\x.2.1<=4611686018427387904
 call:∀s C w d p (k:Nat) t u,J s C w->B<=w.heap.size->aJ w B (d+1) t.kids u->ok s (p,k,t) ->
  Cl f #[.string p,.agg #[.string t.kind,.string t.data,.bool t.exec,u],c] w fun e w' =>
   e = .returned (.tuple #[])/\∃C',J (step s (p,k,t)) C' w'/\aq C w w'/\∀j,C' j->C j∨w.heap.size<=j

def KV {σ:Type} (J:σ->(Nat->Prop)->Yw->Prop) (B eb:Nat) (v:Yv) (s:σ) (C:Nat->Prop) (w:Yw):Prop :=
 ∃C0,J s C0 w/\(∀k,C k↔C0 k∨k=eb)/\w.heap[eb]? = some (.cells #[v] 349 (0,0))/\¬C0 eb/\B<=eb

theorem tq {σ:Type} (step:σ->Yb×Nat×ab->σ):∀(l:List (Yb×Nat×ab)) (s:σ),bh (fun s x=>(step s x,none)) s l=(l.foldl step s,none)
 | [],_=>rfl
 | x :: r,s=>by simp only [bh,List.foldl_cons];exact tq step r (step s x)







theorem vO {σ:Type} {step:σ->Yb×Nat×ab->σ} {ok:σ->Yb×Nat×ab->Prop} {J:σ->(Nat->Prop)->Yw->Prop} (a:Nat->Addr) (c:Addr) (B eb:Nat) (T:AU 277 (.pointer (some c)) B step ok J) :
  oB a 310 (.pointer (some ⟨eb,0,none⟩)) B (fun s x=>(step s x,none)) ok (KV J B eb (.func (.func 277) #[] #[.pointer (some c)])) where
 low s C w h k hk:=by
  obtain ⟨C0,h1,h2,h3,_,h5⟩:=h
  rcases (h2 k).1 hk with h|h
  ·exact T.low s C0 w h1 k h
  ·subst h;exact ⟨h5,ae h3⟩
 ext s C w w' h hb:=by
  obtain ⟨C0,h1,h2,h3,h4,h5⟩:=h;exact ⟨C0,T.ext s C0 w w' h1 (fun k hk=>hb k ((h2 k).2 (.inl hk))),h2,by rw [hb eb ((h2 eb).2 (.inr rfl))];exact h3,h4,h5⟩
 bound:=T.bound
 call:=by
  intro s C w d p k t u hJ S hB hl hok;obtain ⟨C0,h1,h2,h3,h4,h5⟩:=hJ;obtain ⟨ad,cap,rfl⟩:=hl.form;have hel:eb<w.heap.size:=ae h3;have q0:=cell_of_one h3;have hW:∀o,Bl w (w.alloc o):=fun o=>(je _ _).alloc (jd _) o
  have hcall:=T.call s C0 (w.alloc (.cells #[.string t.kind,.string t.data,.bool t.exec,.slice ad t.kids.length cap] 40)) d p k t (.slice ad t.kids.length cap)
   (T.ext s C0 w _ h1 fun k hk=>jp _ _ _ (T.low s C0 w h1 k hk).2) (by simp;omega) (hl.below (hW _) hB) hok
  have HCALL:Hid _:=hcall;have HW:Hid _:=hW;have H2:Hid _:=h2;have H1:Hid _:=h1;have H3:Hid _:=h3;have H4:Hid _:=h4;clear hcall hW h1 h2 h3 h4 hl S hok;go_enter Tryz.func310,Tryz.ntmps310;go_wp2_with fail
  refine jk HCALL.out ?_;rintro e w2 ⟨rfl,C2,hJ2,hK2,hC2⟩;have HJ2:Hid _:=hJ2;have HK2:Hid _:=hK2;have HC2:Hid _:=hC2;clear hJ2 hK2 hC2;go_wp2_with fail
  go_ret;refine ⟨rfl,fun j=>C2 j∨j=eb,⟨C2,HJ2.out,fun k=>Iff.rfl,?_,?_,h5⟩,?_,?_⟩
  ·rw [HK2.out.block eb (by simp;omega) H4.out,jp _ _ _ hel];exact H3.out
  ·intro hc
   rcases HC2.out eb hc with h|h
   ·exact H4.out h
   ·simp at h;omega
  ·have hk:aq C0 w w2:=(aq.of_below (HW.out _)).trans HK2.out (fun j h=>.inl h)
   exact ⟨hk.os,hk.tape,hk.output,hk.size,fun j hj hc=>hk.block j hj fun h=>hc ((H2.out j).2 (.inl h))⟩
  ·intro j hj
   rcases hj with h|h
   ·rcases HC2.out j h with h|h
    ·exact .inl ((H2.out j).2 (.inl h))
    ·exact .inr (by simp at h;omega)
   ·exact .inl ((H2.out j).2 (.inr h))

theorem sA (a:Nat->Addr) (d B:Nat) (t:ab) (u:Yv) (c:Addr) (w:Yw) (S:bY a B w) (hB:B<=w.heap.size) (hl:aJ w B d t.kids u) (hal:cn ck fL 0 (pre d Ye 0 t)) (er:Nat) (hE:ao d t=some er) :
  Cl 276 #[.agg #[.string t.kind,.string t.data,.bool t.exec,u],.func (.func 277) #[] #[.pointer (some c)]] w fun e w'=>e = .returned (.tuple #[])/\Bl w w':=by
 obtain ⟨ad,cap,rfl⟩:=hl.form;have hW:∀o o',Bl w ((w.alloc o).alloc o'):=fun o o'=>((je _ _).alloc (jd _) o).alloc (by simp) o';have hcall:=fun o o'=>fM a d B t (.slice ad t.kids.length cap) ((w.alloc o).alloc o') (S.below (hW o o') hB) (by simp;omega) (hl.below (hW o o') hB) hal;rw [hE] at hcall;have HCALL:Hid (∀o o',Cl 135 #[.agg #[.string t.kind,.string t.data,.bool t.exec,.slice ad t.kids.length cap]] ((w.alloc o).alloc o') fun e w'=>e = .returned (.iface 378 (.pointer (some (a er))))/\Bl ((w.alloc o).alloc o') w'):=hcall;have HW:Hid _:=hW;clear hcall hW S hl hal hE;go_enter Tryz.func276,Tryz.ntmps276;go_wp2_with fail
 refine jk (HCALL.out _ _) ?_;rintro e w2 ⟨rfl,hb⟩;go_wp2_with fail
 go_returns;exact ⟨rfl,(HW.out _ _).trans (hb.mono (by simp;omega))⟩

theorem rx {σ:Type} {step:σ->Yb×Nat×ab->σ} {ok:σ->Yb×Nat×ab->Prop} {J:σ->(Nat->Prop)->Yw->Prop} (a:Nat->Addr) (d B:Nat) (t:ab) (u:Yv) (c:Addr) (T:AU 277 (.pointer (some c)) B step ok J) (s:σ) (C:Nat->Prop) (w:Yw) (hJ:J s C w)
  (S:bY a B w) (hB:B<=w.heap.size) (hl:aJ w B d t.kids u) (hal:cn ck fL 0 (pre d Ye 0 t)) (hE:ao d t=none) (hal2:cn (fun s x=>(step s x,none)) ok s (pre d Ye 0 t)) :
  Cl 276 #[.agg #[.string t.kind,.string t.data,.bool t.exec,u],.func (.func 277) #[] #[.pointer (some c)]] w fun e w'=>e = .returned (.tuple #[])/\∃C',J ((pre d Ye 0 t).foldl step s) C' w'/\aq C w w'/\∀j,C' j->C j∨w.heap.size<=j:=by
 obtain ⟨ad,cap,rfl⟩:=hl.form;have hW:∀o o',Bl w ((w.alloc o).alloc o'):=fun o o'=>((je _ _).alloc (jd _) o).alloc (by simp) o';have hcall:=fun o o'=>fM a d B t (.slice ad t.kids.length cap) ((w.alloc o).alloc o') (S.below (hW o o') hB) (by simp;omega) (hl.below (hW o o') hB) hal;rw [hE] at hcall;have HCALL:Hid (∀o o',Cl 135 #[.agg #[.string t.kind,.string t.data,.bool t.exec,.slice ad t.kids.length cap]] ((w.alloc o).alloc o') fun e w'=>e = .returned .nilIface/\Bl ((w.alloc o).alloc o') w'):=hcall;have hlow:=T.low s C w hJ
 have hrow:∀o,((w.alloc o).alloc (.cells #[.func (.func 277) #[] #[.pointer (some c)]] 349)).heap[w.heap.size+1]? = some (.cells #[.func (.func 277) #[] #[.pointer (some c)]] 349 (0,0)):=fun o=>by
  have:=ke (w.alloc o) #[.func (.func 277) #[] #[.pointer (some c)]] 349
  simpa using this
 have hcn:∀o,((w.alloc o).alloc (.cells #[.func (.func 277) #[] #[.pointer (some c)]] 349)).cell? ⟨w.heap.size,0,none⟩=(w.alloc o).cell? ⟨w.heap.size,0,none⟩:=fun o=>World.cell?_alloc_lt _ _ _ (by simp);have HW:Hid _:=hW;have HROW:Hid _:=hrow;have HJ:Hid _:=hJ;have HS:Hid _:=S;have HL:Hid _:=hl;clear hcall hW hJ S hl hal hE hrow hcn;go_enter Tryz.func276,Tryz.ntmps276;go_wp2_with fail
 refine jk (HCALL.out _ _) ?_;rintro e w2 ⟨rfl,hb⟩;have hbx:Bl w w2:=(HW.out _ _).trans (hb.mono (by simp;omega));have hbox:∀j,w2.cell? ⟨w.heap.size,j,none⟩=((w.alloc (.cells #[.string t.kind,.string t.data,.bool t.exec,.slice ad t.kids.length cap] 40)).alloc (.cells #[.func (.func 277) #[] #[.pointer (some c)]] 349)).cell? ⟨w.heap.size,j,none⟩:=fun j=>hb.cell (p:=⟨w.heap.size,j,none⟩) (by simp;omega);have hsz:w.heap.size+1<w2.heap.size:=by have:=hb.size;simp at this;omega
 have g0:w2.cell? ⟨w.heap.size,0,none⟩=some (.string t.kind):=by rw [hbox];simp
 have g1:w2.cell? ⟨w.heap.size,1,none⟩=some (.string t.data):=by rw [hbox];simp
 have g2:w2.cell? ⟨w.heap.size,2,none⟩=some (.bool t.exec):=by rw [hbox];simp
 have g3:w2.cell? ⟨w.heap.size,3,none⟩=some (.slice ad t.kids.length cap):=by rw [hbox];simp
 have HR2:Hid (w2.heap[w.heap.size+1]? = some (.cells #[.func (.func 277) #[] #[.pointer (some c)]] 349 (0,0))):=show _=_ by rw [hb.block _ (by simp)];exact HROW.out _
 have hJ2:J s C w2:=T.ext s C w w2 HJ.out fun k hk=>hbx.block k (hlow k hk).2
 have hv:=AR a ⟨w.heap.size+1,0,none⟩ B (vO a c B (w.heap.size+1) T) d t Ye 0 (.slice ad t.kids.length cap) s (fun j=>C j∨j=w.heap.size+1) w2
  ⟨C,hJ2,fun k=>Iff.rfl,HR2.out,fun hc=>by have:=(hlow _ hc).2;omega,by omega⟩ (HS.out.below hbx hB) (by omega) (aJ.below HL.out hbx hB) hal2
 rw [tq] at hv
 have HV:Hid (Cl 185 #[.string Ye,.int .i64 (0:Nat),.agg #[.string t.kind,.string t.data,.bool t.exec,.slice ad t.kids.length cap],.func (.func 310) #[] #[.pointer (some ⟨w.heap.size+1,0,none⟩)]] w2 fun e w' =>
   e = .returned .nilIface/\∃C',KV J B (w.heap.size+1) (.func (.func 277) #[] #[.pointer (some c)]) ((pre d Ye 0 t).foldl step s) C' w'/\aq (fun j=>C j∨j=w.heap.size+1) w2 w'/\∀j,C' j->(C j∨j=w.heap.size+1)∨w2.heap.size<=j):=hv
 have HBX:Hid _:=hbx;clear hv hbx hbox hb hJ2;go_wp2_with fail
 refine jk HV.out ?_;rintro e w3 ⟨rfl,C3,hJ3,hK3,hC3⟩;have HJ3:Hid _:=hJ3;have HK3:Hid _:=hK3;have HC3:Hid _:=hC3;clear hJ3 hK3 hC3;go_wp2_with fail
 go_end0
 obtain ⟨C0,h1,h2,h3,h4,h5⟩:=HJ3.out;refine ⟨rfl,C0,h1,?_,?_⟩
 ·refine (aq.of_below HBX.out).trans HK3.out fun k hk=>?_
  rcases hk with h|h
  ·exact .inl h
  ·exact .inr (by omega)
 ·intro j hj
  rcases HC3.out j ((h2 j).2 (.inl hj)) with (h|h)|h
  ·exact .inl h
  ·exact .inr (by omega)
  ·exact .inr (by omega)
end
section
open Go.RowKit

def Mn (n:Nat) (_:Yb×Nat×ab):Nat:=n+1
def KX (n:Nat) (x:Yb×Nat×ab):Nat:=if aT x.2.2=true then n+x.2.2.data.size else n
def nQ (d:Nat) (t:ab):Nat:=match ao d t with|none=>(pre d Ye 0 t).foldl KX 0|some _=>0
end
section
open Go.RowKit

def dO (l:List Yb) (x:Yb×Nat×ab):List Yb:=if aT x.2.2=true then l ++ [if x.1.toList.isEmpty=true then az else x.1] else l
def Gf (l:List Yb) (x:Yb×Nat×ab):Prop:=l.length<=1000000/\x.1.size<=maxLen/\x.2.1<=4611686018427387904
def CY (B c:Nat) (l:List Yb) (C:Nat->Prop) (w:Yw):Prop :=
 ∃v,(∀k,C k↔k=c∨v.ownBlock=some k)/\B<=c/\w.heap[c]? = some (.cells #[v] 22 (0,0))/\w.ownsRow (c+1) 9 1 v l.length (l.map Value.string)

theorem xV {w w':Yw} {base:Nat} {e:TypeId} {size:Nat} {v:Yv} {n:Nat} {xs:List Yv} (h:w.ownsRow base e size v n xs) (hb:∀k,v.ownBlock=some k->w'.heap[k]? = w.heap[k]?):w'.ownsRow base e size v n xs:=by
 obtain ⟨h1,h2⟩:=h;refine ⟨h1,?_⟩
 rcases h2 with h2|⟨g,cap,cur,hv,hg,hh,r⟩
 ·exact .inl h2
 ·subst hv
  exact .inr ⟨g,cap,cur,rfl,hg,by rw [hb g rfl];exact hh,r⟩
theorem zG {B c:Nat} {l:List Yb} {C:Nat->Prop} {w:Yw} (h:CY B c l C w) (k:Nat) (hk:C k):B<=k/\k<w.heap.size:=by
 obtain ⟨v,h1,h2,h3,h4⟩:=h
 rcases (h1 k).1 hk with h|h
 ·subst h;exact ⟨h2,ae h3⟩
 ·have:=h4.lt k h;exact ⟨by omega,this.2⟩
theorem zH {B c:Nat} {l:List Yb} {C:Nat->Prop} {w w':Yw} (h:CY B c l C w) (hb:∀k,C k->w'.heap[k]? = w.heap[k]?):CY B c l C w':=by
 obtain ⟨v,h1,h2,h3,h4⟩:=h;exact ⟨v,h1,h2,by rw [hb c ((h1 c).2 (.inl rfl))];exact h3,xV h4 fun k hk=>hb k ((h1 k).2 (.inr hk))⟩
theorem Jj:(Tryz.prog.info? 9).map (fun i=>(i.zero,i.size,i.bytes))=some (some (.string { data:=#[] }),1,16):=by kernel_rfl

theorem oD {w wa w1:Yw} {row:Yo Nat} {c:Nat} {o:Obj} (h:w.heap[c]? = some o) (hba:Bl w wa) (hg:wa.grownBy w1 row) (hne:row≠some c):w1.heap[c]? = some o:=by
 have hcl:=ae h;rw [hg.block c (jn hcl hba.size) (fun e=>hne e.symm),hba.block c hcl];exact h
theorem Jk {B c:Nat} {l:List Yb} {C:Nat->Prop} {w wa w1:Yw} {v:Yv} {q:Yb} {g cap H:Nat} (hC:∀k,C k↔k=c∨v.ownBlock=some k) (hBc:B<=c) (hrow:w.heap[c]? = some (.cells #[v] 22 (0,0))) (hown:w.ownsRow (c+1) 9 1 v l.length (l.map Value.string))
  (hba:Bl w wa) (hown1:w1.ownsRow (c+1) 9 1 (.slice (some ⟨g,0,none⟩) (l.length+1) cap) (l.length+1) (l.map Value.string ++ [.string q])) (hgrow:wa.grownBy w1 v.ownBlock) (hat:v.ownBlock=some g∨g=H) (hH:w.heap.size<=H) :
  ∃C',CY B c (l ++ [q]) C' (w1.setCell ⟨c,0,none⟩ (.slice (some ⟨g,0,none⟩) (l.length+1) cap))/\aq C w (w1.setCell ⟨c,0,none⟩ (.slice (some ⟨g,0,none⟩) (l.length+1) cap))/\∀j,C' j->C j∨w.heap.size<=j:=by
 have hcl:c<w.heap.size:=ae hrow;have hgc:=(hown1.lt g rfl).1;have hvc:v.ownBlock≠some c:=fun h=>by have:=(hown.lt c h).1;omega
 refine ⟨fun k=>k=c∨k=g,⟨.slice (some ⟨g,0,none⟩) (l.length+1) cap,fun k=>?_,hBc,?_,?_⟩,?_,?_⟩
 ·simp only [Value.ownBlock,jh]
  exact ⟨fun h=>h.imp_right Eq.symm,fun h=>h.imp_right Eq.symm⟩
 ·refine nN (x:=v) ?_
  rw [hgrow.block c (jn hcl hba.size) (fun h=>hvc h.symm),hba.block c hcl];exact hrow
 ·have:=ownsRow_setCell_other hown1 (a:=⟨c,0,none⟩) (by simp only [Value.ownBlock,ne_eq,jh];omega) (.slice (some ⟨g,0,none⟩) (l.length+1) cap)
  simpa using this
 ·refine ⟨?_,?_,?_,?_,fun k hk hc=>?_⟩
  ·exact hgrow.os.trans hba.os
  ·exact hgrow.tape.trans hba.tape
  ·exact hgrow.output.trans hba.output
  ·simp only [World.setCell,Array.size_modify];exact jm hba.size hgrow.size
  ·have hn:¬(k=c∨v.ownBlock=some k):=fun h=>hc ((hC k).2 h)
   rw [jf _ _ _ _ (fun e=>hn (.inl e)),hgrow.block k (jn hk hba.size) (fun h=>hn (.inr h.symm)),hba.block k hk]
 ·intro j hj
  rcases hj with h|h
  ·exact .inl ((hC j).2 (.inl h))
  ·rcases hat with h'|h'
   ·exact .inl ((hC j).2 (.inr (by rw [h];exact h')))
   ·exact .inr (by omega)

theorem xW (c B:Nat):AU 277 (.pointer (some ⟨c,0,none⟩)) B dO Gf (CY B c) where
 low _ _ _ h:=zG h
 ext _ _ _ _ h:=zH h
 bound _ _ h:=⟨h.2.1,h.2.2⟩
 call:=by
  intro l C w d p k t u hJ hB hl ⟨hn,_⟩;obtain ⟨v,hC,hBc,hrow,hown⟩:=hJ;obtain ⟨ad,cap,rfl⟩:=hl.form;have hcl:c<w.heap.size:=ae hrow;have q0:=cell_of_one hrow;have f0:=free_of_one hrow;have HC:Hid _:=hC;have HROW:Hid _:=hrow;have HOWN:Hid _:=hown;have HW:Hid (∀o o',Bl w ((w.alloc o).alloc o')):=fun o o'=>((je _ _).alloc (jd _) o).alloc (by simp) o';have HV:Hid (v.ownBlock≠some c):=fun h=>by have:=(hown.lt c h).1;omega
  obtain ⟨i0,hi0,hz0,hz1,hz2⟩:=info_parts Jj;cases hf:(t.kind.toList == [102,105,108,101])
  ·have HE:Hid (dO l (p,k,t)=l):=show _=_ by unfold dO aT;simp only [hf];rfl
   clear hC hrow hl hown;go_enter Tryz.func277,Tryz.ntmps277
   go_wp2
   go_returns;refine ⟨rfl,C,?_,aq.of_below ((je _ _).alloc (jd _) _),fun j h=>.inl h⟩;rw [HE.out];exact zH ⟨v,HC.out,hBc,HROW.out,HOWN.out⟩ fun k hk=>jp _ _ _ (zG ⟨v,HC.out,hBc,HROW.out,HOWN.out⟩ k hk).2
  ·cases hp:p.toList.isEmpty
   focus
    have HE:Hid (dO l (p,k,t)=l ++ [p]):=show _=_ by unfold dO aT;simp only [hf,hp];rfl
    clear hC hrow hl hown
    have hN:∀o,((w.alloc o).alloc (.cells #[.string p] 9)).heap[w.heap.size+1]? = some (.cells #[.string p] 9 (0,0)):=fun o=>by
     have:=ke (w.alloc o) #[.string p] 9
     simpa using this
    have HN:Hid _:=hN;clear hN;go_enter Tryz.func277,Tryz.ntmps277
    go_wp2_with (at_builtin;go_must (refine wpList_append_lies _ (by rfl) _ _ 22 (by rfl) (c+1) 9 i0 (.string { data:=#[] }) 1 16 Tryz.underlying22 hi0 hz0 hz1 hz2 rfl (by omega) v l.length (l.map Value.string) (by rfl) (jG (jG HOWN.out _) _) ⟨w.heap.size+1,0,none⟩ 1 1 [.string p] (by rfl) (by rfl) (World.news_of_block (cs:=#[.string p]) (t:=9) (fr:=(0,0)) (HN.out _)) (by simp [Value.oneCell']) (by omega) (by unfold maxLen;omega) (by omega) (by simp;omega) (w.heap.size+1+1) (by simp) ?_;intro g cap' w1 hown1 hgrow hat hlt;have e1:=cell_of_one (oD HROW.out (HW.out _ _) hgrow HV.out);have e2:=free_of_one (oD HROW.out (HW.out _ _) hgrow HV.out);have HG:Hid _:=hgrow;have HO1:Hid _:=hown1;have HAT:Hid _:=hat;clear hgrow hown1 hat))
   rotate_left
   focus
    have HE:Hid (dO l (p,k,t)=l ++ [az]):=show _=_ by unfold dO aT;simp only [hf,hp];rfl
    clear hC hrow hl hown
    have hN:∀o,((w.alloc o).alloc (.cells #[.string { data:=#[47] }] 9)).heap[w.heap.size+1]? = some (.cells #[.string { data:=#[47] }] 9 (0,0)):=fun o=>by
     have:=ke (w.alloc o) #[.string { data:=#[47] }] 9
     simpa using this
    have HN:Hid _:=hN;clear hN;go_enter Tryz.func277,Tryz.ntmps277
    go_wp2_with (at_builtin;go_must (refine wpList_append_lies _ (by rfl) _ _ 22 (by rfl) (c+1) 9 i0 (.string { data:=#[] }) 1 16 Tryz.underlying22 hi0 hz0 hz1 hz2 rfl (by omega) v l.length (l.map Value.string) (by rfl) (jG (jG HOWN.out _) _) ⟨w.heap.size+1,0,none⟩ 1 1 [.string { data:=#[47] }] (by rfl) (by rfl) (World.news_of_block (cs:=#[.string { data:=#[47] }]) (t:=9) (fr:=(0,0)) (HN.out _)) (by simp [Value.oneCell']) (by omega) (by unfold maxLen;omega) (by omega) (by simp;omega) (w.heap.size+1+1) (by simp) ?_;intro g cap' w1 hown1 hgrow hat hlt;have e1:=cell_of_one (oD HROW.out (HW.out _ _) hgrow HV.out);have e2:=free_of_one (oD HROW.out (HW.out _ _) hgrow HV.out);have HG:Hid _:=hgrow;have HO1:Hid _:=hown1;have HAT:Hid _:=hat;clear hgrow hown1 hat))
   rotate_left
   all_goals
    go_end0
    obtain ⟨C',j1,j2,j3⟩:=Jk (B:=B) (C:=C) HC.out hBc HROW.out HOWN.out (HW.out _ _) HO1.out HG.out HAT.out (by omega);exact ⟨rfl,C',by rw [HE.out];exact j1,j2,j3⟩

def fZ (d:Nat) (t:ab):List Yb:=match ao d t with|none=>(pre d Ye 0 t).foldl dO []|some _=>[]
theorem CZ (a:Nat->Addr) (d B:Nat) (t:ab) (u:Yv) (w:Yw) (S:bY a B w) (hB:B<=w.heap.size) (hl:aJ w B d t.kids u) (hal:cn ck fL 0 (pre d Ye 0 t))
  (hal2:ao d t=none->cn (fun s x=>(dO s x,none)) Gf [] (pre d Ye 0 t)) :
  Cl 219 #[.agg #[.string t.kind,.string t.data,.bool t.exec,u]] w fun e w'=>∃v,e = .returned v/\w'.ownsRow (w.heap.size+1+1) 9 1 v (fZ d t).length ((fZ d t).map Value.string)/\Bl w w':=by
 obtain ⟨ad,cap,rfl⟩:=hl.form;have hW:∀o o',Bl w ((w.alloc o).alloc o'):=fun o o'=>((je _ _).alloc (jd _) o).alloc (by simp) o'
 have hrow:∀o,((w.alloc o).alloc (.cells #[.slice none 0 0] 22)).heap[w.heap.size+1]? = some (.cells #[.slice none 0 0] 22 (0,0)):=fun o=>by
  have:=ke (w.alloc o) #[.slice none 0 0] 22
  simpa using this
 have HW:Hid _:=hW
 cases hE:ao d t with
 | some er =>
  have HO:Hid (fZ d t = []):=show _=_ by unfold fZ;rw [hE]
  have hcall:=fun o o'=>sA a d B t (.slice ad t.kids.length cap) ⟨w.heap.size+1,0,none⟩ ((w.alloc o).alloc o') (S.below (hW o o') hB) (by simp;omega) (hl.below (hW o o') hB) hal er hE;have HCALL:Hid _:=hcall;have HROW:Hid _:=hrow;clear hcall hW hrow S hl hal hal2 hE;go_enter Tryz.func219,Tryz.ntmps219;go_wp2_with fail
  refine jk (HCALL.out _ _) ?_;rintro e w2 ⟨rfl,hb⟩;have g0:w2.cell? ⟨w.heap.size+1,0,none⟩=some (.slice none 0 0):=cell_of_one (by rw [hb.block _ (by simp)];exact HROW.out _);have HB:Hid _:=hb;clear hb;go_wp2_with fail
  go_ret;refine ⟨.slice none 0 0,rfl,?_,(HW.out _ _).trans (HB.out.mono (by simp;omega))⟩;rw [HO.out];exact qt _ _ _ _
 | none =>
  have HO:Hid (fZ d t=(pre d Ye 0 t).foldl dO []):=show _=_ by unfold fZ;rw [hE]
  have hcall:=fun o=>rx a d w.heap.size t (.slice ad t.kids.length cap) ⟨w.heap.size+1,0,none⟩ (xW (w.heap.size+1) w.heap.size) [] (fun k=>k=w.heap.size+1) ((w.alloc o).alloc (.cells #[.slice none 0 0] 22))
   ⟨.slice none 0 0,fun k=>by simp [Value.ownBlock],by omega,hrow o,qt _ _ _ _⟩ (S.is.atB.below (hW o _) (jd _)) (by simp;omega) (aJ.below (hl.up hB (jd _)) (hW o _) (jd _)) hal hE (hal2 hE)
  have HCALL:Hid _:=hcall;clear hcall hW hrow S hl hal hal2 hE;go_enter Tryz.func219,Tryz.ntmps219;go_wp2_with fail
  refine jk (HCALL.out _) ?_;rintro e w2 ⟨rfl,C2,⟨v,h1,h2,h3,h4⟩,hK,hC⟩;have g0:=cell_of_one h3;have HK:Hid _:=hK;have H4:Hid _:=h4;clear h1 h2 h3 h4 hK hC;go_wp2_with fail
  go_ret;refine ⟨v,rfl,?_,(HW.out _ _).trans (HK.out.below (fun k hk=>by omega) (by simp;omega))⟩;rw [HO.out];exact H4.out
end
section
open Go.RowKit

theorem vP:∀(l:List (Yb×Nat×ab)) (a:List Yb),a.length+l.length<=1000000->oC l->cn (fun s x=>(dO s x,none)) Gf a l
 | [],_,_,_=>trivial
 | x :: l,a,hn,h=>by
  have hx:=h x jy;simp only [jz] at hn;refine ⟨⟨by omega,hx.1,hx.2.1⟩,fun _=>vP l (dO a x) ?_ (fun y hy=>h y (jw _ hy))⟩;unfold dO
  split
  ·simp;omega
  ·omega
end
section
open Go.RowKit

def eD (d:Nat) (t:ab):List (List Yb×ab):=(fQ d [] t).filter fun x=>aT x.2
theorem ry:∀(l:List (List Yb×ab)) (a:List Yb),(l.map fun x=>(eq x.1,x.1.length,x.2)).foldl dO a=a++(l.filter fun x=>aT x.2).map fun x=>i7 x.1
 | [],a=>by simp
 | x :: l,a=>by
  rw [jH,List.foldl_cons,ry l];cases h:aT x.2
  ·rw [qM (by simp [h])]
   simp [dO,h]
  ·rw [qL (by simp [h])]
   simp [dO,h,i7]
theorem xX {d:Nat} {t:ab} (h:ao d t=none):fZ d t=(eD d t).map fun x=>i7 x.1:=by
 unfold fZ eD;rw [h];have e:=nO d [] t;have e2:pre d Ye 0 t=(fQ d [] t).map fun x=>(eq x.1,x.1.length,x.2):=e
 simp only
 rw [e2,ry,qq]
theorem pP {d:Nat} {t:ab} (hf:Fit d t) (h:ao d t=none) {x:List Yb×ab} (hx:x∈eD d t):dy d t (i7 x.1) = .ok x.2/\aT x.2=true/\x.1.length<=8/\x.1.all aB=true:=by
 have hw:=bO.1 h;unfold eD at hx;obtain ⟨hm,hfi⟩:=qK.1 hx;have e:=nO d [] t;have e2:pre d Ye 0 t=(fQ d [] t).map fun x=>(eq x.1,x.1.length,x.2):=e
 have h8:x.1.length<=8:=by
  have:=(hw.2 (eq x.1,x.1.length,x.2) (by rw [e2];exact jv.2 ⟨x,hm,rfl⟩)).1
  simpa using this
 obtain ⟨m,em,ha,hall⟩:=zF (mR hf h) (rt (p:=Ye) (k:=0) hf fun y hy=>(hw.2 y hy).2) x hm;rw [qq] at em;subst em;exact ⟨tj h (kV h8 hall) ha,hfi,h8,hall⟩
theorem xY {d:Nat} {t:ab} (hf:Fit d t) (h:ao d t=none) {i j:Nat} {x y:List Yb×ab} (hij:i<j) (hx:(eD d t)[i]? = some x) (hy:(eD d t)[j]? = some y):i7 x.1≠i7 y.1:=by
 intro e;have hxm:=pP hf h (jg hx);have hym:=pP hf h (jg hy);have e1:=kV hxm.2.2.1 hxm.2.2.2;rw [e,kV hym.2.2.1 hym.2.2.2] at e1;have e2:y.1=x.1:=jO e1
 have hnd:((eD d t).map (·.1)).Nodup:=by
  unfold eD;exact List.Nodup.sublist (List.Sublist.map _ List.filter_sublist) (ru (mR hf h))
 have hi:i<((eD d t).map (·.1)).length:=by
  have:=(jb.1 hx).1
  simpa using this
 have:=(List.getElem?_inj hi hnd).1 (show ((eD d t).map (·.1))[i]? = ((eD d t).map (·.1))[j]? by rw [jx,jx,hx,hy];simp [e2])
 omega
end
section
open Go.RowKit Go.Maps

theorem tt:aT eR=true:=by kernel_rfl
theorem tu {s:Yb} (h:aB s=true):s.size<=12:=by
 unfold aB at h;simp only [qS,zm] at h;exact h.1.1.1.2
theorem nR:∀(d:Nat) (ns:List Yb) (t:ab),dq d t->bG d (eq ns) t=((fQ d ns t).filter fun x=>aT x.2).map fun x=>(i7 x.1,x.2)
 | 0,_,_,_=>rfl
 | d+1,ns,t,hG=>by
  rw [bG,fQ];by_cases h:aT t=true
  ·rw [zj h,hG.1 h,qL (by simpa using h)]
   rfl
  ·rw [zi h,qM (by simpa using h),List.filter_flatMap,yC]
   rw [qr,qr]
   congr 1
   refine jQ fun x hx=>?_;rw [<-tn];exact nR d (ns ++ [x.1]) x.2 (hG.2 x hx).2
theorem ls {d:Nat} {t:ab} (hG:dq d t):ai d t=(eD d t).map fun x=>(i7 x.1,x.2):=nR d [] t hG
theorem C1 {d:Nat} {t:ab} (hG:dq d t) (h:ao d t=none):fZ d t=(ai d t).map (·.1):=by
 rw [xX h,ls hG,qC];rfl
theorem fR {d:Nat} {t:ab} (hf:Fit d t) (hG:dq d t) (h:ao d t=none):((ai d t).map (·.1)).Nodup:=by
 rw [ls hG,qC];refine List.pairwise_iff_getElem.2 fun i j hi hj hij=>?_;have hi':i<(eD d t).length:=by simpa using hi
 have hj':j<(eD d t).length:=by simpa using hj
 have:=xY hf h hij (jc hi') (jc hj')
 simpa using this
theorem tv (g h:Yb->ab->ab) (hh:∀p x,aT (h p x)=true):∀(d:Nat) (p:Yb) (t:ab),bC g d p (bC h d p t)=bC (fun q x=>g q (h q x)) d p t
 | 0,_,_=>rfl
 | d+1,p,t=>by
  by_cases e:aT t=true
  ·rw [bC.eq_2 h,zj e,bC,zj (hh _ _),bC,zj e]
  ·have e':¬aT { t with kids:=t.kids.map fun x=>(x.1,bC h d (p++az++x.1) x.2) }=true:=e
   rw [bC.eq_2 h,zi e,bC,zi e',bC,zi e];simp only [qC]
   congr 1
   refine jQ fun x hx=>?_;show (x.1,_)=(x.1,_);rw [tv g h hh d]
theorem zI {g:Yb->ab->ab}:∀(d:Nat) (p:Yb) (t:ab),(∀y∈bG d p t,g y.1 y.2=y.2)->bC g d p t=t
 | 0,_,_,_=>rfl
 | d+1,p,t,h=>by
  rw [bC];rw [bG] at h;by_cases e:aT t=true
  ·rw [zj e] at h ⊢
   exact h _ (jF.2 rfl)
  ·rw [zi e] at h ⊢
   have hk:(t.kids.map fun x=>(x.1,bC g d (p++az++x.1) x.2))=t.kids:=by
    have h2:(t.kids.map fun x=>(x.1,bC g d (p++az++x.1) x.2))=t.kids.map id:=jQ fun x hx=>by
     rw [zI d _ _ (fun y hy=>h y (jY.2 ⟨x,hx,hy⟩))];rfl
    rw [h2,List.map_id]
   rw [hk];cases t;rfl
theorem rz (g:Yb->ab->ab) (hg:∀p x,aT (g p x)=true):∀(d:Nat) (p:Yb) (t:ab),bG d p (bC g d p t)=(bG d p t).map fun y=>(y.1,g y.1 y.2)
 | 0,_,_=>rfl
 | d+1,p,t=>by
  by_cases e:aT t=true
  ·rw [bC,zj e,bG,zj (hg _ _),bG,zj e]
   rfl
  ·have e':¬aT { t with kids:=t.kids.map fun x=>(x.1,bC g d (p++az++x.1) x.2) }=true:=e
   rw [bC,zi e,bG,zi e',bG,zi e,yC];simp only [List.flatMap_map];rw [qr,qr]
   congr 1
   refine jQ fun x hx=>?_;exact rz g hg d _ _
theorem dq.map {g:Yb->ab->ab} (hg:∀p x,(g p x).kids = []):∀ {d:Nat} {p:Yb} {t:ab},dq d t->dq d (bC g d p t)
 | 0,_,_,_=>trivial
 | d+1,p,t,h=>by
  rw [bC];by_cases e:aT t=true
  ·rw [zj e]
   exact ⟨fun _=>hg _ _,fun x hx=>by rw [hg] at hx;cases hx⟩
  ·rw [zi e]
   refine ⟨fun e'=>absurd e' e,fun x hx=>?_⟩;obtain ⟨y,hy,rfl⟩:=jv.1 hx;exact ⟨(h.2 y hy).1,dq.map hg (h.2 y hy).2⟩
theorem AV {d:Nat} {t:ab} (h:dq d t):dq d (dP d t):=h.map (fun _ _=>rfl)
theorem oX (d:Nat) (t:ab):ai d (dP d t)=(ai d t).map fun y=>(y.1,eR):=rz _ (fun _ _=>tt) d _ t
theorem oY:∀ {d:Nat} {p:Yb} {t:ab},dq d t->∀y∈bG d p t,aT y.2=true/\y.2.kids = []
 | 0,_,_,_,y,hy=>by cases hy
 | d+1,p,t,h,y,hy=>by
  rw [bG] at hy;by_cases e:aT t=true
  ·rw [zj e] at hy
   rw [jF.1 hy];exact ⟨e,h.1 e⟩
  ·rw [zi e] at hy
   obtain ⟨x,hx,hy'⟩:=jY.1 hy;exact oY (h.2 x hx).2 y hy'
theorem C5 {bl:List (Yu)} {ι:Yb->ay} {d:Nat} {t:ab} (hG:dq d t) (h:∀y∈ai d t,aK bl (ι y.1).blocks (ι y.1).bytes=y.2.data/\(ι y.1).exec=y.2.exec):fX bl ι d (dP d t)=t:=by
 unfold fX dP;rw [tv _ _ (fun _ _=>tt)];refine zI d _ t fun y hy=>?_;obtain ⟨h1,h2⟩:=h y hy;obtain ⟨h3,h4⟩:=oY hG y hy;show ct bl (ι y.1)=y.2;unfold ct;rw [h1,h2]
 have hk:y.2.kind = { data:=#[102,105,108,101] }:=by
  unfold aT at h3;rw [beq_iff_eq,ByteArray.toList_eq] at h3;exact fK h3
 cases hy2:y.2 with
 | mk kind data exec kids=>rw [hy2] at hk h4;simp only at hk h4;rw [hk,h4]
theorem nS {t:ab} (h:aS t=none) (hf:aT t=true):t.kids = []/\t.data.size<=2000:=by
 unfold aS at h;rw [zj hf] at h;unfold dj at h
 split at h
 ·cases h
 ·split at h
  ·cases h
  ·rename_i h1 h2
   exact ⟨qf (by omega),by omega⟩
theorem mr:∀ {d:Nat} {p:Yb} {k:Nat} {t:ab},(∀x∈pre d p k t,aS x.2.2=none)->dq d t
 | 0,_,_,_,_=>trivial
 | d+1,p,k,t,h=>by
  have h0:=h (p,k,t) (jy ..);refine ⟨fun e=>(nS h0 e).1,fun x hx=>⟨tu (nP h0 x hx),?_⟩⟩;exact mr (p:=p++az++x.1) (k:=k+1) fun y hy=>h y (jw _ (jY.2 ⟨x,hx,hy⟩))
theorem l9:∀ {d:Nat} {p p':Yb} {k:Nat} {t:ab},(∀x∈pre d p' k t,aS x.2.2=none)->∀y∈bG d p t,y.2.data.size<=2000/\y.1.size<=p.size+d*13+1
 | 0,_,_,_,_,_,y,hy=>by cases hy
 | d+1,p,p',k,t,h,y,hy=>by
  have h0:=h (p',k,t) (jy ..);rw [bG] at hy;by_cases e:aT t=true
  ·rw [zj e] at hy
   rw [jF.1 hy];refine ⟨(nS h0 e).2,?_⟩;show (ic p).size<=_;unfold ic
   split
   ·have:az.size=1:=rfl
    omega
   ·omega
  ·rw [zi e] at hy
   obtain ⟨x,hx,hy'⟩:=jY.1 hy;obtain ⟨a1,a2⟩:=l9 (p:=p++az++x.1) (p':=p'++az++x.1) (k:=k+1) (fun z hz=>h z (jw _ (jY.2 ⟨x,hx,hz⟩))) y hy';refine ⟨a1,?_⟩;have hn:=tu (nP h0 x hx);have hs:az.size=1:=rfl;rw [qe,qe] at a2;omega
end
section
open Go.RowKit Go.Maps

def fi (D:Nat) (o:Yo af) (t:ab):List (Nat×Yb×Bool):=match o with
 | none=>[]
 | some x=>refs x.fs (ai D t)
def df (D:Nat) (tr:List (Yo af)) (pt:List ab):List (Nat×Yb×Bool):=(List.zipWith (fi D) tr pt).flatten
structure dD (N D:Nat) (s:aV) (tr:List (Yo af)) (pt:List ab):Prop where
 rf:gq N s (df D tr pt)
 len:tr.length=pt.length
 tree:∀(k:Nat) (x:af),aO tr (k:Int)=some x->∃t,pt[k]? = some t/\ao D t=none/\Fit D t/\x.t=dP D t/\x.fs.map (·.1)=(ai D t).map (·.1)
theorem lx {α:Type}:∀ {L:List (List α)} {k:Nat} {a:List α},L[k]? = some a->L.flatten.Perm (a++(L.set k []).flatten)
 | [],_,_,h=>by simp at h
 | b :: L,0,a,h=>by
  have e:b=a:=(by simpa using h);rw [e];exact List.Perm.refl _
 | b :: L,k+1,a,h=>by
  have ih:=lx (L:=L) (k:=k) (a:=a) (by simpa using h);rw [List.set_cons_succ,List.flatten_cons,List.flatten_cons]
  exact (List.Perm.append_left b ih).trans (by
   rw [<-jK,<-jK];exact List.Perm.append_right _ List.perm_append_comm)
theorem Jl {D:Nat} {tr:List (Yo af)} {pt:List ab} {k:Nat} {t:ab} (o:Yo af) (ht:pt[k]? = some t) (hl:tr.length=pt.length):List.zipWith (fi D) (tr.set k o) pt=(List.zipWith (fi D) tr pt).set k (fi D o t):=by
 apply List.ext_getElem?
 intro i;have hk:=(jb.1 ht).1;by_cases e:i=k
 ·subst e
  rw [yx,jM (by omega),ht,jM (by rw [List.length_zipWith];omega)]
 ·rw [yx,jV (fun h=>e h.symm),jV (fun h=>e h.symm),yx]
theorem mt {tr:List (Yo af)} {k:Nat} {x:af} (h:aO tr (k:Int)=some x):tr[k]? = some (some x):=by
 rw [cH] at h
 cases h':tr[k]? with
 | none=>rw [h'] at h;cases h
 | some z=>rw [h'] at h;cases z with
  | none=>cases h
  | some y=>cases h;rfl
theorem lO {D:Nat} {tr:List (Yo af)} {pt:List ab} {k:Nat} {t:ab} {x:af} (o:Yo af) (hx:aO tr (k:Int)=some x) (ht:pt[k]? = some t) (hl:tr.length=pt.length):∃R,(df D tr pt).Perm (refs x.fs (ai D t)++R)/\(df D (tr.set k o) pt).Perm (fi D o t++R):=by
 have hz:(List.zipWith (fi D) tr pt)[k]? = some (refs x.fs (ai D t)):=by
  rw [yx,mt hx,ht];rfl
 refine ⟨((List.zipWith (fi D) tr pt).set k []).flatten,lx hz,?_⟩;unfold df;rw [Jl o ht hl];have h2:=lx (L:=(List.zipWith (fi D) tr pt).set k (fi D o t)) (k:=k) (a:=fi D o t) (jM (jb.1 hz).1);rw [List.set_set] at h2;exact h2
theorem mT:∀ {fs:List (Yb×Nat)} {l:List (Yb×ab)},fs.length=l.length->(refs fs l).map (·.1)=fs.map (·.2)
 | [],_,_=>rfl
 | _ :: _,[],h=>by simp at h
 | f :: fs,y :: l,h=>by
  have ih:=mT (fs:=fs) (l:=l) (by simpa using h);unfold refs at ih ⊢;rw [List.zipWith_cons_cons,jH,jH,ih]
theorem vQ:∀(l:List (Yb×ab)) (s:aV),(ez s l).map (·.1)=l.map (·.1)
 | [],_=>rfl
 | x :: l,s=>by rw [ez,jH,jH,vQ l]
theorem pQ {p:Yb} {j:Nat}:∀ {fs:List (Yb×Nat)} {l:List (Yb×ab)} {q:Nat},fs.map (·.1)=l.map (·.1)->(fs.map (·.1)).Nodup->(p,q)∈fs->∃y R,(p,y)∈l/\(refs fs l).Perm ((q,y.data,y.exec) :: R)/\(refs (setF fs p j) l).Perm ((j,y.data,y.exec) :: R)
 | [],_,_,_,_,h=>by cases h
 | _ :: _,[],_,h,_,_=>by simp at h
 | f :: fs,y :: l,q,h,hn,hm=>by
  rw [jH,jH,qD] at h;rw [jH,yj] at hn;have hset:setF (f :: fs) p j=(if f.1=p then (p,j) else f) :: setF fs p j:=rfl;have hr:refs (f :: fs) (y :: l)=(f.2,y.2.data,y.2.exec) :: refs fs l:=rfl;rw [hr,hset];by_cases e:f.1=p
  ·have hno:setF fs p j=fs:=by
    unfold setF
    have h2:(fs.map fun x=>if x.1=p then (p,j) else x)=fs.map id:=jQ fun x hx=>by
     rw [zi (fun e2=>hn.1 (by rw [e,<-e2];exact qA (f:=(·.1)) hx))];rfl
    rw [h2,List.map_id]
   rcases jN.1 hm with e2|hm2
   ·rw [zj e,hno,<-e2]
    refine ⟨y.2,refs fs l,?_,List.Perm.refl _,List.Perm.refl _⟩
    have:y=(p,y.2):=by rw [<-e,h.1]
    rw [<-this];exact jy ..
   ·exact absurd (qA (f:=(·.1)) hm2) (by rw [<-e];exact hn.1)
  ·rcases jN.1 hm with e2|hm2
   ·exact absurd (by rw [<-e2]) e
   ·obtain ⟨z,R,h1,h2,h3⟩:=pQ h.2 hn.2 hm2
    rw [zi e];refine ⟨z,(f.2,y.2.data,y.2.exec) :: R,jw _ h1,(List.Perm.cons _ h2).trans (List.Perm.swap _ _ _),?_⟩;show (((f.2,y.2.data,y.2.exec) :: refs (setF fs p j) l).Perm _);exact (List.Perm.cons _ h3).trans (List.Perm.swap _ _ _)
theorem Gg (fs:List (Yb×Nat)) (p:Yb) (j:Nat):(setF fs p j).map (·.1)=fs.map (·.1):=by
 unfold setF;rw [qC];refine jQ fun x _=>?_;show (if x.1=p then (p,j) else x).1=x.1
 split
 ·rename_i e;exact e.symm
 ·rfl
theorem C6 {l:List (Yb×ab)} (h:(l.map (·.1)).Nodup) {p:Yb} {a b:ab}:(p,a)∈l->(p,b)∈l->a=b:=by
 induction l with
 | nil=>intro h;cases h
 | cons x l ih =>
  rw [jH,yj] at h;intro ha hb
  rcases jN.1 ha with e1|h1
  ·rcases jN.1 hb with e2|h2
   ·rw [<-e1] at e2
    exact (congrArg Prod.snd e2).symm
   ·exact absurd (qA (f:=(·.1)) h2) (by rw [<-e1] at h;exact h.1)
  ·rcases jN.1 hb with e2|h2
   ·exact absurd (qA (f:=(·.1)) h1) (by rw [<-e2] at h;exact h.1)
   ·exact ih h.2 h1 h2
def lP (s:aV) (fs:List (Yb×Nat)) (p:Yb):ay:=((aH fs p).bind (aj s.tab)).getD ⟨0,0,false,[],0⟩
namespace dD
variable {N D:Nat} {s:aV} {tr:List (Yo af)} {pt:List ab}
theorem put (I:dD N D s tr pt) {t:ab} (hw:ao D t=none) (hf:Fit D t) (hn:bg (ai D t)<=(aE s.u).length):dD N D (bQ s (ai D t)) (tr ++ [some ⟨dP D t,ez s (ai D t)⟩]) (pt ++ [t]):=by
 have hall:=fun x hx=>((bO.1 hw).2 x hx).2;have hrf:=I.rf.makes (ai D t) (fun x hx=>(l9 hall x hx).1) hn
 have he:df D (tr ++ [some ⟨dP D t,ez s (ai D t)⟩]) (pt ++ [t])=df D tr pt++refs (ez s (ai D t)) (ai D t):=by
  unfold df;rw [List.zipWith_append I.len,List.flatten_append]
  simp [fi]
 refine ⟨by rw [he];exact hrf.perm List.perm_append_comm,by simp [I.len],fun k x hx=>?_⟩;rw [mN] at hx
 split at hx
 ·rename_i e
  cases hx
  have e':k=pt.length:=(by rw [<-I.len];omega);exact ⟨t,by rw [e'];simp,hw,hf,rfl,vQ _ _⟩
 ·obtain ⟨t',h1,h2⟩:=I.tree k x hx
  exact ⟨t',by rw [jD (jb.1 h1).1];exact h1,h2⟩
theorem drop (I:dD N D s tr pt) {k:Nat} {x:af} (hx:aO tr (k:Int)=some x) {l:List Nat} (hl:l.Perm (x.fs.map (·.2))):dD N D (dw s l) (tr.set k none) pt:=by
 obtain ⟨t,ht,hw,hf,e1,e2⟩:=I.tree k x hx;obtain ⟨R,p1,p2⟩:=lO (D:=D) none hx ht I.len;have hlen:x.fs.length=(ai D t).length:=by have:=congrArg List.length e2;simpa using this
 refine ⟨((I.rf.perm p1).unlinks l (by rw [mT hlen];exact hl)).perm p2.symm,by simp [I.len],fun j y hy=>?_⟩;rw [eV hx] at hy
 split at hy
 ·cases hy
 ·exact I.tree j y hy
theorem cnt (I:dD N D s tr pt) {k:Nat} {x:af} (hx:aO tr (k:Int)=some x) (hb:(df D tr pt).length<=1000000):il s (x.fs.map (·.2))/\(x.fs.map (·.1)).Nodup:=by
 obtain ⟨t,ht,hw,hf,e1,e2⟩:=I.tree k x hx;obtain ⟨R,p1,p2⟩:=lO (D:=D) none hx ht I.len;have hlen:x.fs.length=(ai D t).length:=by have:=congrArg List.length e2;simpa using this
 have hG:=mr fun y hy=>((bO.1 hw).2 y hy).2;refine ⟨?_,by rw [e2];exact fR hf hG hw⟩;have h:=(I.rf.perm p1).cnt (by rw [<-p1.length_eq];exact hb);rw [mT hlen] at h;exact h
theorem share (I:dD N D s tr pt) {k:Nat} {x:af} {p:Yb} {was j:Nat} {y z:ay} (hx:aO tr (k:Int)=some x) (hp:aH x.fs p=some was) (hy:aj s.tab was=some y) (hz:aj s.tab j=some z) (hne:¬j=was) (hc:cF (aK s.bl z.blocks z.bytes)=z.sum) (hl:lM s.bl y z=true):dD N D (cV (ec s j z) was y) (tr.set k (some { x with fs:=setF x.fs p j })) pt:=by
 obtain ⟨t,ht,hw,hf,e1,e2⟩:=I.tree k x hx;have hG:=mr fun y hy=>((bO.1 hw).2 y hy).2;obtain ⟨R,p1,p2⟩:=lO (D:=D) (some { x with fs:=setF x.fs p j }) hx ht I.len;obtain ⟨f,R2,hm,q1,q2⟩:=pQ (j:=j) e2 (by rw [e2];exact fR hf hG hw) (dC _ hp);have I1:=I.rf.perm (p1.trans (q1.append_right R));obtain ⟨y',hy',h1,h2,h3⟩:=I1.held _ (jy ..)
 simp only at hy' h1 h2
 rw [hy] at hy';cases hy'
 obtain ⟨k1,k2⟩:=(s8 _ _ _).1 hl;have I2:=I1.link hz hc
 have hy1:aj (ec s j z).tab was=some y:=by
  show aj (s.tab.set j _) was=_;rw [bW (bz hz),zi (fun e=>hne e.symm)];exact hy
 have I3:=(I2.perm (List.Perm.swap _ _ _)).unlink hy1;rw [<-k1,h1,<-k2,h2] at I3;refine ⟨I3.perm ((p2.trans (q2.append_right R)).symm),by simp [I.len],fun i v hv=>?_⟩;rw [eV hx] at hv
 split at hv
 ·rename_i e
  cases hv
  have e':i=k:=(by omega);subst e';exact ⟨t,ht,hw,hf,e1,by rw [Gg];exact e2⟩
 ·exact I.tree i v hv
theorem files (I:dD N D s tr pt) {k:Nat} {x:af} {t:ab} (hx:aO tr (k:Int)=some x) (ht:pt[k]? = some t):∀y∈ai D t,∃q,aH x.fs y.1=some q/\aj s.tab q=some (lP s x.fs y.1)/\aK s.bl (lP s x.fs y.1).blocks (lP s x.fs y.1).bytes=y.2.data/\(lP s x.fs y.1).exec=y.2.exec/\(lP s x.fs y.1).sum=cF y.2.data:=by
 obtain ⟨t',ht',hw,hf,e1,e2⟩:=I.tree k x hx;rw [ht] at ht';cases ht'
 have hG:=mr fun y hy=>((bO.1 hw).2 y hy).2;have hnd:=fR hf hG hw;obtain ⟨R,p1,p2⟩:=lO (D:=D) none hx ht I.len;intro y hy;obtain ⟨f,hfm,ef⟩:=jv.1 (show y.1∈x.fs.map (·.1) by rw [e2];exact qA (f:=(·.1)) hy);obtain ⟨q,hq⟩:=yA.1 (rn x.fs hfm);rw [ef] at hq;obtain ⟨z,R2,hz,q1,_⟩:=pQ (j:=0) e2 (by rw [e2];exact hnd) (dC _ hq);have hzy:z=y.2:=C6 hnd hz (show (y.1,y.2)∈_ from hy);subst hzy;obtain ⟨i,hi,h1,h2,h3⟩:=(I.rf.perm (p1.trans (q1.append_right R))).held _ (jy ..)
 simp only at hi h1 h2 h3
 have hι:lP s x.fs y.1=i:=by
  unfold lP;rw [hq];show (aj s.tab q).getD _=i;rw [hi];rfl
 rw [hι];exact ⟨q,hq,hi,h1,h2,h3⟩
end dD
end
section
open Go.RowKit Go.Maps

theorem dD.start (N D:Nat):dD N D ⟨List.replicate N zb,List.replicate N false,[]⟩ [] [] :=
 ⟨⟨bT.start N,fun r hr=>by simp [df] at hr,fun q y h=>by simp [aj] at h⟩,rfl,fun k x h=>by rw [cH] at h;simp at h⟩
theorem bH.low {T0 dp:Nat} {w w1 w2:Yw} (h:bH T0 dp w1 w2) (h0:Below T0 w w1) (hs:T0<=w.heap.size) (hd:T0<=dp):Below T0 w w2 :=
 ⟨h.os.trans h0.os,h.tape.trans h0.tape,h.output.trans h0.output,jm h0.size h.size,fun k hk=>by
  have hlt:k<w1.heap.size:=(by have:=h0.size;omega);rw [<-h0.block k hk];have e:w1.heap[k]? = some w1.heap[k]:=qN hlt;rw [e];exact h.block k _ e (.inl hk) (by omega)⟩
end
section
open Go.RowKit

theorem keeps {W w':Yw} (h:Bl W w') {b:Nat} (hb:b<W.heap.size) (i:Nat):w'.cell? ⟨b,i,none⟩=W.cell? ⟨b,i,none⟩:=h.cell (p:=⟨b,i,none⟩) hb
def Mt:ab:={ kind:={ data:=#[102,105,108,101] },data:={ data:=#[120,121] },exec:=false,kids:=[] }
end
section
open Go.RowKit Go.Maps

theorem zJ {α β γ:Type} (f:α->List β) (g:α->List γ):∀l:List α,(∀x∈l,(f x).length<=(g x).length)->(l.flatMap f).length<=(l.flatMap g).length
 | [],_=>jd _
 | x :: l,h=>by
  have h1:=h x jy;have h2:=zJ f g l fun y hy=>h y (jw _ hy);simp only [jZ,jt];omega
theorem rA:∀(d:Nat) (p p':Yb) (k:Nat) (t:ab),(bG d p t).length<=(pre d p' k t).length
 | 0,_,_,_,_=>jd _
 | d+1,p,p',k,t=>by
  rw [bG,pre]
  split
  ·simp
  ·rw [jz]
   exact Nat.le_succ_of_le (zJ _ _ _ fun x _=>rA d _ _ _ _)
structure nk (d:Nat) (t:ab):Prop where
 fit:Fit (d+1) t
 ok:oC (pre (d+1) Ye 0 t)
 few:(pre (d+1) Ye 0 t).length<=250
theorem nk.files {d:Nat} {t:ab} (h:nk d t):(ai (d+1) t).length<=250:=jm (rA _ _ Ye 0 _) h.few
theorem nk.alive {d:Nat} {t:ab} (h:nk d t):cn ck fL 0 (pre (d+1) Ye 0 t):=pN _ 0 (by omega) h.ok
theorem io {d:Nat} {t:ab} (h:ao d t=none):∀x∈pre d Ye 0 t,aS x.2.2=none:=fun y hy=>((bO.1 h).2 y hy).2
theorem gW {d:Nat} {t:ab} (h:ao d t=none):dq d t:=mr (p:=Ye) (k:=0) (io h)
theorem mU {d:Nat} {t:ab} (h:ao d t=none) (hd:d<=1000):∀x∈ai d t,x.2.data.size<=2000/\x.1.size<=20000:=fun x hx=>by
 have h1:=l9 (p:={ data:=#[] }) (p':=Ye) (k:=0) (io h) x hx;refine ⟨h1.1,?_⟩;have e:(ByteArray.mk #[]).size=0:=rfl
 have:=h1.2
 rw [e] at this;omega
theorem vR:∀ {l:List (Yb×ab)},(∀x∈l,x.2.data.size<=2000)->bg l<=126*l.length
 | [],_=>jd _
 | x :: l,h=>by
  have h1:=h x jy;have h2:=vR fun y hy=>h y (jw _ hy);have e:bg (x :: l)=bk x.2.data.size+bg l:=(by simp [bg]);rw [e,jz];unfold bk;omega
theorem C7 (D:Nat) (o:Yo af) (t:ab):(fi D o t).length<=(ai D t).length:=by
 unfold fi
 cases o with
 | none=>exact jq _
 | some x=>simp only [refs,List.length_zipWith];exact Nat.min_le_right _ _
theorem tw {D M:Nat}:∀ {tr:List (Yo af)} {pt:List ab},(∀t∈pt,(ai D t).length<=M)->(df D tr pt).length<=M*pt.length
 | [],pt,_=>by simp [df]
 | _ :: _,[],_=>by simp [df]
 | o :: tr,t :: pt,h=>by
  have h1:=h t jy;have h2:=tw (tr:=tr) fun y hy=>h y (jw _ hy);have h3:=C7 D o t;have e:df D (o :: tr) (t :: pt)=fi D o t++df D tr pt:=rfl;rw [e,jt,jz,Nat.mul_succ];omega
theorem dD.crc {N D:Nat} {s:aV} {tr:List (Yo af)} {pt:List ab} (I:dD N D s tr pt) {q:Nat} {y:ay} (hy:aj s.tab q=some y):cF (aK s.bl y.blocks y.bytes)=y.sum/\y.links<=(df D tr pt).length:=by
 have hl:=I.rf.links q y hy;have h1:=(I.rf.sp.own q y hy).2.2.1;have hm:q∈(df D tr pt).map (·.1):=yn.1 (by omega);obtain ⟨r,hr,rfl⟩:=jv.1 hm;obtain ⟨y',e1,e2,_,e4⟩:=I.rf.held r hr;rw [hy] at e1;cases e1
 refine ⟨by rw [e2,e4],?_⟩;rw [hl];exact jm List.count_le_length (by rw [jB];exact jd _)
structure dU (a:Nat->Addr) (w:Yw):Prop where
 P:dl a w
 sum:∃es,w.cell? ⟨10,0,none⟩=some es
 gB:∃cs ty,w.heap[1]? = some (.cells cs ty (0,0))/\cI (.cells cs ty (0,0))=false
 gS:∃cs ty,w.heap[10]? = some (.cells cs ty (0,0))/\cI (.cells cs ty (0,0))=false
structure cq (w0:Yw) (N d dp tb bb sp sb cap mb m1 m2 j:Nat) (s:aV) (tr:List (Yo af)) (pt:List ab) (w:Yw):Prop where
 D:∃n1 fb,n1<=j/\aG w w0.heap.size dp tb mb m1 m2 n1 d tr fb
 T:∃n,n<=250*j/\am w (fun _=>False) w0.heap.size tb bb sp sb cap mb n s.bl s.u s.tab
 I:dD N (d+1) s tr pt
 few:pt.length<=j/\∀t∈pt,nk d t
 low:Bl w0 w
section
variable {a:Nat → Addr} {w0 W:Yw} {N d dp tb bb sp sb cap mb m1 m2 j:Nat} {s:aV} {tr:List (Yo af)} {pt:List ab}
theorem cq.below {W':Yw} (S:cq w0 N d dp tb bb sp sb cap mb m1 m2 j s tr pt W) (h:Bl W W'):cq w0 N d dp tb bb sp sb cap mb m1 m2 j s tr pt W':=by
 obtain ⟨⟨n1,fb,h1,D⟩,⟨n,h2,T⟩,I,f,b⟩:=S;exact ⟨⟨n1,fb,h1,D.below h⟩,⟨n,h2,T.below h⟩,I,f,b.trans (h.mono b.size)⟩
theorem cq.up {j':Nat} (S:cq w0 N d dp tb bb sp sb cap mb m1 m2 j s tr pt W) (h:j<=j'):cq w0 N d dp tb bb sp sb cap mb m1 m2 j' s tr pt W:=by
 obtain ⟨⟨n1,fb,h1,D⟩,⟨n,h2,T⟩,I,f,b⟩:=S;exact ⟨⟨n1,fb,by omega,D⟩,⟨n,by omega,T⟩,I,⟨by have:=f.1;omega,f.2⟩,b⟩
theorem cq.refs (S:cq w0 N d dp tb bb sp sb cap mb m1 m2 j s tr pt W) (hj:j<=160):(df (d+1) tr pt).length<=40000:=by
 have h1:=tw (D:=d+1) (M:=250) (tr:=tr) (pt:=pt) fun t ht=>(S.few.2 t ht).files;have h2:=S.few.1;have h3:250*pt.length<=250*160:=Nat.mul_le_mul_left _ (by omega);omega
theorem cq.sents (S:cq w0 N d dp tb bb sp sb cap mb m1 m2 j s tr pt W) (E:dU a w0):dl a W/\bY a W.heap.size W:=by
 have P:=E.P.below S.low;exact ⟨P,P.is.atB⟩
theorem cq.row (S:cq w0 N d dp tb bb sp sb cap mb m1 m2 j s tr pt W) {g:Nat} {o:Obj} (h:w0.heap[g]? = some o):W.heap[g]? = some o:=(S.low.block g (ja.1 h).1).trans h
theorem cq.cell (S:cq w0 N d dp tb bb sp sb cap mb m1 m2 j s tr pt W) {g:Nat} {v:Yv} (h:w0.cell? ⟨g,0,none⟩=some v):W.cell? ⟨g,0,none⟩=some v:=(S.low.cell (p:=⟨g,0,none⟩) (ji w0 _ h)).trans h

end
end
section
open Go.RowKit Go.Maps

theorem nT {w:Yw} {base:Nat} {e:TypeId} {size:Nat} {v:Yv} {n:Nat} {xs:List Yv} (h:w.ownsRow base e size v n xs) {g:Nat} (hg:v.ownBlock=some g):∃cur,w.heap[g]? = some (.cells cur e (0,0)):=by
 rcases h.2 with ⟨e1,_⟩|⟨b,cap,cur,e1,_,h1,_⟩
 ·rw [e1] at hg;cases hg
 ·rw [e1] at hg
  cases hg
  exact ⟨_,h1⟩
theorem mu {w:Yw} {base b2 size:Nat} {e:TypeId} {v:Yv} {n:Nat} {xs:List Yv} (h:w.ownsRow base e size v n xs) (hb:b2<=base):w.ownsRow b2 e size v n xs:=by
 refine ⟨h.1,?_⟩
 rcases h.2 with h0|⟨g,c,cur,h0,h1,h2⟩
 ·exact .inl h0
 ·exact .inr ⟨g,c,cur,h0,jm hb h1,h2⟩
theorem dz {w:Yw} {base size:Nat} {e:TypeId} {v:Yv} {n:Nat} {xs:List Yv} (h:w.ownsRow base e size v n xs):∃a c,v = .slice a n c:=by
 rcases h.2 with ⟨h0,h1⟩|⟨g,c,cur,h0,_⟩
 ·exact ⟨none,0,by rw [h0,h1]⟩
 ·exact ⟨_,_,h0⟩
section
variable {a:Nat → Addr} {w0 W W':Yw} {N d dp tb bb sp sb cap mb m1 m2 j:Nat} {s:aV} {tr:List (Yo af)} {pt:List ab}
theorem bH.keeps (h:bH w0.heap.size dp W W') (S:cq w0 N d dp tb bb sp sb cap mb m1 m2 j s tr pt W) {k:Nat} {cs:Array Yv} {e:TypeId} (hk:W.heap[k]? = some (.cells cs e (0,0))) (ht:ib (.cells cs e (0,0))=false) (he:¬e=143):W'.heap[k]? = some (.cells cs e (0,0)):=by
 refine h.block k _ hk (.inr ht) fun e'=>?_;subst e';obtain ⟨n1,fb,_,D⟩:=S.D;rw [D.box] at hk;simp only [jh,jL] at hk;exact he hk.2.1.symm
def gD (d:Nat) (t:ab):List Yb:=(ai d t).map (·.1)
theorem Gh (P:dl a W) {t:ab} {u:Yv} (hw:ao (d+1) t=none) (hs:nk d t) (hl:aJ W W.heap.size (d+1) t.kids u) :
  Cl 219 #[.agg #[.string t.kind,.string t.data,.bool t.exec,u]] W fun e w'=>∃v,e = .returned v/\w'.ownsRow W.heap.size 9 1 v (gD (d+1) t).length ((gD (d+1) t).map Value.string)/\Bl W w':=by
 have h:=CZ a (d+1) W.heap.size t u W P.is.atB (jd _) hl hs.alive (fun _=>vP _ _ (by have:=hs.few;simp;omega) hs.ok);rw [C1 (gW hw) hw] at h;exact h.mono fun e w' ⟨v,he,hr,hb⟩=>⟨v,he,mu hr (by omega),hb⟩
theorem AW {t:ab} (hf:Fit (d+1) t) (hw:ao (d+1) t=none) {y:Yb×ab} (hy:y∈ai (d+1) t):∃m,co y.1=some m:=by
 rw [ls (gW hw)] at hy;obtain ⟨x,hx,rfl⟩:=jv.1 hy;obtain ⟨_,_,h8,hn⟩:=pP hf hw hx;exact ⟨_,kV h8 hn⟩
theorem vS {fs:List (Yb×Nat)} (h:(fs.map (·.1)).Nodup) {p:Yb} {q r:Nat}:(p,q)∈fs->(p,r)∈fs->q=r:=by
 induction fs with
 | nil=>intro h;cases h
 | cons x fs ih =>
  rw [jH,yj] at h;intro h1 h2
  rcases jN.1 h1 with rfl|h1'
  ·rcases jN.1 h2 with e|h2'
   ·cases e;rfl
   ·exact absurd (jv.2 ⟨_,h2',rfl⟩) h.1
  ·rcases jN.1 h2 with rfl|h2'
   ·exact absurd (jv.2 ⟨_,h1',rfl⟩) h.1
   ·exact ih h.2 h1' h2'
theorem dD.ino (I:dD N (d+1) s tr pt) {k:Nat} {x:af} (hx:aO tr (k:Int)=some x) {t:ab} (ht:pt[k]? = some t) {i:Nat} {p:Yb} (hp:(gD (d+1) t)[i]? = some p):∃q,(x.fs.map (·.2))[i]? = some q/\ij tr (k:Int) p = .ok q/\aH x.fs p=some q/\∃y,aj s.tab q=some y:=by
 obtain ⟨t',ht',hw,hf,hxt,hfs⟩:=I.tree k x hx;rw [ht] at ht';cases ht'
 have hmem:=hp;unfold gD at hmem;rw [jx] at hmem
 cases hy:(ai (d+1) t)[i]? with
 | none=>rw [hy] at hmem;cases hmem
 | some y =>
  rw [hy] at hmem;simp only [qE,jh] at hmem;subst hmem;obtain ⟨q,k1,k2,_⟩:=I.files hx ht y (jg hy);have hnd:(x.fs.map (·.1)).Nodup:=by rw [hfs];exact fR hf (gW hw) hw
  have hi:(x.fs.map (·.1))[i]? = some y.1:=(by rw [hfs];exact hp);rw [jx] at hi
  cases hz:x.fs[i]? with
  | none=>rw [hz] at hi;cases hi
  | some z =>
   rw [hz] at hi;simp only [qE,jh] at hi;have hm1:=dC x.fs k1;have hm2:=jg hz;have e:z.2=q:=vS hnd (p:=y.1) (by rw [<-hi];exact hm2) hm1;refine ⟨q,by rw [jx,hz,qE,e],?_,k1,_,k2⟩;obtain ⟨m,hm⟩:=AW hf hw (jg hy);unfold ij;rw [hx];simp only [hm];rw [zi (by simp),k1]
end
def vT (tr:List (Yo af)) (k:Nat):List Nat:=match aO tr (k:Int) with
 | some x=>x.fs.map (·.2)
 | none=>[]
def KY:Yo af->List Nat
 | some x=>x.fs.map (·.2)
 | none=>[]
theorem oZ {tr:List (Yo af)} {o:Yo af} {k:Nat} (h:k<tr.length):aO (tr ++ [o]) (k:Int)=aO tr (k:Int):=by
 rw [cH,cH,jD h]
theorem ma {tr:List (Yo af)} {o:Yo af}:aO (tr ++ [o]) (tr.length:Int)=o:=by
 rw [cH];simp
theorem C8 (tr:List (Yo af)) (o:Yo af):b9 (tr ++ [o])=b9 tr++(if o.isSome then [tr.length] else []):=by
 unfold b9;rw [jt,j7,qJ,yy]
 congr 1
 ·exact List.filter_congr fun k hk=>by rw [oZ (qR.1 hk)]
 ·cases o with
  | none=>rw [qM (by rw [ma];simp)];rfl
  | some x=>rw [qL (by rw [ma];rfl)];rfl
theorem vU (tr:List (Yo af)):(b9 tr).flatMap (vT tr)=tr.flatMap KY:=by
 refine fN (P:=fun tr=>(b9 tr).flatMap (vT tr)=tr.flatMap KY) rfl (fun tr o ih=>?_) tr.length tr rfl;rw [C8,qp,qp,<-ih]
 congr 1
 ·rw [qr,qr]
  congr 1
  refine jQ fun k hk=>?_;obtain ⟨x,hx⟩:=mQ.1 hk;have hlt:k<tr.length:=(jb.1 (mt hx)).1;unfold vT;rw [oZ hlt]
 ·cases o with
  | none=>rfl
  | some x =>
   simp only [Option.isSome_some,if_true,jZ,List.flatMap_nil,qz];unfold vT;rw [ma];rfl
theorem sB {D:Nat}:∀ {tr:List (Yo af)} {pt:List ab},tr.length=pt.length->(∀(k:Nat) (x:af) (t:ab),tr[k]? = some (some x)->pt[k]? = some t->x.fs.length=(ai D t).length)->(df D tr pt).map (·.1)=tr.flatMap KY
 | [],_,_,_=>by simp [df]
 | _ :: _,[],h,_=>by simp at h
 | o :: tr,t :: pt,hl,h=>by
  have ih:=sB (tr:=tr) (pt:=pt) (by simpa using hl) fun k x t' h1 h2=>h (k+1) x t' (by simpa using h1) (by simpa using h2);have e:df D (o :: tr) (t :: pt)=fi D o t++df D tr pt:=rfl;rw [e,jR,ih,jZ]
  congr 1
  cases o with
  | none=>rfl
  | some x=>exact mT (h 0 x t rfl rfl)
end
section
open Go.RowKit Go.Maps
theorem kG {w w':Yw} {base:Nat} {e:TypeId} {size:Nat} {v:Yv} {n:Nat} {xs:List Yv} (h:w.ownsRow base e size v n xs) (hb:Bl w w'):w'.ownsRow base e size v n xs:=aI h fun k hk=>hb.block k (h.lt k hk).2
end
section
open Go.RowKit Go.Maps
theorem bK.at {w:Yw} {B:Nat} {v:Yv} {l:List Nat} (h:bK w B v l) {i k:Nat} (hk:l[i]? = some k):∃g cp,v = .slice (some ⟨g,0,none⟩) l.length cp/\B<=g/\g<w.heap.size/\w.cell? ⟨g,i,none⟩=some (.int .i64 (k:Int)):=by
 have h':w.ownsRow B 3 1 v l.length ((aF l).map (Value.int .i64)):=h;have hi:=(jb.1 hk).1
 rcases h'.2 with ⟨_,e0⟩|⟨g,cp,cur,e,_⟩
 ·omega
 ·have hcs:=h'.cells (g:=g) (by rw [e];rfl)
  have c:=hcs i (.int .i64 (k:Int)) (by unfold aF;rw [jx,jx,hk];rfl);have hadd:∀j,(⟨g,0,none⟩:Addr).add j=⟨g,j,none⟩:=fun j=>by unfold Addr.add;split <;> simp_all
  rw [hadd] at c;have hlt:=h'.lt g (by rw [e];rfl);exact ⟨g,cp,e,hlt.1,hlt.2,c⟩
theorem bK.below {w w':Yw} {B:Nat} {v:Yv} {l:List Nat} (h:bK w B v l) (hb:Bl w w'):bK w' B v l:=kG (w:=w) (e:=3) (size:=1) h hb
theorem bK.form {w:Yw} {B:Nat} {v:Yv} {l:List Nat} (h:bK w B v l):∃a c,v = .slice a l.length c:=dz (w:=w) (e:=3) (size:=1) h
theorem Jm {w:Yw} {B:Nat} {v:Yv} {l:List Yb} (h:w.ownsRow B 9 1 v l.length (l.map Value.string)) {i:Nat} {p:Yb} (hk:l[i]? = some p):∃g cp,v = .slice (some ⟨g,0,none⟩) l.length cp/\w.cell? ⟨g,i,none⟩=some (.string p):=by
 have hi:=(jb.1 hk).1
 rcases h.2 with ⟨_,e0⟩|⟨g,cp,cur,e,_⟩
 ·omega
 ·have hcs:=h.cells (g:=g) (by rw [e];rfl)
  have c:=hcs i (.string p) (by rw [jx,hk];rfl);have hadd:∀j,(⟨g,0,none⟩:Addr).add j=⟨g,j,none⟩:=fun j=>by unfold Addr.add;split <;> simp_all
  rw [hadd] at c;exact ⟨g,cp,e,c⟩
theorem below_grow {B base size n:Nat} {e:TypeId} {w W W':Yw} {v:Yv} {xs:List Yv} (hb:Below B w W) (hB:B<=w.heap.size) (h:W.ownsRow base e size v n xs) (hle:B<=base) (hg:W.grownBy W' v.ownBlock):Below B w W' :=
 ⟨hg.os.trans hb.os,hg.tape.trans hb.tape,hg.output.trans hb.output,jm hb.size hg.size,fun k hk=>by
  rw [<-hb.block k hk];refine hg.block k (jn (jn hk hB) hb.size) fun e=>?_
  have:=(h.lt k e.symm).1
  omega⟩
theorem C9 {b1 b2 s1 s2 n1 n2:Nat} {e1 e2:TypeId} {W W':Yw} {v1 v2:Yv} {x1 x2:List Yv} (h1:W.ownsRow b1 e1 s1 v1 n1 x1) (h2:W.ownsRow b2 e2 s2 v2 n2 x2) (hne:¬e1=e2) (hg:W.grownBy W' v1.ownBlock):W'.ownsRow b2 e2 s2 v2 n2 x2:=by
 refine aI h2 fun k hk=>?_;refine hg.block k (h2.lt k hk).2 fun e=>?_;obtain ⟨c1,hc1⟩:=nT h1 e.symm;obtain ⟨c2,hc2⟩:=nT h2 hk;rw [hc1] at hc2;simp only [jh,jL] at hc2;exact hne hc2.2.1
theorem tz {w0 W:Yw} {N d dp tb bb sp sb cap mb m1 m2 j:Nat} {s:aV} {tr:List (Yo af)} {pt:List ab} (S:cq w0 N d dp tb bb sp sb cap mb m1 m2 j s tr pt W) (hj:j<=150):((b9 tr).flatMap (vT tr)).length<=40000:=by
 rw [vU,<-sB S.I.len (D:=d+1) fun k x t h1 h2=>?_]
 ·rw [jB];exact S.refs (by omega)
 ·obtain ⟨t',ht',_,_,_,hfs⟩:=S.I.tree k x (by rw [cH,h1];rfl)
  rw [h2] at ht';cases ht'
  have:=congrArg List.length hfs
  simpa using this
theorem rB {α:Type} {f:Nat->List α}:∀ {l:List Nat} {i k:Nat},l[i]? = some k->(l.take (i+1)).flatMap f=(l.take i).flatMap f++f k
 | [],_,_,h=>by simp at h
 | x :: l,0,k,h=>by simp at h;subst h;simp
 | x :: l,i+1,k,h=>by
  have ih:=rB (f:=f) (l:=l) (i:=i) (k:=k) (by simpa using h);simp only [ye,jZ,jK] at ih ⊢;rw [ih]
theorem nU {α:Type} {f:Nat->List α}:∀ {l:List Nat} {i k m:Nat},l[i]? = some k->((l.take i).flatMap f++(f k).take m).length<=(l.flatMap f).length
 | [],_,_,_,h=>by simp at h
 | x :: l,0,k,m,h=>by
  simp at h;subst h;simp only [qY,List.flatMap_nil,qq,jZ,jt,js];omega
 | x :: l,i+1,k,m,h=>by
  have ih:=nU (f:=f) (l:=l) (i:=i) (k:=k) (m:=m) (by simpa using h);simp only [ye,jZ,jK,jt] at ih ⊢;omega
theorem kj {α:Type} {l:List α} {i:Nat} {x:α} (h:l[i]? = some x):l.take (i+1)=l.take i ++ [x]:=by
 obtain ⟨hk,e⟩:=jb.1 h;rw [ju hk,e]
end
end Go.Proofs.YtaaimbpnogkngaaGreatDoor
