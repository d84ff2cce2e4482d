/- De Leafs Df ImC DkD ImW DkS, joined. Conditions: as each states. -/
import Derived.Test.YtaaimbpnogkngaaGreatDoorQ05
import Derived.Outline
import Derived.WalkLawsBesides
import Derived.WalkSpells
import Derived.Lib.BufferWrite
namespace Go.Proofs.YtaaimbpnogkngaaGreatDoor
set_option maxHeartbeats 2000000
set_option maxRecDepth 100000
section
open Go.RowKit

structure dA (w:Yw) (b o:Nat) (t:ab) (u:Yv):Prop where
 kind:w.cell? ⟨b,o,none⟩=some (.string t.kind)
 data:w.cell? ⟨b,o+1,none⟩=some (.string t.data)
 exec:w.cell? ⟨b,o+2,none⟩=some (.bool t.exec)
 kids:w.cell? ⟨b,o+3,none⟩=some u
theorem dA.same {w w':Yw} {b o:Nat} {t:ab} {u:Yv} (h:dA w b o t u) (hc:∀j,o<=j->j<o+4->w'.cell? ⟨b,j,none⟩=w.cell? ⟨b,j,none⟩):dA w' b o t u :=
 ⟨by rw [hc o (by omega) (by omega)];exact h.kind,by rw [hc (o+1) (by omega) (by omega)];exact h.data,by rw [hc (o+2) (by omega) (by omega)];exact h.exec,by rw [hc (o+3) (by omega) (by omega)];exact h.kids⟩
def An (w:Yw) (b:Nat) (cur:Array Yv):Prop:=w.heap[b]? = some (.cells cur 40 (0,0))∨w.heap[b]? = some (.cells cur 85 (0,0))
def cI:Obj->Bool
 | .cells _ t _=>t==40||t==85
 | _=>false
def bv (w:Yw):(Nat->Prop)->Nat->Nat->Nat->ab->Prop
 | _,0,_,_,_=>False
 | Q,d+1,b,o,t=>∃ad cap,dA w b o t (.slice ad t.kids.length cap)/\t.kids.length<=1759218604390/\t.kids.length<=cap/\(t.kids≠[]->∃(g:Nat) (cur:Array Yv) (Qs:Nat->Nat->Prop),ad=some ⟨g,0,none⟩/\Q g/\w.heap[g]? = some (.cells cur 85 (0,0))/\t.kids.length*5<=cur.size /\
   (∀i x,t.kids[i]? = some x->x.1.size<=140737488355328/\w.cell? ⟨g,i*5,none⟩=some (.string x.1)/\bv w (Qs i) d g (i*5+1) x.2)/\(∀i k,Qs i k->Q k/\k≠g)/\∀i j k,i≠j->Qs i k->¬Qs j k)
theorem bv.kept {w w':Yw}:∀ {d:Nat} {Q Q':Nat->Prop} {b o:Nat} {t:ab},bv w Q d b o t->(∀k cur,Q k->w.heap[k]? = some (.cells cur 85 (0,0))->w'.heap[k]? = some (.cells cur 85 (0,0)))->(∀j,o<=j->j<o+4->w'.cell? ⟨b,j,none⟩=w.cell? ⟨b,j,none⟩)->(∀k,Q k->Q' k)->bv w' Q' d b o t
 | 0,_,_,_,_,_,h,_,_,_=>h
 | d+1,Q,Q',b,o,t,⟨ad,cap,hn,hl,hlc,hk⟩,hq,hc,hqq=>⟨ad,cap,hn.same hc,hl,hlc,fun hne=>by
  obtain ⟨g,cur,Qs,e,hg,hr,hs,hi,hsub,hdis⟩:=hk hne;have hr':=hq g cur hg hr;have hcell:∀j,w'.cell? ⟨g,j,none⟩=w.cell? ⟨g,j,none⟩:=fun j=>jl (by rw [hr,hr']);refine ⟨g,cur,Qs,e,hqq g hg,hr',hs,fun i x hx=>?_,fun i k h=>⟨hqq k (hsub i k h).1,(hsub i k h).2⟩,hdis⟩;obtain ⟨h1,h2,h3⟩:=hi i x hx;exact ⟨h1,by rw [hcell];exact h2,bv.kept h3 (fun k cur hk hr=>hq k cur (hsub i k hk).1 hr) (fun j _ _=>hcell j) (fun _ h=>h)⟩⟩
theorem bv.of_own {w:Yw}:∀ {d:Nat} {Q:Nat->Prop} {b o:Nat} {t:ab} {u:Yv},bp w Q d t.kids u->dA w b o t u->bv w Q d b o t
 | 0,_,_,_,_,_,h,_=>h
 | d+1,Q,b,o,t,u,⟨h1,h2,us,Qs,h3,h4,h5,h6,h7,h8⟩,hn=>by
  rcases h4.2 with ⟨rfl,h0⟩|⟨g,cap,cur,rfl,_,hr,hlc,_,hsz,_⟩
  ·exact ⟨none,0,by rw [h0];exact hn,h1,by omega,fun hne=>absurd (qf h0) hne⟩
  ·refine ⟨some ⟨g,0,none⟩,cap,hn,h1,hlc,fun _=>⟨g,cur,Qs,rfl,h5 g rfl,hr,by rw [hsz];exact Nat.mul_le_mul_right _ hlc,fun i x hx=>?_,fun i k hk=>⟨(h7 i k hk).1,fun e=>(h7 i k hk).2 (by rw [e];rfl)⟩,h8⟩⟩
   have hi:=(jb.1 hx).1;obtain ⟨uu,hu⟩:∃uu,us[i]? = some uu:=⟨_,jc (by rw [h3];exact hi)⟩;have hc:=h4.cells (g:=g) rfl;have hadd:∀j,(⟨g,0,none⟩:Addr).add j=⟨g,j,none⟩:=fun j=>by unfold Addr.add;split <;> simp_all
   obtain ⟨a0,a1,a2,a3,a4⟩:=lZ hx hu;have c0:=hc _ _ a0;have c1:=hc _ _ a1;have c2:=hc _ _ a2;have c3:=hc _ _ a3;have c4:=hc _ _ a4;rw [hadd] at c0 c1 c2 c3 c4;exact ⟨h2 x (jg hx),c0,bv.of_own (h6 i x uu hx hu) ⟨c1,c2,c3,c4⟩⟩
theorem bv.lies {w:Yw} {B:Nat}:∀ {d:Nat} {Q:Nat->Prop} {b o:Nat} {t:ab},bv w Q d b o t->(∀k,Q k->k<B)->∃u,dA w b o t u/\aJ w B d t.kids u
 | 0,_,_,_,_,h,_=>h.elim
 | d+1,Q,b,o,t,⟨ad,cap,hn,hl,hlc,hk⟩,hB=>by
  refine ⟨_,hn,ad,cap,rfl,hl,fun i x hx=>?_⟩;obtain ⟨g,cur,Qs,e,hg,hr,hs,hi,hsub,hdis⟩:=hk (fun h0=>by rw [h0] at hx;simp at hx);obtain ⟨h1,h2,h3⟩:=hi i x hx;obtain ⟨u,hc,hl3⟩:=bv.lies h3 (fun k hk=>hB k (hsub i k hk).1);refine ⟨g,0,u,e,hB g hg,h1,?_⟩;simp only [j6];exact ⟨h2,hc.kind,hc.data,hc.exec,hc.kids,hl3⟩
structure be (Q:Nat->Prop) (b o:Nat) (w w':Yw):Prop where
 tre:∀k obj,w.heap[k]? = some obj->cI obj=true->k≠b->¬Q k->w'.heap[k]? = some obj
 blk:∀cur ty,w.heap[b]? = some (.cells cur ty (0,0))->∃cur',w'.heap[b]? = some (.cells cur' ty (0,0))/\cur'.size=cur.size/\∀j,(j<o∨o+4<=j)->cur'[j]? = cur[j]?
theorem be.refl (Q:Nat->Prop) (b o:Nat) (w:Yw):be Q b o w w:=⟨fun _ _ h _ _ _=>h,fun cur _ h=>⟨cur,h,rfl,fun _ _=>rfl⟩⟩
theorem be.trans {Q:Nat->Prop} {b o:Nat} {w1 w2 w3:Yw} (h:be Q b o w1 w2) (h':be Q b o w2 w3):be Q b o w1 w3 :=
 ⟨fun k obj hk ht hb hq=>h'.tre k obj (h.tre k obj hk ht hb hq) ht hb hq,fun cur ty hr=>by
  obtain ⟨c1,r1,s1,e1⟩:=h.blk cur ty hr;obtain ⟨c2,r2,s2,e2⟩:=h'.blk c1 ty r1;exact ⟨c2,r2,s2.trans s1,fun j hj=>(e2 j hj).trans (e1 j hj)⟩⟩
theorem be.of_eq {Q:Nat->Prop} {b o:Nat} {w w':Yw} (h:w'.heap=w.heap):be Q b o w w':=⟨fun _ _ hk _ _ _=>by rw [h];exact hk,fun cur _ hr=>⟨cur,by rw [h];exact hr,rfl,fun _ _=>rfl⟩⟩
theorem be.kid {Q Q':Nat->Prop} {b o g o':Nat} {w w':Yw} (h:be Q' g o' w w') (hg:Q g) (hsub:∀k,Q' k->Q k) (hb:¬Q b) (hr:∃cur,An w b cur):be Q b o w w':=by
 obtain ⟨cur,hr⟩:=hr;have hbg:b≠g:=fun e=>hb (by rw [e];exact hg);refine ⟨fun k obj hk ht _ hq=>h.tre k obj hk ht (fun e=>hq (by rw [e];exact hg)) (fun h'=>hq (hsub k h')),fun c ty hc=>?_⟩;refine ⟨c,h.tre b _ hc ?_ hbg (fun h'=>hb (hsub b h')),rfl,fun _ _=>rfl⟩
 rcases hr with hr|hr <;> rw [hr] at hc <;> cases hc <;> rfl
theorem be.cell {Q:Nat->Prop} {b o:Nat} {w w':Yw} (h:be Q b o w w') {cur:Array Yv} {ty:TypeId} (hr:w.heap[b]? = some (.cells cur ty (0,0))) {j:Nat} (hj:j<o∨o+4<=j):w'.cell? ⟨b,j,none⟩=w.cell? ⟨b,j,none⟩:=by
 obtain ⟨c1,r1,_,e1⟩:=h.blk cur ty hr;rw [ze _ _ _ _ _ _ hr,ze _ _ _ _ _ _ r1,e1 j hj]
def ic (p:Yb):Yb:=if p.toList.isEmpty then az else p
def bG:Nat->Yb->ab->List (Yb×ab)
 | 0,_,_=>[]
 | d+1,p,t=>if aT t=true then [(ic p,t)] else t.kids.flatMap fun x=>bG d (p++az++x.1) x.2
def bC (g:Yb->ab->ab):Nat->Yb->ab->ab
 | 0,_,t=>t
 | d+1,p,t=>if aT t=true then g (ic p) t else { t with kids:=t.kids.map fun x=>(x.1,bC g d (p++az++x.1) x.2) }
def dq:Nat->ab->Prop
 | 0,_=>True
 | d+1,t=>(aT t=true->t.kids = [])/\∀x∈t.kids,x.1.size<=12/\dq d x.2
def eT (g:Yb->ab->ab) (d:Nat) (p:Yb) (ks:List (Yb×ab)) (gb:Nat) (Qs:Nat->Nat->Prop) (j:Nat) (w:Yw):Prop :=
 ∃cur,w.heap[gb]? = some (.cells cur 85 (0,0))/\ks.length*5<=cur.size/\∀i x,ks[i]? = some x->x.1.size<=140737488355328/\w.cell? ⟨gb,i*5,none⟩=some (.string x.1)/\bv w (Qs i) d gb (i*5+1) (if i<j then bC g d (p++az++x.1) x.2 else x.2)
theorem eT.drew {g:Yb->ab->ab} {d:Nat} {p:Yb} {ks:List (Yb×ab)} {gb:Nat} {Qs:Nat->Nat->Prop} {j:Nat} {w:Yw} (K:eT g d p ks gb Qs j w):eT g d p ks gb Qs j w.drew:=by
 obtain ⟨cur,h1,h2,h3⟩:=K;exact ⟨cur,h1,h2,fun i x hx=>⟨(h3 i x hx).1,(h3 i x hx).2.1,(h3 i x hx).2.2.kept (fun _ _ _ h=>h) (fun _ _ _=>rfl) (fun _ h=>h)⟩⟩
theorem eT.next {g:Yb->ab->ab} {d:Nat} {p:Yb} {ks:List (Yb×ab)} {gb:Nat} {Qs:Nat->Nat->Prop} {j:Nat} {w w':Yw} {x:Yb×ab} (K:eT g d p ks gb Qs j w) (hx:ks[j]? = some x) (hT:bv w' (Qs j) d gb (j*5+1) (bC g d (p++az++x.1) x.2)) (hF:be (Qs j) gb (j*5+1) w w') (hsub:∀i k,Qs i k->k≠gb) (hdis:∀i j k,i≠j->Qs i k->¬Qs j k):eT g d p ks gb Qs (j+1) w':=by
 obtain ⟨cur,h1,h2,h3⟩:=K;obtain ⟨c1,r1,s1,_⟩:=hF.blk cur _ h1;refine ⟨c1,r1,by rw [s1];exact h2,fun i y hy=>?_⟩;obtain ⟨a1,a2,a3⟩:=h3 i y hy;refine ⟨a1,?_,?_⟩
 ·rw [hF.cell h1 (j:=i*5) (by omega)];exact a2
 ·by_cases e:i=j
  ·subst e
   rw [hx] at hy;cases hy;rw [zj (by omega)];exact hT
  ·have e2:(if i<j+1 then bC g d (p++az++y.1) y.2 else y.2)=(if i<j then bC g d (p++az++y.1) y.2 else y.2):=by
    by_cases h:i<j
    ·rw [zj h,zj (by omega)]
    ·rw [zi h,zi (by omega)]
   rw [e2];exact a3.kept (fun k c hk hr=>hF.tre k _ hr rfl (hsub i k hk) (hdis i j k e hk)) (fun q h1' h2'=>hF.cell h1 (by omega)) (fun _ h=>h)
theorem eT.all {g:Yb->ab->ab} {d:Nat} {p:Yb} {t:ab} {gb b o cap:Nat} {Q:Nat->Prop} {Qs:Nat->Nat->Prop} {w:Yw} (K:eT g d p t.kids gb Qs t.kids.length w) (hn:dA w b o t (.slice (some ⟨gb,0,none⟩) t.kids.length cap)) (hl:t.kids.length<=1759218604390) (hlc:t.kids.length<=cap) (hg:Q gb) (hsub:∀i k,Qs i k->Q k/\k≠gb) (hdis:∀i j k,i≠j->Qs i k->¬Qs j k) (hf:aT t=false):bv w Q (d+1) b o (bC g (d+1) p t):=by
 have e:bC g (d+1) p t = { t with kids:=t.kids.map fun x=>(x.1,bC g d (p++az++x.1) x.2) }:=by rw [bC,zi (by rw [hf];simp)]
 obtain ⟨cur,h1,h2,h3⟩:=K;rw [e];refine ⟨some ⟨gb,0,none⟩,cap,?_,by simpa using hl,by simpa using hlc,fun _=>⟨gb,cur,Qs,rfl,hg,h1,by simpa using h2,fun i y hy=>?_,hsub,hdis⟩⟩
 ·simp only [jB]
  exact ⟨hn.kind,hn.data,hn.exec,hn.kids⟩
 ·simp only [jx,qP] at hy
  obtain ⟨x,hx,rfl⟩:=hy;obtain ⟨a1,a2,a3⟩:=h3 i x hx;rw [zj (jb.1 hx).1] at a3;exact ⟨a1,a2,a3⟩
structure q7 (P:Program) (f:FuncId) (cp:Array Yv) (tS:TypeId) (g:Yb->ab->ab) (J:List (Yb×ab)->Yw->Prop) (E:Yv->Yw->Prop) (B0:Nat):Prop where
 drew:∀r w,J r w->J r w.drew
 call:∀p t r w b o ad cap cur,J ((p,t) :: r) w->dA w b o t (.slice ad 0 cap)->An w b cur->o+4<=cur.size->aT t=true->t.kids = []->B0<=b ->
  Calls P f (#[.string p,.pointer (some ⟨b,o,none⟩)]++cp) w fun e w'=>(e = .returned .nilIface/\J r w'/\(∃ad' cap',dA w' b o (g p t) (.slice ad' 0 cap'))/\(g p t).kids = []/\be (fun _=>False) b o w w')∨(∃er,e = .returned (.iface tS er)/\E (.iface tS er) w')
def uT (tS:TypeId) (Q:Nat->Prop) (d b o:Nat) (t':ab) (r:List (Yb×ab)) (J:List (Yb×ab)->Yw->Prop) (E:Yv->Yw->Prop) (w:Yw) (e:Ending) (w':Yw):Prop :=
 (e = .returned .nilIface/\J r w'/\bv w' Q d b o t'/\be Q b o w w')∨(∃er,e = .returned (.iface tS er)/\E (.iface tS er) w')
end
section
open Go.RowKit

theorem bJ {a b:Bool} (h:a=b):Ending.returned (.bool a) = .returned (.bool b):=by rw [h]

theorem ig (c:Int) (w:Yw):Cl 133 #[.int .u8 c] w fun e w'=>e = .returned (.bool (nb c))/\w'=w:=by
 go_enter Tryz.func133,Tryz.ntmps133
 go_wp2
 all_goals (go_ret;refine ⟨bJ ?_,rfl⟩)
 all_goals (unfold nb;rw [Bool.eq_iff_iff];simp;try omega)

theorem gL (s:Yb) (w:Yw) (hs:s.size<=maxLen):Cl 92 #[.string s] w fun e w'=>e = .returned (.bool (aB s))/\w'=w:=by
 unfold maxLen at hs;by_cases hg:(1<=s.size/\s.size<=12)/\(s.toList == [46])=false/\(s.toList == [46,46])=false
 ·obtain ⟨⟨h1,h2⟩,h3,h4⟩:=hg
  have HE:=kH (Cm h1 h2 h3 h4);go_enter Tryz.func92,Tryz.ntmps92;go_wp2_with fail
  go_loop [22] (fun i=>∃k:Nat,k<=s.size/\i = .int .i64 k/\(s.data.toList.take k).all (fun c=>nb (c.toNat:Int))=true) (fun i=>s.size-(intOf i).toNat)
  case atStart=>exact ⟨0,jq _,rfl,by simp⟩
  case round =>
   obtain ⟨k,hk,rfl,hall⟩:=hrel;have HA:=kH hall;clear hall;by_cases hlt:k<s.size
   ·have HS:=pF (p:=fun c=>nb (c.toNat:Int)) s k hlt
    have HS:Hid _:=HS;cases hc:nb (s[k].toNat:Int)
    ·have HM:Hid (s.data.toList.all (fun c=>nb (c.toNat:Int))=false):=vl (p:=fun c=>nb (c.toNat:Int)) s k hlt hc
     go_wp2_with fail
     refine (ig _ _).mono ?_;rintro e w' ⟨rfl,rfl⟩;go_wp2_with fail
     go_ret;exact ⟨bJ (by rw [HE.out,HM.out]),rfl⟩
    ·have HC:=kH hc
     go_wp2_with fail
     refine (ig _ _).mono ?_;rintro e w' ⟨rfl,rfl⟩;go_wp2_with fail
     go_round
     case rel=>exact ⟨k+1,by omega,by go_num,by rw [HS.out,HA.out];exact HC.out⟩
     case measure=>simp [intOf];omega
   ·have ek:k=s.size:=by omega
    have HB:Hid (s.data.toList.all (fun c=>nb (c.toNat:Int))=true):=by
     have:=HA.out
     rw [ek,sT] at this;exact this
    clear ek;go_wp2_with fail
    go_ret;exact ⟨bJ (by rw [HE.out,HB.out]),rfl⟩
 ·have HE:=kH (FD hg)
  go_enter Tryz.func92,Tryz.ntmps92;go_wp2_with fail
  all_goals first
   | (go_ret;exact ⟨bJ HE.out.symm,rfl⟩)
   | (exfalso;apply hg;refine ⟨⟨by omega,by omega⟩,?_,?_⟩ <;> simp_all)
end
section
open Go.RowKit

theorem pG {g:Yb->ab->ab} {J:List (Yb×ab)->Yw->Prop} {E:Yv->Yw->Prop} {B0:Nat} {cl:FuncId} (eg:∀args w,(callFunc cl args).run Tryz.prog w = .ok (.enter cl args) w) (cp:Array Yv) (V:q7 Tryz.prog cl cp 378 g J E B0):∀(d:Nat) (t:ab) (p:Yb) (b o:Nat) (Q:Nat->Prop) (r:List (Yb×ab)) (w:Yw) (cur:Array Yv),J (bG d p t++r) w->bv w Q d b o t->An w b cur->o+4<=cur.size->¬Q b->dq d t->p.size+d*20<=100000->(∀q,Q q->B0<=q)->B0<=b ->
  Cl 129 #[.pointer (some ⟨b,o,none⟩),.string p,.func (.func cl) #[] cp] w (uT 378 Q d b o (bC g d p t) r J E w):=by
 intro d
 induction d with
 | zero=>intro t p b o Q r w cur _ h;exact h.elim
 | succ d ih =>
  intro t p b o Q r w cur hJ hT hR hRs hQb hG hp hQ0 hb0;obtain ⟨ad,cap,hn,hl,hlc,hk⟩:=hT;have n0:=hn.kind;have n3:=hn.kids
  cases hf:aT t with
  | true =>
   have hk0:t.kids = []:=hG.1 hf;have kf:(t.kind.toList == [102,105,108,101])=true:=hf;have e1:bG (d+1) p t = [(ic p,t)]:=(by rw [bG,zj hf]);have e2:bC g (d+1) p t=g (ic p) t:=(by rw [bC,zj hf]);rw [e1] at hJ;rw [e2];rw [hk0] at hn;have hv:=V.call (ic p) t r w b o ad cap cur hJ hn hR hRs hf hk0 hb0
   have HFIN:Hid (∀w',((∃ad' cap',dA w' b o (g (ic p) t) (.slice ad' 0 cap'))/\(g (ic p) t).kids = []/\be (fun _=>False) b o w w')->bv w' Q (d+1) b o (g (ic p) t)/\be Q b o w w'):=fun w' ⟨⟨ad',cap',hn'⟩,hk',hF⟩=>by
    refine ⟨⟨ad',cap',by rw [hk'];exact hn',by rw [hk'];simp,by rw [hk'];exact jq _,fun hne=>absurd hk' hne⟩,⟨fun k obj h1 h2 h3 _=>hF.tre k obj h1 h2 h3 (fun h=>h),hF.blk⟩⟩
   have HV:=kH hv;clear hv ih hJ hn hk hG hf e1 e2 hk0 hQ0 hb0
   cases hpe:p.toList.isEmpty with
   | true =>
    have et:ic p=az:=(by unfold ic;rw [hpe];rfl);rw [et] at HV HFIN ⊢;go_enter Tryz.func129,Tryz.ntmps129;go_wp2_with fail
    refine jk HV.out ?_;rintro e w2 hpost
    rcases hpost with ⟨rfl,hJ2,hT2⟩|⟨er,rfl,hE2⟩
    ·go_wp2_with fail
     go_ret;exact .inl ⟨rfl,hJ2,HFIN.out w2 hT2⟩
    ·go_wp2_with fail
     go_ret;exact .inr ⟨er,rfl,hE2⟩
   | false =>
    have et:ic p=p:=(by unfold ic;rw [hpe];rfl);rw [et] at HV HFIN ⊢;go_enter Tryz.func129,Tryz.ntmps129;go_wp2_with fail
    refine jk HV.out ?_;rintro e w2 hpost
    rcases hpost with ⟨rfl,hJ2,hT2⟩|⟨er,rfl,hE2⟩
    ·go_wp2_with fail
     go_ret;exact .inl ⟨rfl,hJ2,HFIN.out w2 hT2⟩
    ·go_wp2_with fail
     go_ret;exact .inr ⟨er,rfl,hE2⟩
  | false =>
   have kf:(t.kind.toList == [102,105,108,101])=false:=hf;have e1:bG (d+1) p t=t.kids.flatMap fun x=>bG d (p++az++x.1) x.2:=(by rw [bG,zi (by rw [hf];simp)]);rw [e1] at hJ;by_cases hk0:t.kids = []
   ·have HFIN:Hid (uT 378 Q (d+1) b o (bC g (d+1) p t) r J E w (.returned .nilIface) w):=by
     have e2:bC g (d+1) p t=t:=by
      rw [bC,zi (by rw [hf];simp),hk0];cases t;simp only at hk0;subst hk0;rfl
     rw [e2];refine .inl ⟨rfl,?_,⟨ad,cap,hn,hl,hlc,hk⟩,be.refl _ _ _ _⟩;rw [hk0] at hJ;exact hJ
    rw [hk0] at n3;clear hJ hn hk hG hf e1 ih hk0 hl hQ0 hb0;go_enter Tryz.func129,Tryz.ntmps129;go_wp2_with fail
    go_loopw [26] (fun i wr=>i = .int .i64 0/\wr=w) (fun _ _=>0)
    case atStart=>exact ⟨rfl,rfl⟩
    case round =>
     obtain ⟨rfl,rfl⟩:=hrel;go_wp2_with fail
     go_ret;exact HFIN.out
   ·obtain ⟨gb,cur0,Qs,rfl,hg,hr0,hs0,hi0,hsub,hdis⟩:=hk hk0
    have HSUB:=kH hsub;have HDIS:=kH hdis;have hgb:¬b=gb:=fun e=>hQb (by rw [e];exact hg);have HEND:Hid (∀wr,eT g d p t.kids gb Qs t.kids.length wr->wr.heap[b]? = w.heap[b]? -> bv wr Q (d+1) b o (bC g (d+1) p t)):=fun wr hK hb=>hK.all (hn.same fun q _ _=>jl hb) hl hlc hg hsub hdis hf;have HFR0:Hid (∀(wr w':Yw) (j:Nat),wr.heap[b]? = w.heap[b]? -> be Q b o w wr->be (Qs j) gb (j*5+1) wr.drew w'->be Q b o w w'):=fun wr w' j hb hF hF2=>(hF.trans (be.of_eq (w':=wr.drew) rfl)).trans (hF2.kid hg (fun k h=>(hsub j k h).1) hQb ⟨cur,by unfold An at hR ⊢;show wr.heap[b]? = _∨wr.heap[b]? = _;rw [hb];exact hR⟩)
    have HBL0:Hid (∀(wr w':Yw) (j:Nat),wr.heap[b]? = w.heap[b]? -> be (Qs j) gb (j*5+1) wr.drew w'->w'.heap[b]? = w.heap[b]?):=fun wr w' j hb hF2=>by
     rcases hR with hR|hR
     ·rw [hR];exact hF2.tre b _ (by show wr.heap[b]? = _;rw [hb];exact hR) rfl hgb (fun h=>hQb (hsub j b h).1)
     ·rw [hR];exact hF2.tre b _ (by show wr.heap[b]? = _;rw [hb];exact hR) rfl hgb (fun h=>hQb (hsub j b h).1)
    have HK0:Hid (eT g d p t.kids gb Qs 0 w):=⟨cur0,hr0,hs0,fun i x hx=>by rw [zi (by omega)];exact hi0 i x hx⟩;have HJ0:=kH hJ
    have HIH:Hid (∀(wr:Yw) (j:Nat) (x:Yb×ab),t.kids[j]? = some x->eT g d p t.kids gb Qs j wr->J ((t.kids.drop j).flatMap (fun x=>bG d (p++az++x.1) x.2)++r) wr->Cl 129 #[.pointer (some ⟨gb,j*5+1,none⟩),.string (p++az++x.1),.func (.func cl) #[] cp] wr.drew (uT 378 (Qs j) d gb (j*5+1) (bC g d (p++az++x.1) x.2) ((t.kids.drop (j+1)).flatMap (fun x=>bG d (p++az++x.1) x.2)++r) J E wr.drew)):=fun wr j x hx hK hJj=>by
     obtain ⟨c1,r1,s1,k1⟩:=hK.drew;have hj:=(jb.1 hx).1;obtain ⟨_,_,kT⟩:=k1 j x hx;rw [zi (by omega)] at kT;have hGx:=hG.2 x (jg hx);refine ih x.2 (p++az++x.1) gb (j*5+1) (Qs j) _ wr.drew c1 ?_ kT (.inr r1) (by omega) (fun h=>(hsub j gb h).2 rfl) hGx.2 (by simp only [qe];have e:az.size=1:=rfl;omega) (fun q h=>hQ0 q (hsub j q h).1) (hQ0 gb hg)
     have e3:t.kids.drop j=x :: t.kids.drop (j+1):=by
      rw [ql hj]
      congr 1
      have:=(jb.1 hx).2
      exact this
     rw [e3,jZ,jK] at hJj;exact V.drew _ _ hJj
    have HNM0:Hid (∀(wr:Yw) (j:Nat) (x:Yb×ab),t.kids[j]? = some x->eT g d p t.kids gb Qs j wr->wr.cell? ⟨gb,j*5,none⟩=some (.string x.1)/\x.1.size<=12):=fun wr j x hx hK=>by
     obtain ⟨c1,r1,s1,k1⟩:=hK;exact ⟨(k1 j x hx).2.1,(hG.2 x (jg hx)).1⟩
    have hnb:∀wr:Yw,wr.heap[b]? = w.heap[b]? -> wr.cell? ⟨b,o+3,none⟩=some (.slice (some ⟨gb,0,none⟩) t.kids.length cap):=fun wr hb=>(by rw [jl (a:=⟨b,o+3,none⟩) hb];exact n3);have HNB:Hid _:=hnb;obtain ⟨L,HL⟩:∃L,Hid (L=t.kids.length):=⟨_,(rfl:t.kids.length=_)⟩;rw [<-HL.out] at n3 HNB hl;clear hJ hn hk hG hf e1 ih hk0 hi0 hr0 hs0 hsub hdis hR hRs hnb V hg hQ0 hb0;go_enter Tryz.func129,Tryz.ntmps129;go_wp2_with fail
    go_loopw [26] (fun i wr=>∃j:Nat,j<=L/\i = .int .i64 j/\J ((t.kids.drop j).flatMap (fun x=>bG d (p++az++x.1) x.2)++r) wr/\be Q b o w wr/\wr.heap[b]? = w.heap[b]? /\ eT g d p t.kids gb Qs j wr) (fun i _=>L-(intOf i).toNat)
    case atStart=>exact ⟨0,jq _,rfl,HJ0.out,be.refl _ _ _ _,rfl,HK0.out⟩
    case round =>
     obtain ⟨j,hj,rfl,hJj,hFj,hbj,hKj⟩:=hrel;have c3:=HNB.out wr hbj;by_cases hlt:j<L
     ·obtain ⟨x,hx⟩:∃x,t.kids[j]? = some x:=⟨_,jc (by rw [<-HL.out];exact hlt)⟩
      have HXX:=kH hx;have HCL:=HIH.out wr j x hx hKj hJj;have HCL:=kH HCL;have HNM:=kH ((HNM0.out wr j x hx hKj).1);have hx12:=(HNM0.out wr j x hx hKj).2;have HFR:Hid (∀w',be (Qs j) gb (j*5+1) wr.drew w'->be Q b o w w'):=fun w' hF=>HFR0.out wr w' j hbj hFj hF;have HBL:Hid (∀w',be (Qs j) gb (j*5+1) wr.drew w'->w'.heap[b]? = w.heap[b]?):=fun w' hF=>HBL0.out wr w' j hbj hF;have HKD:=kH hKj.drew;have hp2:p.size+1+x.1.size<=9223372036854775807:=(by omega);have hp1:p.size+1<=9223372036854775807:=(by omega);clear hx hKj hJj hFj hbj;go_wp2_with fail
      have nm:=HNM.out;refine zh (S:=fun _=>True) (by kernel_rfl) (trivial) (fun hHeld=>?_);refine bI [(0,pZ gb (j*5)),(1,pZ gb (j*5)),(2,pZ gb (j*5+1)),(3,.string p)] hHeld ?_;refine zr (i:=4) (v:=(.string (p++az))) rfl (by kernel_rfl) (by kernel_rfl) (by kernel_rfl) (fun _ _ _ h=>h) (Or.inl ⟨by rfl,?_⟩) hHeld ?_
      ·intro w hSw;(try dsimp only at hSw);simp only [au];go_simp;rw [zi (by omega)];rfl
      simp only [au,Act.put,cu];refine bI [(5,pZ gb (j*5)),(6,pZ gb (j*5)),(7,pZ gb (j*5)),(10,.func (.func cl) #[] cp)] hHeld ?_;refine aU 8 rfl fun K' hK=>?_;go_wp2_with fail
      refine hK.out _ _ (trivial) (fun hHeld=>?_);clear hK K';refine zr (i:=9) (v:=(.string (p++az++x.1))) rfl (by kernel_rfl) (by kernel_rfl) (by kernel_rfl) (fun _ _ _ h=>h) (Or.inl ⟨by rfl,?_⟩) hHeld ?_
      ·intro w hSw;(try dsimp only at hSw);simp only [au];go_simp;(have e:az.size=1:=rfl);omega
      simp only [au,Act.put,cu];refine aU 11 rfl fun K' hK=>?_;simp only [au];go_simp;refine jk (HCL.out) ?_;rintro e wx hpost
      rcases hpost with ⟨rfl,hJ2,hT2,hF2⟩|⟨er,rfl,hE2⟩
      ·skip
       go_wp2_with fail
       refine hK.out _ _ (trivial) (fun hHeld=>?_);clear hK K';refine aU 12 rfl fun K' hK=>?_;simp only [au];go_simp;go_wp2_with fail
       refine hK.out _ _ (trivial) (fun hHeld=>?_);clear hK K';refine zk (by kernel_rfl) ?_ _;go_wp2_with fail
       exact ⟨⟨j+1,by omega,by simp,hJ2,HFR.out _ hF2,HBL.out _ hF2,HKD.out.next HXX.out hT2 hF2 (fun i k h=>(HSUB.out i k h).2) HDIS.out⟩,by simp [intOf];omega⟩
      ·skip
       go_wp2_with fail
       refine hK.out _ _ (trivial) (fun hHeld=>?_);clear hK K';refine aU 12 rfl fun K' hK=>?_;simp only [au];go_simp;go_wp2_with fail
       refine hK.out _ _ (trivial) (fun hHeld=>?_);clear hK K';refine zk (by kernel_rfl) ?_ _;go_wp2_with fail
       go_ret;exact .inr ⟨er,rfl,hE2⟩
     ·obtain rfl:j=L:=by omega
      have HFIN:Hid (uT 378 Q (d+1) b o (bC g (d+1) p t) r J E w (.returned .nilIface) wr):=by
       refine .inl ⟨rfl,?_,HEND.out wr (by rw [<-HL.out];exact hKj) hbj,hFj⟩;rw [HL.out,List.drop_length] at hJj;exact hJj
      clear hJj hFj hbj hKj;go_wp2_with fail
      go_ret;exact HFIN.out
end
section
open Go.RowKit Go.Shelf

section
variable {P:Program} {ops:Array Oper} {Q:Exit → Act → Yw → Prop} {md:Region.Mode} {S:Yw → Prop} {r n:Nat}
theorem Ao {i:Nat} {K K':Act->Yw->Prop} (hnd:∀(i:Nat) (o:Oper),ops[i]? = some o->∀c,o.op≠.defer c) (hlo:¬LetsOut Q) {a:Act} {w:Yw} (h:wpOp P ops Q i K a w) (hK:∀a w,K a w->K' a w):wpOpIn (Fence.wide.inRound r) n P ops Q i K' a w:=by
 unfold wpOp at h;unfold wpOpIn
 cases ho:ops[i]? with
 | none=>rw [ho] at h;exact hK _ _ h
 | some o =>
  rw [ho] at h
  simp only at h ⊢
  split
  ·rename_i hw
   rw [zj hw] at h
   rcases h with h|⟨_,h⟩
   ·refine ⟨fun f _=>trivial,?_⟩
    show o.uponIn (Fence.wide.inRound r) n P a K' Q ((o.semAt (some r) a.eval).run P w);rw [Oper.semAt_some r a.eval o (hnd i o ho)];unfold Oper.wp at h;generalize (execOp a.eval o).run P w=res at h ⊢
    cases res with
    | ok x w' =>
     cases x with
     | value v=>exact hK _ _ h
     | skip=>exact hK _ _ h
     | defer d=>exact hK _ _ h
     | enter f args =>
      refine ⟨fun h=>by simp [Fence.wide,Fence.inRound] at h,CallsIn.inRound r (callsIn_wide.2 (jk h ?_))⟩;intro e w'' he
      cases e with
      | returned v=>exact hK _ _ he
      | panicked c=>exact he
      | outgrown=>exact he
     | row row args =>
      refine ⟨fun h=>by simp [Fence.wide,Fence.inRound] at h,fun c cs _=>?_⟩;obtain ⟨v,w2,h1,h2⟩:=h c cs;exact ⟨v,w2,hK _ _ h1,stepsIn_wide.2 h2⟩
     | _=>exact absurd h id
    | halt x w' =>
     cases x with
     | panic v=>exact h
     | _=>exact absurd h id
   ·exact absurd h hlo
  ·rename_i hw
   rw [zi hw] at h;exact ⟨fun f _=>trivial,hK _ _ h⟩
theorem oT (hnd:∀(i:Nat) (o:Oper),ops[i]? = some o->∀c,o.op≠.defer c) (hlo:¬LetsOut Q):∀(fuel:Nat) (listed:Array Bool) (a:Act) (w:Yw),wpAny P md ops Q fuel listed a w->wpAnyIn (Fence.wide.inRound r) n P md ops Q fuel listed a w
 | 0,_,_,_,h=>h
 | fuel+1,_,_,_,h=>⟨h.1,fun i hi=>Ao hnd hlo (h.2 i hi) (fun a w=>oT hnd hlo fuel _ a w)⟩
def y6 (ops:Array Oper):Bool:=ops.all fun o=>match o.op with
 | .defer _=>false
 | _=>true
theorem vm (h:y6 ops=true) (i:Nat) (o:Oper) (ho:ops[i]? = some o) (c):o.op≠.defer c:=fun e=>by
 have h1:=Array.all_eq_true'.1 h o (Array.mem_of_getElem? ho);rw [e] at h1;simp at h1
theorem oQ {id:Nat} {a:Act} {w:Yw} (hm:P.follows .mixedOrders=true) (hnd:y6 ops=true) (hlo:¬LetsOut Q) (hS:S w.drew) (h:S w.drew->wpAnyH P .any ops Q S ops.size (Array.replicate ops.size false) a w.drew):(Code.region id ops true).wpIn (Fence.wide.inRound r) n P Q a w :=
 wpIn_region_any hm (oT (vm hnd) hlo _ _ _ _ (wpAny_of_held _ _ _ _ (h hS)))
end

def fr (m j:Nat):List { x:Nat // x<m }:=(List.range j).filterMap fun x=>if h:x<m then some ⟨x,h⟩ else none
theorem oz {m j:Nat} (h:j<m):fr m (j+1)=fr m j ++ [⟨j,h⟩]:=by
 unfold fr;rw [qJ,List.filterMap_append]
 simp [h]
theorem y7 {m:Nat}:∀ {j:Nat},j<=m->(fr m j).map (·.1)=List.range j
 | 0,_=>rfl
 | j+1,h=>by rw [oz (by omega),jR,y7 (by omega),qJ];rfl
theorem vo {m j:Nat} (h:j<=m):(fr m j).length=j:=by
 have:=congrArg List.length (y7 h)
 simpa using this
def Iv (Bs Bn:Nat) (A B:Yw):Prop:=B.heap[Bs]? = A.heap[Bs]? /\ B.heap[Bn]? = A.heap[Bn]?
theorem Cr (n : Nat) (hn : 1 ≤ n) (l Bs Bn g m M C : Nat) (hM : M = m * 16) (hm : m ≤ 1000) (hC : M ≤ C) (J Jx : List { x : Nat // x < m } → Yw → Prop) (hJd : ∀ pre W, J pre W → J pre W.drew)
    (hY : ∀ pre x W, J pre W → pre.length < m → YieldAt Fence.wide (n - 1) Tryz.prog l #[.slice (some ⟨g, x.1 * 16, none⟩) 16 16] W fun e W' =>
      (e = .returned (.bool true) ∧ J (pre ++ [x]) W' ∧ Iv Bs Bn W W') ∨ (e = .returned (.bool false) ∧ Jx (pre ++ [x]) W'))
    (W : Yw) (hBs : W.heap[Bs]? = some (.cells #[.slice (some ⟨g, 0, none⟩) M C] 99 (0, 0))) (hBn : W.heap[Bn]? = some (.cells #[.int .i64 16] 3 (0, 0))) (h0 : J [] W) :
    CallsIn Fence.wide n Tryz.prog 250 #[.func (.yield l) #[] #[], .pointer (some ⟨Bs, 0, none⟩), .pointer (some ⟨Bn, 0, none⟩)] W fun e W' => (∃ v, e = .returned v) ∧
      ((∃ ys, ys = fr m m ∧ J ys W') ∨ (∃ pre, (∃ k, k ≤ m ∧ pre = fr m k) ∧ Jx pre W')) := by
  have HYY:=kH hY;have HM:=kH hM;clear hY hM;have hM16 : M ≤ 16000 := by have := HM.out; omega
  have hcs0 : W.cell? ⟨Bs, 0, none⟩ = some (.slice (some ⟨g, 0, none⟩) M C) := (by rw [ze _ _ _ _ _ _ hBs]; rfl);refine callsIn_of_wp Tryz.func250 rfl trivial ?_ rfl;simp only [Tryz.ntmps250, qv, jz, qF, Nat.reduceAdd, Nat.reduceSub, qU, qV, yr, yf, qq, jX]
  gi_wp2
  gi_loopw [4] (fun i wr => ∃ j p : Nat, p = j * 16 ∧ j ≤ m ∧ i = .int .i64 (p : Int) ∧ J (fr m j) wr ∧ Iv Bs Bn W wr)
    (fun i _ => (M - (intOf i).toNat))
  case atStart => exact ⟨0, 0, rfl, jq _, rfl, h0, rfl, rfl⟩
  case round =>
    obtain ⟨j, p, hp, hj, rfl, hJs, hk⟩ := hrel;have HK:=kH hk;have hcs : wr.cell? ⟨Bs, 0, none⟩ = some (.slice (some ⟨g, 0, none⟩) M C) := by rw [ze _ _ _ _ _ _ (hk.1.trans hBs)]; rfl
    have hcn : wr.cell? ⟨Bn, 0, none⟩ = some (.int .i64 16) := (by rw [ze _ _ _ _ _ _ (hk.2.trans hBn)]; rfl);have HS:=kH hcs;have HN:=kH hcn;have HP:=kH hp;by_cases hlt : j < m
    · have hpM : p + 16 ≤ M := by have := HM.out; omega
      have hpM' : (p : Int) < (M : Int) := (by omega);have hpM2 : p ≤ M := (by omega);have hpC : p + 16 ≤ C := (by omega);have hCp : ¬ C = p := (by omega);clear hp hk
      gi_wp2
      refine wpIn_wide.2 ?_;refine wp_region_noPanic ?_;refine zh (S := fun w' => w'.cell? ⟨Bs, 0, none⟩ = some (.slice (some ⟨g, 0, none⟩) M C) ∧ w'.cell? ⟨Bn, 0, none⟩ = some (.int .i64 16)) (by kernel_rfl) (⟨HS.out, HN.out⟩) (fun hHeld => ?_);refine bI [(0,iZ 16),(1,.slice (some ⟨g, 0, none⟩) M C),(2,iZ (p : Int)),(3,.slice (some ⟨g, p, none⟩) (M - p) (C - p)),(4,iZ ((M - p : Nat) : Int))] hHeld ?_;refine zr (i := 5) (v := (.int .i64 16)) rfl (by kernel_rfl) (by kernel_rfl) (by kernel_rfl) (fun _ _ _ h => h) (Or.inl ⟨by rfl, ?_⟩) hHeld ?_
      · intro w hSw; (try dsimp only at hSw); simp only [au]; go_simp; omega
      simp only [au, Act.put, cu];refine tk 6 (.int .i64 16) rfl hHeld ?_;simp only [au, Act.put, cu];refine zk (by kernel_rfl) ?_ _;refine NoPanic.normal ?_;obtain ⟨fn, tmps, assign, body, hy, hR⟩ := HYY.out _ ⟨j, hlt⟩ wr.drew (hJd _ _ hJs) (by rw [vo hj]; exact hlt);have e16 : (⟨g, j * 16, none⟩ : Addr) = ⟨g, p, none⟩ := (by rw [HP.out]);rw [e16] at hy;clear e16;have c1 : wr.drew.cell? ⟨Bs, 0, none⟩ = some (.slice (some ⟨g, 0, none⟩) M C) := HS.out;have c2 : wr.drew.cell? ⟨Bn, 0, none⟩ = some (.int .i64 16) := HN.out;have HRR : Hid _ := hR;clear hR
      gi_wp2
      refine RoundIn.mono HRR.out ?_;rintro e W3 (⟨rfl, hJ3, hk3⟩ | ⟨rfl, hJx3⟩)
      · have HK3 : Hid (Iv Bs Bn W W3) := ⟨hk3.1.trans HK.out.1, hk3.2.trans HK.out.2⟩
        have c3 : W3.cell? ⟨Bn, 0, none⟩ = some (.int .i64 16) := (by rw [jl (a := ⟨Bn, 0, none⟩) hk3.2]; exact HN.out);have HJ3 : Hid (J (fr m (j + 1)) W3) := by rw [oz hlt]; exact hJ3
        clear hJ3 hk3
        gi_wp2
        go_roundw
        case rel => exact ⟨j + 1, p + 16, by have := HP.out; omega, by omega, by simp, HJ3.out, HK3.out⟩
        case measure => simp [intOf]; omega
      · gi_wp2
        refine zv (results_none rfl _ _ _) rfl ?_;exact ⟨⟨_, rfl⟩, .inr ⟨_, ⟨j + 1, by omega, (oz hlt).symm⟩, hJx3⟩⟩
    · have hpe : p = M := by have := HM.out; have : j = m := by omega
                             subst this; omega
      have hje : Hid (j = m) := (by show _ = _; omega);subst hpe;clear hp hk
      gi_wp2
      go_end0
      exact ⟨⟨_, rfl⟩, .inl ⟨fr m j, congrArg (fr m) hje.out, hJs⟩⟩

theorem xL (n:Nat) (hn:1<=n) (Bs Bn g m M C:Nat) (hM:M=m*16) (hm:m<=1000) (hC:M<=C) (w:Yw) (hs:Bs<w.heap.size) (hs':Bn<w.heap.size)
  (hBs:w.heap[Bs]? = some (.cells #[.slice (some ⟨g,0,none⟩) M C] 99 (0,0))) (hBn:w.heap[Bn]? = some (.cells #[.int .i64 16] 3 (0,0))) :
  SeqStopsK Fence.wide n Tryz.prog 250 #[.pointer (some ⟨Bs,0,none⟩),.pointer (some ⟨Bn,0,none⟩)] (fun x:{ x:Nat // x<m }=>#[Value.slice (some ⟨g,x.1*16,none⟩) 16 16]) (Iv Bs Bn) (fun ys=>ys=fr m m)
   (fun pre=>∃k,k<=m/\pre=fr m k) m w:=fun l J Jx W hW hJ _ hY h0 =>
 Cr n hn l Bs Bn g m M C hM hm hC J Jx (fun pre W1 h=>hJ pre W1 W1.drew none h ⟨rfl,rfl,rfl,jd _,fun _ _ _=>rfl⟩ (fun r e=>by cases e)) hY W ((hW.block Bs hs).trans hBs) ((hW.block Bn hs').trans hBn) h0

theorem FE (n:Nat) (a:Yo Addr) (len cap:Nat) (w:Yw) :
  CallsIn Fence.wide n Tryz.prog 203 #[.slice a len cap,.int .i64 16] w fun e w'=>e = .returned (.func (.func 250) #[] #[.pointer (some ⟨w.heap.size,0,none⟩),.pointer (some ⟨w.heap.size+1,0,none⟩)])/\w'=(w.alloc (.cells #[.slice a len cap] 99)).alloc (.cells #[.int .i64 16] 3):=by
 refine callsIn_of_wp Tryz.func203 rfl trivial ?_ rfl;simp only [Tryz.ntmps203,qv,jz,qF,Nat.reduceAdd,Nat.reduceSub,qU,qV,yr,yf,qq,jX]
 gi_wp2
 go_ret;exact ⟨rfl,rfl⟩
end
section
open Go.RowKit

theorem FF (i:Nat) (W:Yw):Cl 252 (#[.int .i64 (i:Int)] ++ #[]) W fun e W'=>e = .returned (.bool true)/\W'=W:=by
 show Cl 252 #[.int .i64 (i:Int)] W _;go_enter Tryz.func252,Tryz.ntmps252;go_wp2_with fail
 go_ret;exact ⟨rfl,rfl⟩
theorem xM {bb:Nat} {va:Yo Addr} {vc:Nat} {bl:List (Yu)} {wt:List (Nat×Yu)} (w:Yw) (D:br w bb va vc bl wt) (hwl:wt.length<=100000) :
  Cl 205 #[.pointer (some ⟨bb+1,0,none⟩)] w fun e w'=>e = .returned (.tuple #[])/\br w' bb none 0 (dd (fun _=>true) wt bl wt.length) []/\cO bb va w w':=by
 have HS:=Ai 252 #[] (fun _=>true) w D hwl (enters_of Tryz.func252 (by kernel_rfl) rfl) (fun i W _ _=>FF i W);clear D;go_enter Tryz.func205,Tryz.ntmps205
 go_wp2_with (go_at_call 251;refine HS.mono ?_;rintro e w1 ⟨rfl,hD,hB⟩)
 go_returns;exact ⟨rfl,hD,hB⟩

def KI (n:Nat) (keep:List Int):Nat->List Bool
 | 0=>List.replicate n false
 | j+1=>match keep[j]? with
  | some x=>if 0<=x/\x<(n:Int) then (KI n keep j).set x.toNat true else KI n keep j
  | none=>KI n keep j
end
section
open Go.RowKit Go.Shelf

attribute [local go_sem] Oper.semAt_some

def eQ (data:Yb) (m:Nat):Yu:=data.data.toList++List.replicate (m*16-data.size) 0
def d6 (data:Yb) (m i:Nat):Yu:=((eQ data m).drop (i*16)).take 16
def lm (blocks:List Nat) (data:Yb) (j:Nat):List (Nat×Yu):=(List.range j).map fun i=>(blocks[i]?.getD 0,d6 data blocks.length i)
theorem vp {data:Yb} {m:Nat} (h:data.size<=m*16):(eQ data m).length=m*16:=by
 have e:data.data.toList.length=data.size:=Array.length_toList;unfold eQ;rw [jt,e,qx];omega
theorem Cs {data:Yb} {m i:Nat} (h:data.size<=m*16) (hi:i<m):(d6 data m i).length=16:=by
 unfold d6;rw [js,qi,vp h];omega
theorem FG {data:Yb} {m i j:Nat} (hj:j<16):(d6 data m i)[j]? = (eQ data m)[i*16+j]? := by
 unfold d6;rw [qB hj,ym]
def kO (blocks:List Nat) (data:Yb) {m:Nat} (pre:List { x:Nat // x<m }):List (Nat×Yu):=pre.zipIdx.map fun p=>(blocks[p.2]?.getD 0,d6 data blocks.length p.1.1)
theorem vq (blocks:List Nat) (data:Yb) {m:Nat} (pre:List { x:Nat // x<m }) (x:{ x:Nat // x<m }):kO blocks data (pre ++ [x])=kO blocks data pre ++ [(blocks[pre.length]?.getD 0,d6 data blocks.length x.1)]:=by
 unfold kO;rw [List.zipIdx_append]
 simp
theorem I5 (blocks:List Nat) (data:Yb) {m:Nat} (pre:List { x:Nat // x<m }):(kO blocks data pre).length=pre.length:=by simp [kO]
theorem Ct (blocks:List Nat) (data:Yb) {m:Nat}:∀ {j:Nat},j<=m->kO blocks data (fr m j)=lm blocks data j
 | 0,_=>rfl
 | j+1,h=>by
  rw [oz (by omega),vq,Ct blocks data (by omega),vo (by omega)];unfold lm;rw [qJ,jR];rfl

structure iE (T0 bb B0:Nat) (bl:List (Yu)) (W0:Yw) (wt:List (Nat×Yu)) (i:Nat) (W:Yw):Prop where
 disk:∃va vc,br W bb va vc bl wt
 box:W.heap[B0]? = some (.cells #[.int .i64 (i:Int)] 3 (0,0))
 os:W.os=W0.os
 tape:W.tape=W0.tape
 output:W.output=W0.output
 size:W0.heap.size<=W.heap.size
 kept:∀(k:Nat) (o:Obj),W0.heap[k]? = some o->(k<T0∨pD o=false)->k≠B0->W.heap[k]? = some o
theorem FH {A B:Yw} {row:Yo Nat} (hg:A.grownBy B row) (hr:∀r,row=some r->∃o:Obj,A.heap[r]? = some o/\o.isCells=false):aN (fun o=>!o.isCells) A B:=fun k o hk hp=>by
 rw [hg.block k (ja.1 hk).1 (fun e=>?_)]
 ·exact hk
 ·obtain ⟨o',ho',hc⟩:=hr k e.symm
  rw [hk] at ho';cases ho'
  simp [hc] at hp
theorem iE.own {T0 bb B0:Nat} {bl:List (Yu)} {W0:Yw} {β:Type} (wt:β->List (Nat×Yu)) (i:β->Nat):OwnFrom W0.heap.size (fun s W=>iE T0 bb B0 bl W0 (wt s) (i s) W):=fun s A B row hs hg hr=>by
 have ht:=FH hg (fun r e=>(hr r e).2);obtain ⟨va,vc,D⟩:=hs.disk
 exact ⟨⟨va,vc,D.turn ht (fun _ _=>rfl) (fun _ _=>rfl) (fun _ _=>rfl)⟩,ht _ _ hs.box rfl,hg.os.trans hs.os,hg.tape.trans hs.tape,hg.output.trans hs.output,jm hs.size hg.size,fun k o hk hp hne=>by
  have h1:=hs.kept k o hk hp hne;rw [hg.block k (ja.1 h1).1 (fun e=>?_)]
  ·exact h1
  ·have:=(hr k e.symm).1
   have:=(ja.1 hk).1
   omega⟩
theorem iE.write {T0 bb B0:Nat} {bl:List (Yu)} {W0 W W':Yw} {wt wt':List (Nat×Yu)} {i:Nat} {va:Yo Addr} {vc:Nat} (hT:T0<=bb) (I:iE T0 bb B0 bl W0 wt i W) (D:br W bb va vc bl wt) (D':∃va vc,br W' bb va vc bl wt') (h:cO bb va W W'):iE T0 bb B0 bl W0 wt' i W':=by
 have ht:=aN.of_but D h;refine ⟨D',ht _ _ I.box rfl,h.os.trans I.os,h.tape.trans I.tape,h.output.trans I.output,jm I.size h.size,fun k o hk hp hne=>?_⟩;have h1:=I.kept k o hk hp hne
 rcases hp with hp|hp
 ·rw [h.block k (ja.1 h1).1 (by omega) (by omega) (fun a ha=>by have:=(D.low a ha).1;omega)];exact h1
 ·exact ht k o h1 hp
theorem iE.next {T0 bb B0:Nat} {bl:List (Yu)} {W0 W:Yw} {wt:List (Nat×Yu)} {i:Nat} (I:iE T0 bb B0 bl W0 wt i W):iE T0 bb B0 bl W0 wt (i+1) (W.setCell ⟨B0,0,none⟩ (.int .i64 ((i:Int)+1))):=by
 obtain ⟨va,vc,D⟩:=I.disk;have ht:∀k,k≠B0->(W.setCell ⟨B0,0,none⟩ (.int .i64 ((i:Int)+1))).heap[k]? = W.heap[k]? := fun k hk=>jf _ _ _ _ hk
 have hne:∀(k:Nat) (c:Array Yv) (t:TypeId),t≠3->W.heap[k]? = some (.cells c t (0,0))->k≠B0:=fun k c t htt hk e=>by
  rw [e,I.box] at hk;simp only [jh,jL] at hk;exact htt hk.2.1.symm
 refine ⟨⟨va,vc,D.ext fun k hk=>ht k ?_⟩,?_,I.os,I.tape,I.output,by simp [World.setCell];exact I.size,fun k o hk hp hkb=>by rw [ht k hkb];exact I.kept k o hk hp hkb⟩
 ·rcases hk with rfl|rfl|⟨a,ha,rfl⟩
  ·obtain ⟨ex,hx⟩:=D.blocks;exact hne _ _ _ (by decide) hx
  ·obtain ⟨ex,hx⟩:=D.disk;exact hne _ _ _ (by decide) hx
  ·rcases D.waits.2 with ⟨e,_⟩|⟨g,cap,cur,e,_,hr,_⟩
   ·cases ha;simp at e
   ·cases ha
    simp only [jo,jh] at e;rw [e.1];exact hne _ _ _ (by decide) hr
 ·rw [bw I.box];simp

section
variable {F:Nat → Prop} {T0 tb bb sp sb cap mb n:Nat} {bl:List (Yu)} {u:List Bool} {tab:List (Yo ay)}
theorem sj (m M:Nat) (hM:M=m*16) (hm:m<=1000) (w:Yw):(Instr.makeSlice 99 (.int .i64 ((m:Int)*16)) (.int .i64 ((m:Int)*16))).run Tryz.prog w = .ok (.slice (some ⟨w.heap.size,0,none⟩) M M) (w.alloc (.cells (bc (List.replicate M 0)).toArray 5)):=by
 have infoU:(Tryz.prog.info? 5).map (fun i=>(i.zero,i.size,i.bytes))=some (some (.int .u8 0),1,1):=by kernel_rfl
 obtain ⟨i0,hi0,hz0,hz1,hz2⟩:=info_parts infoU;have e:((m:Int)*16)=(M:Int):=by omega
 rw [e]
 have:=run_make (P:=Tryz.prog) w 99 5 i0 _ Tryz.underlying99 hi0 hz0 .i64 .i64 M M (by omega) (Int.le_refl _) (by rw [hz2];omega) (by omega)
 simp only [Int.toNat_natCast] at this;rw [this,hz1]
 congr 3
 apply Array.ext
 ·simp [size_madeCells,bc]
 ·intro i h1 h2
  simp [madeCells,Value.cells,Nat.mod_one,bc]
theorem uA (data:Yb) (m M g:Nat) (hM:M=m*16) (hd:data.size<=M) (w:Yw) (hg:w.heap[g]? = some (.cells (bc (List.replicate M 0)).toArray 5 (0,0))):(Builtin.copy_ #[99,9] 3 #[.slice (some ⟨g,0,none⟩) M M,.string data]).run Tryz.prog w = .ok (goInt data.size) (w.setRow g (bc (eQ data m)).toArray):=by
 have:=Lib.run_copy_row_string (P:=Tryz.prog) w 99 9 3 5 g 0 M M data _ _ Tryz.underlying99 (by kernel_rfl) hg hd (by simp [bc];exact hd)
 have e:List.take 0 (bc (List.replicate M 0)).toArray.toList++Lib.byteCells data.data.toList++List.drop (0+data.size) (bc (List.replicate M 0)).toArray.toList=bc (eQ data m):=by
  rw [qY,qq];unfold eQ bc;rw [jR,j6,<-hM];have e2:Lib.byteCells data.data.toList=data.data.toList.map (fun x=>Value.int .u8 (x.toNat:Int)):=rfl;rw [e2]
  simp
 rw [e] at this;exact this
theorem KJ (v:Yv) (blocks:List Nat) (data:Yb) (er:Yv) (w:Yw) (T:am w F T0 tb bb sp sb cap mb n bl u tab) (hv:bu w v (aF blocks)) (hin:∀k∈blocks,k<bl.length) (hbl:blocks.length<=1000) (hd:data.size<=blocks.length*16) (hE:w.cell? ⟨1,0,none⟩=some er) (hgT:1<T0) :
  Cl 159 #[.pointer (some ⟨bb+1,0,none⟩),v,.string data] w fun e w'=>e = .returned (.tuple #[])/\am w' F T0 tb bb sp sb cap mb n (dd (fun _=>true) (lm blocks data blocks.length) bl blocks.length) u tab/\aW T0 mb w w'/\aN pD w w':=by
 refine (callsIn_wide (n:=5)).1 ?_;obtain ⟨ad,vc,rfl,hcs⟩:=id hv;rw [dJ];obtain ⟨m,hm⟩:∃m,m=blocks.length:=⟨_,rfl⟩;obtain ⟨M,hM⟩:∃M,M=m*16:=⟨_,rfl⟩;have HM:=kH hM;have Hm:=kH hm;rw [<-hm] at hbl hd ⊢;have hmk:=sj m M hM hbl;obtain ⟨Wb,hWb⟩:∃Wb,Wb=((w.alloc (.cells #[.pointer (some ⟨bb+1,0,none⟩)] 91)).alloc (.cells #[.slice ad m vc] 187)).alloc (.cells (bc (List.replicate M 0)).toArray 5):=⟨_,rfl⟩;have hWbs:Wb.heap.size=w.heap.size+3:=by rw [hWb];simp
 have hWb2:Wb.heap[w.heap.size+2]? = some (.cells (bc (List.replicate M 0)).toArray 5 (0,0)):=by
  have h:=heap_alloc_last ((w.alloc (.cells #[.pointer (some ⟨bb+1,0,none⟩)] 91)).alloc (.cells #[.slice ad m vc] 187)) (.cells (bc (List.replicate M 0)).toArray 5);rw [jE,jE,<-hWb] at h;exact h
 have hcp:=uA data m M (w.heap.size+2) hM (by omega) Wb hWb2;obtain ⟨Wc,hWc⟩:∃Wc,Wc=((w.alloc (.cells #[.pointer (some ⟨bb+1,0,none⟩)] 91)).alloc (.cells #[.slice ad m vc] 187)).alloc (.cells (bc (eQ data m)).toArray 5):=⟨_,rfl⟩;have hset:=World.setRow_alloc_new ((w.alloc (.cells #[.pointer (some ⟨bb+1,0,none⟩)] 91)).alloc (.cells #[.slice ad m vc] 187)) (bc (List.replicate M 0)).toArray (bc (eQ data m)).toArray 5;rw [jE,jE,<-hWb,<-hWc] at hset;rw [hset,hWb] at hcp;have hWcs:Wc.heap.size=w.heap.size+3:=by rw [hWc];simp
 have hbWc:Bl w Wc:=by rw [hWc];exact (((je _ w).alloc (jd _) _).alloc (by simp) _).alloc (by simp;omega) _
 have q0:Wc.heap[w.heap.size]? = some (.cells #[.pointer (some ⟨bb+1,0,none⟩)] 91 (0,0)):=by
  rw [hWc,jp _ _ _ (by simp;omega),jp _ _ _ (by simp),heap_alloc_last]
 have q1:Wc.heap[w.heap.size+1]? = some (.cells #[.slice ad m vc] 187 (0,0)):=by
  have h:=heap_alloc_last (w.alloc (.cells #[.pointer (some ⟨bb+1,0,none⟩)] 91)) (.cells #[.slice ad m vc] 187);rw [jE] at h;rw [hWc,jp _ _ _ (by simp)];exact h
 have q2:Wc.heap[w.heap.size+2]? = some (.cells (bc (eQ data m)).toArray 5 (0,0)):=by
  have h:=heap_alloc_last ((w.alloc (.cells #[.pointer (some ⟨bb+1,0,none⟩)] 91)).alloc (.cells #[.slice ad m vc] 187)) (.cells (bc (eQ data m)).toArray 5);rw [jE,jE,<-hWc] at h;exact h
 refine callsIn_of_wp_marks Tryz.func159 rfl trivial ?_ rfl;simp only [Tryz.ntmps159,qv,jz,qF,Nat.reduceAdd,Nat.reduceSub,qU,qV,yr,yf,qq,jX];have HB:=FE 4 (some ⟨w.heap.size+2,0,none⟩) M M;clear hset hWb hWc hWb2 hWbs Wb;have HV:=kH hv;have HT:Hid _:=T
 have HCS:Hid (∀(i k:Nat),blocks[i]? = some k->∃g off cur,ad=some ⟨g,off,none⟩/\w.heap[g]? = some (.cells cur 3 (0,0))/\cur[off+i]? = some (.int .i64 (k:Int))):=fun i k hk=>by
  obtain ⟨g,off,cur,e1,e2,e3⟩:=hcs (fun h=>by (have:blocks = []:=by simpa [aF] using h);rw [this] at hk;simp at hk);exact ⟨g,off,cur,e1,e2,e3 i k (by simp [aF,hk])⟩
 clear hv hm hM hcs T
 gi_wp2_with (refine ⟨trivial,?_⟩;gi_at_call 203;refine (HB _).mono ?_;rintro e w' ⟨rfl,rfl⟩)
 simp only [Nat.add_assoc,Nat.reduceAdd];obtain ⟨W0,hW0⟩:∃W0,((Wc.alloc (.cells #[.int .i64 0] 3)).alloc (.cells #[.slice (some ⟨w.heap.size+2,0,none⟩) M M] 99)).alloc (.cells #[.int .i64 16] 3)=W0:=⟨_,rfl⟩;have hsz:W0.heap.size=w.heap.size+6:=by rw [<-hW0];simp;omega
 have hbc0:Bl Wc W0:=by rw [<-hW0];exact (((je _ Wc).alloc (jd _) _).alloc (by simp) _).alloc (by simp;omega) _
 have r0:=(hbc0.block w.heap.size (by omega)).trans q0;have r1:=(hbc0.block (w.heap.size+1) (by omega)).trans q1;have r2:=(hbc0.block (w.heap.size+2) (by omega)).trans q2
 have r3:W0.heap[w.heap.size+3]? = some (.cells #[.int .i64 ((0:Nat):Int)] 3 (0,0)):=by
  rw [<-hW0,jp _ _ _ (by simp;omega),jp _ _ _ (by simp;omega),<-hWcs];exact heap_alloc_last Wc _
 have r4:W0.heap[w.heap.size+4]? = some (.cells #[.slice (some ⟨w.heap.size+2,0,none⟩) M M] 99 (0,0)):=by
  have h:=heap_alloc_last (Wc.alloc (.cells #[.int .i64 0] 3)) (.cells #[.slice (some ⟨w.heap.size+2,0,none⟩) M M] 99);rw [jE,hWcs] at h;rw [<-hW0,jp _ _ _ (by simp;omega)];exact h
 have r5:W0.heap[w.heap.size+5]? = some (.cells #[.int .i64 16] 3 (0,0)):=by
  have h:=heap_alloc_last ((Wc.alloc (.cells #[.int .i64 0] 3)).alloc (.cells #[.slice (some ⟨w.heap.size+2,0,none⟩) M M] 99)) (.cells #[.int .i64 16] 3);rw [jE,jE,hWcs] at h;rw [<-hW0];exact h
 have hB0:Bl w W0:=hbWc.trans (hbc0.mono (by omega));rw [hW0];clear hW0 q0 q1 q2 hcp hmk HB hbc0 hbWc hWcs;have DW:=HT.out.disk.below (jd _) hB0;have htb:tb<w.heap.size:=(ja.1 HT.out.box).1;have hbb:bb+1<w.heap.size:=HT.out.disk.lt;have hTb:T0<=bb:=HT.out.low.1;have h0I:iE T0 bb (w.heap.size+3) bl W0 (kO blocks data ([]:List { x:Nat // x<m })) 0 W0:=⟨⟨none,0,DW⟩,r3,rfl,rfl,rfl,jd _,fun _ _ h _ _=>h⟩
 have HEr:Hid (∃o,W0.heap[1]? = some o/\(∀W:Yw,W.heap[1]? = some o->W.cell? ⟨1,0,none⟩=some er)):=by
  have hl:=ji w _ hE;refine ⟨w.heap[1],by rw [hB0.block _ hl];exact qN hl,fun W hW=>?_⟩;rw [jl (a:=⟨1,0,none⟩) (hW.trans (qN hl).symm)];exact hE
 have HCS0:Hid (∀(i k:Nat),blocks[i]? = some k->∃g off cur,ad=some ⟨g,off,none⟩/\g<w.heap.size/\W0.heap[g]? = some (.cells cur 3 (0,0))/\cur[off+i]? = some (.int .i64 (k:Int))):=fun i k hk=>by
  obtain ⟨g,off,cur,e1,e2,e3⟩:=HCS.out i k hk;have hg:=(ja.1 e2).1;exact ⟨g,off,cur,e1,hg,(hB0.block g hg).trans e2,e3⟩
 obtain ⟨s,hs⟩:∃s,s=w.heap.size:=⟨_,rfl⟩;rw [<-hs] at hsz r0 r1 r2 r3 r4 r5 h0I htb hbb HCS0 ⊢;have Hs:=kH hs;have HB0:=kH hB0;clear hs hB0;have r2':W0.heap[s+2]? = some (.cells (bc (eQ data blocks.length)).toArray 5 (0,0)):=by rw [<-Hm.out];exact r2
 refine wpIn_rangeFunc_ownH (α:={ x:Nat // x<m }) rfl (by omega) (gf:=250) (lb:=#[.pointer (some ⟨s+4,0,none⟩),.pointer (some ⟨s+5,0,none⟩)]) rfl trivial (enters_of Tryz.func250 (by kernel_rfl) rfl)
  (xL 4 (by omega) (s+4) (s+5) (s+2) m M M HM.out hbl (jd _) W0 (by omega) (by omega) r4 r5) (fun h k=>⟨k.1.trans h.1,k.2.trans h.2⟩)
  (fun W l o o' hl _ _ _=>⟨World.putObj_heap_other (by omega),World.putObj_heap_other (by omega)⟩) (je _ _) (fun _=>rfl)
  (fun pre W=>iE T0 bb (s+3) bl W0 (kO blocks data pre) pre.length W) (fun _ _ _=>False) (iE.own _ _) (fun _ _ _ _ _ h _ _=>h) h0I
  (fun x a' _=>a' = { tmps:=#[.pointer (some ⟨bb+1,0,none⟩),.slice ad m vc,.string data,.pointer (some ⟨s,0,none⟩),.pointer (some ⟨s+1,0,none⟩),undef,.slice (some ⟨s+2,0,none⟩) M M,.pointer (some ⟨s+3,0,none⟩),.slice (some ⟨s+2,x.1*16,none⟩) 16 16,.slice ad m vc,.int .i64 (m:Int),.int .i64 ((m:Int)*16),.slice (some ⟨s+2,0,none⟩) M M,.slice (some ⟨s+2,0,none⟩) M M,.string data,.int .i64 (data.size:Int),.slice (some ⟨s+2,0,none⟩) M M,.func (.func 250) #[] #[.pointer (some ⟨s+4,0,none⟩),.pointer (some ⟨s+5,0,none⟩)],.slice (some ⟨s+2,x.1*16,none⟩) 16 16,undef,undef,undef,undef,undef,undef,undef,undef,undef,undef,undef,undef],defers:=[] }) (fun _ _ _ _ _ _ h _ _=>h)
  ?assign ?body ?done ?stop
 case assign =>
  intro l pre x W K hI hK
  gi_wp2
  exact hK _ _ (KeepsFrom.refl _ _) ⟨rfl,rfl⟩ hI rfl
 case body =>
  rintro l pre x a' W hl ⟨r,hr⟩ hI rfl hlt;obtain ⟨i,hi⟩:∃i,i=pre.length:=⟨_,rfl⟩;rw [<-hi] at hI hlt;obtain ⟨k,hk⟩:∃k,blocks[i]? = some k:=⟨_,jc (by rw [<-Hm.out];exact hlt)⟩;obtain ⟨g,off,cur,rfl,hg,hgr,hgc⟩:=HCS0.out i k hk;have hkl:=hin k (jg hk);have hsz16:data.size<=blocks.length*16:=by rw [<-Hm.out];exact hd
  have hp16:=Cs hsz16 (i:=x.1) (by rw [<-Hm.out];exact x.2);obtain ⟨ps,hps⟩:∃ps:Yb,ps=⟨(d6 data blocks.length x.1).toArray⟩:=⟨_,rfl⟩
  have HSW:Hid (∀wt W',iE T0 bb (s+3) bl W0 wt i W'->(W'.cell? ⟨s,0,none⟩=some (.pointer (some ⟨bb+1,0,none⟩))/\W'.cell? ⟨s+1,0,none⟩=some (.slice (some ⟨g,off,none⟩) m vc)/\W'.cell? ⟨s+3,0,none⟩=some (.int .i64 (i:Int))/\W'.cell? ⟨g,off+i,none⟩=some (.int .i64 (k:Int))/\(convert 99 9 (.slice (some ⟨s+2,x.1*16,none⟩) 16 16)).run Tryz.prog W' = .ok (.string ps) W')):=fun wt W' hW'=>by
   have k0:=hW'.kept _ _ r0 (.inr rfl) (by omega);have k1:=hW'.kept _ _ r1 (.inr rfl) (by omega);have kg:=hW'.kept _ _ hgr (.inr rfl) (by omega);have k2:=hW'.kept _ _ r2' (.inr rfl) (by omega);refine ⟨by rw [ze _ _ _ _ _ _ k0];rfl,by rw [ze _ _ _ _ _ _ k1];rfl,by rw [ze _ _ _ _ _ _ hW'.box];rfl,by rw [ze _ _ _ _ _ _ kg];exact hgc,?_⟩
   have hcv:=run_convert_bytes_back (P:=Tryz.prog) W' 99 9 5 ⟨s+2,x.1*16,none⟩ 16 (d6 data blocks.length x.1) Tryz.underlying99 Tryz.underlying5 Tryz.underlying9 (fun j hj=>by
    rw [Addr.add_mid,ze _ _ _ _ _ _ k2];have h1:(d6 data blocks.length x.1)[j]? = some (d6 data blocks.length x.1)[j]:=jc hj;rw [FG (by omega)] at h1;simp only [yw,bc,jx];rw [h1];rfl)
   rw [hp16] at hcv;rw [hps];exact hcv
  have HS6:Hid (∀W',W'=W.drew->(W'.cell? ⟨s,0,none⟩=some (.pointer (some ⟨bb+1,0,none⟩))/\W'.cell? ⟨s+1,0,none⟩=some (.slice (some ⟨g,off,none⟩) m vc)/\W'.cell? ⟨s+3,0,none⟩=some (.int .i64 (i:Int))/\W'.cell? ⟨g,off+i,none⟩=some (.int .i64 (k:Int))/\(convert 99 9 (.slice (some ⟨s+2,x.1*16,none⟩) 16 16)).run Tryz.prog W' = .ok (.string ps) W')):=fun W' e=>by
   rw [e];exact HSW.out _ _ (iE.own (fun (_:Unit)=>kO blocks data pre) (fun _=>i) () W W.drew none hI ⟨rfl,rfl,rfl,jd _,fun _ _ _=>rfl⟩ (fun r e=>by cases e))
  have HWR:Hid (∀W',W'=W.drew->Cl 204 #[.pointer (some ⟨bb+1,0,none⟩),.int .i64 (k:Int),.string ps] W' fun e w'=>e = .returned .nilIface/\(iE T0 bb (s+3) bl W0 (kO blocks data (pre ++ [x])) i w'/\KeepsOthers W w')/\(w'.cell? ⟨s,0,none⟩=some (.pointer (some ⟨bb+1,0,none⟩))/\w'.cell? ⟨s+1,0,none⟩=some (.slice (some ⟨g,off,none⟩) m vc)/\w'.cell? ⟨s+3,0,none⟩=some (.int .i64 (i:Int))/\w'.cell? ⟨g,off+i,none⟩=some (.int .i64 (k:Int))/\(convert 99 9 (.slice (some ⟨s+2,x.1*16,none⟩) 16 16)).run Tryz.prog w' = .ok (.string ps) w')):=fun W' e=>by
   have hI':iE T0 bb (s+3) bl W0 (kO blocks data pre) i W':=by
    rw [e];exact iE.own (fun (_:Unit)=>kO blocks data pre) (fun _=>i) () W W.drew none hI ⟨rfl,rfl,rfl,jd _,fun _ _ _=>rfl⟩ (fun r e=>by cases e)
   obtain ⟨va,vc1,D⟩:=hI'.disk;obtain ⟨oE,hoE,hcE⟩:=HEr.out;have hlow:1<s:=by rw [Hs.out];exact ji w _ hE
   refine (Cf (k:Int) ps er W' D (hcE W' (hI'.kept _ _ hoE (.inl hgT) (by omega))) (by rw [I5,<-hi];omega)).mono ?_;rintro e w' (⟨_,_,rfl,va',vc',D',hb',_⟩|⟨hno,_⟩)
   ·have e2:kO blocks data (pre ++ [x])=kO blocks data pre ++ [((k:Int).toNat,ps.data.toList)]:=by
     rw [vq,<-hi,hk,hps];simp
    have hW2:iE T0 bb (s+3) bl W0 (kO blocks data (pre ++ [x])) i w':=hI'.write hTb D ⟨va',vc',by rw [e2];exact D'⟩ hb';refine ⟨rfl,⟨hW2,?_⟩,HSW.out _ _ hW2⟩;refine ⟨?_,fun q o hq ho=>?_⟩
    ·have:=hb'.size;rw [e] at this;exact this
    ·refine aN.of_but D hb' q o (by rw [e];exact hq) ?_
     cases o <;> first|rfl|(simp [Obj.isCells] at ho)
   ·rcases hno with hno|hno
    ·rw [pC (by omega) (by omega)] at hno;cases hno
    ·exfalso;apply hno;rw [hps];show (List.toArray _).size=16;simp [hp16]
  have Hi:=kH hi;have HII:Hid _:=hI;have Hr4:Hid _:=r4;have Hr5:Hid _:=r5;clear hgc hkl hk hin hi hps hp16 hsz16 hI r0 r1 r2 r2' r3 r4 r5 hgr h0I DW hr hd
  gi_wp2
  refine oQ (S:=fun w'=>w'.cell? ⟨s,0,none⟩=some (.pointer (some ⟨bb+1,0,none⟩))/\w'.cell? ⟨s+1,0,none⟩=some (.slice (some ⟨g,off,none⟩) m vc)/\w'.cell? ⟨s+3,0,none⟩=some (.int .i64 (i:Int))/\w'.cell? ⟨g,off+i,none⟩=some (.int .i64 (k:Int))/\(convert 99 9 (.slice (some ⟨s+2,x.1*16,none⟩) 16 16)).run Tryz.prog w' = .ok (.string ps) w') (by kernel_rfl) (by kernel_rfl) (by rintro ⟨_,_,h⟩;exact h) (HS6.out _ rfl) (fun hHeld=>?_);refine bI [(0,pZ (bb+1) 0),(1,.slice (some ⟨g,off,none⟩) m vc),(2,iZ i),(3,pZ g (off+i)),(4,iZ k),(5,.slice (some ⟨s+2,x.1*16,none⟩) 16 16),(6,.string ps)] hHeld ?_;refine aU 7 rfl fun K' hK=>?_;simp only [au];go_simp;refine jk (HWR.out _ rfl) ?_;rintro e wx ⟨rfl,h1,h2⟩;have HI1:Hid _:=h1;clear h1;go_wp2_with fail
  refine hK.out _ _ (h2) (fun hHeld=>?_);clear hK K';refine zk (by kernel_rfl) ?_ _;obtain ⟨hI1,hK1⟩:=HI1.out;have c3:wx.cell? ⟨s+3,0,none⟩=some (.int .i64 (i:Int)):=by rw [ze _ _ _ _ _ _ hI1.box];rfl
  have f3:wx.frozen? ⟨s+3,0,none⟩=false:=(by simp [World.frozen?,hI1.box]);clear hI1 hK1
  gi_wp2
  have hI2:=HI1.out.1.next;refine ⟨((HI1.out.2.trans (KeepsOthers.setCell _ _ _)).from _),⟨?_,?_⟩,?_⟩
  ·rw [HII.out.kept _ _ Hr4.out (.inr rfl) (by omega)];exact hI2.kept _ _ Hr4.out (.inr rfl) (by omega)
  ·rw [HII.out.kept _ _ Hr5.out (.inr rfl) (by omega)];exact hI2.kept _ _ Hr5.out (.inr rfl) (by omega)
  ·show iE T0 bb (s+3) bl W0 (kO blocks data (pre ++ [x])) (pre ++ [x]).length _
   rw [jt,j7,<-Hi.out];exact hI2
 case done =>
  rintro Dd ys W hD rfl hI hK;rw [Ct blocks data (jd _),vo (jd _)] at hI;obtain ⟨va,vcd,D⟩:=hI.disk;have hwl:(lm blocks data m).length=m:=(by simp [lm]);have HBR:=xM W D (by omega);rw [hwl] at HBR;have c0:W.cell? ⟨s,0,none⟩=some (.pointer (some ⟨bb+1,0,none⟩)):=by rw [ze _ _ _ _ _ _ (hI.kept _ _ r0 (.inr rfl) (by omega))];rfl
  have HEND:Hid (∀w2,br w2 bb none 0 (dd (fun _=>true) (lm blocks data m) bl m) []->cO bb va W w2->∀o',(w2.heap[Dd]? = some (.deferred (some [])))/\am (w2.putObj Dd o') F T0 tb bb sp sb cap mb n (dd (fun _=>true) (lm blocks data m) bl m) u tab/\aW T0 mb w (w2.putObj Dd o')/\aN pD w (w2.putObj Dd o')):=fun w2 D2 hb2 o'=>by
   have hs:=Hs.out;have ht2:=aN.of_but D hb2;have hkD:=ht2 _ _ hK rfl
   have key:∀(k:Nat) (o:Obj),w.heap[k]? = some o->(k<T0∨pD o=false)->(w2.putObj Dd o').heap[k]? = some o:=fun k o hk hp=>by
    have hkl:=(ja.1 hk).1;rw [World.putObj_heap_other (by omega)];have hW:=hI.kept k o ((HB0.out.block k hkl).trans hk) hp (by omega)
    rcases hp with hp|hp
    ·rw [hb2.block k (ja.1 hW).1 (by omega) (by omega) (fun a ha=>by have:=(D.low a ha).1;omega)];exact hW
    ·exact ht2 k o hW hp
   have ht:aN pD w (w2.putObj Dd o'):=fun k o hk hp=>key k o hk (.inr hp);have hgp:=grownBy_putObj' w2 Dd o';obtain ⟨f,N⟩:=HT.out.nodes;obtain ⟨l1,l2,l3,l4,l5⟩:=HT.out.low;refine ⟨hkD,⟨ht _ _ HT.out.box rfl,D2.ext fun k hk=>?_,HT.out.space.turn ht (fun _ _=>rfl) (fun _ _=>rfl),⟨f,N.turn ht (fun _ _=>rfl) (fun _ _=>rfl) (fun _ _=>rfl)⟩,l1,l2,l3,by rw [iI];exact l4,l5⟩,?_⟩
   ·rcases hk with rfl|rfl|⟨a,ha,rfl⟩
    ·exact World.putObj_heap_other (by omega)
    ·exact World.putObj_heap_other (by omega)
    ·cases ha
   ·refine ⟨?_,ht⟩
    exact ⟨hgp.os.trans (hb2.os.trans (hI.os.trans HB0.out.os)),hgp.tape.trans (hb2.tape.trans (hI.tape.trans HB0.out.tape)),hgp.output.trans (hb2.output.trans (hI.output.trans HB0.out.output)),jm HB0.out.size (jm hI.size (jm hb2.size hgp.size)),fun k o hk hp=>key k o hk (hp.imp id (fun h=>by unfold ib at h;simp only [qh] at h;exact h.1.1.1)),fun k o hk hp _=>ht k o hk (by cases o <;> first|rfl|(cases hp))⟩
  clear hI D hK r0 r1 r2 r2' r3 r4 r5 h0I DW hin
  gi_wp2_with (refine ⟨trivial,?_⟩;gi_at_call 205;refine (callsIn_wide.2 HBR).mono ?_;rintro e w2 ⟨rfl,D2,hb2⟩)
  have hE2:=HEND.out w2 D2 hb2 (.deferred none);refine ⟨by simp,.inl ⟨_,_,rfl,run_takeDeferred hE2.1,?_⟩⟩;exact ⟨_,results_none rfl _ _ _,rfl,hE2.2⟩
 case stop =>
  rintro Dd c pre W hD _ h _;exact h.elim
theorem Cu (v:Yv) (blocks:List Nat) (data:Yb) (er:Yv) (w:Yw) (T:am w F T0 tb bb sp sb cap mb n bl u tab) (hv:bu w v (aF blocks)) (hin:∀k∈blocks,k<bl.length) (hbl:blocks.length<=1000) (hd:data.size<=blocks.length*16) (hE:w.cell? ⟨1,0,none⟩=some er) (hgT:1<T0) :
  Cl 159 #[.pointer (some ⟨bb+1,0,none⟩),v,.string data] w fun e w'=>e = .returned (.tuple #[])/\am w' F T0 tb bb sp sb cap mb n (dd (fun _=>true) (lm blocks data blocks.length) bl blocks.length) u tab/\aW T0 mb w w' :=
 (KJ v blocks data er w T hv hin hbl hd hE hgT).mono fun _ _ h=>⟨h.1,h.2.1,h.2.2.1⟩
end
end
section
open Go.RowKit

def mq (s:Nat):Nat:=if s &&& 1=1 then (s / 2) ^^^ 3988292384 else s / 2
def pH:Nat->Nat->Nat
 | 0,s=>s
 | k+1,s=>mq (pH k s)
theorem Cv {s:Nat} (h:s<4294967296):mq s<4294967296:=by
 unfold mq
 split
 ·exact yz (n:=32) (by omega) (by decide)
 ·omega
theorem sm {s:Nat} (h:s<4294967296):∀k,pH k s<4294967296
 | 0=>h
 | k+1=>Cv (sm h k)

theorem Ap (s:Nat) (hs:s<4294967296) (w:Yw):Cl 202 #[.int .u32 (s:Int)] w fun e w'=>e = .returned (.int .u32 (pH 8 s:Nat))/\w'=w:=by
 go_enter Tryz.func202,Tryz.ntmps202;go_wp2_with fail
 go_loopw [0,4] (fun p i wr=>∃k x:Nat,k<=8/\i = .int .i64 k/\p = .int .u32 (x:Int)/\Hid (x=pH k s)/\wr=w) (fun _ i _=>8-(intOf i).toNat)
 case atStart=>exact ⟨0,s,by omega,rfl,rfl,rfl,rfl⟩
 case round =>
  obtain ⟨k,x,hk,rfl,rfl,HX,rfl⟩:=hrel;have hlt:x<4294967296:=by rw [HX.out];exact sm hs k
  have hn:pH (k+1) s=mq x:=(by rw [HX.out];rfl);have e1:bits .and .u32 (x:Int) 1=((x &&& 1:Nat):Int):=u32_and_nat x 1 hlt (by omega);have e2:bits .xor .u32 ((x:Int) / 2) 3988292384=((x / 2 ^^^ 3988292384:Nat):Int):=u32_xor_nat (x / 2) 3988292384 (by omega) (by omega);by_cases hk8:k<8
  ·by_cases hb:x &&& 1=1
   ·have hb':(bits .and .u32 (x:Int) 1==1)=true:=by rw [e1,hb];rfl
    clear e1;have HE:=kH e2;clear e2;go_wp2_with fail
    refine ⟨⟨k+1,x / 2 ^^^ 3988292384,by omega,by simp,by rw [HE.out],?_,trivial⟩,by simp [intOf];omega⟩;show _=_;rw [hn,mq,zj hb]
   ·have hb':(bits .and .u32 (x:Int) 1==1)=false:=by
     rw [e1];refine zl.2 fun h=>hb ?_;omega
    clear e1 e2;go_wp2_with fail
    refine ⟨⟨k+1,x / 2,by omega,by simp,by simp,?_,trivial⟩,by simp [intOf];omega⟩;show _=_;rw [hn,mq,zi hb]
  ·obtain rfl:k=8:=by omega
   clear e1 e2;go_wp2_with fail
   go_ret;exact ⟨by rw [HX.out];rfl,rfl⟩

def so (s:Yb):Nat->Nat
 | 0=>4294967295
 | k+1=>pH 8 (so s k ^^^ (s.data[k]?.getD 0).toNat)
def cF (s:Yb):Nat:=4294967295 ^^^ so s s.size
theorem sq (s:Yb):∀k,so s k<4294967296
 | 0=>by simp [so]
 | k+1=>by
  refine sm (yz (n:=32) (sq s k) ?_) 8
  have:=(s.data[k]?.getD 0).toNat_lt
  omega

theorem su (s:Yb) (hs:s.size<=1000000) (w:Yw):Cl 157 #[.string s] w fun e w'=>e = .returned (.int .u32 (cF s:Nat))/\w'=w:=by
 go_enter Tryz.func157,Tryz.ntmps157;go_wp2_with fail
 go_loopw [3,7] (fun p i wr=>∃k x:Nat,k<=s.size/\i = .int .i64 k/\p = .int .u32 (x:Int)/\Hid (x=so s k)/\wr=w) (fun _ i _=>s.size-(intOf i).toNat)
 case atStart=>exact ⟨0,4294967295,jq _,rfl,rfl,rfl,rfl⟩
 case round =>
  obtain ⟨k,x,hk,rfl,rfl,HX,rfl⟩:=hrel;have hlt:x<4294967296:=by rw [HX.out];exact sq s k
  by_cases hks:k<s.size
  ·have hc':Hid (s.data[k]?.getD 0=s[k]):=by
    show _=_;rw [qN (show k<s.data.size from hks)];rfl
   have hu:=s[k].toNat_lt;have e2:bits .xor .u32 (x:Int) (s[k].toNat:Int)=((x ^^^ s[k].toNat:Nat):Int):=u32_xor_nat x s[k].toNat hlt (by omega);have hl2:x ^^^ s[k].toNat<4294967296:=yz (n:=32) hlt (by omega);have HC:=Ap (x ^^^ s[k].toNat) hl2;have HN:Hid (so s (k+1)=pH 8 (x ^^^ s[k].toNat)):=by show _=_;rw [HX.out,<-hc'.out];rfl
   clear hl2
   go_wp2_with (go_at_call 202;refine (HC _).mono ?_;rintro e w' ⟨rfl,rfl⟩)
   refine ⟨⟨k+1,_,by omega,by simp,rfl,?_,trivial⟩,by simp [intOf];omega⟩;exact HN.out.symm
  ·obtain rfl:k=s.size:=by omega
   have e3:Hid (bits .xor .u32 IntKind.u32.max (x:Int)=((4294967295 ^^^ x:Nat):Int)):=u32_xor_nat 4294967295 x (by omega) hlt;go_wp2_with fail
   go_ret;refine ⟨?_,rfl⟩;show Ending.returned (Value.int IntKind.u32 (bits BinOp.xor IntKind.u32 IntKind.u32.max ↑x))=_;rw [e3.out,cF,HX.out]

end
end Go.Proofs.YtaaimbpnogkngaaGreatDoor
