/-
  cF De Leafs Df Dg, joined.
  Conditions: those that each states.
-/
import Derived.Test.YthofhjnfkholoaaGreatDoorQ16
import Derived.OneCell
import Derived.WalkLawsBesides
import Derived.WalkSpells
namespace Go.Proofs.YthofhjnfkholoaaGreatDoor
set_option maxRecDepth 100000
open Go.RowKit

theorem cC (w:World) (c:Array Value) (t:TypeId):(w.alloc (.cells c t)).heap[w.heap.size]? = some (.cells c t (0,0)):=by
 show (w.heap.push _)[w.heap.size]? = _
 simp
theorem bS {w:World} {b:Nat} {c:Array Value} {t:TypeId} (h:w.heap[b]? = some (.cells c t (0,0))) (i:Nat):w.frozen? ⟨b,i,none⟩=false:=by simp [World.frozen?,h]
theorem aU {w w':World} {base:Nat} {e:TypeId} {size:Nat} {v:Value} {n:Nat} {xs:List Value} (h:w.ownsRow base e size v n xs) (hb:∀k,v.ownBlock=some k->w'.heap[k]? = w.heap[k]?):w'.ownsRow base e size v n xs:=by
 obtain ⟨h1,h2⟩:=h;refine ⟨h1,?_⟩
 rcases h2 with h2|⟨g,cap,cur,hv,hg,hh,r⟩
 ·exact .inl h2
 ·subst hv
  exact .inr ⟨g,cap,cur,rfl,hg,by rw [hb g rfl];exact hh,r⟩
def cF (w:World):(Nat->Prop)->Nat->List (ByteArray×ab)->Value->Prop
 | _,0,_,_=>False
 | Q,d+1,l,v=>l.length<=1759218604390/\(∀x∈l,x.1.size<=140737488355328)/\∃(us:List Value) (Qs:Nat->Nat->Prop),us.length=l.length/\w.ownsRow 0 141 5 v l.length (bq l us)/\(∀g,v.ownBlock=some g->Q g) /\
   (∀i x u,l[i]? = some x->us[i]? = some u->cF w (Qs i) d x.2.kids u)/\(∀i b,Qs i b->Q b/\v.ownBlock≠some b)/\∀i j b,i≠j->Qs i b->¬Qs j b
theorem cF.kept {w w':World}:∀ {d:Nat} {Q Q':Nat->Prop} {l:List (ByteArray×ab)} {v:Value},(∀k,Q k->w'.heap[k]? = w.heap[k]?)->(∀k,Q k->Q' k)->cF w Q d l v->cF w' Q' d l v
 | 0,_,_,_,_,_,_,h=>h
 | _+1,_,_,_,_,hb,hq,⟨h1,h2,us,Qs,h3,h4,h5,h6,h7,h8⟩ =>
  ⟨h1,h2,us,Qs,h3,aU h4 fun k hk=>hb k (h5 k hk),fun g hg=>hq g (h5 g hg),fun i x u hx hu=>cF.kept (fun k hk=>hb k (h7 i k hk).1) (fun _ hk=>hk) (h6 i x u hx hu),fun i b hi=>⟨hq b (h7 i b hi).1,(h7 i b hi).2⟩,h8⟩
theorem cF.liesQ {w:World}:∀ {d:Nat} {Q:Nat->Prop} {l:List (ByteArray×ab)} {v:Value},cF w Q d l v->dY w Q d l v
 | 0,_,_,_,h=>h
 | _+1,_,_,_,⟨h1,h2,_,_,h3,h4,h5,h6,h7,_⟩ =>
  dY.made h4 h1 h3 h5 h2 fun i x u hx hu=>(cF.liesQ (h6 i x u hx hu)).kept (fun _ _=>rfl) fun k hk=>(h7 i k hk).1
theorem cF.form {w:World} {Q:Nat->Prop} {d:Nat} {l:List (ByteArray×ab)} {v:Value} (h:cF w Q d l v):∃ad cap,v = .slice ad l.length cap:=h.liesQ.form
end Go.Proofs.YthofhjnfkholoaaGreatDoor
namespace Go.Proofs.YthofhjnfkholoaaGreatDoor
open Go.RowKit

def Jd (w:World) (B:Nat):Nat->List (ByteArray×ab)->Value->Prop
 | 0,_,_=>False
 | d+1,l,v=>∃ad cap,v = .slice ad l.length cap/\l.length<=cap/\cap<=maxLen/\l.length<=1759218604390/\∀i x,l[i]? = some x->∃b off u,ad=some ⟨b,off,none⟩/\b<B/\x.1.size<=140737488355328 /\
   w.cell? ⟨b,off+i*5,none⟩=some (.string x.1)/\w.cell? ⟨b,off+i*5+1,none⟩=some (.string x.2.kind)/\w.cell? ⟨b,off+i*5+2,none⟩=some (.string x.2.data) /\
   w.cell? ⟨b,off+i*5+3,none⟩=some (.bool x.2.exec)/\w.cell? ⟨b,off+i*5+4,none⟩=some u/\Jd w B d x.2.kids u
end Go.Proofs.YthofhjnfkholoaaGreatDoor
namespace Go.Proofs.YthofhjnfkholoaaGreatDoor
section
set_option maxRecDepth 100000
open Go.RowKit

structure eA (w:World) (b o:Nat) (t:ab) (u:Value):Prop where
 kind:w.cell? ⟨b,o,none⟩=some (.string t.kind)
 data:w.cell? ⟨b,o+1,none⟩=some (.string t.data)
 exec:w.cell? ⟨b,o+2,none⟩=some (.bool t.exec)
 kids:w.cell? ⟨b,o+3,none⟩=some u
theorem eA.same {w w':World} {b o:Nat} {t:ab} {u:Value} (h:eA w b o t u) (hc:∀j,o<=j->j<o+4->w'.cell? ⟨b,j,none⟩=w.cell? ⟨b,j,none⟩):eA w' b o t u :=
 ⟨by rw [hc o (by omega) (by omega)];exact h.kind,by rw [hc (o+1) (by omega) (by omega)];exact h.data,by rw [hc (o+2) (by omega) (by omega)];exact h.exec,by rw [hc (o+3) (by omega) (by omega)];exact h.kids⟩
def zZ (w:World) (b:Nat) (cur:Array Value):Prop:=w.heap[b]? = some (.cells cur 53 (0,0))∨w.heap[b]? = some (.cells cur 141 (0,0))
def dR:Obj->Bool
 | .cells _ t _=>t==53||t==141
 | _=>false
def bR (w:World):(Nat->Prop)->Nat->Nat->Nat->ab->Prop
 | _,0,_,_,_=>False
 | Q,d+1,b,o,t=>∃ad cap,eA w b o t (.slice ad t.kids.length cap)/\t.kids.length<=1759218604390/\t.kids.length<=cap/\(t.kids≠[]->∃(g:Nat) (cur:Array Value) (Qs:Nat->Nat->Prop),ad=some ⟨g,0,none⟩/\Q g/\w.heap[g]? = some (.cells cur 141 (0,0))/\t.kids.length*5<=cur.size /\
   (∀i x,t.kids[i]? = some x->x.1.size<=140737488355328/\w.cell? ⟨g,i*5,none⟩=some (.string x.1)/\bR w (Qs i) d g (i*5+1) x.2)/\(∀i k,Qs i k->Q k/\k≠g)/\∀i j k,i≠j->Qs i k->¬Qs j k)
theorem bR.kept {w w':World}:∀ {d:Nat} {Q Q':Nat->Prop} {b o:Nat} {t:ab},bR w Q d b o t->(∀k cur,Q k->w.heap[k]? = some (.cells cur 141 (0,0))->w'.heap[k]? = some (.cells cur 141 (0,0)))->(∀j,o<=j->j<o+4->w'.cell? ⟨b,j,none⟩=w.cell? ⟨b,j,none⟩)->(∀k,Q k->Q' k)->bR w' Q' d b o t
 | 0,_,_,_,_,_,h,_,_,_=>h
 | d+1,Q,Q',b,o,t,⟨ad,cap,hn,hl,hlc,hk⟩,hq,hc,hqq=>⟨ad,cap,hn.same hc,hl,hlc,fun hne=>by
  obtain ⟨g,cur,Qs,e,hg,hr,hs,hi,hsub,hdis⟩:=hk hne;have hr':=hq g cur hg hr;have hcell:∀j,w'.cell? ⟨g,j,none⟩=w.cell? ⟨g,j,none⟩:=fun j=>jl (by rw [hr,hr']);refine ⟨g,cur,Qs,e,hqq g hg,hr',hs,fun i x hx=>?_,fun i k h=>⟨hqq k (hsub i k h).1,(hsub i k h).2⟩,hdis⟩;obtain ⟨h1,h2,h3⟩:=hi i x hx;exact ⟨h1,by rw [hcell];exact h2,bR.kept h3 (fun k cur hk hr=>hq k cur (hsub i k hk).1 hr) (fun j _ _=>hcell j) (fun _ h=>h)⟩⟩
theorem bR.of_own {w:World}:∀ {d:Nat} {Q:Nat->Prop} {b o:Nat} {t:ab} {u:Value},cF w Q d t.kids u->eA w b o t u->bR w Q d b o t
 | 0,_,_,_,_,_,h,_=>h
 | d+1,Q,b,o,t,u,⟨h1,h2,us,Qs,h3,h4,h5,h6,h7,h8⟩,hn=>by
  rcases h4.2 with ⟨rfl,h0⟩|⟨g,cap,cur,rfl,_,hr,hlc,_,hsz,_⟩
  ·exact ⟨none,0,by rw [h0];exact hn,h1,by omega,fun hne=>absurd (qf h0) hne⟩
  ·refine ⟨some ⟨g,0,none⟩,cap,hn,h1,hlc,fun _=>⟨g,cur,Qs,rfl,h5 g rfl,hr,by rw [hsz];exact Nat.mul_le_mul_right _ hlc,fun i x hx=>?_,fun i k hk=>⟨(h7 i k hk).1,fun e=>(h7 i k hk).2 (by rw [e];rfl)⟩,h8⟩⟩
   have hi:=(jb.1 hx).1;obtain ⟨uu,hu⟩:∃uu,us[i]? = some uu:=⟨_,jc (by rw [h3];exact hi)⟩;have hc:=h4.cells (g:=g) rfl;have hadd:∀j,(⟨g,0,none⟩:Addr).add j=⟨g,j,none⟩:=fun j=>by unfold Addr.add;split <;> simp_all
   obtain ⟨a0,a1,a2,a3,a4⟩:=iV hx hu;have c0:=hc _ _ a0;have c1:=hc _ _ a1;have c2:=hc _ _ a2;have c3:=hc _ _ a3;have c4:=hc _ _ a4;rw [hadd] at c0 c1 c2 c3 c4;exact ⟨h2 x (jg hx),c0,bR.of_own (h6 i x uu hx hu) ⟨c1,c2,c3,c4⟩⟩
theorem bR.lies {w:World} {B:Nat}:∀ {d:Nat} {Q:Nat->Prop} {b o:Nat} {t:ab},bR w Q d b o t->(∀k,Q k->k<B)->∃u,eA w b o t u/\aE w B d t.kids u
 | 0,_,_,_,_,h,_=>h.elim
 | d+1,Q,b,o,t,⟨ad,cap,hn,hl,hlc,hk⟩,hB=>by
  refine ⟨_,hn,ad,cap,rfl,hl,fun i x hx=>?_⟩;obtain ⟨g,cur,Qs,e,hg,hr,hs,hi,hsub,hdis⟩:=hk (fun h0=>by rw [h0] at hx;simp at hx);obtain ⟨h1,h2,h3⟩:=hi i x hx;obtain ⟨u,hc,hl3⟩:=bR.lies h3 (fun k hk=>hB k (hsub i k hk).1);refine ⟨g,0,u,e,hB g hg,h1,?_⟩;simp only [j6];exact ⟨h2,hc.kind,hc.data,hc.exec,hc.kids,hl3⟩
structure bB (Q:Nat->Prop) (b o:Nat) (w w':World):Prop where
 tre:∀k obj,w.heap[k]? = some obj->dR obj=true->k≠b->¬Q k->w'.heap[k]? = some obj
 blk:∀cur ty,w.heap[b]? = some (.cells cur ty (0,0))->∃cur',w'.heap[b]? = some (.cells cur' ty (0,0))/\cur'.size=cur.size/\∀j,(j<o∨o+4<=j)->cur'[j]? = cur[j]?
theorem bB.refl (Q:Nat->Prop) (b o:Nat) (w:World):bB Q b o w w:=⟨fun _ _ h _ _ _=>h,fun cur _ h=>⟨cur,h,rfl,fun _ _=>rfl⟩⟩
theorem bB.trans {Q:Nat->Prop} {b o:Nat} {w1 w2 w3:World} (h:bB Q b o w1 w2) (h':bB Q b o w2 w3):bB Q b o w1 w3 :=
 ⟨fun k obj hk ht hb hq=>h'.tre k obj (h.tre k obj hk ht hb hq) ht hb hq,fun cur ty hr=>by
  obtain ⟨c1,r1,s1,e1⟩:=h.blk cur ty hr;obtain ⟨c2,r2,s2,e2⟩:=h'.blk c1 ty r1;exact ⟨c2,r2,s2.trans s1,fun j hj=>(e2 j hj).trans (e1 j hj)⟩⟩
theorem bB.of_eq {Q:Nat->Prop} {b o:Nat} {w w':World} (h:w'.heap=w.heap):bB Q b o w w':=⟨fun _ _ hk _ _ _=>by rw [h];exact hk,fun cur _ hr=>⟨cur,by rw [h];exact hr,rfl,fun _ _=>rfl⟩⟩
theorem bB.kid {Q Q':Nat->Prop} {b o g o':Nat} {w w':World} (h:bB Q' g o' w w') (hg:Q g) (hsub:∀k,Q' k->Q k) (hb:¬Q b) (hr:∃cur,zZ w b cur):bB Q b o w w':=by
 obtain ⟨cur,hr⟩:=hr;have hbg:b≠g:=fun e=>hb (by rw [e];exact hg);refine ⟨fun k obj hk ht _ hq=>h.tre k obj hk ht (fun e=>hq (by rw [e];exact hg)) (fun h'=>hq (hsub k h')),fun c ty hc=>?_⟩;refine ⟨c,h.tre b _ hc ?_ hbg (fun h'=>hb (hsub b h')),rfl,fun _ _=>rfl⟩
 rcases hr with hr|hr <;> rw [hr] at hc <;> cases hc <;> rfl
theorem bB.cell {Q:Nat->Prop} {b o:Nat} {w w':World} (h:bB Q b o w w') {cur:Array Value} {ty:TypeId} (hr:w.heap[b]? = some (.cells cur ty (0,0))) {j:Nat} (hj:j<o∨o+4<=j):w'.cell? ⟨b,j,none⟩=w.cell? ⟨b,j,none⟩:=by
 obtain ⟨c1,r1,_,e1⟩:=h.blk cur ty hr;rw [ze _ _ _ _ _ _ hr,ze _ _ _ _ _ _ r1,e1 j hj]
def gQ (p:ByteArray):ByteArray:=if p.toList.isEmpty then aB else p
def bZ:Nat->ByteArray->ab->List (ByteArray×ab)
 | 0,_,_=>[]
 | d+1,p,t=>if aI t=true then [(gQ p,t)] else t.kids.flatMap fun x=>bZ d (p++aB++x.1) x.2
def cO (g:ByteArray->ab->ab):Nat->ByteArray->ab->ab
 | 0,_,t=>t
 | d+1,p,t=>if aI t=true then g (gQ p) t else { t with kids:=t.kids.map fun x=>(x.1,cO g d (p++aB++x.1) x.2) }
def fA:Nat->ab->Prop
 | 0,_=>True
 | d+1,t=>(aI t=true->t.kids = [])/\∀x∈t.kids,x.1.size<=12/\fA d x.2
def fh (g:ByteArray->ab->ab) (d:Nat) (p:ByteArray) (ks:List (ByteArray×ab)) (gb:Nat) (Qs:Nat->Nat->Prop) (j:Nat) (w:World):Prop :=
 ∃cur,w.heap[gb]? = some (.cells cur 141 (0,0))/\ks.length*5<=cur.size/\∀i x,ks[i]? = some x->x.1.size<=140737488355328/\w.cell? ⟨gb,i*5,none⟩=some (.string x.1)/\bR w (Qs i) d gb (i*5+1) (if i<j then cO g d (p++aB++x.1) x.2 else x.2)
theorem fh.drew {g:ByteArray->ab->ab} {d:Nat} {p:ByteArray} {ks:List (ByteArray×ab)} {gb:Nat} {Qs:Nat->Nat->Prop} {j:Nat} {w:World} (K:fh g d p ks gb Qs j w):fh g d p ks gb Qs j w.drew:=by
 obtain ⟨cur,h1,h2,h3⟩:=K;exact ⟨cur,h1,h2,fun i x hx=>⟨(h3 i x hx).1,(h3 i x hx).2.1,(h3 i x hx).2.2.kept (fun _ _ _ h=>h) (fun _ _ _=>rfl) (fun _ h=>h)⟩⟩
theorem fh.next {g:ByteArray->ab->ab} {d:Nat} {p:ByteArray} {ks:List (ByteArray×ab)} {gb:Nat} {Qs:Nat->Nat->Prop} {j:Nat} {w w':World} {x:ByteArray×ab} (K:fh g d p ks gb Qs j w) (hx:ks[j]? = some x) (hT:bR w' (Qs j) d gb (j*5+1) (cO g d (p++aB++x.1) x.2)) (hF:bB (Qs j) gb (j*5+1) w w') (hsub:∀i k,Qs i k->k≠gb) (hdis:∀i j k,i≠j->Qs i k->¬Qs j k):fh g d p ks gb Qs (j+1) w':=by
 obtain ⟨cur,h1,h2,h3⟩:=K;obtain ⟨c1,r1,s1,_⟩:=hF.blk cur _ h1;refine ⟨c1,r1,by rw [s1];exact h2,fun i y hy=>?_⟩;obtain ⟨a1,a2,a3⟩:=h3 i y hy;refine ⟨a1,?_,?_⟩
 ·rw [hF.cell h1 (j:=i*5) (by omega)];exact a2
 ·by_cases e:i=j
  ·subst e
   rw [hx] at hy;cases hy;rw [zj (by omega)];exact hT
  ·have e2:(if i<j+1 then cO g d (p++aB++y.1) y.2 else y.2)=(if i<j then cO g d (p++aB++y.1) y.2 else y.2):=by
    by_cases h:i<j
    ·rw [zj h,zj (by omega)]
    ·rw [zi h,zi (by omega)]
   rw [e2];exact a3.kept (fun k c hk hr=>hF.tre k _ hr rfl (hsub i k hk) (hdis i j k e hk)) (fun q h1' h2'=>hF.cell h1 (by omega)) (fun _ h=>h)
theorem fh.all {g:ByteArray->ab->ab} {d:Nat} {p:ByteArray} {t:ab} {gb b o cap:Nat} {Q:Nat->Prop} {Qs:Nat->Nat->Prop} {w:World} (K:fh g d p t.kids gb Qs t.kids.length w) (hn:eA w b o t (.slice (some ⟨gb,0,none⟩) t.kids.length cap)) (hl:t.kids.length<=1759218604390) (hlc:t.kids.length<=cap) (hg:Q gb) (hsub:∀i k,Qs i k->Q k/\k≠gb) (hdis:∀i j k,i≠j->Qs i k->¬Qs j k) (hf:aI t=false):bR w Q (d+1) b o (cO g (d+1) p t):=by
 have e:cO g (d+1) p t = { t with kids:=t.kids.map fun x=>(x.1,cO g d (p++aB++x.1) x.2) }:=by rw [cO,zi (by rw [hf];simp)]
 obtain ⟨cur,h1,h2,h3⟩:=K;rw [e];refine ⟨some ⟨gb,0,none⟩,cap,?_,by simpa using hl,by simpa using hlc,fun _=>⟨gb,cur,Qs,rfl,hg,h1,by simpa using h2,fun i y hy=>?_,hsub,hdis⟩⟩
 ·simp only [jB]
  exact ⟨hn.kind,hn.data,hn.exec,hn.kids⟩
 ·simp only [jx,qP] at hy
  obtain ⟨x,hx,rfl⟩:=hy;obtain ⟨a1,a2,a3⟩:=h3 i x hx;rw [zj (jb.1 hx).1] at a3;exact ⟨a1,a2,a3⟩
structure vt (P:Program) (f:FuncId) (cp:Array Value) (tS:TypeId) (g:ByteArray->ab->ab) (J:List (ByteArray×ab)->World->Prop) (E:Value->World->Prop) (B0:Nat):Prop where
 drew:∀r w,J r w->J r w.drew
 call:∀p t r w b o ad cap cur,J ((p,t) :: r) w->eA w b o t (.slice ad 0 cap)->zZ w b cur->o+4<=cur.size->aI t=true->t.kids = []->B0<=b ->
  Calls P f (#[.string p,.pointer (some ⟨b,o,none⟩)]++cp) w fun e w'=>(e = .returned .nilIface/\J r w'/\(∃ad' cap',eA w' b o (g p t) (.slice ad' 0 cap'))/\(g p t).kids = []/\bB (fun _=>False) b o w w')∨(∃er,e = .returned (.iface tS er)/\E (.iface tS er) w')
def uL (tS:TypeId) (Q:Nat->Prop) (d b o:Nat) (t':ab) (r:List (ByteArray×ab)) (J:List (ByteArray×ab)->World->Prop) (E:Value->World->Prop) (w:World) (e:Ending) (w':World):Prop :=
 (e = .returned .nilIface/\J r w'/\bR w' Q d b o t'/\bB Q b o w w')∨(∃er,e = .returned (.iface tS er)/\E (.iface tS er) w')
end
section
set_option maxRecDepth 100000
set_option maxHeartbeats 1000000
open Go.RowKit

theorem ce {a b:Bool} (h:a=b):Ending.returned (.bool a) = .returned (.bool b):=by rw [h]

theorem oH (c:Int) (w:World):Cl 202 #[.int .u8 c] w fun e w'=>e = .returned (.bool (nb c))/\w'=w:=by
 go_enter Tryz.func202,Tryz.ntmps202
 go_wp2
 all_goals (go_ret;refine ⟨ce ?_,rfl⟩)
 all_goals (unfold nb;rw [Bool.eq_iff_iff];simp;try omega)

theorem p9 (s:ByteArray) (w:World) (hs:s.size<=maxLen):Cl 189 #[.string s] w fun e w'=>e = .returned (.bool (aM s))/\w'=w:=by
 unfold maxLen at hs;by_cases hg:(1<=s.size/\s.size<=12)/\(s.toList == [46])=false/\(s.toList == [46,46])=false
 ·obtain ⟨⟨h1,h2⟩,h3,h4⟩:=hg
  have HE:=kH (BM h1 h2 h3 h4);go_enter Tryz.func189,Tryz.ntmps189;go_wp2_with fail
  go_loop [22] (fun i=>∃k:Nat,k<=s.size/\i = .int .i64 k/\(s.data.toList.take k).all (fun c=>nb (c.toNat:Int))=true) (fun i=>s.size-(intOf i).toNat)
  case atStart=>exact ⟨0,jq _,rfl,by simp⟩
  case round =>
   obtain ⟨k,hk,rfl,hall⟩:=hrel;have HA:=kH hall;clear hall;by_cases hlt:k<s.size
   ·have HS:=nt (p:=fun c=>nb (c.toNat:Int)) s k hlt
    have HS:Hid _:=HS;cases hc:nb (s[k].toNat:Int)
    ·have HM:Hid (s.data.toList.all (fun c=>nb (c.toNat:Int))=false):=nu (p:=fun c=>nb (c.toNat:Int)) s k hlt hc
     go_wp2_with fail
     refine (oH _ _).mono ?_;rintro e w' ⟨rfl,rfl⟩;go_wp2_with fail
     go_ret;exact ⟨ce (by rw [HE.out,HM.out]),rfl⟩
    ·have HC:=kH hc
     go_wp2_with fail
     refine (oH _ _).mono ?_;rintro e w' ⟨rfl,rfl⟩;go_wp2_with fail
     go_round
     case rel=>exact ⟨k+1,by omega,by go_num,by rw [HS.out,HA.out];exact HC.out⟩
     case measure=>simp [intOf];omega
   ·have ek:k=s.size:=by omega
    have HB:Hid (s.data.toList.all (fun c=>nb (c.toNat:Int))=true):=by
     have:=HA.out
     rw [ek,lR] at this;exact this
    clear ek;go_wp2_with fail
    go_ret;exact ⟨ce (by rw [HE.out,HB.out]),rfl⟩
 ·have HE:=kH (D8 hg)
  go_enter Tryz.func189,Tryz.ntmps189;go_wp2_with fail
  all_goals first
   | (go_ret;exact ⟨ce HE.out.symm,rfl⟩)
   | (exfalso;apply hg;refine ⟨⟨by omega,by omega⟩,?_,?_⟩ <;> simp_all)
end
section
set_option maxHeartbeats 2000000
set_option maxRecDepth 100000
open Go.RowKit

theorem vu {g:ByteArray->ab->ab} {J:List (ByteArray×ab)->World->Prop} {E:Value->World->Prop} {B0:Nat} {cl:FuncId} (eg:∀args w,(callFunc cl args).run Tryz.prog w = .ok (.enter cl args) w) (cp:Array Value) (V:vt Tryz.prog cl cp 319 g J E B0):∀(d:Nat) (t:ab) (p:ByteArray) (b o:Nat) (Q:Nat->Prop) (r:List (ByteArray×ab)) (w:World) (cur:Array Value),J (bZ d p t++r) w->bR w Q d b o t->zZ w b cur->o+4<=cur.size->¬Q b->fA d t->p.size+d*20<=100000->(∀q,Q q->B0<=q)->B0<=b ->
  Cl 157 #[.pointer (some ⟨b,o,none⟩),.string p,.func (.func cl) #[] cp] w (uL 319 Q d b o (cO g d p t) r J E w):=by
 intro d
 induction d with
 | zero=>intro t p b o Q r w cur _ h;exact h.elim
 | succ d ih =>
  intro t p b o Q r w cur hJ hT hR hRs hQb hG hp hQ0 hb0;obtain ⟨ad,cap,hn,hl,hlc,hk⟩:=hT;have n0:=hn.kind;have n3:=hn.kids
  cases hf:aI t with
  | true =>
   have hk0:t.kids = []:=hG.1 hf;have kf:(t.kind.toList == [102,105,108,101])=true:=hf;have e1:bZ (d+1) p t = [(gQ p,t)]:=(by rw [bZ,zj hf]);have e2:cO g (d+1) p t=g (gQ p) t:=(by rw [cO,zj hf]);rw [e1] at hJ;rw [e2];rw [hk0] at hn;have hv:=V.call (gQ p) t r w b o ad cap cur hJ hn hR hRs hf hk0 hb0
   have HFIN:Hid (∀w',((∃ad' cap',eA w' b o (g (gQ p) t) (.slice ad' 0 cap'))/\(g (gQ p) t).kids = []/\bB (fun _=>False) b o w w')->bR w' Q (d+1) b o (g (gQ p) t)/\bB Q b o w w'):=fun w' ⟨⟨ad',cap',hn'⟩,hk',hF⟩=>by
    refine ⟨⟨ad',cap',by rw [hk'];exact hn',by rw [hk'];simp,by rw [hk'];exact jq _,fun hne=>absurd hk' hne⟩,⟨fun k obj h1 h2 h3 _=>hF.tre k obj h1 h2 h3 (fun h=>h),hF.blk⟩⟩
   have HV:=kH hv;clear hv ih hJ hn hk hG hf e1 e2 hk0 hQ0 hb0
   cases hpe:p.toList.isEmpty with
   | true =>
    have et:gQ p=aB:=(by unfold gQ;rw [hpe];rfl);rw [et] at HV HFIN ⊢;go_enter Tryz.func157,Tryz.ntmps157;go_wp2_with fail
    refine jk HV.out ?_;rintro e w2 hpost
    rcases hpost with ⟨rfl,hJ2,hT2⟩|⟨er,rfl,hE2⟩
    ·go_wp2_with fail
     go_ret;exact .inl ⟨rfl,hJ2,HFIN.out w2 hT2⟩
    ·go_wp2_with fail
     go_ret;exact .inr ⟨er,rfl,hE2⟩
   | false =>
    have et:gQ p=p:=(by unfold gQ;rw [hpe];rfl);rw [et] at HV HFIN ⊢;go_enter Tryz.func157,Tryz.ntmps157;go_wp2_with fail
    refine jk HV.out ?_;rintro e w2 hpost
    rcases hpost with ⟨rfl,hJ2,hT2⟩|⟨er,rfl,hE2⟩
    ·go_wp2_with fail
     go_ret;exact .inl ⟨rfl,hJ2,HFIN.out w2 hT2⟩
    ·go_wp2_with fail
     go_ret;exact .inr ⟨er,rfl,hE2⟩
  | false =>
   have kf:(t.kind.toList == [102,105,108,101])=false:=hf;have e1:bZ (d+1) p t=t.kids.flatMap fun x=>bZ d (p++aB++x.1) x.2:=(by rw [bZ,zi (by rw [hf];simp)]);rw [e1] at hJ;by_cases hk0:t.kids = []
   ·have HFIN:Hid (uL 319 Q (d+1) b o (cO g (d+1) p t) r J E w (.returned .nilIface) w):=by
     have e2:cO g (d+1) p t=t:=by
      rw [cO,zi (by rw [hf];simp),hk0];cases t;simp only at hk0;subst hk0;rfl
     rw [e2];refine .inl ⟨rfl,?_,⟨ad,cap,hn,hl,hlc,hk⟩,bB.refl _ _ _ _⟩;rw [hk0] at hJ;exact hJ
    rw [hk0] at n3;clear hJ hn hk hG hf e1 ih hk0 hl hQ0 hb0;go_enter Tryz.func157,Tryz.ntmps157;go_wp2_with fail
    go_loopw [26] (fun i wr=>i = .int .i64 0/\wr=w) (fun _ _=>0)
    case atStart=>exact ⟨rfl,rfl⟩
    case round =>
     obtain ⟨rfl,rfl⟩:=hrel;go_wp2_with fail
     go_ret;exact HFIN.out
   ·obtain ⟨gb,cur0,Qs,rfl,hg,hr0,hs0,hi0,hsub,hdis⟩:=hk hk0
    have HSUB:=kH hsub;have HDIS:=kH hdis;have hgb:¬b=gb:=fun e=>hQb (by rw [e];exact hg);have HEND:Hid (∀wr,fh g d p t.kids gb Qs t.kids.length wr->wr.heap[b]? = w.heap[b]? -> bR wr Q (d+1) b o (cO g (d+1) p t)):=fun wr hK hb=>hK.all (hn.same fun q _ _=>jl hb) hl hlc hg hsub hdis hf;have HFR0:Hid (∀(wr w':World) (j:Nat),wr.heap[b]? = w.heap[b]? -> bB Q b o w wr->bB (Qs j) gb (j*5+1) wr.drew w'->bB Q b o w w'):=fun wr w' j hb hF hF2=>(hF.trans (bB.of_eq (w':=wr.drew) rfl)).trans (hF2.kid hg (fun k h=>(hsub j k h).1) hQb ⟨cur,by unfold zZ at hR ⊢;show wr.heap[b]? = _∨wr.heap[b]? = _;rw [hb];exact hR⟩)
    have HBL0:Hid (∀(wr w':World) (j:Nat),wr.heap[b]? = w.heap[b]? -> bB (Qs j) gb (j*5+1) wr.drew w'->w'.heap[b]? = w.heap[b]?):=fun wr w' j hb hF2=>by
     rcases hR with hR|hR
     ·rw [hR];exact hF2.tre b _ (by show wr.heap[b]? = _;rw [hb];exact hR) rfl hgb (fun h=>hQb (hsub j b h).1)
     ·rw [hR];exact hF2.tre b _ (by show wr.heap[b]? = _;rw [hb];exact hR) rfl hgb (fun h=>hQb (hsub j b h).1)
    have HK0:Hid (fh g d p t.kids gb Qs 0 w):=⟨cur0,hr0,hs0,fun i x hx=>by rw [zi (by omega)];exact hi0 i x hx⟩;have HJ0:=kH hJ
    have HIH:Hid (∀(wr:World) (j:Nat) (x:ByteArray×ab),t.kids[j]? = some x->fh g d p t.kids gb Qs j wr->J ((t.kids.drop j).flatMap (fun x=>bZ d (p++aB++x.1) x.2)++r) wr->Cl 157 #[.pointer (some ⟨gb,j*5+1,none⟩),.string (p++aB++x.1),.func (.func cl) #[] cp] wr.drew (uL 319 (Qs j) d gb (j*5+1) (cO g d (p++aB++x.1) x.2) ((t.kids.drop (j+1)).flatMap (fun x=>bZ d (p++aB++x.1) x.2)++r) J E wr.drew)):=fun wr j x hx hK hJj=>by
     obtain ⟨c1,r1,s1,k1⟩:=hK.drew;have hj:=(jb.1 hx).1;obtain ⟨_,_,kT⟩:=k1 j x hx;rw [zi (by omega)] at kT;have hGx:=hG.2 x (jg hx);refine ih x.2 (p++aB++x.1) gb (j*5+1) (Qs j) _ wr.drew c1 ?_ kT (.inr r1) (by omega) (fun h=>(hsub j gb h).2 rfl) hGx.2 (by simp only [qe];have e:aB.size=1:=rfl;omega) (fun q h=>hQ0 q (hsub j q h).1) (hQ0 gb hg)
     have e3:t.kids.drop j=x :: t.kids.drop (j+1):=by
      rw [ql hj]
      congr 1
      have:=(jb.1 hx).2
      exact this
     rw [e3,jZ,jK] at hJj;exact V.drew _ _ hJj
    have HNM0:Hid (∀(wr:World) (j:Nat) (x:ByteArray×ab),t.kids[j]? = some x->fh g d p t.kids gb Qs j wr->wr.cell? ⟨gb,j*5,none⟩=some (.string x.1)/\x.1.size<=12):=fun wr j x hx hK=>by
     obtain ⟨c1,r1,s1,k1⟩:=hK;exact ⟨(k1 j x hx).2.1,(hG.2 x (jg hx)).1⟩
    have hnb:∀wr:World,wr.heap[b]? = w.heap[b]? -> wr.cell? ⟨b,o+3,none⟩=some (.slice (some ⟨gb,0,none⟩) t.kids.length cap):=fun wr hb=>(by rw [jl (a:=⟨b,o+3,none⟩) hb];exact n3);have HNB:Hid _:=hnb;obtain ⟨L,HL⟩:∃L,Hid (L=t.kids.length):=⟨_,(rfl:t.kids.length=_)⟩;rw [<-HL.out] at n3 HNB hl;clear hJ hn hk hG hf e1 ih hk0 hi0 hr0 hs0 hsub hdis hR hRs hnb V hg hQ0 hb0;go_enter Tryz.func157,Tryz.ntmps157;go_wp2_with fail
    go_loopw [26] (fun i wr=>∃j:Nat,j<=L/\i = .int .i64 j/\J ((t.kids.drop j).flatMap (fun x=>bZ d (p++aB++x.1) x.2)++r) wr/\bB Q b o w wr/\wr.heap[b]? = w.heap[b]? /\ fh g d p t.kids gb Qs j wr) (fun i _=>L-(intOf i).toNat)
    case atStart=>exact ⟨0,jq _,rfl,HJ0.out,bB.refl _ _ _ _,rfl,HK0.out⟩
    case round =>
     obtain ⟨j,hj,rfl,hJj,hFj,hbj,hKj⟩:=hrel;have c3:=HNB.out wr hbj;by_cases hlt:j<L
     ·obtain ⟨x,hx⟩:∃x,t.kids[j]? = some x:=⟨_,jc (by rw [<-HL.out];exact hlt)⟩
      have HXX:=kH hx;have HCL:=HIH.out wr j x hx hKj hJj;have HCL:=kH HCL;have HNM:=kH ((HNM0.out wr j x hx hKj).1);have hx12:=(HNM0.out wr j x hx hKj).2;have HFR:Hid (∀w',bB (Qs j) gb (j*5+1) wr.drew w'->bB Q b o w w'):=fun w' hF=>HFR0.out wr w' j hbj hFj hF;have HBL:Hid (∀w',bB (Qs j) gb (j*5+1) wr.drew w'->w'.heap[b]? = w.heap[b]?):=fun w' hF=>HBL0.out wr w' j hbj hF;have HKD:=kH hKj.drew;have hp2:p.size+1+x.1.size<=9223372036854775807:=(by omega);have hp1:p.size+1<=9223372036854775807:=(by omega);clear hx hKj hJj hFj hbj;go_wp2_with fail
      have nm:=HNM.out;refine zh (S:=fun _=>True) (by kernel_rfl) (trivial) (fun hHeld=>?_);refine aW [(0,pZ gb (j*5)),(1,pZ gb (j*5)),(2,pZ gb (j*5+1)),(3,.string p)] hHeld ?_;refine zr (i:=4) (v:=(.string (p++aB))) rfl (by kernel_rfl) (by kernel_rfl) (by kernel_rfl) (fun _ _ _ h=>h) (Or.inl ⟨by rfl,?_⟩) hHeld ?_
      ·intro w hSw;(try dsimp only at hSw);simp only [ai];go_simp;rw [zi (by omega)];rfl
      simp only [ai,Act.put,bj];refine aW [(5,pZ gb (j*5)),(6,pZ gb (j*5)),(7,pZ gb (j*5)),(10,.func (.func cl) #[] cp)] hHeld ?_;refine aC 8 rfl fun K' hK=>?_;go_wp2_with fail
      refine hK.out _ _ (trivial) (fun hHeld=>?_);clear hK K';refine zr (i:=9) (v:=(.string (p++aB++x.1))) rfl (by kernel_rfl) (by kernel_rfl) (by kernel_rfl) (fun _ _ _ h=>h) (Or.inl ⟨by rfl,?_⟩) hHeld ?_
      ·intro w hSw;(try dsimp only at hSw);simp only [ai];go_simp;(have e:aB.size=1:=rfl);omega
      simp only [ai,Act.put,bj];refine aC 11 rfl fun K' hK=>?_;simp only [ai];go_simp;refine jk (HCL.out) ?_;rintro e wx hpost
      rcases hpost with ⟨rfl,hJ2,hT2,hF2⟩|⟨er,rfl,hE2⟩
      ·skip
       go_wp2_with fail
       refine hK.out _ _ (trivial) (fun hHeld=>?_);clear hK K';refine aC 12 rfl fun K' hK=>?_;simp only [ai];go_simp;go_wp2_with fail
       refine hK.out _ _ (trivial) (fun hHeld=>?_);clear hK K';refine zk (by kernel_rfl) ?_ _;go_wp2_with fail
       exact ⟨⟨j+1,by omega,by simp,hJ2,HFR.out _ hF2,HBL.out _ hF2,HKD.out.next HXX.out hT2 hF2 (fun i k h=>(HSUB.out i k h).2) HDIS.out⟩,by simp [intOf];omega⟩
      ·skip
       go_wp2_with fail
       refine hK.out _ _ (trivial) (fun hHeld=>?_);clear hK K';refine aC 12 rfl fun K' hK=>?_;simp only [ai];go_simp;go_wp2_with fail
       refine hK.out _ _ (trivial) (fun hHeld=>?_);clear hK K';refine zk (by kernel_rfl) ?_ _;go_wp2_with fail
       go_ret;exact .inr ⟨er,rfl,hE2⟩
     ·obtain rfl:j=L:=by omega
      have HFIN:Hid (uL 319 Q (d+1) b o (cO g (d+1) p t) r J E w (.returned .nilIface) wr):=by
       refine .inl ⟨rfl,?_,HEND.out wr (by rw [<-HL.out];exact hKj) hbj,hFj⟩;rw [HL.out,List.drop_length] at hJj;exact hJj
      clear hJj hFj hbj hKj;go_wp2_with fail
      go_ret;exact HFIN.out
end
section
set_option maxHeartbeats 1000000
set_option maxRecDepth 100000
open Go.RowKit

def aN (l:List (ByteArray×ab)):Nat:=(l.map fun x=>aw x.2.data.size).sum
theorem fV (l m:List (ByteArray×ab)):aN (l++m)=aN l+aN m:=by simp [aN]
theorem bB.of_blocks {Q:Nat->Prop} {b o c:Nat} {w w':World} (h:∀k,k≠c->w'.heap[k]? = w.heap[k]?) (hc:∀obj,w.heap[c]? = some obj->dR obj=false) (hb:¬b=c):bB Q b o w w' :=
 ⟨fun k obj hk ht _ _=>(h k (fun e=>by rw [e] at hk;rw [hc obj hk] at ht;cases ht)).trans hk,fun cur _ hr=>⟨cur,(h b hb).trans hr,rfl,fun _ _=>rfl⟩⟩
def Fx (w0:World) (c N:Nat) (r:List (ByteArray×ab)) (w:World):Prop:=w0.heap.size<=c/\aN r<=N/\w.heap[c]? = some (.cells #[.int .i64 ((N-aN r:Nat):Int)] 3 (0,0))/\Bl w0 w/\(∀x∈r,x.2.data.size<=2000)/\N<=1000000
theorem Aa (w0:World) (c N:Nat):vt Tryz.prog 158 #[.pointer (some ⟨c,0,none⟩)] 319 (fun _ t=>t) (Fx w0 c N) (fun _ _=>False) 0:=by
 refine ⟨fun r w ⟨a1,a2,a3,a4,a5,a6⟩=>⟨a1,a2,a3,a4.drew,a5,a6⟩,fun p t r w b o ad cap cur hJ hn hR hRs hf hk _=>?_⟩;obtain ⟨h1,h2,h3,h4,h5,h6⟩:=hJ;have hd:t.data.size<=2000:=h5 (p,t) jy
 have HND:Hid (∀W,Cl 57 #[.int .i64 (t.data.size:Int)] W fun e w'=>e = .returned (.int .i64 (aw t.data.size:Int))/\w'=W):=fun W=>by
  have h:=sy (t.data.size:Int) W (by omega);rw [sH] at h;exact h
 have hnl:aN ((p,t) :: r)=aw t.data.size+aN r:=by simp [aN]
 rw [hnl] at h2 h3
 have hbc:¬b=c:=fun e=>by
  rcases hR with h|h <;> rw [e,h3] at h <;> simp only [jh,jL] at h <;> exact absurd h.2.1 (by decide)
 obtain ⟨K,HK⟩:∃K:Int,Hid (K=((N-(aw t.data.size+aN r):Nat):Int)):=⟨_,(rfl:_=_)⟩;rw [<-HK.out] at h3;have hKb:0<=K/\K<=1000000:=by rw [HK.out];omega
 have hc:w.cell? ⟨c,0,none⟩=some (.int .i64 K):=by rw [ze _ _ _ _ _ _ h3];rfl
 have hfz:w.frozen? ⟨c,0,none⟩=false:=by simp [World.frozen?,h3]
 have nd:=hn.data;have hnb:aw t.data.size<=1000:=by unfold aw;omega
 have HPO:Hid (∀W',W'=w.drew.setCell ⟨c,0,none⟩ (.int .i64 (K+(aw t.data.size:Int)))->Fx w0 c N r W'/\eA W' b o t (.slice ad 0 cap)/\bB (fun _=>False) b o w W'):=fun W' hW'=>by
  have hk2:∀k,k≠c->W'.heap[k]? = w.heap[k]? := fun k hk=>(by rw [hW'];exact jf _ _ _ _ hk);refine ⟨⟨h1,by omega,?_,⟨by rw [hW'];exact h4.os,by rw [hW'];exact h4.tape,by rw [hW'];exact h4.output,by rw [hW'];simp [World.setCell];exact h4.size,fun k hk=>by rw [hk2 k (by omega)];exact h4.block k hk⟩,fun x hx=>h5 x (jw _ hx),h6⟩,hn.same (fun j _ _=>jl (hk2 b hbc)),bB.of_blocks hk2 (fun obj ho=>by rw [h3] at ho;cases ho;rfl) hbc⟩;rw [hW',bI (show w.drew.heap[c]? = _ from h3),HK.out];have e:((N-(aw t.data.size+aN r):Nat):Int)+(aw t.data.size:Int)=((N-aN r:Nat):Int):=(by omega);rw [e];rfl
 have hwr:IntKind.i64.wrap (K+(aw t.data.size:Int))=K+(aw t.data.size:Int):=IntWalk.i64_in _ (by omega)
 have HAF:Hid ((w.drew.setCell ⟨c,0,none⟩ (.int .i64 (K+(aw t.data.size:Int)))).cell? ⟨b,o+1,none⟩=some (.string t.data)):=by
  show _=_;rw [jl (a:=⟨b,o+1,none⟩) (jf w.drew ⟨c,0,none⟩ _ b hbc)];exact nd
 clear h1 h2 h3 h4 h5 h6 hR hRs hn hnl;show Cl 158 #[.string p,.pointer (some ⟨b,o,none⟩),.pointer (some ⟨c,0,none⟩)] w _;go_enter Tryz.func158,Tryz.ntmps158;go_wp2_with fail
 refine zh (S:=fun w'=>w'.cell? ⟨b,o+1,none⟩=some (.string t.data)) (by kernel_rfl) (nd) (fun hHeld=>?_);refine aW [(1,pZ b o),(2,pZ b o),(3,pZ b (o+1)),(4,.string t.data),(5,iZ (t.data.size:Int))] hHeld ?_;refine zo (rs:=[0,6]) (by kernel_rfl) (by simp) ?_;refine jC rfl (fun K' hK=>?_) (jC rfl (fun K' hK=>?_) jW)
 focus
  go_wp2_with fail
  refine hK.out _ _ (nd) (fun hHeld=>?_);clear hK K';refine aC 6 rfl fun K' hK=>?_;simp only [ai];go_simp;refine jk (HND.out _) ?_;rintro e wx ⟨rfl,hw⟩;rw [hw];clear hw
 rotate_left
 focus
  simp only [ai];go_simp;refine jk (HND.out _) ?_;rintro e wx ⟨rfl,hw⟩;rw [hw];clear hw;go_wp2_with fail
  refine hK.out _ _ (nd) (fun hHeld=>?_);clear hK K';refine aC 0 rfl fun K' hK=>?_
 rotate_left
 all_goals
  go_wp2_with fail
  refine hK.out _ _ (nd) (fun hHeld=>?_);clear hK K';refine tk 7 (.int .i64 (K+(aw t.data.size:Int))) rfl hHeld ?_;simp only [ai,Act.put,bj];refine aC 8 rfl fun K' hK=>?_;simp only [ai];go_simp;go_wp2_with fail
  refine hK.out _ _ (HAF.out) (fun hHeld=>?_);clear hK K';refine zk (by kernel_rfl) ?_ _;go_wp2_with fail
  go_ret;obtain ⟨a1,a2,a3⟩:=HPO.out _ rfl;exact .inl ⟨rfl,a1,⟨ad,cap,a2⟩,hk,a3⟩
theorem vw (d:Nat) (t:ab) (u:Value) (Q:Nat->Prop) (w:World) (hO:cF w Q d t.kids u) (hQ:∀q,Q q->q<w.heap.size) (hG:fA d t) (hd:d*20<=100000) (hs:∀x∈bZ d { data:=#[] } t,x.2.data.size<=2000) (hN:aN (bZ d { data:=#[] } t)<=1000000) :
  Cl 125 #[.agg #[.string t.kind,.string t.data,.bool t.exec,u]] w fun e w'=>e = .returned (.int .i64 (aN (bZ d { data:=#[] } t):Int))/\Bl w w':=by
 obtain ⟨ad,cap,rfl⟩:=hO.form;obtain ⟨N,HN⟩:∃N,Hid (N=aN (bZ d { data:=#[] } t)):=⟨_,(rfl:_=_)⟩
 have HEA:Hid (Cl 157 #[.pointer (some ⟨w.heap.size,0,none⟩),.string { data:=#[] },.func (.func 158) #[] #[.pointer (some ⟨w.heap.size+1,0,none⟩)]] ((w.alloc (.cells #[.string t.kind,.string t.data,.bool t.exec,.slice ad t.kids.length cap] 53)).alloc (.cells #[.int .i64 0] 3)) fun e w'=>e = .returned .nilIface/\w'.cell? ⟨w.heap.size+1,0,none⟩=some (.int .i64 (N:Int))/\Bl w w'):=by
  have hb1:Bl w ((w.alloc (.cells #[.string t.kind,.string t.data,.bool t.exec,.slice ad t.kids.length cap] 53)).alloc (.cells #[.int .i64 0] 3)):=((je _ w).alloc (jd _) _).alloc (by simp) _;have hrow:((w.alloc (.cells #[.string t.kind,.string t.data,.bool t.exec,.slice ad t.kids.length cap] 53)).alloc (.cells #[.int .i64 0] 3)).heap[w.heap.size]? = some (.cells #[.string t.kind,.string t.data,.bool t.exec,.slice ad t.kids.length cap] 53 (0,0)):=(jp _ _ _ (by simp)).trans (heap_alloc_last w _);have hrow1:=heap_alloc_last (w.alloc (.cells #[.string t.kind,.string t.data,.bool t.exec,.slice ad t.kids.length cap] 53)) (.cells #[.int .i64 0] 3);rw [jE] at hrow1
  have hn:eA ((w.alloc (.cells #[.string t.kind,.string t.data,.bool t.exec,.slice ad t.kids.length cap] 53)).alloc (.cells #[.int .i64 0] 3)) w.heap.size 0 t (.slice ad t.kids.length cap):=by
   constructor <;> rw [ze _ _ _ _ _ _ hrow] <;> rfl
  have hT:=bR.of_own (hO.kept (fun k hk=>hb1.block k (hQ k hk)) (fun _ h=>h)) hn;refine (vu (enters_of Tryz.func158 (by kernel_rfl) rfl) _ (Aa w (w.heap.size+1) N) d t { data:=#[] } w.heap.size 0 Q [] _ _ ?_ hT (.inl hrow) (by simp) (fun h=>Nat.lt_irrefl _ (hQ _ h)) hG (by rw [show ({ data:=#[] }:ByteArray).size=0 from rfl];omega) (fun _ _=>jq _) (jq _)).mono ?_
  ·rw [qz]
   refine ⟨by omega,by rw [HN.out];exact jd _,?_,hb1,hs,by rw [HN.out];exact hN⟩;rw [<-HN.out,Nat.sub_self];exact hrow1
  ·rintro e w' (⟨he,⟨_,_,hJ,hb,_⟩,_⟩|⟨_,_,h⟩)
   ·refine ⟨he,?_,hb⟩
    rw [ze _ _ _ _ _ _ hJ];simp [aN]
   ·exact h.elim
 rw [<-HN.out];clear hO hs hG hN;go_enter Tryz.func125,Tryz.ntmps125;go_wp2_with fail
 refine jk HEA.out ?_;rintro e w2 ⟨rfl,hc,hb⟩;go_wp2_with fail
 go_ret;exact ⟨rfl,hb⟩
end
end Go.Proofs.YthofhjnfkholoaaGreatDoor
