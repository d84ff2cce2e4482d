/- Check Dq Dr Same Ds Dt Du Dw, joined. Conditions: as each states. -/
import Derived.Test.YtaaimbpnogkngaaGreatDoorQ09
namespace Go.Proofs.YtaaimbpnogkngaaGreatDoor
set_option maxHeartbeats 4000000
set_option maxRecDepth 100000
section
open Go.RowKit

def ck (n:Nat) (x:Yb×Nat×ab):Nat×Yo Nat:=(n+1,if 8<x.2.1 then some 8 else if 200<n+1 then some 7 else aS x.2.2)
def fL (n:Nat) (x:Yb×Nat×ab):Prop:=n<=200/\x.1.size<=maxLen/\x.2.1<=4611686018427387904/\x.2.2.data.size<=maxLen
def CD (B c:Nat) (n:Nat) (C:Nat->Prop) (w:Yw):Prop:=(∀k,C k↔k=c)/\B<=c/\w.heap[c]? = some (.cells #[.int .i64 (n:Int)] 3 (0,0))

theorem Ja {B c n:Nat} {C:Nat->Prop} {w:Yw} (h:CD B c n C w) (k:Nat) (hk:C k):B<=k/\k<w.heap.size:=by
 have e:=(h.1 k).1 hk;subst e;exact ⟨h.2.1,ae h.2.2⟩
theorem Jb {B c n:Nat} {C:Nat->Prop} {w w':Yw} (h:CD B c n C w) (hb:∀k,C k->w'.heap[k]? = w.heap[k]?):CD B c n C w' :=
 ⟨h.1,h.2.1,by rw [hb c ((h.1 c).2 rfl)];exact h.2.2⟩
theorem aq.setCell {C:Nat->Prop} {w w':Yw} (h:aq C w w') {p:Addr} (hp:C p.block) (v:Yv):aq C w (w'.setCell p v) :=
 ⟨h.os,h.tape,h.output,by simp [World.setCell];exact h.size,fun k hk hc=>by
  rw [jf _ _ _ _ (fun e=>hc (by rw [e];exact hp))];exact h.block k hk hc⟩
theorem ke (w:Yw) (c:Array Yv) (t:TypeId):(w.alloc (.cells c t)).heap[w.heap.size]? = some (.cells c t (0,0)):=by
 show (w.heap.push _)[w.heap.size]? = _
 simp
theorem nN {w:Yw} {c:Nat} {x y:Yv} {t:TypeId} (h:w.heap[c]? = some (.cells #[x] t (0,0))):(w.setCell ⟨c,0,none⟩ y).heap[c]? = some (.cells #[y] t (0,0)):=one_setCell h

theorem vC (a:Nat->Addr) (c B:Nat):oB a 186 (.pointer (some ⟨c,0,none⟩)) B ck fL (CD B c) where
 low _ _ _ h:=Ja h
 ext _ _ _ _ h:=Jb h
 bound _ _ h:=⟨h.2.1,h.2.2.1⟩
 call:=by
  intro n C w d p k t u hJ S hB hl ⟨hn,hp,hk,hs⟩
  simp only at hp hk hs
  obtain ⟨hC,hBc,hrow⟩:=hJ;obtain ⟨ad,cap,rfl⟩:=hl.form;have hcl:c<w.heap.size:=ae hrow;have q0:=cell_of_one hrow;have f0:=free_of_one hrow;have Ss:bY a B (w.setCell ⟨c,0,none⟩ (.int .i64 ((n:Int)+1))):=S.below (((aq.of_below (C:=C) (je _ _)).setCell ((hC c).2 rfl) _).below (fun k hk=>by rw [(hC k).1 hk];exact hBc) hB) (jd _);have c8:=Ss.is.deep;have c7:=Ss.is.full;have z8:=ah (S.is.deep);have z7:=ah (S.is.full);have ks:aq C w (w.setCell ⟨c,0,none⟩ (.int .i64 ((n:Int)+1))):=(aq.of_below (je _ _)).setCell ((hC c).2 rfl) _
  have k0:aq C w ((w.setCell ⟨c,0,none⟩ (.int .i64 ((n:Int)+1))).alloc (.cells #[.string t.kind,.string t.data,.bool t.exec,.slice ad t.kids.length cap] 40)) :=
   (ks.trans (aq.of_below ((je _ _).alloc (jd _) _)) (fun j h=>.inl h))
  have r0:((w.setCell ⟨c,0,none⟩ (.int .i64 ((n:Int)+1))).alloc (.cells #[.string t.kind,.string t.data,.bool t.exec,.slice ad t.kids.length cap] 40)).heap[c]? = some (.cells #[.int .i64 ((n:Int)+1)] 3 (0,0)) :=
   by rw [jp _ _ _ (by simpa [World.setCell] using hcl)];exact nN hrow
  have b0:Below B w ((w.setCell ⟨c,0,none⟩ (.int .i64 ((n:Int)+1))).alloc (.cells #[.string t.kind,.string t.data,.bool t.exec,.slice ad t.kids.length cap] 40)) :=
   k0.below (fun k hk=>by rw [(hC k).1 hk];exact hBc) hB
  have hJn:∀w',w'.heap[c]? = some (.cells #[.int .i64 ((n:Int)+1)] 3 (0,0))->CD B c (ck n (p,k,t)).1 C w':=fun w' h=>⟨hC,hBc,by
   rw [h];have e:(((ck n (p,k,t)).1:Nat):Int)=(n:Int)+1:=by unfold ck;omega
   rw [e]⟩
  have HJn:Hid _:=hJn;have K0:Hid _:=k0;have R0:Hid _:=r0;have B0:Hid _:=b0;have SS:Hid _:=S;have HL:Hid _:=hl;clear hJn k0 r0 b0 S hl hrow Ss ks hC;by_cases h8:8<k
  ·have HE:Hid ((ck n (p,k,t)).2=some 8):=show _=_ by unfold ck;rw [zj h8]
   go_enter Tryz.func186,Tryz.ntmps186;go_wp2_with fail
   go_ret;exact ⟨bR (by rw [HE.out];rfl),C,HJn.out _ R0.out,K0.out,fun j h=>.inl h⟩
  ·by_cases h7:200<n+1
   ·have HE:Hid ((ck n (p,k,t)).2=some 7):=show _=_ by unfold ck;rw [zi h8,zj h7]
    go_enter Tryz.func186,Tryz.ntmps186;go_wp2_with fail
    go_ret;exact ⟨bR (by rw [HE.out];rfl),C,HJn.out _ R0.out,K0.out,fun j h=>.inl h⟩
   ·have HE:Hid ((ck n (p,k,t)).2=aS t):=show _=_ by unfold ck;rw [zi h8,zi h7]
    go_enter Tryz.func186,Tryz.ntmps186;go_wp2_with fail
    refine (uH a t B d _ _ (SS.out.below B0.out (jd _)).is (by have:=K0.out.size;omega) (aJ.below HL.out B0.out (jd _)) hs).mono ?_;rintro e w' ⟨rfl,hb⟩;go_wp2_with fail
    go_ret;refine ⟨bR (by rw [HE.out];rfl),C,HJn.out _ ?_,K0.out.trans (aq.of_below hb) (fun j h=>.inl h),fun j h=>.inl h⟩;rw [hb.block c (ae R0.out)];exact R0.out

def ao (d:Nat) (t:ab):Yo Nat:=(bh ck 0 (pre d Ye 0 t)).2

theorem fM (a:Nat->Addr) (d B:Nat) (t:ab) (u:Yv) (w:Yw) (S:bY a B w) (hB:B<=w.heap.size) (hl:aJ w B d t.kids u) (hal:cn ck fL 0 (pre d Ye 0 t)) :
  Cl 135 #[.agg #[.string t.kind,.string t.data,.bool t.exec,u]] w fun e w'=>e = .returned (de a (ao d t))/\Bl w w':=by
 obtain ⟨ad,cap,rfl⟩:=hl.form;have hW:∀o o',Bl w ((w.alloc o).alloc o'):=fun o o'=>((je _ _).alloc (jd _) o).alloc (by simp) o'
 have hS:∀o o',bY a w.heap.size ((w.alloc o).alloc o'):=fun o o'=>by
  have:=S.is.atB
  exact this.below (hW o o') (jd _)
 have hL:∀o o',aJ ((w.alloc o).alloc o') w.heap.size d t.kids (.slice ad t.kids.length cap):=fun o o'=>aJ.below (hl.up hB (jd _)) (hW o o') (jd _)
 have HV:=xP a ⟨w.heap.size+1,0,none⟩ w.heap.size (vC a (w.heap.size+1) w.heap.size) d t Ye 0 (.slice ad t.kids.length cap) 0 (fun k=>k=w.heap.size+1)
  ((w.alloc (.cells #[.string t.kind,.string t.data,.bool t.exec,.slice ad t.kids.length cap] 40)).alloc (.cells #[.int .i64 0] 3))
  ⟨fun k=>Iff.rfl,by omega,by
   have:=ke (w.alloc (.cells #[.string t.kind,.string t.data,.bool t.exec,.slice ad t.kids.length cap] 40)) #[.int .i64 0] 3
   simpa using this⟩ (hS _ _) (by simp;omega) (hL _ _) hal
 have HV:Hid _:=HV;have HW:Hid _:=hW;clear hW hS hL hl S hal;go_enter Tryz.func135,Tryz.ntmps135;go_wp2_with fail
 refine jk HV.out ?_;rintro e w2 ⟨rfl,C2,hJ2,hK2,hC2⟩;go_wp2_with fail
 go_ret;refine ⟨rfl,?_⟩;exact (HW.out _ _).trans (hK2.below (fun k hk=>by omega) (by simp;omega))
end
section
open Go.RowKit Go.Maps

structure bH (T0 dp:Nat) (w w':Yw):Prop where
 os:w'.os=w.os
 tape:w'.tape=w.tape
 output:w'.output=w.output
 size:w.heap.size<=w'.heap.size
 block:∀(k:Nat) (o:Obj),w.heap[k]? = some o->(k<T0∨ib o=false)->k≠dp->w'.heap[k]? = some o
section
variable {w:Yw} {T0 dp tb mb m1 m2 n1 d bb sp sb cap n N:Nat} {tr:List (Yo af)} {fb:Nat → Nat} {s:aV} {er:Yv}
def FT:Obj->Bool
 | .cells _ t _=>t==143
 | _=>false
theorem am.butP {w w':Yw} {F:Nat->Prop} {bl:List (Yu)} {u:List Bool} {tab:List (Yo ay)} {C:Nat->Prop} (T:am w F T0 tb bb sp sb cap mb n bl u tab) (h:∀(k:Nat) (o:Obj),w.heap[k]? = some o->¬C k->w'.heap[k]? = some o) (hc:¬C mb) (ho:∀(c:Nat) (o:Obj),C c->w.heap[c]? = some o->(dZ o||cI o||FT o)=true):am w' F T0 tb bb sp sb cap mb n bl u tab:=by
 have ht:aN (fun o=>dZ o||cI o||FT o) w w':=fun k o hk hp=>h k o hk (fun e=>by
  have hp':(dZ o||cI o||FT o)=false:=hp;rw [ho k o e hk] at hp';cases hp')
 obtain ⟨f,Nd⟩:=T.nodes;refine ⟨ht _ _ T.box rfl,T.disk.turn ht (fun _ _=>rfl) (fun _ _=>rfl) (fun _ _=>rfl),T.space.turn ht (fun _ _=>rfl) (fun _ _=>rfl),⟨f,?_,fun k x hx=>?_,Nd.none_,Nd.inj⟩,T.low⟩
 ·obtain ⟨es,cl,hb⟩:=Nd.map.obj
  exact Nd.map.keep (by rw [hb];exact h _ _ hb hc)
 ·obtain ⟨b,e,hb,S⟩:=Nd.some_ k x hx
  exact ⟨b,e,hb,S.turn ht (fun _ _=>rfl) (fun _ _=>rfl)⟩
theorem FU {W0 w':Yw} {Q:Nat->Prop} {b fm:Nat} {bt:ab} {fs:List (Yb×Nat)} {bl:List (Yu)} {u:List Bool} {tab:List (Yo ay)} (hbW:Bl w W0) (D:aG w T0 dp tb mb m1 m2 n1 d tr fb) (T:am w' (fun _=>False) T0 tb bb sp sb cap mb n bl u tab) (M:ar w' 9 fm 1000000 (fmap fs)) (hTr:bv w' Q (d+1) b 0 bt) (fr:iF T0 mb W0 w') (hfm:w.heap.size<=fm) (hb:W0.heap.size<=b) (hQ:∀q,Q q->W0.heap.size<=q/\q<b) (tre:∀(k:Nat) (obj:Obj),W0.heap[k]? = some obj->cI obj=true->w'.heap[k]? = some obj) (hmb:mb<w.heap.size) (hT0:T0<=w.heap.size) (hn1:n1<1000000) (htl:tr.length<=100000) :
  ∃ad3 cp3 w1 w2 w3 w4 c1 c2,(w'.cell? ⟨dp,3,none⟩=some (.int .i64 (tr.length:Int)))/\(∀W,(W=w'.drew∨W=w1∨W=w2∨W=w3∨W=w4)->W.cell? ⟨dp,1,none⟩=some (.map (some m1))/\W.cell? ⟨dp,2,none⟩=some (.map (some m2))/\W.rangeAt b 0 [.string bt.kind,.string bt.data,.bool bt.exec,.slice ad3 bt.kids.length cp3])/\(Instr.mapEntry 140 (.map (some m1)) (.int .i64 (tr.length:Int))).run Tryz.prog w'.drew = .ok (.tuple #[.agg #[.string { data:=#[] },.string { data:=#[] },.bool false,.slice none 0 0],.int .i64 c1]) w1/\(Instr.entryStore 140 (.map (some m1)) (.int .i64 c1) (.agg #[.string bt.kind,.string bt.data,.bool bt.exec,.slice ad3 bt.kids.length cp3])).run Tryz.prog w1 = .ok () w2/\(Instr.mapEntry 141 (.map (some m2)) (.int .i64 (tr.length:Int))).run Tryz.prog w2 = .ok (.tuple #[.map none,.int .i64 c2]) w3/\(Instr.entryStore 141 (.map (some m2)) (.int .i64 c2) (.map (some fm))).run Tryz.prog w3 = .ok () w4/\w4.cell? ⟨dp,3,none⟩=some (.int .i64 (tr.length:Int))/\w4.frozen? ⟨dp,3,none⟩=false/\(∃fb',aG (w4.setCell ⟨dp,3,none⟩ (.int .i64 ((tr.length:Int)+1))) T0 dp tb mb m1 m2 (n1+1) d (tr ++ [some ⟨bt,fs⟩]) fb')/\am (w4.setCell ⟨dp,3,none⟩ (.int .i64 ((tr.length:Int)+1))) (fun _=>False) T0 tb bb sp sb cap mb n bl u tab/\bH T0 dp w (w4.setCell ⟨dp,3,none⟩ (.int .i64 ((tr.length:Int)+1))):=by
 have D0:=D.below hbW;have D1:aG w' T0 dp tb mb m1 m2 n1 d tr fb:=D0.kept fr.size fr.maps (fun cur hc=>fr.block _ _ hc rfl (.inr rfl)) (fun k cur hk=>tre k _ hk rfl);obtain ⟨_,_,hn',_⟩:=id hTr;have hbl:b<w'.heap.size:=ji w' _ hn'.kind;obtain ⟨u3,hn3,hK3⟩:=hTr.kids (fun q hq=>Nat.lt_trans (hQ q hq).2 hbl);obtain ⟨Q3,ad3,cp3,rfl,_⟩:=id hK3;have D2:=D1.below ((je _ w').drew);have hK4:bZ w'.drew d bt (.slice ad3 bt.kids.length cp3):=hK3.kept (jd _) (fun _ _ h=>h)
 have hmlt:∀ {kt mm q:Nat} {f:Lit->Yo Yv},ar w kt mm q f->mm<w.heap.size:=fun M=>by
  obtain ⟨es,cl,h⟩:=M.obj;exact (ja.1 h).1
 obtain ⟨f1,f2,M1,M2,h0,h1,h2⟩:=D.maps;have a1:=hmlt M1;have a2:=hmlt M2;obtain ⟨w1,w2,w3,w4,c1,c2,r1,r2,r3,r4,kc,k4,⟨z1,z2,z3,z4⟩,D5⟩:=D2.entries bt fs (.slice ad3 bt.kids.length cp3) fm hK4 (M.keep rfl) (by omega) (by omega) (by omega) (by omega) (fun k x hx=>by have:=hmlt (h1 k x hx).2.2.1;omega) hn1 htl
 have kb:∀o,w'.heap[b]? = some o->dZ o=false:=fun o ho=>by
  have hc:=hn3.kind
  cases o <;> first|rfl|(simp [World.cell?,ho] at hc)
 have celldp:∀W,(W=w'.drew∨W=w1∨W=w2∨W=w3∨W=w4)->W.heap[dp]? = w'.heap[dp]? /\ W.heap[b]? = w'.heap[b]? := fun W hW=>by
  have hbs:∃o,w'.heap[b]? = some o:=⟨_,qN hbl⟩;obtain ⟨ob,hob⟩:=hbs;obtain ⟨e1,e2,e3,e4⟩:=kc dp _ D1.box rfl;obtain ⟨g1,g2,g3,g4⟩:=kc b ob hob (kb ob hob);rw [D1.box,hob]
  rcases hW with rfl|rfl|rfl|rfl|rfl
  ·exact ⟨D1.box,hob⟩
  ·exact ⟨e1,g1⟩
  ·exact ⟨e2,g2⟩
  ·exact ⟨e3,g3⟩
  ·exact ⟨e4,g4⟩
 have h4:=celldp w4 (.inr (.inr (.inr (.inr rfl))));refine ⟨ad3,cp3,w1,w2,w3,w4,c1,c2,D1.cells.2.2.2,fun W hW=>?_,r1,r2,r3,r4,?_,?_,⟨_,D5⟩,?_,?_⟩
 ·obtain ⟨g1,g2⟩:=celldp W hW
  refine ⟨by rw [jl (a:=⟨dp,1,none⟩) g1];exact D1.cells.2.1,by rw [jl (a:=⟨dp,2,none⟩) g1];exact D1.cells.2.2.1,fun i v hv=>?_⟩;rw [jl (a:=⟨b,0+i,none⟩) g2]
  match i,hv with
  | 0,hv=>simp only [jJ,jh] at hv;rw [<-hv];exact hn3.kind
  | 1,hv=>simp only [qo,jJ,jh] at hv;rw [<-hv];exact hn3.data
  | 2,hv=>simp only [qo,jJ,jh] at hv;rw [<-hv];exact hn3.exec
  | 3,hv=>simp only [qo,jJ,jh] at hv;rw [<-hv];exact hn3.kids
 ·rw [jl (a:=⟨dp,3,none⟩) h4.1];exact D1.cells.2.2.2
 ·simp [World.frozen?,h4.1,D1.box]
 ·have T4:am w4 (fun _=>False) T0 tb bb sp sb cap mb n bl u tab:=am.butP (C:=fun k=>k=m1∨k=m2) (T.below ((je _ w').drew)) (fun k o hk hC=>k4 k o hk (fun e=>hC (.inl e)) (fun e=>hC (.inr e))) (fun e=>e.elim (fun e=>D.low.2.2.2.2.1 e.symm) (fun e=>D.low.2.2.2.2.2.1 e.symm)) (fun c o hc ho=>by
   obtain ⟨f1',f2',M1',M2',_⟩:=D2.maps;obtain ⟨es1,cl1,q1⟩:=M1'.obj;obtain ⟨es2,cl2,q2⟩:=M2'.obj
   rcases hc with rfl|rfl
   ·rw [q1] at ho;cases ho;rfl
   ·rw [q2] at ho;cases ho;rfl)
  exact am.butP (C:=fun k=>k=dp) T4 (fun k o hk hC=>by rw [jf _ _ _ _ hC];exact hk) (fun e=>by
   obtain ⟨f,Nd⟩:=T4.nodes;obtain ⟨es,cl,h⟩:=Nd.map.obj;rw [e,h4.1,D1.box] at h;cases h) (fun c o hc ho=>by rw [hc,h4.1,D1.box] at ho;cases ho;rfl)
 ·have hs4:w4.heap.size=w'.heap.size:=z4
  refine ⟨z1.trans (fr.os.trans hbW.os),z2.trans (fr.tape.trans hbW.tape),z3.trans (fr.output.trans hbW.output),by simp [World.setCell];have:=fr.size;have:=hbW.size;omega,fun k o hk hp hne=>?_⟩;have hk0:W0.heap[k]? = some o:=by rw [hbW.block k (ja.1 hk).1];exact hk
  have hk1:w'.heap[k]? = some o:=by
   cases htr:cI o with
   | true=>exact tre k o hk0 htr
   | false=>exact fr.block k o hk0 htr hp
  have hkm:∀mm es cl,w.heap[mm]? = some (Obj.map es cl)->T0<=mm->k≠mm:=fun mm es cl hm hT e=>by
   rcases hp with hp|hp
   ·omega
   ·rw [e,hm] at hk;cases hk;cases hp
  obtain ⟨es1,cl1,q1⟩:=M1.obj;obtain ⟨es2,cl2,q2⟩:=M2.obj;rw [jf _ _ _ _ hne];exact k4 k o hk1 (hkm m1 _ _ q1 D.low.2.1) (hkm m2 _ _ q2 D.low.2.2.1)
theorem Jc (a:Nat->Addr) (t:ab) (ad:Yo Addr) (cp:Nat) (Qa:Nat->Prop) (hO:bp w Qa (d+1) t.kids (.slice ad t.kids.length cp)) (hQa:∀q,Qa q->q<w.heap.size) (hal:cn ck fL 0 (pre (d+1) Ye 0 t)) (hck:ao (d+1) t=none) (hG:dq (d+1) t) (hd:(d+1)*20<=100000)
  (hsz:∀x∈ai (d+1) t,x.2.data.size<=2000/\x.1.size<=maxLen) (hlim:n+(ai (d+1) t).length<=50000) (hroom:bg (ai (d+1) t)<=(aE s.u).length)
  (D:aG w T0 dp tb mb m1 m2 n1 d tr fb) (T:am w (fun _=>False) T0 tb bb sp sb cap mb n s.bl s.u s.tab) (S:bT N s.bl s.u s.tab) (SB:bY a w.heap.size w) (hT0:T0<=w.heap.size) (hn1:n1<1000000) (htl:tr.length<=100000)
  (eg:w.cell? ⟨1,0,none⟩=some er) (hg0:1<T0) (hgr:∃cs ty,w.heap[1]? = some (.cells cs ty (0,0))/\cI (.cells cs ty (0,0))=false) :
  Cl 97 #[.pointer (some ⟨dp,0,none⟩),.agg #[.string t.kind,.string t.data,.bool t.exec,.slice ad t.kids.length cp]] w fun e w'=>e = .returned (.tuple #[.int .i64 (tr.length:Int),.nilIface])/\(∃fb',aG w' T0 dp tb mb m1 m2 (n1+1) d (tr ++ [some ⟨dP (d+1) t,ez s (ai (d+1) t)⟩]) fb')/\am w' (fun _=>False) T0 tb bb sp sb cap mb (n+(ai (d+1) t).length) (bQ s (ai (d+1) t)).bl (bQ s (ai (d+1) t)).u (bQ s (ai (d+1) t)).tab/\bT N (bQ s (ai (d+1) t)).bl (bQ s (ai (d+1) t)).u (bQ s (ai (d+1) t)).tab/\bH T0 dp w w':=by
 obtain ⟨NF,HNF⟩:∃NF,Hid (NF=bg (ai (d+1) t)):=⟨_,(rfl:_=_)⟩;obtain ⟨FR,HFRE⟩:∃FR,Hid (FR=(aE s.u).length):=⟨_,(rfl:_=_)⟩;have hgtr:¬(FR:Int)<(NF:Int):=by rw [HNF.out,HFRE.out];omega
 obtain ⟨W0,hW0⟩:∃W0,W0=w.alloc (.cells #[.string t.kind,.string t.data,.bool t.exec,.slice ad t.kids.length cp] 40):=⟨_,rfl⟩;have hbW:Bl w W0:=by rw [hW0];exact (je _ w).alloc (jd _) _
 have hrW:W0.heap[w.heap.size]? = some (.cells #[.string t.kind,.string t.data,.bool t.exec,.slice ad t.kids.length cp] 40 (0,0)):=by rw [hW0];exact heap_alloc_last w _
 have HCK:Hid (Cl 135 #[.agg #[.string t.kind,.string t.data,.bool t.exec,.slice ad t.kids.length cp]] W0 fun e w'=>e = .returned .nilIface/\Bl W0 w'):=by
  have hO0:bp W0 Qa (d+1) t.kids (.slice ad t.kids.length cp):=hO.kept (fun q hq=>hbW.block q (hQa q hq)) (fun _ h=>h);have hLies:aJ W0 w.heap.size (d+1) t.kids (.slice ad t.kids.length cp):=hO0.liesQ.lies hQa;have h:=fM a (d+1) w.heap.size t _ W0 (SB.below hbW (jd _)) hbW.size hLies hal;rw [hck] at h;exact h
 have hroomI:NF<=FR:=by rw [HNF.out,HFRE.out];exact hroom
 have HND:Hid (∀W,Bl W0 W->Cl 139 #[.agg #[.string t.kind,.string t.data,.bool t.exec,.slice ad t.kids.length cp]] W fun e w'=>e = .returned (.int .i64 (NF:Int))/\Bl W0 w'):=fun W hW=>by
  have hb:=hbW.trans (hW.mono hbW.size);have hfl:(aE s.u).length<=512:=jm (mG _ _ _) T.low.2.2.2.2.1;refine (vr (d+1) t (.slice ad t.kids.length cp) Qa W (hO.kept (fun q hq=>hb.block q (hQa q hq)) (fun _ h=>h)) (fun q hq=>jn (hQa q hq) hb.size) hG hd (fun x hx=>(hsz x hx).1) (by have:bg (ai (d+1) t)<=512:=jm hroom hfl;exact jm this (by omega))).mono fun e w' ⟨he,hb'⟩=>⟨by rw [he,HNF.out];rfl,hW.trans (hb'.mono hW.size)⟩
 have HFR:Hid (∀W,Bl W0 W->Cl 119 #[.pointer (some ⟨tb,0,none⟩)] W fun e w'=>e = .returned (.int .i64 (FR:Int))/\Bl W0 w'):=fun W hW=>(yZ W (T.below (hbW.trans (hW.mono hbW.size)))).mono fun e w' ⟨he,hb'⟩=>⟨by rw [he,HFRE.out],hW.trans (hb'.mono hW.size)⟩;have hzW:w.heap.size<W0.heap.size:=(ja.1 hrW).1
 have HS4:Hid (∀W,Bl W0 W->(W.cell? ⟨dp,0,none⟩=some (.pointer (some ⟨tb,0,none⟩))/\W.rangeAt w.heap.size 0 [.string t.kind,.string t.data,.bool t.exec,.slice ad t.kids.length cp])):=fun W hW=>by
  refine ⟨(D.below (hbW.trans (hW.mono hbW.size))).cells.1,fun i v hv=>?_⟩;rw [jl (a:=⟨w.heap.size,0+i,none⟩) (hW.block _ hzW),ze _ _ _ _ _ _ hrW,j6]
  simpa using hv
 have HCP:Hid (∀W,Bl W0 W->Cl 88 #[.agg #[.string t.kind,.string t.data,.bool t.exec,.slice ad t.kids.length cp]] W fun e w'=>∃ad2 cp2,e = .returned (.agg #[.string t.kind,.string t.data,.bool t.exec,.slice ad2 t.kids.length cp2])/\bp w' (fun q=>W0.heap.size<=q/\q<w'.heap.size) (d+1) t.kids (.slice ad2 t.kids.length cp2)/\Bl W0 w'):=fun W hW=>by
  have hb:=hbW.trans (hW.mono hbW.size);have hOW:bp W Qa (d+1) t.kids (.slice ad t.kids.length cp):=hO.kept (fun q hq=>hb.block q (hQa q hq)) (fun _ h=>h);refine (pK W.heap.size (d+1) t _ W (jd _) (hOW.liesQ.lies (fun q hq=>jn (hQa q hq) hb.size))).mono fun e w' ⟨u',he,ho,hb'⟩=>?_;obtain ⟨ad2,cp2,rfl⟩:=ho.form;exact ⟨ad2,cp2,he,ho.kept (fun _ _=>rfl) (fun q hq=>⟨jm hW.size hq.1,hq.2⟩),hW.trans (hb'.mono hW.size)⟩
 have hmb:mb<w.heap.size:=by
  obtain ⟨f,Nd⟩:=T.nodes;obtain ⟨es,cl,h⟩:=Nd.map.obj;exact (ja.1 h).1
 obtain ⟨bt,Hbt⟩:∃bt,Hid (bt=dP (d+1) t):=⟨_,(rfl:_=_)⟩;obtain ⟨fs,Hfs⟩:∃fs,Hid (fs=ez s (ai (d+1) t)):=⟨_,(rfl:_=_)⟩;obtain ⟨s2,Hs2⟩:∃s2,Hid (s2=bQ s (ai (d+1) t)):=⟨_,(rfl:_=_)⟩;obtain ⟨n2,Hn2⟩:∃n2,Hid (n2=n+(ai (d+1) t).length):=⟨_,(rfl:_=_)⟩;rw [<-Hbt.out,<-Hfs.out,<-Hs2.out,<-Hn2.out]
 have HEM:Hid (∀W1 b ad2 cp2,Bl W0 W1->bp W1 (fun q=>W0.heap.size<=q/\q<b) (d+1) t.kids (.slice ad2 t.kids.length cp2)->W0.heap.size<=b->W1.heap[b]? = some (.cells #[.string t.kind,.string t.data,.bool t.exec,.slice ad2 t.kids.length cp2] 40 (0,0))->Cl 140 #[.pointer (some ⟨dp,0,none⟩),.pointer (some ⟨b,0,none⟩)] W1 fun e w'=>∃fm,e = .returned (.tuple #[.map (some fm),.nilIface])/\bT N s2.bl s2.u s2.tab/\∃ad3 cp3 w1 w2 w3 w4 c1 c2,(w'.cell? ⟨dp,3,none⟩=some (.int .i64 (tr.length:Int)))/\(∀W,(W=w'.drew∨W=w1∨W=w2∨W=w3∨W=w4)->W.cell? ⟨dp,1,none⟩=some (.map (some m1))/\W.cell? ⟨dp,2,none⟩=some (.map (some m2))/\W.rangeAt b 0 [.string bt.kind,.string bt.data,.bool bt.exec,.slice ad3 bt.kids.length cp3])/\(Instr.mapEntry 140 (.map (some m1)) (.int .i64 (tr.length:Int))).run Tryz.prog w'.drew = .ok (.tuple #[.agg #[.string { data:=#[] },.string { data:=#[] },.bool false,.slice none 0 0],.int .i64 c1]) w1/\(Instr.entryStore 140 (.map (some m1)) (.int .i64 c1) (.agg #[.string bt.kind,.string bt.data,.bool bt.exec,.slice ad3 bt.kids.length cp3])).run Tryz.prog w1 = .ok () w2/\(Instr.mapEntry 141 (.map (some m2)) (.int .i64 (tr.length:Int))).run Tryz.prog w2 = .ok (.tuple #[.map none,.int .i64 c2]) w3/\(Instr.entryStore 141 (.map (some m2)) (.int .i64 c2) (.map (some fm))).run Tryz.prog w3 = .ok () w4/\w4.cell? ⟨dp,3,none⟩=some (.int .i64 (tr.length:Int))/\w4.frozen? ⟨dp,3,none⟩=false/\(∃fb',aG (w4.setCell ⟨dp,3,none⟩ (.int .i64 ((tr.length:Int)+1))) T0 dp tb mb m1 m2 (n1+1) d (tr ++ [some ⟨bt,fs⟩]) fb')/\am (w4.setCell ⟨dp,3,none⟩ (.int .i64 ((tr.length:Int)+1))) (fun _=>False) T0 tb bb sp sb cap mb n2 s2.bl s2.u s2.tab/\bH T0 dp w (w4.setCell ⟨dp,3,none⟩ (.int .i64 ((tr.length:Int)+1)))):=fun W1 b ad2 cp2 hW hO2 hb hr=>by
  have hbw:=hbW.trans (hW.mono hbW.size);have hn:dA W1 b 0 t (.slice ad2 t.kids.length cp2):=by constructor <;> rw [ze _ _ _ _ _ _ hr] <;> rfl
  obtain ⟨csg,tyg,hgg,htg⟩:=hgr;have hgg1:W1.heap[1]? = some (.cells csg tyg (0,0)):=by rw [hbw.block _ (ja.1 hgg).1];exact hgg
  have eg1:W1.cell? ⟨1,0,none⟩=some er:=(by rw [jl (a:=⟨1,0,none⟩) (hgg1.trans hgg.symm)];exact eg);refine (CA (w0:=W0) (T.below hbw) S hroom (D.below hbw).box (bv.of_own hO2 hn) ⟨_,hr,by simp⟩ (fun h=>Nat.lt_irrefl _ h.2) (fun q h=>h.1) hb hG hd hsz hlim (iF.of_tb (aW.of_below hW)) (jm hT0 hbW.size) eg1 hg0 ⟨csg,tyg,hgg1,htg⟩).mono fun e w' ⟨fm,he,T',S',M',hT',fr',hfm,_,tre⟩=>⟨fm,he,by rw [Hs2.out];exact S',?_⟩;have M'':=M'.mono (n':=1000000) (by omega);rw [<-Hfs.out] at M'';rw [<-Hs2.out,<-Hn2.out] at T';rw [<-Hbt.out] at hT';exact FU hbW D T' M'' hT' fr' (jm hbw.size hfm) hb (fun q h=>h) (fun k obj hk htr=>tre k obj (by rw [hW.block k (ja.1 hk).1];exact hk) htr (by have:=(ja.1 hk).1;omega) (fun h=>by have:=(ja.1 hk).1;have:=h.1;omega)) hmb hT0 hn1 htl
 have HCE:Hid (∀W,Bl W0 W->(W.cell? ⟨w.heap.size,0,none⟩=some (.string t.kind)/\W.cell? ⟨w.heap.size,1,none⟩=some (.string t.data)/\W.cell? ⟨w.heap.size,2,none⟩=some (.bool t.exec)/\W.cell? ⟨w.heap.size,3,none⟩=some (.slice ad t.kids.length cp))):=fun W hW=>by
  have hr:=(hW.block _ hzW).trans hrW;refine ⟨?_,?_,?_,?_⟩ <;> rw [ze _ _ _ _ _ _ hr] <;> rfl
 clear D T S SB hO hQa hal hck hG hsz hlim hroom eg hgr hbW hrW hg0 hT0 hn1 hmb;have hNFI:¬(FR:Int)<(NF:Int):=hgtr;subst hW0;go_enter Tryz.func97,Tryz.ntmps97
 go_wp2_with (go_at_call 135;refine HCK.out.mono ?_;rintro e w1 ⟨rfl,b1⟩)
 have HB1D:=kH b1.drew;clear b1 HCK;refine zh (S:=fun w'=>w'.cell? ⟨dp,0,none⟩=some (.pointer (some ⟨tb,0,none⟩))/\w'.rangeAt w.heap.size 0 [.string t.kind,.string t.data,.bool t.exec,.slice ad t.kids.length cp]) (by kernel_rfl) (HS4.out _ HB1D.out) (fun hHeld=>?_);refine bI [(0,pZ dp 0),(1,.bool false),(2,.bool false),(3,pZ dp 0),(4,pZ dp 0),(5,pZ dp 0),(6,pZ tb 0),(7,.bool false),(8,.bool false),(9,.bool false)] hHeld ?_;refine zr (i:=10) (v:=.agg #[.string t.kind,.string t.data,.bool t.exec,.slice ad t.kids.length cp]) rfl (by kernel_rfl) (by kernel_rfl) (by kernel_rfl) (fun _ _ _ h=>h) (yieldsIf_load_mid (by rfl) 40 _ (by rfl) w.heap.size 0 (by rfl) [.string t.kind,.string t.data,.bool t.exec,.slice ad t.kids.length cp] _ (fun w h=>h.2) Tryz.underlying40 rfl (by kernel_rfl)) hHeld ?_;simp only [au,Act.put,cu];refine bI [(12,pZ dp 0),(13,pZ dp 0),(14,pZ dp 0),(15,pZ tb 0)] hHeld ?_;refine aU 11 rfl fun K' hK=>?_;simp only [au];go_simp;refine jk (HND.out _ HB1D.out) ?_;rintro e wx ⟨rfl,b2⟩;go_wp2_with fail
 refine hK.out _ _ (HS4.out _ b2) (fun hHeld=>?_);clear hK K';refine aU 16 rfl fun K' hK=>?_;simp only [au];go_simp;refine jk (HFR.out _ b2) ?_;rintro e wx ⟨rfl,b3⟩;go_wp2_with fail
 refine hK.out _ _ (HS4.out _ b3) (fun hHeld=>?_);clear hK K';refine bI [(17,.bool false),(18,.bool false)] hHeld ?_;refine zk (by kernel_rfl) ?_ _;obtain ⟨x0,x1,x2,x3⟩:=HCE.out _ b3;have HCP3:=HCP.out _ b3;clear HCE HCP HND HFR HS4 HB1D b2 hHeld
 go_wp2_with (first
  | (go_at_call 88;refine HCP3.mono ?_;rintro e w4 ⟨ad2,cp2,rfl,ho2,b4⟩;(have HEM4:=HEM.out (w4.alloc (.cells #[.string t.kind,.string t.data,.bool t.exec,.slice ad2 t.kids.length cp2] 40)) w4.heap.size ad2 cp2 (b4.alloc b4.size _) (ho2.kept (fun q hq=>jp _ _ _ hq.2) (fun _ h=>h)) b4.size (heap_alloc_last w4 _));clear ho2 b4 HEM HCP3 x0 x1 x2 x3)
  | (go_at_call 140;refine HEM4.mono ?_;rintro e w5 ⟨fm,rfl,hS5,ad3,cp3,v1,v2,v3,v4,c1,c2,d3,hS11,e1,e2,e3,e4,f3,ff,hD5,hT5,hP5⟩;(have HS11:=kH hS11);(have HD5:Hid _:=hD5);(have HT5:Hid _:=hT5);(have HP5:Hid _:=hP5);(have HS5:Hid _:=hS5);clear hS11 hD5 hT5 hP5 hS5 HEM4))
 refine zh (S:=fun W=>W.cell? ⟨dp,1,none⟩=some (.map (some m1))/\W.cell? ⟨dp,2,none⟩=some (.map (some m2))/\W.rangeAt w4.heap.size 0 [.string bt.kind,.string bt.data,.bool bt.exec,.slice ad3 bt.kids.length cp3]) (by kernel_rfl) (HS11.out _ (.inl rfl)) (fun hHeld=>?_);refine bI [(0,pZ dp 0),(1,pZ dp 0),(2,pZ dp 1),(3,.map (some m1)),(4,iZ (tr.length:Int)),(5,pZ dp 0),(6,pZ dp 0),(7,pZ dp 2),(8,.map (some m2)),(9,iZ (tr.length:Int))] hHeld ?_;refine zr (i:=10) (v:=.agg #[.string bt.kind,.string bt.data,.bool bt.exec,.slice ad3 bt.kids.length cp3]) rfl (by kernel_rfl) (by kernel_rfl) (by kernel_rfl) (fun _ _ _ h=>h) (yieldsIf_load_mid (by rfl) 40 _ (by rfl) w4.heap.size 0 (by rfl) [.string bt.kind,.string bt.data,.bool bt.exec,.slice ad3 bt.kids.length cp3] _ (fun w h=>h.2.2) Tryz.underlying40 rfl (by kernel_rfl)) hHeld ?_;simp only [au,Act.put,cu];refine tk 11 (.map (some fm)) rfl hHeld ?_;simp only [au,Act.put,cu];refine aU 12 rfl fun K' hK=>?_;refine nj (by rfl) _ _ 140 (by rfl) (.map (some m1)) (.int .i64 (tr.length:Int)) _ (by rfl) (by rfl) e1 ?_;simp only [au,Act.put,cu];refine hK.out _ _ (HS11.out _ (.inr (.inl rfl))) (fun hHeld=>?_);clear hK K';refine tk 13 (.int .i64 c1) rfl hHeld ?_;simp only [au,Act.put,cu];refine aU 14 rfl fun K' hK=>?_;refine lL (by rfl) _ _ _ 140 (by rfl) (.map (some m1)) (.int .i64 c1) (.agg #[.string bt.kind,.string bt.data,.bool bt.exec,.slice ad3 bt.kids.length cp3]) (by rfl) (by rfl) (by rfl) e2 ?_;simp only [qg,j9,qd,Act.put];refine hK.out _ _ (HS11.out _ (.inr (.inr (.inl rfl)))) (fun hHeld=>?_);clear hK K';refine aU 15 rfl fun K' hK=>?_;refine nj (by rfl) _ _ 141 (by rfl) (.map (some m2)) (.int .i64 (tr.length:Int)) _ (by rfl) (by rfl) e3 ?_;simp only [au,Act.put,cu];refine hK.out _ _ (HS11.out _ (.inr (.inr (.inr (.inl rfl))))) (fun hHeld=>?_);clear hK K';refine tk 16 (.int .i64 c2) rfl hHeld ?_;simp only [au,Act.put,cu];refine aU 17 rfl fun K' hK=>?_;refine lL (by rfl) _ _ _ 141 (by rfl) (.map (some m2)) (.int .i64 c2) (.map (some fm)) (by rfl) (by rfl) (by rfl) e4 ?_;simp only [qg,j9,qd,Act.put];refine hK.out _ _ (HS11.out _ (.inr (.inr (.inr (.inr rfl))))) (fun hHeld=>?_);clear hK K';refine zk (by kernel_rfl) ?_ _;clear e1 e2 e3 e4 HS11 hHeld d3;go_wp2_with fail
 go_ret2;exact ⟨rfl,HD5.out,HT5.out,HS5.out,HP5.out⟩
end
end
section
open Go.RowKit Go.Maps

section
variable {w:Yw} {T0 dp tb mb m1 m2 n1 d bb sp sb cap n:Nat} {tr:List (Yo af)} {fb:Nat → Nat} {s:aV}
theorem CE (a:Nat->Addr) (t:ab) (ad:Yo Addr) (cp:Nat) (Qa:Nat->Prop) (hO:bp w Qa (d+1) t.kids (.slice ad t.kids.length cp)) (hQa:∀q,Qa q->q<w.heap.size) (hal:cn ck fL 0 (pre (d+1) Ye 0 t)) (SB:bY a w.heap.size w) :
  Cl 135 #[.agg #[.string t.kind,.string t.data,.bool t.exec,.slice ad t.kids.length cp]] (w.alloc (.cells #[.string t.kind,.string t.data,.bool t.exec,.slice ad t.kids.length cp] 40)) fun e w'=>e = .returned (de a (ao (d+1) t))/\Bl (w.alloc (.cells #[.string t.kind,.string t.data,.bool t.exec,.slice ad t.kids.length cp] 40)) w':=by
 have hbW:Bl w (w.alloc (.cells #[.string t.kind,.string t.data,.bool t.exec,.slice ad t.kids.length cp] 40)):=(je _ w).alloc (jd _) _;have hO0:bp (w.alloc (.cells #[.string t.kind,.string t.data,.bool t.exec,.slice ad t.kids.length cp] 40)) Qa (d+1) t.kids (.slice ad t.kids.length cp):=hO.kept (fun q hq=>hbW.block q (hQa q hq)) (fun _ h=>h);exact fM a (d+1) w.heap.size t _ _ (SB.below hbW (jd _)) hbW.size (hO0.liesQ.lies hQa) hal
theorem CF (a:Nat->Addr) (t:ab) (ad:Yo Addr) (cp:Nat) (Qa:Nat->Prop) (hO:bp w Qa (d+1) t.kids (.slice ad t.kids.length cp)) (hQa:∀q,Qa q->q<w.heap.size) (hal:cn ck fL 0 (pre (d+1) Ye 0 t)) (hck:ao (d+1) t=none) (hG:dq (d+1) t) (hd:(d+1)*20<=100000)
  (hsz:∀x∈ai (d+1) t,x.2.data.size<=2000) (hN:bg (ai (d+1) t)<=1000000) (hroom:(aE s.u).length<bg (ai (d+1) t))
  (D:aG w T0 dp tb mb m1 m2 n1 d tr fb) (T:am w (fun _=>False) T0 tb bb sp sb cap mb n s.bl s.u s.tab) (SB:bY a w.heap.size w) (er:Yv) (eg:w.cell? ⟨7,0,none⟩=some er) :
  Cl 97 #[.pointer (some ⟨dp,0,none⟩),.agg #[.string t.kind,.string t.data,.bool t.exec,.slice ad t.kids.length cp]] w fun e w'=>e = .returned (.tuple #[.int .i64 0,er])/\Bl w w':=by
 obtain ⟨NF,HNF⟩:∃NF,Hid (NF=bg (ai (d+1) t)):=⟨_,(rfl:_=_)⟩;obtain ⟨FR,HFRE⟩:∃FR,Hid (FR=(aE s.u).length):=⟨_,(rfl:_=_)⟩;have hroomI:FR<NF:=by rw [HNF.out,HFRE.out];exact hroom
 have hgtr:(FR:Int)<(NF:Int):=by omega
 obtain ⟨W0,hW0⟩:∃W0,W0=w.alloc (.cells #[.string t.kind,.string t.data,.bool t.exec,.slice ad t.kids.length cp] 40):=⟨_,rfl⟩;have hbW:Bl w W0:=by rw [hW0];exact (je _ w).alloc (jd _) _
 have hrW:W0.heap[w.heap.size]? = some (.cells #[.string t.kind,.string t.data,.bool t.exec,.slice ad t.kids.length cp] 40 (0,0)):=by rw [hW0];exact heap_alloc_last w _
 have HCK:Hid (Cl 135 #[.agg #[.string t.kind,.string t.data,.bool t.exec,.slice ad t.kids.length cp]] W0 fun e w'=>e = .returned .nilIface/\Bl W0 w'):=by
  have h:=CE a t ad cp Qa hO hQa hal SB;rw [hck] at h;rw [hW0];exact h
 have HND:Hid (∀W,Bl W0 W->Cl 139 #[.agg #[.string t.kind,.string t.data,.bool t.exec,.slice ad t.kids.length cp]] W fun e w'=>e = .returned (.int .i64 (NF:Int))/\Bl W0 w'):=fun W hW=>by
  have hb:=hbW.trans (hW.mono hbW.size);refine (vr (d+1) t (.slice ad t.kids.length cp) Qa W (hO.kept (fun q hq=>hb.block q (hQa q hq)) (fun _ h=>h)) (fun q hq=>jn (hQa q hq) hb.size) hG hd hsz hN).mono fun e w' ⟨he,hb'⟩=>⟨by rw [he,HNF.out];rfl,hW.trans (hb'.mono hW.size)⟩
 have HFR:Hid (∀W,Bl W0 W->Cl 119 #[.pointer (some ⟨tb,0,none⟩)] W fun e w'=>e = .returned (.int .i64 (FR:Int))/\Bl W0 w'):=fun W hW=>(yZ W (T.below (hbW.trans (hW.mono hbW.size)))).mono fun e w' ⟨he,hb'⟩=>⟨by rw [he,HFRE.out],hW.trans (hb'.mono hW.size)⟩;have hzW:w.heap.size<W0.heap.size:=(ja.1 hrW).1
 have HS4:Hid (∀W,Bl W0 W->(W.cell? ⟨dp,0,none⟩=some (.pointer (some ⟨tb,0,none⟩))/\W.rangeAt w.heap.size 0 [.string t.kind,.string t.data,.bool t.exec,.slice ad t.kids.length cp])):=fun W hW=>by
  refine ⟨(D.below (hbW.trans (hW.mono hbW.size))).cells.1,fun i v hv=>?_⟩;rw [jl (a:=⟨w.heap.size,0+i,none⟩) (hW.block _ hzW),ze _ _ _ _ _ _ hrW,j6]
  simpa using hv
 have hgl:=ji w _ eg
 have HEG:Hid (∀W,Bl W0 W->W.cell? ⟨7,0,none⟩=some er):=fun W hW=>by
  rw [(hbW.trans (hW.mono hbW.size)).cell (p:=⟨7,0,none⟩) hgl];exact eg
 have HBW:Hid (Bl w W0):=hbW;clear D T SB hO hQa hal hck hG hsz hroom hbW hrW hN eg hgl;subst hW0;go_enter Tryz.func97,Tryz.ntmps97
 go_wp2_with (go_at_call 135;refine HCK.out.mono ?_;rintro e w1 ⟨rfl,b1⟩)
 have HB1D:Hid (Bl (w.alloc (.cells #[.string t.kind,.string t.data,.bool t.exec,.slice ad t.kids.length cp] 40)) w1.drew):=b1.drew;clear b1 HCK;refine zh (S:=fun w'=>w'.cell? ⟨dp,0,none⟩=some (.pointer (some ⟨tb,0,none⟩))/\w'.rangeAt w.heap.size 0 [.string t.kind,.string t.data,.bool t.exec,.slice ad t.kids.length cp]) (by kernel_rfl) (HS4.out _ HB1D.out) (fun hHeld=>?_);refine bI [(0,pZ dp 0),(1,.bool false),(2,.bool false),(3,pZ dp 0),(4,pZ dp 0),(5,pZ dp 0),(6,pZ tb 0),(7,.bool false),(8,.bool false),(9,.bool false)] hHeld ?_;refine zr (i:=10) (v:=.agg #[.string t.kind,.string t.data,.bool t.exec,.slice ad t.kids.length cp]) rfl (by kernel_rfl) (by kernel_rfl) (by kernel_rfl) (fun _ _ _ h=>h) (yieldsIf_load_mid (by rfl) 40 _ (by rfl) w.heap.size 0 (by rfl) [.string t.kind,.string t.data,.bool t.exec,.slice ad t.kids.length cp] _ (fun w h=>h.2) Tryz.underlying40 rfl (by kernel_rfl)) hHeld ?_;simp only [au,Act.put,cu];refine bI [(12,pZ dp 0),(13,pZ dp 0),(14,pZ dp 0),(15,pZ tb 0)] hHeld ?_;refine aU 11 rfl fun K' hK=>?_;simp only [au];go_simp;refine jk (HND.out _ HB1D.out) ?_;rintro e wx ⟨rfl,b2⟩;go_wp2_with fail
 refine hK.out _ _ (HS4.out _ b2) (fun hHeld=>?_);clear hK K';refine aU 16 rfl fun K' hK=>?_;simp only [au];go_simp;refine jk (HFR.out _ b2) ?_;rintro e wx ⟨rfl,b3⟩;go_wp2_with fail
 refine hK.out _ _ (HS4.out _ b3) (fun hHeld=>?_);clear hK K';refine bI [(17,.bool true),(18,.bool true)] hHeld ?_;refine zk (by kernel_rfl) ?_ _;have c7:=HEG.out _ b3;clear HND HFR HS4 HB1D b2 hHeld;go_wp2_with fail
 go_quiet (fail)
 go_wp2_with fail
 go_ret2;exact ⟨rfl,(HBW.out.trans (b3.mono HBW.out.size)).trans ((ln wx _).mono (HBW.out.trans (b3.mono HBW.out.size)).size)⟩
end
end
section
open Go.RowKit
attribute [local go_sem ↓] Go.wp_at_zero Go.wp_at_succ

theorem vD (B:Nat):∀(d:Nat) (s t:ab) (us ut:Yv) (w:Yw),B<=w.heap.size->aJ w B d s.kids us->aJ w B d t.kids ut ->
  Cl 12 #[.agg #[.string s.kind,.string s.data,.bool s.exec,us],.agg #[.string t.kind,.string t.data,.bool t.exec,ut]] w fun e w'=>e = .returned (.bool (fd d s t))/\Bl w w':=by
 intro d
 induction d with
 | zero=>intro s t us ut w _ hl;exact absurd hl (by simp [aJ])
 | succ d ih =>
  intro s t us ut w hB hl hl';have hlo:=hl.open;have hlo':=hl'.open;obtain ⟨sa,sc,rfl⟩:=hl.form;obtain ⟨ta,tc,rfl⟩:=hl'.form;have HW:Hid (∀o o',Bl w ((w.alloc o).alloc o')):=fun o o'=>((je _ _).alloc (jd _) o).alloc (by simp) o';cases hk:(s.kind.toList==t.kind.toList)
  ·have hk':(s.kind.toList != t.kind.toList)=true:=by simp only [bne,hk];rfl
   have HE:Hid (fd (d+1) s t=false):=show _=_ by rw [fe];unfold eJ;rw [hk];simp
   clear hl hl' ih;go_enter Tryz.func12,Tryz.ntmps12;go_wp2_with fail
   go_ret;exact ⟨bJ (by rw [HE.out]),HW.out _ _⟩
  cases hd:(s.data.toList==t.data.toList)
  ·have hk':(s.kind.toList != t.kind.toList)=false:=by simp only [bne,hk];rfl
   have hd':(s.data.toList != t.data.toList)=true:=(by simp only [bne,hd];rfl);have HE:Hid (fd (d+1) s t=false):=show _=_ by rw [fe];unfold eJ;rw [hk,hd];simp
   clear hl hl' ih;go_enter Tryz.func12,Tryz.ntmps12;go_wp2_with fail
   go_ret;exact ⟨bJ (by rw [HE.out]),HW.out _ _⟩
  cases hx:(s.exec==t.exec)
  ·have hk':(s.kind.toList != t.kind.toList)=false:=by simp only [bne,hk];rfl
   have hd':(s.data.toList != t.data.toList)=false:=(by simp only [bne,hd];rfl);have hx':(s.exec != t.exec)=true:=by simp only [bne,hx];rfl
   have HE:Hid (fd (d+1) s t=false):=show _=_ by rw [fe];unfold eJ;rw [hk,hd,hx];simp
   clear hl hl' ih;go_enter Tryz.func12,Tryz.ntmps12;go_wp2_with fail
   go_ret;exact ⟨bJ (by rw [HE.out]),HW.out _ _⟩
  cases hn:(s.kids.length==t.kids.length)
  ·have hk':(s.kind.toList != t.kind.toList)=false:=by simp only [bne,hk];rfl
   have hd':(s.data.toList != t.data.toList)=false:=(by simp only [bne,hd];rfl);have hx':(s.exec != t.exec)=false:=by simp only [bne,hx];rfl
   have hn':((s.kids.length:Int) != (t.kids.length:Int))=true:=(by simp at hn ⊢;omega);have HE:Hid (fd (d+1) s t=false):=show _=_ by rw [fe];unfold eJ;rw [hk,hd,hx,hn];simp
   clear hl hl' ih;go_enter Tryz.func12,Tryz.ntmps12;go_wp2_with fail
   go_ret;exact ⟨bJ (by rw [HE.out]),HW.out _ _⟩
  have HE:Hid (fd (d+1) s t=d4 d s t s.kids.length):=show _=_ by rw [fe];unfold eJ;rw [hk,hd,hx,hn];rfl
  have hk':(s.kind.toList != t.kind.toList)=false:=(by simp only [bne,hk];rfl);have hd':(s.data.toList != t.data.toList)=false:=by simp only [bne,hd];rfl
  have hx':(s.exec != t.exec)=false:=(by simp only [bne,hx];rfl);have hn':((s.kids.length:Int) != (t.kids.length:Int))=false:=by simp at hn ⊢;omega
  have HN:Hid (s.kids.length=t.kids.length):=show _=_ by simpa using hn
  have HL:Hid _:=hlo;have HL':Hid _:=hlo';have HIH:Hid _:=ih;have hlen:=hlo.1;clear hlo hlo' ih hl hl' hn;go_enter Tryz.func12,Tryz.ntmps12;go_wp2_with fail
  clear hk hk' hd hd' hx hx' hn'
  go_loopw [38] (fun i wr=>∃j:Nat,j<=s.kids.length/\i = .int .i64 j/\Bl w wr/\wr.cell? ⟨w.heap.size+1,3,none⟩=some (.slice ta t.kids.length tc)/\w.heap.size+1<wr.heap.size/\d4 d s t j=true) (fun i _=>s.kids.length-(intOf i).toNat)
  case atStart=>exact ⟨0,jq _,rfl,HW.out _ _,by simp,by simp,rfl⟩
  case round =>
   obtain ⟨j,hj,rfl,hb,hbox,hsz,hall⟩:=hrel;have HA:=kH hall;clear hall;by_cases hlt:j<s.kids.length
   ·have hlt':j<t.kids.length:=by have:=HN.out;omega
    obtain ⟨x,hx⟩:∃x,s.kids[j]? = some x:=⟨s.kids[j],jc hlt⟩;obtain ⟨y,hy⟩:∃y,t.kids[j]? = some y:=⟨t.kids[j],jc hlt'⟩
    obtain ⟨b,off,rfl,ux,K0⟩:∃b off,sa=some ⟨b,off,none⟩/\∃u,fU w B d b off j x u:=by
     rcases HL.out.2 with ⟨h0,_⟩|⟨b,off,cp,e,_,hk⟩
     ·rw [h0] at hlt;exact absurd hlt (by simp)
     ·simp only [jo] at e
      exact ⟨b,off,e.1,hk j x hx⟩
    obtain ⟨b',off',rfl,uy,L0⟩:∃b off,ta=some ⟨b,off,none⟩/\∃u,fU w B d b off j y u:=by
     rcases HL'.out.2 with ⟨h0,_⟩|⟨b,off,cp,e,_,hk⟩
     ·rw [h0] at hlt';exact absurd hlt' (by simp)
     ·simp only [jo] at e
      exact ⟨b,off,e.1,hk j y hy⟩
    have K:=K0.below hb hB;have L:=L0.below hb hB;obtain ⟨xa,xc,rfl⟩:=K.lies.form;obtain ⟨ya,yc,rfl⟩:=L.lies.form;have n0:=K.name;have n1:=K.kind;have n2:=K.data;have n3:=K.exec;have n4:=K.kids;have l0:=L.name;have l1:=L.kind;have l2:=L.data;have l3:=L.exec;have l4:=L.kids;have lb:b'<wr.heap.size:=by have:=L.lt;have:=hb.size;omega
    have HS:Hid _:=xK (d:=d) hx hy;have hj0:(0:Int)<=(j:Int):=(by omega);have hj1:(j:Int)<(t.kids.length:Int):=(by omega);have HBr:Hid (B<=wr.heap.size):=by have:=hb.size;exact (show B<=wr.heap.size by omega)
    have HC:Hid (∀w3,Bl wr w3->Cl 12 #[.agg #[.string x.2.kind,.string x.2.data,.bool x.2.exec,.slice xa x.2.kids.length xc],.agg #[.string y.2.kind,.string y.2.data,.bool y.2.exec,.slice ya y.2.kids.length yc]] w3 fun e w'=>e = .returned (.bool (fd d x.2 y.2))/\Bl w3 w'/\Bl wr w') :=
     fun w3 h3=>(HIH.out x.2 y.2 (.slice xa x.2.kids.length xc) (.slice ya y.2.kids.length yc) w3 (by have:=HBr.out;have:=h3.size;omega) (K.lies.below h3 HBr.out) (L.lies.below h3 HBr.out)).mono fun e w' ⟨h1,h2⟩=>⟨h1,h2,h3.trans (h2.mono h3.size)⟩
    clear K L K0 L0 hx hy;cases hnm:(x.1.toList==y.1.toList)
    ·have HF:Hid (d4 d s t s.kids.length=false):=oS (k:=j+1) (by omega) (by rw [HS.out,hnm];simp)
     go_wp2_with fail
     go_quiet (fail)
     go_wp2_with fail
     go_ret;exact ⟨bJ (by rw [HE.out,HF.out]),cf (hb.alloc hb.size _) _⟩
    ·cases hsm:fd d x.2 y.2
     ·have HF:Hid (d4 d s t s.kids.length=false):=oS (k:=j+1) (by omega) (by rw [HS.out,hnm,hsm];simp)
      go_wp2_with fail
      go_region_held3 (fun w'=>w'.cell? ⟨wr.heap.size,0,none⟩=some (.string x.1)/\w'.cell? ⟨wr.heap.size,1,none⟩=some (.string x.2.kind)/\w'.cell? ⟨wr.heap.size,2,none⟩=some (.string x.2.data)/\w'.cell? ⟨wr.heap.size,3,none⟩=some (.bool x.2.exec)/\w'.cell? ⟨wr.heap.size,4,none⟩=some (.slice xa x.2.kids.length xc) /\
        w'.cell? ⟨w.heap.size+1,3,none⟩=some (.slice (some ⟨b',off',none⟩) t.kids.length tc)/\w'.cell? ⟨b',off'+j*5,none⟩=some (.string y.1)/\w'.cell? ⟨b',off'+j*5+1,none⟩=some (.string y.2.kind)/\w'.cell? ⟨b',off'+j*5+2,none⟩=some (.string y.2.data)/\w'.cell? ⟨b',off'+j*5+3,none⟩=some (.bool y.2.exec)/\w'.cell? ⟨b',off'+j*5+4,none⟩=some (.slice ya y.2.kids.length yc))
       (first
        | go_keep
        | (go_split_ands;refine ⟨?_,?_,?_,?_,?_,?_,?_,?_,?_,?_,?_⟩ <;> (rw [hb4.cell (by first|(simp;done)|(simp;omega))];assumption)))
       ((go_at_call 12;refine jk (HC.out _ (by go_grown)) ?_;rintro e w4 ⟨rfl,hb4,hb5⟩))
      go_wp2_with fail
      go_ret;exact ⟨bJ (by rw [HE.out,HF.out]),hb.trans (hb5.mono hb.size)⟩
     ·have HT:Hid (d4 d s t (j+1)=true):=show _=_ by rw [HS.out,hnm,hsm,HA.out];rfl
      go_wp2_with fail
      go_region_held3 (fun w'=>w'.cell? ⟨wr.heap.size,0,none⟩=some (.string x.1)/\w'.cell? ⟨wr.heap.size,1,none⟩=some (.string x.2.kind)/\w'.cell? ⟨wr.heap.size,2,none⟩=some (.string x.2.data)/\w'.cell? ⟨wr.heap.size,3,none⟩=some (.bool x.2.exec)/\w'.cell? ⟨wr.heap.size,4,none⟩=some (.slice xa x.2.kids.length xc) /\
        w'.cell? ⟨w.heap.size+1,3,none⟩=some (.slice (some ⟨b',off',none⟩) t.kids.length tc)/\w'.cell? ⟨b',off'+j*5,none⟩=some (.string y.1)/\w'.cell? ⟨b',off'+j*5+1,none⟩=some (.string y.2.kind)/\w'.cell? ⟨b',off'+j*5+2,none⟩=some (.string y.2.data)/\w'.cell? ⟨b',off'+j*5+3,none⟩=some (.bool y.2.exec)/\w'.cell? ⟨b',off'+j*5+4,none⟩=some (.slice ya y.2.kids.length yc))
       (first
        | go_keep
        | (go_split_ands;refine ⟨?_,?_,?_,?_,?_,?_,?_,?_,?_,?_,?_⟩ <;> (rw [hb4.cell (by first|(simp;done)|(simp;omega))];assumption)))
       ((go_at_call 12;refine jk (HC.out _ (by go_grown)) ?_;rintro e w4 ⟨rfl,hb4,hb5⟩))
      go_wp2_with fail
      go_roundw
      case rel =>
       refine ⟨j+1,by omega,by go_num,hb.trans (hb5.mono hb.size),?_,by have:=hb5.size;omega,HT.out⟩;rw [hb5.cell (p:=⟨w.heap.size+1,3,none⟩) hsz];exact hbox
      case measure=>simp [intOf];omega
   ·have HM:Hid (d4 d s t s.kids.length=true):=by
     have e:s.kids.length=j:=(by omega);rw [e];exact HA.out
    go_wp2_with fail
    go_ret;exact ⟨bJ (by rw [HE.out,HM.out]),hb⟩
end
section
open Go.RowKit Go.Maps

def lM (bl:List (Yu)) (x y:ay):Bool:=fd 1 (ct bl x) (ct bl y)
theorem s8 (bl:List (Yu)) (x y:ay):lM bl x y=true↔aK bl x.blocks x.bytes=aK bl y.blocks y.bytes/\x.exec=y.exec:=by
 unfold lM;rw [fe];simp only [eJ,ct,d4,qS,beq_iff_eq,qF,List.range_zero,List.all_nil,and_true,true_and]
 constructor
 ·rintro ⟨h1,h2⟩
  refine ⟨?_,h2⟩;rw [ByteArray.toList_eq,ByteArray.toList_eq] at h1;exact fK h1
 ·rintro ⟨h1,h2⟩
  exact ⟨by rw [h1],h2⟩
section
variable {w:Yw} {F:Nat → Prop} {T0 tb bb sp sb cap mb n N dp m1 m2:Nat} {nx:Int} {bl:List (Yu)} {u:List Bool} {tab:List (Yo ay)}
theorem CG (p q:Nat) (x y:ay) (er es:Yv) (hx:aj tab p=some x) (hy:aj tab q=some y) (hcx:cF (aK bl x.blocks x.bytes)=x.sum) (hcy:cF (aK bl y.blocks y.bytes)=y.sum) (T:am w F T0 tb bb sp sb cap mb n bl u tab) (S:bT N bl u tab)
  (bd:w.heap[dp]? = some (.cells #[.pointer (some ⟨tb,0,none⟩),.map (some m1),.map (some m2),.int .i64 nx] 143 (0,0))) (eg:w.cell? ⟨10,0,none⟩=some er) (eh:w.cell? ⟨2,0,none⟩=some es) :
  Cl 243 #[.pointer (some ⟨dp,0,none⟩),.int .i64 (p:Int),.int .i64 (q:Int)] w fun e w'=>e = .returned (if lM bl x y then .nilIface else es)/\Bl w w':=by
 have hdl:=(ja.1 bd).1;have HF:Hid (∀W (k:Nat) (z:ay),Bl w W->aj tab k=some z->cF (aK bl z.blocks z.bytes)=z.sum->Cl 131 #[.pointer (some ⟨dp,0,none⟩),.int .i64 (k:Int)] W fun e w'=>e = .returned (.tuple #[.agg #[.string { data:=#[102,105,108,101] },.string (aK bl z.blocks z.bytes),.bool z.exec,.slice none 0 0],.nilIface])/\Bl W w'):=fun W k z hW hz hc=>sZ k z er hz hc (T.below hW) S (by rw [hW.block dp hdl];exact bd) (by rw [hW.cell (p:=⟨10,0,none⟩) (ji w _ eg)];exact eg);have HSH:Hid (∀W,Bl w W->W.cell? ⟨2,0,none⟩=some es):=fun W hW=>by rw [hW.cell (p:=⟨2,0,none⟩) (ji w _ eh)];exact eh
 have HSA:Hid (∀W,Cl 12 #[.agg #[.string { data:=#[102,105,108,101] },.string (aK bl x.blocks x.bytes),.bool x.exec,.slice none 0 0],.agg #[.string { data:=#[102,105,108,101] },.string (aK bl y.blocks y.bytes),.bool y.exec,.slice none 0 0]] W fun e w'=>e = .returned (.bool (lM bl x y))/\Bl W w'):=fun W=>vD W.heap.size 1 (ct bl x) (ct bl y) (.slice none 0 0) (.slice none 0 0) W (jd _) ⟨none,0,rfl,by simp [ct],fun i z hz=>by simp [ct] at hz⟩ ⟨none,0,rfl,by simp [ct],fun i z hz=>by simp [ct] at hz⟩;have HF1:=HF.out w p x (je _ _) hx hcx;have HF2:Hid (∀W,Bl w W->Cl 131 #[.pointer (some ⟨dp,0,none⟩),.int .i64 (q:Int)] W fun e w'=>e = .returned (.tuple #[.agg #[.string { data:=#[102,105,108,101] },.string (aK bl y.blocks y.bytes),.bool y.exec,.slice none 0 0],.nilIface])/\Bl W w'):=fun W hW=>HF.out W q y hW hy hcy;generalize aK bl x.blocks x.bytes=X at *;generalize aK bl y.blocks y.bytes=Y at *;generalize hL:lM bl x y=L at *;clear T S bd eg eh hx hy hcx hcy HF hdl hL
 cases L with
 | true =>
  go_enter Tryz.func243,Tryz.ntmps243
  go_wp2_with (first
   | (go_at_call 131;refine HF1.mono ?_;rintro e w1 ⟨rfl,b1⟩;clear HF1;(have HB1:Hid (Bl w (w1.alloc (.cells #[.string { data:=#[102,105,108,101] },.string X,.bool x.exec,.slice none 0 0] 40))):=b1.alloc b1.size _);(have HR1:Hid ((w1.alloc (.cells #[.string { data:=#[102,105,108,101] },.string X,.bool x.exec,.slice none 0 0] 40)).heap[w1.heap.size]? = some (.cells #[.string { data:=#[102,105,108,101] },.string X,.bool x.exec,.slice none 0 0] 40 (0,0))):=heap_alloc_last w1 _);(have HG2:=HF2.out _ HB1.out);clear HF2)
   | (go_at_call 131;refine HG2.mono ?_;rintro e w2 ⟨rfl,b2⟩;clear HG2;(have hr1:(w2.alloc (.cells #[.string { data:=#[102,105,108,101] },.string Y,.bool y.exec,.slice none 0 0] 40)).heap[w1.heap.size]? = some (.cells #[.string { data:=#[102,105,108,101] },.string X,.bool x.exec,.slice none 0 0] 40 (0,0)):=(jp _ _ _ (jn (by simp) b2.size)).trans ((b2.block _ (by simp)).trans HR1.out));(have k0:(w2.alloc (.cells #[.string { data:=#[102,105,108,101] },.string Y,.bool y.exec,.slice none 0 0] 40)).cell? ⟨w1.heap.size,0,none⟩=some (.string { data:=#[102,105,108,101] }):=(by rw [ze _ _ _ _ _ _ hr1];rfl));(have k1:(w2.alloc (.cells #[.string { data:=#[102,105,108,101] },.string Y,.bool y.exec,.slice none 0 0] 40)).cell? ⟨w1.heap.size,1,none⟩=some (.string X):=(by rw [ze _ _ _ _ _ _ hr1];rfl));(have k2:(w2.alloc (.cells #[.string { data:=#[102,105,108,101] },.string Y,.bool y.exec,.slice none 0 0] 40)).cell? ⟨w1.heap.size,2,none⟩=some (.bool x.exec):=(by rw [ze _ _ _ _ _ _ hr1];rfl));(have k3:(w2.alloc (.cells #[.string { data:=#[102,105,108,101] },.string Y,.bool y.exec,.slice none 0 0] 40)).cell? ⟨w1.heap.size,3,none⟩=some (.slice none 0 0):=(by rw [ze _ _ _ _ _ _ hr1];rfl));(have HB2:Hid (Bl w (w2.alloc (.cells #[.string { data:=#[102,105,108,101] },.string Y,.bool y.exec,.slice none 0 0] 40))):=(HB1.out.trans (b2.mono HB1.out.size)).alloc (HB1.out.trans (b2.mono HB1.out.size)).size _);clear b2 hr1)
   | (go_at_call 12;refine (HSA.out _).mono ?_;rintro e w3 ⟨rfl,b3⟩))
  go_ret;exact ⟨rfl,HB2.out.trans (b3.mono HB2.out.size)⟩
 | false =>
  go_enter Tryz.func243,Tryz.ntmps243
  go_wp2_with (first
   | (go_at_call 131;refine HF1.mono ?_;rintro e w1 ⟨rfl,b1⟩;clear HF1;(have HB1:Hid (Bl w (w1.alloc (.cells #[.string { data:=#[102,105,108,101] },.string X,.bool x.exec,.slice none 0 0] 40))):=b1.alloc b1.size _);(have HR1:Hid ((w1.alloc (.cells #[.string { data:=#[102,105,108,101] },.string X,.bool x.exec,.slice none 0 0] 40)).heap[w1.heap.size]? = some (.cells #[.string { data:=#[102,105,108,101] },.string X,.bool x.exec,.slice none 0 0] 40 (0,0))):=heap_alloc_last w1 _);(have HG2:=HF2.out _ HB1.out);clear HF2)
   | (go_at_call 131;refine HG2.mono ?_;rintro e w2 ⟨rfl,b2⟩;clear HG2;(have hr1:(w2.alloc (.cells #[.string { data:=#[102,105,108,101] },.string Y,.bool y.exec,.slice none 0 0] 40)).heap[w1.heap.size]? = some (.cells #[.string { data:=#[102,105,108,101] },.string X,.bool x.exec,.slice none 0 0] 40 (0,0)):=(jp _ _ _ (jn (by simp) b2.size)).trans ((b2.block _ (by simp)).trans HR1.out));(have k0:(w2.alloc (.cells #[.string { data:=#[102,105,108,101] },.string Y,.bool y.exec,.slice none 0 0] 40)).cell? ⟨w1.heap.size,0,none⟩=some (.string { data:=#[102,105,108,101] }):=(by rw [ze _ _ _ _ _ _ hr1];rfl));(have k1:(w2.alloc (.cells #[.string { data:=#[102,105,108,101] },.string Y,.bool y.exec,.slice none 0 0] 40)).cell? ⟨w1.heap.size,1,none⟩=some (.string X):=(by rw [ze _ _ _ _ _ _ hr1];rfl));(have k2:(w2.alloc (.cells #[.string { data:=#[102,105,108,101] },.string Y,.bool y.exec,.slice none 0 0] 40)).cell? ⟨w1.heap.size,2,none⟩=some (.bool x.exec):=(by rw [ze _ _ _ _ _ _ hr1];rfl));(have k3:(w2.alloc (.cells #[.string { data:=#[102,105,108,101] },.string Y,.bool y.exec,.slice none 0 0] 40)).cell? ⟨w1.heap.size,3,none⟩=some (.slice none 0 0):=(by rw [ze _ _ _ _ _ _ hr1];rfl));(have HB2:Hid (Bl w (w2.alloc (.cells #[.string { data:=#[102,105,108,101] },.string Y,.bool y.exec,.slice none 0 0] 40))):=(HB1.out.trans (b2.mono HB1.out.size)).alloc (HB1.out.trans (b2.mono HB1.out.size)).size _);clear b2 hr1)
   | (go_at_call 12;refine (HSA.out _).mono ?_;rintro e w3 ⟨rfl,b3⟩;(have cS:=HSH.out w3 (HB2.out.trans (b3.mono HB2.out.size)))))
  go_ret;exact ⟨rfl,HB2.out.trans (b3.mono HB2.out.size)⟩
end
end
section
open Go.RowKit Go.Maps

theorem ar.put_at {w:Yw} {kt mb n:Nat} {f:Lit->Yo Yv} {t e:TypeId} {key:Yv} {kl:Lit} (M:ar w kt mb n f) (K:Keyed Tryz.prog kt) (ht:Tryz.prog.underlying t=some (.map kt e)) (hn:n<maxLen) (hkey:keyOf Tryz.prog kt key=some kl) (hkl:WideAt.IsKeyLit kl) (hin:(f kl).isSome=true) (v:Yv) :
  ∃w',(Instr.mapUpdate t (.map (some mb)) key v).run Tryz.prog w = .ok () w'/\ar w' kt mb n (updK f kl (some v))/\w.grownBy w' (some mb)/\w'.heap.size=w.heap.size:=by
 obtain ⟨D,hown,hD⟩:=M;obtain ⟨w',hrun,hown',ht'⟩:=hown.store K ht hn hkey (show bD v=some (.held v,[]) from rfl);refine ⟨w',hrun,⟨_,?_,ar.put_facts hown.isMap hkl hD⟩,ht'.grown,by obtain ⟨_,_,_,_,_,rfl⟩:=ht';simp [ChangeMaps.setBlock]⟩
 have hsz:Maps.size (D.put kl (.held v))<=n:=by
  rw [Maps.size_put (hown.tidy K),(hD kl hkl).2,hin];exact hown.size_le
 obtain ⟨es,clock,hb,F,_,hDe⟩:=hown';refine ⟨es,clock,hb,F,?_,hDe⟩;rw [hDe] at hsz
 simpa [Maps.size,length_sorted] using hsz
def setF (fs:List (Yb×Nat)) (s:Yb) (q:Nat):List (Yb×Nat):=fs.map fun x=>if x.1=s then (s,q) else x
theorem mO (f:Lit->Yo Yv) (k:Lit) (a b:Yo Yv):updK (updK f k a) k b=updK f k b:=by
 funext j
 by_cases e:j=k
 ·rw [e,bN,bN]
 ·rw [aP _ _ e,aP _ _ e,aP _ _ e]
theorem tf (f:Lit->Yo Yv) {k j:Lit} (h:¬k=j) (a b:Yo Yv):updK (updK f k a) j b=updK (updK f j b) k a:=by
 funext i
 by_cases e1:i=k
 ·rw [e1,aP _ _ h,bN,bN]
 ·by_cases e2:i=j
  ·rw [e2,bN,aP _ _ (fun e=>h e.symm),bN]
  ·rw [aP _ _ e2,aP _ _ e1,aP _ _ e1,aP _ _ e2]
theorem ik (l:List (Yb×Nat)) (x:Yb×Nat) (p:Yb):aH (l ++ [x]) p=if x.1=p then some x.2 else aH l p:=by simp [aH]
theorem th (l:List (Yb×Nat)) (x:Yb×Nat) (s:Yb) (q:Nat):setF (l ++ [x]) s q=setF l s q ++ [if x.1=s then (s,q) else x]:=by simp [setF]
theorem fN {α:Type} {P:List α->Prop} (h0:P []) (h1:∀l x,P l->P (l ++ [x])):∀(n:Nat) (l:List α),l.length=n->P l
 | 0,l,h=>by rw [qf h];exact h0
 | n+1,l,h=>by
  have hne:l≠[]:=fun e=>(by rw [e] at h;simp at h);obtain ⟨m,x,rfl⟩:∃m x,l=m ++ [x]:=⟨l.dropLast,l.getLast hne,(List.dropLast_concat_getLast hne).symm⟩;exact h1 m x (fN h0 h1 n m (by simpa using h))
theorem CH (s:Yb) (q:Nat) (fs:List (Yb×Nat)):aH fs s=none->setF fs s q=fs:=fN (P:=fun fs=>aH fs s=none->setF fs s q=fs) (fun _=>rfl) (fun l x ih h=>by
 rw [ik] at h
 split at h
 ·cases h
 ·rename_i e
  rw [th,zi e,ih h]) _ fs rfl
theorem FV (s:Yb) (q:Nat) (fs:List (Yb×Nat)):(aH fs s).isSome=true->fmap (setF fs s q)=updK (fmap fs) (.string s.data.toList) (some (.int .i64 (q:Int))):=fN (P:=fun fs=>(aH fs s).isSome=true->fmap (setF fs s q)=updK (fmap fs) (.string s.data.toList) (some (.int .i64 (q:Int)))) (fun h=>by cases h) (fun l x ih h=>by
 rw [ik] at h;rw [th,fJ,fJ];by_cases e:x.1=s
 ·rw [zj e,e,mO]
  cases hl:aH l s with
  | none=>rw [CH s q l hl]
  | some m=>rw [ih (by rw [hl];rfl),mO]
 ·rw [zi e] at h ⊢
  rw [ih h,tf _ (fun h'=>e (fK (by simpa using h'.symm)))]) _ fs rfl
theorem eV {tr:List (Yo af)} {k:Nat} {x:af} (hx:aO tr (k:Int)=some x) (o:Yo af) (j:Int):aO (tr.set k o) j=if j=(k:Int) then o else aO tr j:=by
 have hk:k<tr.length:=by
  rw [cH] at hx
  cases h:tr[k]? with
  | none=>rw [h] at hx;cases hx
  | some z=>exact (jb.1 h).1
 unfold aO;by_cases h0:0<=j
 ·rw [zj h0,zj h0]
  by_cases e:j=(k:Int)
  ·rw [zj e,e,Int.toNat_natCast,jM hk];rfl
  ·rw [zi e,jV (by omega)]
 ·rw [zi h0,zi h0,zi (by omega)]
section
variable {w w':Yw} {T0 dp tb mb m1 m2 n1 d:Nat} {tr:List (Yo af)} {fb:Nat → Nat}
theorem aG.setF (D:aG w T0 dp tb mb m1 m2 n1 d tr fb) {k:Nat} {x:af} (hx:aO tr (k:Int)=some x) (fs:List (Yb×Nat)) (hg:w.grownBy w' (some (fb k))) (M:ar w' 9 (fb k) 1000000 (fmap fs)):aG w' T0 dp tb mb m1 m2 n1 d (tr.set k (some { x with fs:=fs })) fb:=by
 obtain ⟨f1,f2,M1,M2,h0,h1,h2⟩:=D.maps;obtain ⟨_,_,Mk,q1,q2,q3,q4⟩:=h1 k x hx;obtain ⟨es,cl,hm⟩:=Mk.obj;have hk:∀(q:Nat) (o:Obj),w.heap[q]? = some o->q≠fb k->w'.heap[q]? = some o:=fun q o hq hne=>by rw [hg.block q (ja.1 hq).1 (fun e=>hne (jO e))];exact hq
 have hc:∀(q:Nat) cs ty,w.heap[q]? = some (Obj.cells cs ty (0,0))->w'.heap[q]? = some (Obj.cells cs ty (0,0)):=fun q cs ty hq=>hk q _ hq (fun e=>by rw [e,hm] at hq;cases hq)
 have mk:∀ {kt mm q:Nat} {f:Lit->Yo Yv},ar w kt mm q f->mm≠fb k->ar w' kt mm q f:=fun M hne=>by
  obtain ⟨es,cl,h⟩:=M.obj;exact M.keep ((hk _ _ h hne).trans h.symm)
 refine ⟨by rw [jI];exact hc _ _ _ D.box,⟨f1,f2,mk M1 q1.symm,mk M2 q2.symm,fun j hj=>?_,fun j y hy=>?_,fun i j y z hy hz e=>?_⟩,D.low⟩
 ·rw [eV hx] at hj
  split at hj
  ·cases hj
  ·exact h0 j hj
 ·rw [eV hx] at hy
  split at hy
  ·rename_i e
   have e':j=k:=(by omega);subst e';cases hy
   obtain ⟨⟨u,a1,a2⟩,a3,_,a5⟩:=h1 j x hx;exact ⟨⟨u,a1,a2.kept hg.size (fun q c h=>hc q c _ h)⟩,a3,M,a5⟩
  ·rename_i e
   obtain ⟨⟨u,a1,a2⟩,a3,a4,a5⟩:=h1 j y hy;exact ⟨⟨u,a1,a2.kept hg.size (fun q c h=>hc q c _ h)⟩,a3,mk a4 (fun e2=>e (by rw [h2 j k y x hy hx e2])),a5⟩
 ·have key:∀(i:Nat) (y:af),aO (tr.set k (some { x with fs:=fs })) (i:Int)=some y->∃y',aO tr (i:Int)=some y':=fun i y hy=>by
   rw [eV hx] at hy
   split at hy
   ·rename_i e;exact ⟨x,by rw [e];exact hx⟩
   ·exact ⟨y,hy⟩
  obtain ⟨y',hy'⟩:=key i y hy;obtain ⟨z',hz'⟩:=key j z hz;exact h2 i j y' z' hy' hz' e
end
end
section
open Go.RowKit Go.Maps

section
variable {w:Yw} {T0 dp tb mb m1 m2 n1 d bb sp sb cap n N:Nat} {tr:List (Yo af)} {fb:Nat → Nat} {s:aV} {a:Nat → Addr}
theorem CI (k:Int) (p:Yb) (was:Nat) (hk:(Lit.int .i64 k).wf=true) (hp:p.size<=1000000) (P:dl a w) (D:aG w T0 dp tb mb m1 m2 n1 d tr fb) (hi:ij tr k p = .ok was) :
  Cl 242 #[.pointer (some ⟨dp,0,none⟩),.int .i64 k,.string p] w fun e w'=>e = .returned (.tuple #[.int .i64 (was:Int),.nilIface])/\Bl w w':=by
 have HIN:=Az a k p hk hp P D;rw [hi] at HIN;exact HIN
theorem AB (j:Nat) (z:ay) (D:aG w T0 dp tb mb m1 m2 n1 d tr fb) (T:am w (fun _=>False) T0 tb bb sp sb cap mb n s.bl s.u s.tab) (S:bT N s.bl s.u s.tab) (hz:aj s.tab j=some z) :
  ∀W,Bl w W->W.cell? ⟨dp,0,none⟩=some (.pointer (some ⟨tb,0,none⟩))/\Cl 125 #[.pointer (some ⟨tb,0,none⟩),.int .i64 (j:Int)] W fun e w'=>∃ax cx,e = .returned (.tuple #[.agg #[.int .i64 (z.bytes:Int),.int .i64 (z.links:Int),.bool z.exec,.slice ax z.blocks.length cx,.int .u32 (z.sum:Int)],.bool true])/\Bl W w':=fun W hW=>by
 obtain ⟨_,_,_,s4,s5⟩:=S.own j z hz;refine ⟨(D.below hW).cells.1,(si j z hz (by rw [s5];unfold bk;omega) W (T.below hW)).mono fun e w' ⟨v,he,hv,hb⟩=>?_⟩;obtain ⟨ax,cx,rfl,_⟩:=hv;rw [dJ] at he;exact ⟨ax,cx,he,hb⟩
end
end
section
open Go.RowKit Go.Maps

def ec (s:aV) (j:Nat) (z:ay):aV:=⟨s.bl,s.u,s.tab.set j (some { z with links:=z.links+1 })⟩
def cV (s:aV) (i:Nat) (y:ay):aV:=if y.links=1 then ⟨s.bl,aY s.u false y.blocks,s.tab.set i none⟩ else ⟨s.bl,s.u,s.tab.set i (some { y with links:=y.links-1 })⟩
theorem zy {N:Nat} {s:aV} {j:Nat} {z:ay} (S:bT N s.bl s.u s.tab) (hz:aj s.tab j=some z):bT N (ec s j z).bl (ec s j z).u (ec s j z).tab:=S.links hz (by omega)
theorem zz {N:Nat} {s:aV} {i:Nat} {y:ay} (S:bT N s.bl s.u s.tab) (hy:aj s.tab i=some y):bT N (cV s i y).bl (cV s i y).u (cV s i y).tab:=by
 unfold cV;have h1:=(S.own i y hy).2.2.1
 split
 ·exact S.drop hy
 ·exact S.links hy (by omega)
theorem bH.of_tb {T0 mb dp:Nat} {w w':Yw} (h:aW T0 mb w w'):bH T0 dp w w':=⟨h.os,h.tape,h.output,h.size,fun k o hk hp _=>h.block k o hk hp⟩
theorem bH.of_below {T0 dp:Nat} {w w':Yw} (h:Bl w w'):bH T0 dp w w':=⟨h.os,h.tape,h.output,h.size,fun k o hk _ _=>by rw [h.block k (ja.1 hk).1];exact hk⟩
theorem bH.trans {T0 dp:Nat} {w w1 w2:Yw} (h:bH T0 dp w w1) (h':bH T0 dp w1 w2):bH T0 dp w w2:=⟨h'.os.trans h.os,h'.tape.trans h.tape,h'.output.trans h.output,jm h.size h'.size,fun k o hk hp hd=>h'.block k o (h.block k o hk hp hd) hp hd⟩
section
variable {w:Yw} {T0 tb mb bb sp sb cap n N:Nat} {s:aV}
theorem rj (i:Nat) (y:ay) (eb en:Yv) (hy:aj s.tab i=some y) (hlk:y.links<=1000000) (T:am w (fun _=>False) T0 tb bb sp sb cap mb n s.bl s.u s.tab) (S:bT N s.bl s.u s.tab) (hEb:w.cell? ⟨1,0,none⟩=some eb) (hEn:w.cell? ⟨5,0,none⟩=some en) (hgT:1<T0/\5<T0) :
  Cl 197 #[.pointer (some ⟨tb,0,none⟩),.int .i64 (i:Int)] w fun e w'=>e = .returned .nilIface/\am w' (fun _=>False) T0 tb bb sp sb cap mb n (cV s i y).bl (cV s i y).u (cV s i y).tab/\aW T0 mb w w':=by
 obtain ⟨_,_,h1,h4,h5⟩:=S.own i y hy;by_cases e:y.links=1
 ·have h:=sf i y eb en hy e w T hEb hEn hgT (fun b hb=>by rw [S.lu];exact S.lt hy b hb) (S.gives hy) (by rw [h5];unfold bk;omega)
  unfold cV;rw [zj e];exact h
 ·have h:=Cj i (y.links-1) y hy (by omega) (by omega) (by omega) w T
  unfold cV;rw [zi e];exact h
end
end
end Go.Proofs.YtaaimbpnogkngaaGreatDoor
