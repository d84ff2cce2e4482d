/-
  Dq Dr Same, joined.
  Conditions: those that each states.
-/
import Derived.Test.YthofhjnfkholoaaGreatDoorQ22
namespace Go.Proofs.YthofhjnfkholoaaGreatDoor
set_option maxHeartbeats 4000000
section
set_option maxRecDepth 100000
open Go.RowKit Go.Maps

theorem cV (w:World):Bl w w.drew:=(je _ w).drew
structure bE (T0 dp:Nat) (w w':World):Prop where
 os:w'.os=w.os
 tape:w'.tape=w.tape
 output:w'.output=w.output
 size:w.heap.size<=w'.heap.size
 block:∀(k:Nat) (o:Obj),w.heap[k]? = some o->(k<T0∨gA o=false)->k≠dp->w'.heap[k]? = some o
section
variable {w : World} {T0 dp tb mb m1 m2 n1 d bb sp sb cap n N : Nat} {tr : List (Option ah)} {fb : Nat → Nat} {s : aA} {er : Value}
def vF:Obj->Bool
 | .cells _ t _=>t==176
 | _=>false
theorem aq.butP {w w':World} {F:Nat->Prop} {bl:List (List UInt8)} {u:List Bool} {tab:List (Option ak)} {C:Nat->Prop} (T:aq w F T0 tb bb sp sb cap mb n bl u tab) (h:∀(k:Nat) (o:Obj),w.heap[k]? = some o->¬C k->w'.heap[k]? = some o) (hc:¬C mb) (ho:∀(c:Nat) (o:Obj),C c->w.heap[c]? = some o->(fw o||dR o||vF o)=true):aq w' F T0 tb bb sp sb cap mb n bl u tab:=by
 have ht:am (fun o=>fw o||dR o||vF o) w w':=fun k o hk hp=>h k o hk (fun e=>by
  have hp':(fw o||dR o||vF o)=false:=hp;rw [ho k o e hk] at hp';cases hp')
 obtain ⟨f,Nd⟩:=T.nodes;refine ⟨ht _ _ T.box rfl,T.disk.turn ht (fun _ _=>rfl) (fun _ _=>rfl) (fun _ _=>rfl),T.space.turn ht (fun _ _=>rfl) (fun _ _=>rfl),⟨f,?_,fun k x hx=>?_,Nd.none_,Nd.inj⟩,T.low⟩
 ·obtain ⟨es,cl,hb⟩:=Nd.map.obj
  exact Nd.map.keep (by rw [hb];exact h _ _ hb hc)
 ·obtain ⟨b,e,hb,S⟩:=Nd.some_ k x hx
  exact ⟨b,e,hb,S.turn ht (fun _ _=>rfl) (fun _ _=>rfl)⟩
theorem EC {W0 w':World} {Q:Nat->Prop} {b fm:Nat} {bt:ab} {fs:List (ByteArray×Nat)} {bl:List (List UInt8)} {u:List Bool} {tab:List (Option ak)} (hbW:Bl w W0) (D:aL w T0 dp tb mb m1 m2 n1 d tr fb) (T:aq w' (fun _=>False) T0 tb bb sp sb cap mb n bl u tab) (M:bD w' 9 fm 1000000 (fmap fs)) (hTr:bR w' Q (d+1) b 0 bt) (fr:iA T0 mb W0 w') (hfm:w.heap.size<=fm) (hb:W0.heap.size<=b) (hQ:∀q,Q q->W0.heap.size<=q/\q<b) (tre:∀(k:Nat) (obj:Obj),W0.heap[k]? = some obj->dR obj=true->w'.heap[k]? = some obj) (hmb:mb<w.heap.size) (hT0:T0<=w.heap.size) (hn1:n1<1000000) (htl:tr.length<=100000) :
  ∃ad3 cp3 w1 w2 w3 w4 c1 c2,(w'.cell? ⟨dp,3,none⟩=some (.int .i64 (tr.length:Int)))/\(∀W,(W=w'.drew∨W=w1∨W=w2∨W=w3∨W=w4)->W.cell? ⟨dp,1,none⟩=some (.map (some m1))/\W.cell? ⟨dp,2,none⟩=some (.map (some m2))/\W.rangeAt b 0 [.string bt.kind,.string bt.data,.bool bt.exec,.slice ad3 bt.kids.length cp3])/\(Instr.mapEntry 173 (.map (some m1)) (.int .i64 (tr.length:Int))).run Tryz.prog w'.drew = .ok (.tuple #[.agg #[.string { data:=#[] },.string { data:=#[] },.bool false,.slice none 0 0],.int .i64 c1]) w1/\(Instr.entryStore 173 (.map (some m1)) (.int .i64 c1) (.agg #[.string bt.kind,.string bt.data,.bool bt.exec,.slice ad3 bt.kids.length cp3])).run Tryz.prog w1 = .ok () w2/\(Instr.mapEntry 174 (.map (some m2)) (.int .i64 (tr.length:Int))).run Tryz.prog w2 = .ok (.tuple #[.map none,.int .i64 c2]) w3/\(Instr.entryStore 174 (.map (some m2)) (.int .i64 c2) (.map (some fm))).run Tryz.prog w3 = .ok () w4/\w4.cell? ⟨dp,3,none⟩=some (.int .i64 (tr.length:Int))/\w4.frozen? ⟨dp,3,none⟩=false/\(∃fb',aL (w4.setCell ⟨dp,3,none⟩ (.int .i64 ((tr.length:Int)+1))) T0 dp tb mb m1 m2 (n1+1) d (tr ++ [some ⟨bt,fs⟩]) fb')/\aq (w4.setCell ⟨dp,3,none⟩ (.int .i64 ((tr.length:Int)+1))) (fun _=>False) T0 tb bb sp sb cap mb n bl u tab/\bE T0 dp w (w4.setCell ⟨dp,3,none⟩ (.int .i64 ((tr.length:Int)+1))):=by
 have D0:=D.below hbW;have D1:aL w' T0 dp tb mb m1 m2 n1 d tr fb:=D0.kept fr.size fr.maps (fun cur hc=>fr.block _ _ hc rfl (.inr rfl)) (fun k cur hk=>tre k _ hk rfl);obtain ⟨_,_,hn',_⟩:=id hTr;have hbl:b<w'.heap.size:=ji w' _ hn'.kind;obtain ⟨u3,hn3,hK3⟩:=hTr.kids (fun q hq=>Nat.lt_trans (hQ q hq).2 hbl);obtain ⟨Q3,ad3,cp3,rfl,_⟩:=id hK3;have D2:=D1.below ((je _ w').drew);have hK4:cz w'.drew d bt (.slice ad3 bt.kids.length cp3):=hK3.kept (jd _) (fun _ _ h=>h)
 have hmlt:∀ {kt mm q:Nat} {f:Lit->Option Value},bD w kt mm q f->mm<w.heap.size:=fun M=>by
  obtain ⟨es,cl,h⟩:=M.obj;exact (ja.1 h).1
 obtain ⟨f1,f2,M1,M2,h0,h1,h2⟩:=D.maps;have a1:=hmlt M1;have a2:=hmlt M2;obtain ⟨w1,w2,w3,w4,c1,c2,r1,r2,r3,r4,kc,k4,⟨z1,z2,z3,z4⟩,D5⟩:=D2.entries bt fs (.slice ad3 bt.kids.length cp3) fm hK4 (M.keep rfl) (by omega) (by omega) (by omega) (by omega) (fun k x hx=>by have:=hmlt (h1 k x hx).2.2.1;omega) hn1 htl
 have kb:∀o,w'.heap[b]? = some o->fw o=false:=fun o ho=>by
  have hc:=hn3.kind
  cases o <;> first|rfl|(simp [World.cell?,ho] at hc)
 have celldp:∀W,(W=w'.drew∨W=w1∨W=w2∨W=w3∨W=w4)->W.heap[dp]? = w'.heap[dp]? /\ W.heap[b]? = w'.heap[b]? := fun W hW=>by
  have hbs:∃o,w'.heap[b]? = some o:=⟨_,qN hbl⟩;obtain ⟨ob,hob⟩:=hbs;obtain ⟨e1,e2,e3,e4⟩:=kc dp _ D1.box rfl;obtain ⟨g1,g2,g3,g4⟩:=kc b ob hob (kb ob hob);rw [D1.box,hob]
  rcases hW with rfl|rfl|rfl|rfl|rfl
  ·exact ⟨D1.box,hob⟩
  ·exact ⟨e1,g1⟩
  ·exact ⟨e2,g2⟩
  ·exact ⟨e3,g3⟩
  ·exact ⟨e4,g4⟩
 have h4:=celldp w4 (.inr (.inr (.inr (.inr rfl))));refine ⟨ad3,cp3,w1,w2,w3,w4,c1,c2,D1.cells.2.2.2,fun W hW=>?_,r1,r2,r3,r4,?_,?_,⟨_,D5⟩,?_,?_⟩
 ·obtain ⟨g1,g2⟩:=celldp W hW
  refine ⟨by rw [jl (a:=⟨dp,1,none⟩) g1];exact D1.cells.2.1,by rw [jl (a:=⟨dp,2,none⟩) g1];exact D1.cells.2.2.1,fun i v hv=>?_⟩;rw [jl (a:=⟨b,0+i,none⟩) g2]
  match i,hv with
  | 0,hv=>simp only [jJ,jh] at hv;rw [<-hv];exact hn3.kind
  | 1,hv=>simp only [qo,jJ,jh] at hv;rw [<-hv];exact hn3.data
  | 2,hv=>simp only [qo,jJ,jh] at hv;rw [<-hv];exact hn3.exec
  | 3,hv=>simp only [qo,jJ,jh] at hv;rw [<-hv];exact hn3.kids
 ·rw [jl (a:=⟨dp,3,none⟩) h4.1];exact D1.cells.2.2.2
 ·simp [World.frozen?,h4.1,D1.box]
 ·have T4:aq w4 (fun _=>False) T0 tb bb sp sb cap mb n bl u tab:=aq.butP (C:=fun k=>k=m1∨k=m2) (T.below ((je _ w').drew)) (fun k o hk hC=>k4 k o hk (fun e=>hC (.inl e)) (fun e=>hC (.inr e))) (fun e=>e.elim (fun e=>D.low.2.2.2.2.1 e.symm) (fun e=>D.low.2.2.2.2.2.1 e.symm)) (fun c o hc ho=>by
   obtain ⟨f1',f2',M1',M2',_⟩:=D2.maps;obtain ⟨es1,cl1,q1⟩:=M1'.obj;obtain ⟨es2,cl2,q2⟩:=M2'.obj
   rcases hc with rfl|rfl
   ·rw [q1] at ho;cases ho;rfl
   ·rw [q2] at ho;cases ho;rfl)
  exact aq.butP (C:=fun k=>k=dp) T4 (fun k o hk hC=>by rw [jf _ _ _ _ hC];exact hk) (fun e=>by
   obtain ⟨f,Nd⟩:=T4.nodes;obtain ⟨es,cl,h⟩:=Nd.map.obj;rw [e,h4.1,D1.box] at h;cases h) (fun c o hc ho=>by rw [hc,h4.1,D1.box] at ho;cases ho;rfl)
 ·have hs4:w4.heap.size=w'.heap.size:=z4
  refine ⟨z1.trans (fr.os.trans hbW.os),z2.trans (fr.tape.trans hbW.tape),z3.trans (fr.output.trans hbW.output),by simp [World.setCell];have:=fr.size;have:=hbW.size;omega,fun k o hk hp hne=>?_⟩;have hk0:W0.heap[k]? = some o:=by rw [hbW.block k (ja.1 hk).1];exact hk
  have hk1:w'.heap[k]? = some o:=by
   cases htr:dR o with
   | true=>exact tre k o hk0 htr
   | false=>exact fr.block k o hk0 htr hp
  have hkm:∀mm es cl,w.heap[mm]? = some (Obj.map es cl)->T0<=mm->k≠mm:=fun mm es cl hm hT e=>by
   rcases hp with hp|hp
   ·omega
   ·rw [e,hm] at hk;cases hk;cases hp
  obtain ⟨es1,cl1,q1⟩:=M1.obj;obtain ⟨es2,cl2,q2⟩:=M2.obj;rw [jf _ _ _ _ hne];exact k4 k o hk1 (hkm m1 _ _ q1 D.low.2.1) (hkm m2 _ _ q2 D.low.2.2.1)
theorem GF (a:Nat->Addr) (t:ab) (ad:Option Addr) (cp:Nat) (Qa:Nat->Prop) (hO:cF w Qa (d+1) t.kids (.slice ad t.kids.length cp)) (hQa:∀q,Qa q->q<w.heap.size) (hal:dw ck lB 0 (pre (d+1) ByteArray.empty 0 t)) (hck:aR (d+1) t=none) (hG:fA (d+1) t) (hd:(d+1)*20<=100000)
  (hsz:∀x∈ap (d+1) t,x.2.data.size<=2000/\x.1.size<=maxLen) (hlim:n+(ap (d+1) t).length<=50000) (hroom:aN (ap (d+1) t)<=(aF s.u).length)
  (D:aL w T0 dp tb mb m1 m2 n1 d tr fb) (T:aq w (fun _=>False) T0 tb bb sp sb cap mb n s.bl s.u s.tab) (S:aY N s.bl s.u s.tab) (SB:dJ a w.heap.size w) (hT0:T0<=w.heap.size) (hn1:n1<1000000) (htl:tr.length<=100000)
  (eg:w.cell? ⟨4,0,none⟩=some er) (hg0:4<T0) (hgr:∃cs ty,w.heap[4]? = some (.cells cs ty (0,0))/\dR (.cells cs ty (0,0))=false) :
  Cl 89 #[.pointer (some ⟨dp,0,none⟩),.agg #[.string t.kind,.string t.data,.bool t.exec,.slice ad t.kids.length cp]] w fun e w'=>e = .returned (.tuple #[.int .i64 (tr.length:Int),.nilIface])/\(∃fb',aL w' T0 dp tb mb m1 m2 (n1+1) d (tr ++ [some ⟨eB (d+1) t,cf s (ap (d+1) t)⟩]) fb')/\aq w' (fun _=>False) T0 tb bb sp sb cap mb (n+(ap (d+1) t).length) (bf s (ap (d+1) t)).bl (bf s (ap (d+1) t)).u (bf s (ap (d+1) t)).tab/\aY N (bf s (ap (d+1) t)).bl (bf s (ap (d+1) t)).u (bf s (ap (d+1) t)).tab/\bE T0 dp w w':=by
 obtain ⟨NF,HNF⟩:∃NF,Hid (NF=aN (ap (d+1) t)):=⟨_,(rfl:_=_)⟩;obtain ⟨FR,HFRE⟩:∃FR,Hid (FR=(aF s.u).length):=⟨_,(rfl:_=_)⟩;have hgtr:¬(FR:Int)<(NF:Int):=by rw [HNF.out,HFRE.out];omega
 obtain ⟨W0,hW0⟩:∃W0,W0=w.alloc (.cells #[.string t.kind,.string t.data,.bool t.exec,.slice ad t.kids.length cp] 53):=⟨_,rfl⟩;have hbW:Bl w W0:=by rw [hW0];exact (je _ w).alloc (jd _) _
 have hrW:W0.heap[w.heap.size]? = some (.cells #[.string t.kind,.string t.data,.bool t.exec,.slice ad t.kids.length cp] 53 (0,0)):=by rw [hW0];exact heap_alloc_last w _
 have HCK:Hid (Cl 124 #[.agg #[.string t.kind,.string t.data,.bool t.exec,.slice ad t.kids.length cp]] W0 fun e w'=>e = .returned .nilIface/\Bl W0 w'):=by
  have hO0:cF W0 Qa (d+1) t.kids (.slice ad t.kids.length cp):=hO.kept (fun q hq=>hbW.block q (hQa q hq)) (fun _ h=>h);have hLies:aE W0 w.heap.size (d+1) t.kids (.slice ad t.kids.length cp):=hO0.liesQ.lies hQa;have h:=lV a (d+1) w.heap.size t _ W0 (SB.below hbW (jd _)) hbW.size hLies hal;rw [hck] at h;exact h
 have hroomI:NF<=FR:=by rw [HNF.out,HFRE.out];exact hroom
 have HND:Hid (∀W,Bl W0 W->Cl 125 #[.agg #[.string t.kind,.string t.data,.bool t.exec,.slice ad t.kids.length cp]] W fun e w'=>e = .returned (.int .i64 (NF:Int))/\Bl W0 w'):=fun W hW=>by
  have hb:=hbW.trans (hW.mono hbW.size);have hfl:(aF s.u).length<=512:=jm (nh _ _ _) T.low.2.2.2.2.1;refine (vw (d+1) t (.slice ad t.kids.length cp) Qa W (hO.kept (fun q hq=>hb.block q (hQa q hq)) (fun _ h=>h)) (fun q hq=>jn (hQa q hq) hb.size) hG hd (fun x hx=>(hsz x hx).1) (by have:aN (ap (d+1) t)<=512:=jm hroom hfl;exact jm this (by omega))).mono fun e w' ⟨he,hb'⟩=>⟨by rw [he,HNF.out];rfl,hW.trans (hb'.mono hW.size)⟩
 have HFR:Hid (∀W,Bl W0 W->Cl 45 #[.pointer (some ⟨tb,0,none⟩)] W fun e w'=>e = .returned (.int .i64 (FR:Int))/\Bl W0 w'):=fun W hW=>(sE W (T.below (hbW.trans (hW.mono hbW.size)))).mono fun e w' ⟨he,hb'⟩=>⟨by rw [he,HFRE.out],hW.trans (hb'.mono hW.size)⟩;have hzW:w.heap.size<W0.heap.size:=(ja.1 hrW).1
 have HS4:Hid (∀W,Bl W0 W->(W.cell? ⟨dp,0,none⟩=some (.pointer (some ⟨tb,0,none⟩))/\W.rangeAt w.heap.size 0 [.string t.kind,.string t.data,.bool t.exec,.slice ad t.kids.length cp])):=fun W hW=>by
  refine ⟨(D.below (hbW.trans (hW.mono hbW.size))).cells.1,fun i v hv=>?_⟩;rw [jl (a:=⟨w.heap.size,0+i,none⟩) (hW.block _ hzW),ze _ _ _ _ _ _ hrW,j6]
  simpa using hv
 have HCP:Hid (∀W,Bl W0 W->Cl 126 #[.agg #[.string t.kind,.string t.data,.bool t.exec,.slice ad t.kids.length cp]] W fun e w'=>∃ad2 cp2,e = .returned (.agg #[.string t.kind,.string t.data,.bool t.exec,.slice ad2 t.kids.length cp2])/\cF w' (fun q=>W0.heap.size<=q/\q<w'.heap.size) (d+1) t.kids (.slice ad2 t.kids.length cp2)/\Bl W0 w'):=fun W hW=>by
  have hb:=hbW.trans (hW.mono hbW.size);have hOW:cF W Qa (d+1) t.kids (.slice ad t.kids.length cp):=hO.kept (fun q hq=>hb.block q (hQa q hq)) (fun _ h=>h);refine (EB W.heap.size (d+1) t _ W (jd _) (hOW.liesQ.lies (fun q hq=>jn (hQa q hq) hb.size))).mono fun e w' ⟨u',he,ho,hb'⟩=>?_;obtain ⟨ad2,cp2,rfl⟩:=ho.form;exact ⟨ad2,cp2,he,ho.kept (fun _ _=>rfl) (fun q hq=>⟨jm hW.size hq.1,hq.2⟩),hW.trans (hb'.mono hW.size)⟩
 have hmb:mb<w.heap.size:=by
  obtain ⟨f,Nd⟩:=T.nodes;obtain ⟨es,cl,h⟩:=Nd.map.obj;exact (ja.1 h).1
 obtain ⟨bt,Hbt⟩:∃bt,Hid (bt=eB (d+1) t):=⟨_,(rfl:_=_)⟩;obtain ⟨fs,Hfs⟩:∃fs,Hid (fs=cf s (ap (d+1) t)):=⟨_,(rfl:_=_)⟩;obtain ⟨s2,Hs2⟩:∃s2,Hid (s2=bf s (ap (d+1) t)):=⟨_,(rfl:_=_)⟩;obtain ⟨n2,Hn2⟩:∃n2,Hid (n2=n+(ap (d+1) t).length):=⟨_,(rfl:_=_)⟩;rw [<-Hbt.out,<-Hfs.out,<-Hs2.out,<-Hn2.out]
 have HEM:Hid (∀W1 b ad2 cp2,Bl W0 W1->cF W1 (fun q=>W0.heap.size<=q/\q<b) (d+1) t.kids (.slice ad2 t.kids.length cp2)->W0.heap.size<=b->W1.heap[b]? = some (.cells #[.string t.kind,.string t.data,.bool t.exec,.slice ad2 t.kids.length cp2] 53 (0,0))->Cl 127 #[.pointer (some ⟨dp,0,none⟩),.pointer (some ⟨b,0,none⟩)] W1 fun e w'=>∃fm,e = .returned (.tuple #[.map (some fm),.nilIface])/\aY N s2.bl s2.u s2.tab/\∃ad3 cp3 w1 w2 w3 w4 c1 c2,(w'.cell? ⟨dp,3,none⟩=some (.int .i64 (tr.length:Int)))/\(∀W,(W=w'.drew∨W=w1∨W=w2∨W=w3∨W=w4)->W.cell? ⟨dp,1,none⟩=some (.map (some m1))/\W.cell? ⟨dp,2,none⟩=some (.map (some m2))/\W.rangeAt b 0 [.string bt.kind,.string bt.data,.bool bt.exec,.slice ad3 bt.kids.length cp3])/\(Instr.mapEntry 173 (.map (some m1)) (.int .i64 (tr.length:Int))).run Tryz.prog w'.drew = .ok (.tuple #[.agg #[.string { data:=#[] },.string { data:=#[] },.bool false,.slice none 0 0],.int .i64 c1]) w1/\(Instr.entryStore 173 (.map (some m1)) (.int .i64 c1) (.agg #[.string bt.kind,.string bt.data,.bool bt.exec,.slice ad3 bt.kids.length cp3])).run Tryz.prog w1 = .ok () w2/\(Instr.mapEntry 174 (.map (some m2)) (.int .i64 (tr.length:Int))).run Tryz.prog w2 = .ok (.tuple #[.map none,.int .i64 c2]) w3/\(Instr.entryStore 174 (.map (some m2)) (.int .i64 c2) (.map (some fm))).run Tryz.prog w3 = .ok () w4/\w4.cell? ⟨dp,3,none⟩=some (.int .i64 (tr.length:Int))/\w4.frozen? ⟨dp,3,none⟩=false/\(∃fb',aL (w4.setCell ⟨dp,3,none⟩ (.int .i64 ((tr.length:Int)+1))) T0 dp tb mb m1 m2 (n1+1) d (tr ++ [some ⟨bt,fs⟩]) fb')/\aq (w4.setCell ⟨dp,3,none⟩ (.int .i64 ((tr.length:Int)+1))) (fun _=>False) T0 tb bb sp sb cap mb n2 s2.bl s2.u s2.tab/\bE T0 dp w (w4.setCell ⟨dp,3,none⟩ (.int .i64 ((tr.length:Int)+1)))):=fun W1 b ad2 cp2 hW hO2 hb hr=>by
  have hbw:=hbW.trans (hW.mono hbW.size);have hn:eA W1 b 0 t (.slice ad2 t.kids.length cp2):=by constructor <;> rw [ze _ _ _ _ _ _ hr] <;> rfl
  obtain ⟨csg,tyg,hgg,htg⟩:=hgr;have hgg1:W1.heap[4]? = some (.cells csg tyg (0,0)):=by rw [hbw.block _ (ja.1 hgg).1];exact hgg
  have eg1:W1.cell? ⟨4,0,none⟩=some er:=(by rw [jl (a:=⟨4,0,none⟩) (hgg1.trans hgg.symm)];exact eg);refine (BS (w0:=W0) (T.below hbw) S hroom (D.below hbw).box (bR.of_own hO2 hn) ⟨_,hr,by simp⟩ (fun h=>Nat.lt_irrefl _ h.2) (fun q h=>h.1) hb hG hd hsz hlim (iA.of_tb (aT.of_below hW)) (jm hT0 hbW.size) eg1 hg0 ⟨csg,tyg,hgg1,htg⟩).mono fun e w' ⟨fm,he,T',S',M',hT',fr',hfm,_,tre⟩=>⟨fm,he,by rw [Hs2.out];exact S',?_⟩;have M'':=M'.mono (n':=1000000) (by omega);rw [<-Hfs.out] at M'';rw [<-Hs2.out,<-Hn2.out] at T';rw [<-Hbt.out] at hT';exact EC hbW D T' M'' hT' fr' (jm hbw.size hfm) hb (fun q h=>h) (fun k obj hk htr=>tre k obj (by rw [hW.block k (ja.1 hk).1];exact hk) htr (by have:=(ja.1 hk).1;omega) (fun h=>by have:=(ja.1 hk).1;have:=h.1;omega)) hmb hT0 hn1 htl
 have HCE:Hid (∀W,Bl W0 W->(W.cell? ⟨w.heap.size,0,none⟩=some (.string t.kind)/\W.cell? ⟨w.heap.size,1,none⟩=some (.string t.data)/\W.cell? ⟨w.heap.size,2,none⟩=some (.bool t.exec)/\W.cell? ⟨w.heap.size,3,none⟩=some (.slice ad t.kids.length cp))):=fun W hW=>by
  have hr:=(hW.block _ hzW).trans hrW;refine ⟨?_,?_,?_,?_⟩ <;> rw [ze _ _ _ _ _ _ hr] <;> rfl
 clear D T S SB hO hQa hal hck hG hsz hlim hroom eg hgr hbW hrW hg0 hT0 hn1 hmb;have hNFI:¬(FR:Int)<(NF:Int):=hgtr;subst hW0;go_enter Tryz.func89,Tryz.ntmps89
 go_wp2_with (go_at_call 124;refine HCK.out.mono ?_;rintro e w1 ⟨rfl,b1⟩)
 have HB1D:=kH b1.drew;clear b1 HCK;refine zh (S:=fun w'=>w'.cell? ⟨dp,0,none⟩=some (.pointer (some ⟨tb,0,none⟩))/\w'.rangeAt w.heap.size 0 [.string t.kind,.string t.data,.bool t.exec,.slice ad t.kids.length cp]) (by kernel_rfl) (HS4.out _ HB1D.out) (fun hHeld=>?_);refine aW [(0,pZ dp 0),(1,.bool false),(2,.bool false),(3,pZ dp 0),(4,pZ dp 0),(5,pZ dp 0),(6,pZ tb 0),(7,.bool false),(8,.bool false),(9,.bool false)] hHeld ?_;refine zr (i:=10) (v:=.agg #[.string t.kind,.string t.data,.bool t.exec,.slice ad t.kids.length cp]) rfl (by kernel_rfl) (by kernel_rfl) (by kernel_rfl) (fun _ _ _ h=>h) (yieldsIf_load_mid (by rfl) 53 _ (by rfl) w.heap.size 0 (by rfl) [.string t.kind,.string t.data,.bool t.exec,.slice ad t.kids.length cp] _ (fun w h=>h.2) Tryz.underlying53 rfl (by kernel_rfl)) hHeld ?_;simp only [ai,Act.put,bj];refine aW [(12,pZ dp 0),(13,pZ dp 0),(14,pZ dp 0),(15,pZ tb 0)] hHeld ?_;refine aC 11 rfl fun K' hK=>?_;simp only [ai];go_simp;refine jk (HND.out _ HB1D.out) ?_;rintro e wx ⟨rfl,b2⟩;go_wp2_with fail
 refine hK.out _ _ (HS4.out _ b2) (fun hHeld=>?_);clear hK K';refine aC 16 rfl fun K' hK=>?_;simp only [ai];go_simp;refine jk (HFR.out _ b2) ?_;rintro e wx ⟨rfl,b3⟩;go_wp2_with fail
 refine hK.out _ _ (HS4.out _ b3) (fun hHeld=>?_);clear hK K';refine aW [(17,.bool false),(18,.bool false)] hHeld ?_;refine zk (by kernel_rfl) ?_ _;obtain ⟨x0,x1,x2,x3⟩:=HCE.out _ b3;have HCP3:=HCP.out _ b3;clear HCE HCP HND HFR HS4 HB1D b2 hHeld
 go_wp2_with (first
  | (go_at_call 126;refine HCP3.mono ?_;rintro e w4 ⟨ad2,cp2,rfl,ho2,b4⟩;(have HEM4:=HEM.out (w4.alloc (.cells #[.string t.kind,.string t.data,.bool t.exec,.slice ad2 t.kids.length cp2] 53)) w4.heap.size ad2 cp2 (b4.alloc b4.size _) (ho2.kept (fun q hq=>jp _ _ _ hq.2) (fun _ h=>h)) b4.size (heap_alloc_last w4 _));clear ho2 b4 HEM HCP3 x0 x1 x2 x3)
  | (go_at_call 127;refine HEM4.mono ?_;rintro e w5 ⟨fm,rfl,hS5,ad3,cp3,v1,v2,v3,v4,c1,c2,d3,hS11,e1,e2,e3,e4,f3,ff,hD5,hT5,hP5⟩;(have HS11:=kH hS11);(have HD5:Hid _:=hD5);(have HT5:Hid _:=hT5);(have HP5:Hid _:=hP5);(have HS5:Hid _:=hS5);clear hS11 hD5 hT5 hP5 hS5 HEM4))
 refine zh (S:=fun W=>W.cell? ⟨dp,1,none⟩=some (.map (some m1))/\W.cell? ⟨dp,2,none⟩=some (.map (some m2))/\W.rangeAt w4.heap.size 0 [.string bt.kind,.string bt.data,.bool bt.exec,.slice ad3 bt.kids.length cp3]) (by kernel_rfl) (HS11.out _ (.inl rfl)) (fun hHeld=>?_);refine aW [(0,pZ dp 0),(1,pZ dp 0),(2,pZ dp 1),(3,.map (some m1)),(4,iZ (tr.length:Int)),(5,pZ dp 0),(6,pZ dp 0),(7,pZ dp 2),(8,.map (some m2)),(9,iZ (tr.length:Int))] hHeld ?_;refine zr (i:=10) (v:=.agg #[.string bt.kind,.string bt.data,.bool bt.exec,.slice ad3 bt.kids.length cp3]) rfl (by kernel_rfl) (by kernel_rfl) (by kernel_rfl) (fun _ _ _ h=>h) (yieldsIf_load_mid (by rfl) 53 _ (by rfl) w4.heap.size 0 (by rfl) [.string bt.kind,.string bt.data,.bool bt.exec,.slice ad3 bt.kids.length cp3] _ (fun w h=>h.2.2) Tryz.underlying53 rfl (by kernel_rfl)) hHeld ?_;simp only [ai,Act.put,bj];refine tk 11 (.map (some fm)) rfl hHeld ?_;simp only [ai,Act.put,bj];refine aC 12 rfl fun K' hK=>?_;refine oc (by rfl) _ _ 173 (by rfl) (.map (some m1)) (.int .i64 (tr.length:Int)) _ (by rfl) (by rfl) e1 ?_;simp only [ai,Act.put,bj];refine hK.out _ _ (HS11.out _ (.inr (.inl rfl))) (fun hHeld=>?_);clear hK K';refine tk 13 (.int .i64 c1) rfl hHeld ?_;simp only [ai,Act.put,bj];refine aC 14 rfl fun K' hK=>?_;refine lU (by rfl) _ _ _ 173 (by rfl) (.map (some m1)) (.int .i64 c1) (.agg #[.string bt.kind,.string bt.data,.bool bt.exec,.slice ad3 bt.kids.length cp3]) (by rfl) (by rfl) (by rfl) e2 ?_;simp only [qg,j9,qd,Act.put];refine hK.out _ _ (HS11.out _ (.inr (.inr (.inl rfl)))) (fun hHeld=>?_);clear hK K';refine aC 15 rfl fun K' hK=>?_;refine oc (by rfl) _ _ 174 (by rfl) (.map (some m2)) (.int .i64 (tr.length:Int)) _ (by rfl) (by rfl) e3 ?_;simp only [ai,Act.put,bj];refine hK.out _ _ (HS11.out _ (.inr (.inr (.inr (.inl rfl))))) (fun hHeld=>?_);clear hK K';refine tk 16 (.int .i64 c2) rfl hHeld ?_;simp only [ai,Act.put,bj];refine aC 17 rfl fun K' hK=>?_;refine lU (by rfl) _ _ _ 174 (by rfl) (.map (some m2)) (.int .i64 c2) (.map (some fm)) (by rfl) (by rfl) (by rfl) e4 ?_;simp only [qg,j9,qd,Act.put];refine hK.out _ _ (HS11.out _ (.inr (.inr (.inr (.inr rfl))))) (fun hHeld=>?_);clear hK K';refine zk (by kernel_rfl) ?_ _;clear e1 e2 e3 e4 HS11 hHeld d3;go_wp2_with fail
 go_ret2;exact ⟨rfl,HD5.out,HT5.out,HS5.out,HP5.out⟩
end
end
section
set_option maxRecDepth 100000
open Go.RowKit Go.Maps

section
variable {w : World} {T0 dp tb mb m1 m2 n1 d bb sp sb cap n N : Nat} {tr : List (Option ah)} {fb : Nat → Nat} {s : aA}
theorem tJ (a:Nat->Addr) (t:ab) (ad:Option Addr) (cp:Nat) (Qa:Nat->Prop) (hO:cF w Qa (d+1) t.kids (.slice ad t.kids.length cp)) (hQa:∀q,Qa q->q<w.heap.size) (hal:dw ck lB 0 (pre (d+1) ByteArray.empty 0 t)) (SB:dJ a w.heap.size w) :
  Cl 124 #[.agg #[.string t.kind,.string t.data,.bool t.exec,.slice ad t.kids.length cp]] (w.alloc (.cells #[.string t.kind,.string t.data,.bool t.exec,.slice ad t.kids.length cp] 53)) fun e w'=>e = .returned (lz a (aR (d+1) t))/\Bl (w.alloc (.cells #[.string t.kind,.string t.data,.bool t.exec,.slice ad t.kids.length cp] 53)) w':=by
 have hbW:Bl w (w.alloc (.cells #[.string t.kind,.string t.data,.bool t.exec,.slice ad t.kids.length cp] 53)):=(je _ w).alloc (jd _) _;have hO0:cF (w.alloc (.cells #[.string t.kind,.string t.data,.bool t.exec,.slice ad t.kids.length cp] 53)) Qa (d+1) t.kids (.slice ad t.kids.length cp):=hO.kept (fun q hq=>hbW.block q (hQa q hq)) (fun _ h=>h);exact lV a (d+1) w.heap.size t _ _ (SB.below hbW (jd _)) hbW.size (hO0.liesQ.lies hQa) hal
theorem ED (a:Nat->Addr) (t:ab) (ad:Option Addr) (cp:Nat) (Qa:Nat->Prop) (c:Nat) (hO:cF w Qa (d+1) t.kids (.slice ad t.kids.length cp)) (hQa:∀q,Qa q->q<w.heap.size) (hal:dw ck lB 0 (pre (d+1) ByteArray.empty 0 t)) (hck:aR (d+1) t=some c) (SB:dJ a w.heap.size w) (p:Value) :
  Cl 89 #[p,.agg #[.string t.kind,.string t.data,.bool t.exec,.slice ad t.kids.length cp]] w fun e w'=>e = .returned (.tuple #[.int .i64 0,.iface 319 (.pointer (some (a c)))])/\Bl w w':=by
 have HCK:=tJ a t ad cp Qa hO hQa hal SB;rw [hck] at HCK;have HCK:Hid (Cl 124 #[.agg #[.string t.kind,.string t.data,.bool t.exec,.slice ad t.kids.length cp]] (w.alloc (.cells #[.string t.kind,.string t.data,.bool t.exec,.slice ad t.kids.length cp] 53)) fun e w'=>e = .returned (.iface 319 (.pointer (some (a c))))/\Bl (w.alloc (.cells #[.string t.kind,.string t.data,.bool t.exec,.slice ad t.kids.length cp] 53)) w'):=HCK;clear hO hQa hal hck SB;go_enter Tryz.func89,Tryz.ntmps89
 go_wp2_with (go_at_call 124;refine HCK.out.mono ?_;rintro e w1 ⟨rfl,b1⟩)
 go_ret2;exact ⟨rfl,((je _ w).alloc (jd _) _).trans (b1.mono (by simp))⟩
theorem BX (a:Nat->Addr) (t:ab) (ad:Option Addr) (cp:Nat) (Qa:Nat->Prop) (hO:cF w Qa (d+1) t.kids (.slice ad t.kids.length cp)) (hQa:∀q,Qa q->q<w.heap.size) (hal:dw ck lB 0 (pre (d+1) ByteArray.empty 0 t)) (hck:aR (d+1) t=none) (hG:fA (d+1) t) (hd:(d+1)*20<=100000)
  (hsz:∀x∈ap (d+1) t,x.2.data.size<=2000) (hN:aN (ap (d+1) t)<=1000000) (hroom:(aF s.u).length<aN (ap (d+1) t))
  (D:aL w T0 dp tb mb m1 m2 n1 d tr fb) (T:aq w (fun _=>False) T0 tb bb sp sb cap mb n s.bl s.u s.tab) (SB:dJ a w.heap.size w) (er:Value) (eg:w.cell? ⟨5,0,none⟩=some er) :
  Cl 89 #[.pointer (some ⟨dp,0,none⟩),.agg #[.string t.kind,.string t.data,.bool t.exec,.slice ad t.kids.length cp]] w fun e w'=>e = .returned (.tuple #[.int .i64 0,er])/\Bl w w':=by
 obtain ⟨NF,HNF⟩:∃NF,Hid (NF=aN (ap (d+1) t)):=⟨_,(rfl:_=_)⟩;obtain ⟨FR,HFRE⟩:∃FR,Hid (FR=(aF s.u).length):=⟨_,(rfl:_=_)⟩;have hroomI:FR<NF:=by rw [HNF.out,HFRE.out];exact hroom
 have hgtr:(FR:Int)<(NF:Int):=by omega
 obtain ⟨W0,hW0⟩:∃W0,W0=w.alloc (.cells #[.string t.kind,.string t.data,.bool t.exec,.slice ad t.kids.length cp] 53):=⟨_,rfl⟩;have hbW:Bl w W0:=by rw [hW0];exact (je _ w).alloc (jd _) _
 have hrW:W0.heap[w.heap.size]? = some (.cells #[.string t.kind,.string t.data,.bool t.exec,.slice ad t.kids.length cp] 53 (0,0)):=by rw [hW0];exact heap_alloc_last w _
 have HCK:Hid (Cl 124 #[.agg #[.string t.kind,.string t.data,.bool t.exec,.slice ad t.kids.length cp]] W0 fun e w'=>e = .returned .nilIface/\Bl W0 w'):=by
  have h:=tJ a t ad cp Qa hO hQa hal SB;rw [hck] at h;rw [hW0];exact h
 have HND:Hid (∀W,Bl W0 W->Cl 125 #[.agg #[.string t.kind,.string t.data,.bool t.exec,.slice ad t.kids.length cp]] W fun e w'=>e = .returned (.int .i64 (NF:Int))/\Bl W0 w'):=fun W hW=>by
  have hb:=hbW.trans (hW.mono hbW.size);refine (vw (d+1) t (.slice ad t.kids.length cp) Qa W (hO.kept (fun q hq=>hb.block q (hQa q hq)) (fun _ h=>h)) (fun q hq=>jn (hQa q hq) hb.size) hG hd hsz hN).mono fun e w' ⟨he,hb'⟩=>⟨by rw [he,HNF.out];rfl,hW.trans (hb'.mono hW.size)⟩
 have HFR:Hid (∀W,Bl W0 W->Cl 45 #[.pointer (some ⟨tb,0,none⟩)] W fun e w'=>e = .returned (.int .i64 (FR:Int))/\Bl W0 w'):=fun W hW=>(sE W (T.below (hbW.trans (hW.mono hbW.size)))).mono fun e w' ⟨he,hb'⟩=>⟨by rw [he,HFRE.out],hW.trans (hb'.mono hW.size)⟩;have hzW:w.heap.size<W0.heap.size:=(ja.1 hrW).1
 have HS4:Hid (∀W,Bl W0 W->(W.cell? ⟨dp,0,none⟩=some (.pointer (some ⟨tb,0,none⟩))/\W.rangeAt w.heap.size 0 [.string t.kind,.string t.data,.bool t.exec,.slice ad t.kids.length cp])):=fun W hW=>by
  refine ⟨(D.below (hbW.trans (hW.mono hbW.size))).cells.1,fun i v hv=>?_⟩;rw [jl (a:=⟨w.heap.size,0+i,none⟩) (hW.block _ hzW),ze _ _ _ _ _ _ hrW,j6]
  simpa using hv
 have hgl:=ji w _ eg
 have HEG:Hid (∀W,Bl W0 W->W.cell? ⟨5,0,none⟩=some er):=fun W hW=>by
  rw [(hbW.trans (hW.mono hbW.size)).cell (p:=⟨5,0,none⟩) hgl];exact eg
 have HBW:Hid (Bl w W0):=hbW;clear D T SB hO hQa hal hck hG hsz hroom hbW hrW hN eg hgl;subst hW0;go_enter Tryz.func89,Tryz.ntmps89
 go_wp2_with (go_at_call 124;refine HCK.out.mono ?_;rintro e w1 ⟨rfl,b1⟩)
 have HB1D:Hid (Bl (w.alloc (.cells #[.string t.kind,.string t.data,.bool t.exec,.slice ad t.kids.length cp] 53)) w1.drew):=b1.drew;clear b1 HCK;refine zh (S:=fun w'=>w'.cell? ⟨dp,0,none⟩=some (.pointer (some ⟨tb,0,none⟩))/\w'.rangeAt w.heap.size 0 [.string t.kind,.string t.data,.bool t.exec,.slice ad t.kids.length cp]) (by kernel_rfl) (HS4.out _ HB1D.out) (fun hHeld=>?_);refine aW [(0,pZ dp 0),(1,.bool false),(2,.bool false),(3,pZ dp 0),(4,pZ dp 0),(5,pZ dp 0),(6,pZ tb 0),(7,.bool false),(8,.bool false),(9,.bool false)] hHeld ?_;refine zr (i:=10) (v:=.agg #[.string t.kind,.string t.data,.bool t.exec,.slice ad t.kids.length cp]) rfl (by kernel_rfl) (by kernel_rfl) (by kernel_rfl) (fun _ _ _ h=>h) (yieldsIf_load_mid (by rfl) 53 _ (by rfl) w.heap.size 0 (by rfl) [.string t.kind,.string t.data,.bool t.exec,.slice ad t.kids.length cp] _ (fun w h=>h.2) Tryz.underlying53 rfl (by kernel_rfl)) hHeld ?_;simp only [ai,Act.put,bj];refine aW [(12,pZ dp 0),(13,pZ dp 0),(14,pZ dp 0),(15,pZ tb 0)] hHeld ?_;refine aC 11 rfl fun K' hK=>?_;simp only [ai];go_simp;refine jk (HND.out _ HB1D.out) ?_;rintro e wx ⟨rfl,b2⟩;go_wp2_with fail
 refine hK.out _ _ (HS4.out _ b2) (fun hHeld=>?_);clear hK K';refine aC 16 rfl fun K' hK=>?_;simp only [ai];go_simp;refine jk (HFR.out _ b2) ?_;rintro e wx ⟨rfl,b3⟩;go_wp2_with fail
 refine hK.out _ _ (HS4.out _ b3) (fun hHeld=>?_);clear hK K';refine aW [(17,.bool true),(18,.bool true)] hHeld ?_;refine zk (by kernel_rfl) ?_ _;have c7:=HEG.out _ b3;clear HND HFR HS4 HB1D b2 hHeld;go_wp2_with fail
 go_quiet (fail)
 go_wp2_with fail
 go_ret2;exact ⟨rfl,(HBW.out.trans (b3.mono HBW.out.size)).trans ((ly wx _).mono (HBW.out.trans (b3.mono HBW.out.size)).size)⟩
end
end
section
set_option maxRecDepth 100000
open Go.RowKit
attribute [local go_sem ↓] Go.wp_at_zero Go.wp_at_succ

theorem EE (B:Nat):∀(d:Nat) (s t:ab) (us ut:Value) (w:World),B<=w.heap.size->aE w B d s.kids us->aE w B d t.kids ut ->
  Cl 163 #[.agg #[.string s.kind,.string s.data,.bool s.exec,us],.agg #[.string t.kind,.string t.data,.bool t.exec,ut]] w fun e w'=>e = .returned (.bool (gm d s t))/\Bl w w':=by
 intro d
 induction d with
 | zero=>intro s t us ut w _ hl;exact absurd hl (by simp [aE])
 | succ d ih =>
  intro s t us ut w hB hl hl';have hlo:=hl.open;have hlo':=hl'.open;obtain ⟨sa,sc,rfl⟩:=hl.form;obtain ⟨ta,tc,rfl⟩:=hl'.form;have HW:Hid (∀o o',Bl w ((w.alloc o).alloc o')):=fun o o'=>((je _ _).alloc (jd _) o).alloc (by simp) o';cases hk:(s.kind.toList==t.kind.toList)
  ·have hk':(s.kind.toList != t.kind.toList)=true:=by simp only [bne,hk];rfl
   have HE:Hid (gm (d+1) s t=false):=show _=_ by rw [gn];unfold fT;rw [hk];simp
   clear hl hl' ih;go_enter Tryz.func163,Tryz.ntmps163;go_wp2_with fail
   go_ret;exact ⟨ce (by rw [HE.out]),HW.out _ _⟩
  cases hd:(s.data.toList==t.data.toList)
  ·have hk':(s.kind.toList != t.kind.toList)=false:=by simp only [bne,hk];rfl
   have hd':(s.data.toList != t.data.toList)=true:=(by simp only [bne,hd];rfl);have HE:Hid (gm (d+1) s t=false):=show _=_ by rw [gn];unfold fT;rw [hk,hd];simp
   clear hl hl' ih;go_enter Tryz.func163,Tryz.ntmps163;go_wp2_with fail
   go_ret;exact ⟨ce (by rw [HE.out]),HW.out _ _⟩
  cases hx:(s.exec==t.exec)
  ·have hk':(s.kind.toList != t.kind.toList)=false:=by simp only [bne,hk];rfl
   have hd':(s.data.toList != t.data.toList)=false:=(by simp only [bne,hd];rfl);have hx':(s.exec != t.exec)=true:=by simp only [bne,hx];rfl
   have HE:Hid (gm (d+1) s t=false):=show _=_ by rw [gn];unfold fT;rw [hk,hd,hx];simp
   clear hl hl' ih;go_enter Tryz.func163,Tryz.ntmps163;go_wp2_with fail
   go_ret;exact ⟨ce (by rw [HE.out]),HW.out _ _⟩
  cases hn:(s.kids.length==t.kids.length)
  ·have hk':(s.kind.toList != t.kind.toList)=false:=by simp only [bne,hk];rfl
   have hd':(s.data.toList != t.data.toList)=false:=(by simp only [bne,hd];rfl);have hx':(s.exec != t.exec)=false:=by simp only [bne,hx];rfl
   have hn':((s.kids.length:Int) != (t.kids.length:Int))=true:=(by simp at hn ⊢;omega);have HE:Hid (gm (d+1) s t=false):=show _=_ by rw [gn];unfold fT;rw [hk,hd,hx,hn];simp
   clear hl hl' ih;go_enter Tryz.func163,Tryz.ntmps163;go_wp2_with fail
   go_ret;exact ⟨ce (by rw [HE.out]),HW.out _ _⟩
  have HE:Hid (gm (d+1) s t=eM d s t s.kids.length):=show _=_ by rw [gn];unfold fT;rw [hk,hd,hx,hn];rfl
  have hk':(s.kind.toList != t.kind.toList)=false:=(by simp only [bne,hk];rfl);have hd':(s.data.toList != t.data.toList)=false:=by simp only [bne,hd];rfl
  have hx':(s.exec != t.exec)=false:=(by simp only [bne,hx];rfl);have hn':((s.kids.length:Int) != (t.kids.length:Int))=false:=by simp at hn ⊢;omega
  have HN:Hid (s.kids.length=t.kids.length):=show _=_ by simpa using hn
  have HL:Hid _:=hlo;have HL':Hid _:=hlo';have HIH:Hid _:=ih;have hlen:=hlo.1;clear hlo hlo' ih hl hl' hn;go_enter Tryz.func163,Tryz.ntmps163;go_wp2_with fail
  clear hk hk' hd hd' hx hx' hn'
  go_loopw [38] (fun i wr=>∃j:Nat,j<=s.kids.length/\i = .int .i64 j/\Bl w wr/\wr.cell? ⟨w.heap.size+1,3,none⟩=some (.slice ta t.kids.length tc)/\w.heap.size+1<wr.heap.size/\eM d s t j=true) (fun i _=>s.kids.length-(intOf i).toNat)
  case atStart=>exact ⟨0,jq _,rfl,HW.out _ _,by simp,by simp,rfl⟩
  case round =>
   obtain ⟨j,hj,rfl,hb,hbox,hsz,hall⟩:=hrel;have HA:=kH hall;clear hall;by_cases hlt:j<s.kids.length
   ·have hlt':j<t.kids.length:=by have:=HN.out;omega
    obtain ⟨x,hx⟩:∃x,s.kids[j]? = some x:=⟨s.kids[j],jc hlt⟩;obtain ⟨y,hy⟩:∃y,t.kids[j]? = some y:=⟨t.kids[j],jc hlt'⟩
    obtain ⟨b,off,rfl,ux,K0⟩:∃b off,sa=some ⟨b,off,none⟩/\∃u,eV w B d b off j x u:=by
     rcases HL.out.2 with ⟨h0,_⟩|⟨b,off,cp,e,_,hk⟩
     ·rw [h0] at hlt;exact absurd hlt (by simp)
     ·simp only [jo] at e
      exact ⟨b,off,e.1,hk j x hx⟩
    obtain ⟨b',off',rfl,uy,L0⟩:∃b off,ta=some ⟨b,off,none⟩/\∃u,eV w B d b off j y u:=by
     rcases HL'.out.2 with ⟨h0,_⟩|⟨b,off,cp,e,_,hk⟩
     ·rw [h0] at hlt';exact absurd hlt' (by simp)
     ·simp only [jo] at e
      exact ⟨b,off,e.1,hk j y hy⟩
    have K:=K0.below hb hB;have L:=L0.below hb hB;obtain ⟨xa,xc,rfl⟩:=K.lies.form;obtain ⟨ya,yc,rfl⟩:=L.lies.form;have n0:=K.name;have n1:=K.kind;have n2:=K.data;have n3:=K.exec;have n4:=K.kids;have l0:=L.name;have l1:=L.kind;have l2:=L.data;have l3:=L.exec;have l4:=L.kids;have lb:b'<wr.heap.size:=by have:=L.lt;have:=hb.size;omega
    have HS:Hid _:=xi (d:=d) hx hy;have hj0:(0:Int)<=(j:Int):=(by omega);have hj1:(j:Int)<(t.kids.length:Int):=(by omega);have HBr:Hid (B<=wr.heap.size):=by have:=hb.size;exact (show B<=wr.heap.size by omega)
    have HC:Hid (∀w3,Bl wr w3->Cl 163 #[.agg #[.string x.2.kind,.string x.2.data,.bool x.2.exec,.slice xa x.2.kids.length xc],.agg #[.string y.2.kind,.string y.2.data,.bool y.2.exec,.slice ya y.2.kids.length yc]] w3 fun e w'=>e = .returned (.bool (gm d x.2 y.2))/\Bl w3 w'/\Bl wr w') :=
     fun w3 h3=>(HIH.out x.2 y.2 (.slice xa x.2.kids.length xc) (.slice ya y.2.kids.length yc) w3 (by have:=HBr.out;have:=h3.size;omega) (K.lies.below h3 HBr.out) (L.lies.below h3 HBr.out)).mono fun e w' ⟨h1,h2⟩=>⟨h1,h2,h3.trans (h2.mono h3.size)⟩
    clear K L K0 L0 hx hy;cases hnm:(x.1.toList==y.1.toList)
    ·have HF:Hid (eM d s t s.kids.length=false):=pK (k:=j+1) (by omega) (by rw [HS.out,hnm];simp)
     go_wp2_with fail
     go_quiet (fail)
     go_wp2_with fail
     go_ret;exact ⟨ce (by rw [HE.out,HF.out]),cI (hb.alloc hb.size _) _⟩
    ·cases hsm:gm d x.2 y.2
     ·have HF:Hid (eM d s t s.kids.length=false):=pK (k:=j+1) (by omega) (by rw [HS.out,hnm,hsm];simp)
      go_wp2_with fail
      go_region_held3 (fun w'=>w'.cell? ⟨wr.heap.size,0,none⟩=some (.string x.1)/\w'.cell? ⟨wr.heap.size,1,none⟩=some (.string x.2.kind)/\w'.cell? ⟨wr.heap.size,2,none⟩=some (.string x.2.data)/\w'.cell? ⟨wr.heap.size,3,none⟩=some (.bool x.2.exec)/\w'.cell? ⟨wr.heap.size,4,none⟩=some (.slice xa x.2.kids.length xc) /\
        w'.cell? ⟨w.heap.size+1,3,none⟩=some (.slice (some ⟨b',off',none⟩) t.kids.length tc)/\w'.cell? ⟨b',off'+j*5,none⟩=some (.string y.1)/\w'.cell? ⟨b',off'+j*5+1,none⟩=some (.string y.2.kind)/\w'.cell? ⟨b',off'+j*5+2,none⟩=some (.string y.2.data)/\w'.cell? ⟨b',off'+j*5+3,none⟩=some (.bool y.2.exec)/\w'.cell? ⟨b',off'+j*5+4,none⟩=some (.slice ya y.2.kids.length yc))
       (first
        | go_keep
        | (go_split_ands;refine ⟨?_,?_,?_,?_,?_,?_,?_,?_,?_,?_,?_⟩ <;> (rw [hb4.cell (by first|(simp;done)|(simp;omega))];assumption)))
       ((go_at_call 163;refine jk (HC.out _ (by go_grown)) ?_;rintro e w4 ⟨rfl,hb4,hb5⟩))
      go_wp2_with fail
      go_ret;exact ⟨ce (by rw [HE.out,HF.out]),hb.trans (hb5.mono hb.size)⟩
     ·have HT:Hid (eM d s t (j+1)=true):=show _=_ by rw [HS.out,hnm,hsm,HA.out];rfl
      go_wp2_with fail
      go_region_held3 (fun w'=>w'.cell? ⟨wr.heap.size,0,none⟩=some (.string x.1)/\w'.cell? ⟨wr.heap.size,1,none⟩=some (.string x.2.kind)/\w'.cell? ⟨wr.heap.size,2,none⟩=some (.string x.2.data)/\w'.cell? ⟨wr.heap.size,3,none⟩=some (.bool x.2.exec)/\w'.cell? ⟨wr.heap.size,4,none⟩=some (.slice xa x.2.kids.length xc) /\
        w'.cell? ⟨w.heap.size+1,3,none⟩=some (.slice (some ⟨b',off',none⟩) t.kids.length tc)/\w'.cell? ⟨b',off'+j*5,none⟩=some (.string y.1)/\w'.cell? ⟨b',off'+j*5+1,none⟩=some (.string y.2.kind)/\w'.cell? ⟨b',off'+j*5+2,none⟩=some (.string y.2.data)/\w'.cell? ⟨b',off'+j*5+3,none⟩=some (.bool y.2.exec)/\w'.cell? ⟨b',off'+j*5+4,none⟩=some (.slice ya y.2.kids.length yc))
       (first
        | go_keep
        | (go_split_ands;refine ⟨?_,?_,?_,?_,?_,?_,?_,?_,?_,?_,?_⟩ <;> (rw [hb4.cell (by first|(simp;done)|(simp;omega))];assumption)))
       ((go_at_call 163;refine jk (HC.out _ (by go_grown)) ?_;rintro e w4 ⟨rfl,hb4,hb5⟩))
      go_wp2_with fail
      go_roundw
      case rel =>
       refine ⟨j+1,by omega,by go_num,hb.trans (hb5.mono hb.size),?_,by have:=hb5.size;omega,HT.out⟩;rw [hb5.cell (p:=⟨w.heap.size+1,3,none⟩) hsz];exact hbox
      case measure=>simp [intOf];omega
   ·have HM:Hid (eM d s t s.kids.length=true):=by
     have e:s.kids.length=j:=(by omega);rw [e];exact HA.out
    go_wp2_with fail
    go_ret;exact ⟨ce (by rw [HE.out,HM.out]),hb⟩
end
end Go.Proofs.YthofhjnfkholoaaGreatDoor
