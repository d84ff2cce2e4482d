/-
  Dm Db ma Cuts ShelfP Own, joined.
  Conditions: those that each states.
-/
import Derived.Test.YtcflefeedcihjaaGreatDoorQ10
import Derived.Lib.Split
import Derived.Lib.IndexBytes
import Derived.Shelf.Small.Wraps
import Derived.Shelf.Strings.Split
import Derived.Deep.DrawnRows
import Derived.OwnWalk
import Derived.WalkSmall
namespace Go.Proofs.YtcflefeedcihjaaGreatDoor
section
set_option maxHeartbeats 2000000
set_option maxRecDepth 100000
open Go.RowKit Go.Maps

structure zW where
 T0:Nat
 tb:Nat
 bb:Nat
 sp:Nat
 sb:Nat
 cap:Nat
 mb:Nat
 n:Nat
 s:ay
 dp:Nat
 m1:Nat
 m2:Nat
 nx:Int
 c1:Nat
 c2:Nat
 fb:Nat
 nf:Nat
 fs:List (ByteArray×Nat)
 er:Value
structure DF (C:zW) (all:List (ByteArray×ab)) (w0:World) (r:List (ByteArray×ab)) (w:World):Prop where
 ex:∃dn,dn++r=all
 t:aw w (fun _=>False) C.T0 C.tb C.bb C.sp C.sb C.cap C.mb C.n C.s.bl C.s.u C.s.tab
 m:bw w 9 C.fb C.nf (fmap C.fs)
 bel:Bl w0 w
 b1:w.heap[C.c1]? = some (.cells #[.pointer (some ⟨C.dp,0,none⟩)] 25 (0,0))
 b2:w.heap[C.c2]? = some (.cells #[.map (some C.fb)] 140 (0,0))
 bd:w.heap[C.dp]? = some (.cells #[.pointer (some ⟨C.tb,0,none⟩),.map (some C.m1),.map (some C.m2),.int .i64 C.nx] 137 (0,0))
 eg:w.cell? ⟨2,0,none⟩=some C.er
 egr:∃cs ty,w.heap[2]? = some (.cells cs ty (0,0))/\cY (.cells cs ty (0,0))=false
theorem iw (w:World):(zeroValue 3).run Tryz.prog w = .ok (.int .i64 0) w:=by kernel_rfl
theorem rR (C:zW) (all:List (ByteArray×ab)) (N:Nat) (S:bz N C.s.bl C.s.u C.s.tab) (ι:ByteArray->am) (hall:∀x∈all,x.1.size<=maxLen/\∃k:Nat,fmap C.fs (.string x.1.data.toList)=some (.int .i64 (k:Int))/\af C.s.tab k=some (ι x.1)/\aR (aq C.s.bl (ι x.1).blocks (ι x.1).bytes)=(ι x.1).sum) (w0:World) :
  oC Tryz.prog 141 #[.pointer (some ⟨C.c1,0,none⟩),.pointer (some ⟨C.c2,0,none⟩)] 329 (fun p _=>cV C.s.bl (ι p)) (DF C all w0) (fun _ _=>False) w0.heap.size:=by
 refine ⟨fun r w J=>⟨J.ex,J.t.below (je _ w).drew,J.m,J.bel.drew,J.b1,J.b2,J.bd,J.eg,J.egr⟩,fun p t r w b o ad cap cur J hn hR hRs hf hk hb0=>?_⟩;obtain ⟨T0,tb,bb,sp,sb,capT,mb,n,s,dp,m1,m2,nxt,c1,c2,fb,nf,fs,er⟩:=C;obtain ⟨⟨dn,e0⟩,T,M,bel,b1,b2,bd,eg,csg,tyg,hgg,htg⟩:=J
 simp only at *
 obtain ⟨hps,k,hk1,hk2,hk3⟩:=hall (p,t) (by rw [<-e0];simp)
 simp only at hps hk1 hk2 hk3
 have HFL:=kH (oN k (ι p) er hk2 hk3 T S bd eg)
 have hlk:(Instr.lookup 140 (.map (some fb)) (.string p) false).run Tryz.prog w = .ok (.int .i64 (k:Int)) w:=by
  have h:=M.look iH Tryz.underlying140 (iw w) (WideMaps.keyOf_string_mk Tryz.underlying9 hps) trivial;rw [hk1] at h;exact h
 have q1:w.cell? ⟨c1,0,none⟩=some (.pointer (some ⟨dp,0,none⟩)):=by rw [ze _ _ _ _ _ _ b1];rfl
 have q2:w.cell? ⟨c2,0,none⟩=some (.map (some fb)):=by rw [ze _ _ _ _ _ _ b2];rfl
 obtain ⟨tyb,hrb,htb⟩:∃ty,w.heap[b]? = some (.cells cur ty (0,0))/\cY (.cells cur ty (0,0))=true:=by
  rcases hR with h|h
  ·exact ⟨_,h,rfl⟩
  ·exact ⟨_,h,rfl⟩
 have hbl:=(ja.1 hrb).1;have hne:∀q cs ty,w.heap[q]? = some (Obj.cells cs ty (0,0))->cY (Obj.cells cs ty (0,0))=false->q≠b:=fun q cs ty hq ht e=>by rw [e,hrb] at hq;cases hq;rw [htb] at ht;cases ht
 obtain ⟨D,HD⟩:∃D,Hid (D=aq s.bl (ι p).blocks (ι p).bytes):=⟨_,(rfl:_=_)⟩;obtain ⟨ex,HEX⟩:∃ex,Hid (ex=(ι p).exec):=⟨_,(rfl:_=_)⟩
 have HEND:Hid (∀W,Bl w W->W.there b o 4/\DF ⟨T0,tb,bb,sp,sb,capT,mb,n,s,dp,m1,m2,nxt,c1,c2,fb,nf,fs,er⟩ all w0 r (W.setCells b o [.string { data:=#[102,105,108,101] },.string D,.bool ex,.slice none 0 0])/\dS (W.setCells b o [.string { data:=#[102,105,108,101] },.string D,.bool ex,.slice none 0 0]) b o (cV s.bl (ι p)) (.slice none 0 0)/\bs (fun _=>False) b o w (W.setCells b o [.string { data:=#[102,105,108,101] },.string D,.bool ex,.slice none 0 0])):=fun W hW=>by
  have hkW:∀q ob,w.heap[q]? = some ob->W.heap[q]? = some ob:=fun q ob hq=>(by rw [hW.block q (ja.1 hq).1];exact hq);have rb:=hkW _ _ hrb;obtain ⟨nC,nF,nG⟩:=gM rb hRs (cV s.bl (ι p)) (.slice none 0 0) (fun _=>False);have eW:W.setCells b o [.string { data:=#[102,105,108,101] },.string D,.bool ex,.slice none 0 0]=W.setCells b o [.string (cV s.bl (ι p)).kind,.string (cV s.bl (ι p)).data,.bool (cV s.bl (ι p)).exec,.slice none 0 0]:=by rw [HD.out,HEX.out];rfl
  rw [eW];refine ⟨cA rb hRs,?_,nC,⟨fun q ob h1 h2 h3 h4=>nF.tre q ob (hkW q ob h1) h2 h3 h4,fun c ty hc=>?_⟩⟩
  ·have hk3:∀q ob,W.heap[q]? = some ob->q≠b->(W.setCells b o [.string (cV s.bl (ι p)).kind,.string (cV s.bl (ι p)).data,.bool (cV s.bl (ι p)).exec,.slice none 0 0]).heap[q]? = some ob:=fun q ob hq hqb=>by rw [bV hqb];exact hq
   have keepC:∀q cs ty,w.heap[q]? = some (Obj.cells cs ty (0,0))->cY (Obj.cells cs ty (0,0))=false->(W.setCells b o [.string (cV s.bl (ι p)).kind,.string (cV s.bl (ι p)).data,.bool (cV s.bl (ι p)).exec,.slice none 0 0]).heap[q]? = some (Obj.cells cs ty (0,0)):=fun q cs ty hq ht=>hk3 q _ (hkW q _ hq) (hne q cs ty hq ht);refine ⟨⟨dn ++ [(p,t)],by rw [<-e0];simp⟩,(T.below hW).but1 hk3 (fun e=>?_) (fun ob ho=>by rw [rb] at ho;cases ho;exact .inr htb),?_,(bel.trans (hW.mono bel.size)).grown nG (jm bel.size hW.size) (fun q hq=>by cases hq;exact hb0),keepC _ _ _ b1 rfl,keepC _ _ _ b2 rfl,keepC _ _ _ bd rfl,?_,csg,tyg,keepC _ _ _ hgg htg,htg⟩
   ·obtain ⟨f,Nd⟩:=T.nodes
    obtain ⟨es,cl,hm⟩:=Nd.map.obj;rw [<-e,hrb] at hm;cases hm
   ·obtain ⟨es,cl,hm⟩:=M.obj
    refine M.keep ?_;rw [hm];exact hk3 _ _ (hkW _ _ hm) (fun e=>by rw [e,hrb] at hm;cases hm)
   ·rw [jl (a:=⟨2,0,none⟩) ((keepC _ _ _ hgg htg).trans hgg.symm)];exact eg
  ·rw [hrb] at hc
   obtain ⟨rfl,rfl⟩:cur=c/\tyb=ty:=by simpa using hc
   exact nF.blk cur tyb rb
 rw [<-HD.out,<-HEX.out] at HFL;show Cl 141 #[.string p,.pointer (some ⟨b,o,none⟩),.pointer (some ⟨c1,0,none⟩),.pointer (some ⟨c2,0,none⟩)] w _;have hkb:(cV s.bl (ι p)).kids = []:=rfl;clear T M bel b1 b2 bd eg hgg htg hn hR hRs hrb htb hbl hne e0 hall hk1 hk2 hk3 S hps hf hk;go_enter Tryz.func141,Tryz.ntmps141
 go_wp2_with (first
  | (go_at_call 142;refine HFL.out.mono ?_;rintro e w1 ⟨rfl,hb1⟩;(obtain ⟨hth,hE⟩:=HEND.out (w1.alloc (.cells #[.string { data:=#[102,105,108,101] },.string D,.bool ex,.slice none 0 0] 32)) (hb1.alloc hb1.size _));(have HE:Hid _:=hE);clear HEND HFL hb1 hE)
  | refine wpList_store_mid (by rfl) 32 _ _ (by rfl) b o #[.string { data:=#[102,105,108,101] },.string D,.bool ex,.slice none 0 0] (by rfl) (by rfl) hth (by kernel_rfl) (by simp [Value.oneCell']) ?_)
 go_ret;exact .inl ⟨rfl,HE.out.1,⟨none,0,HE.out.2.1⟩,hkb,HE.out.2.2⟩
def gp (bl:List (List UInt8)) (ι:ByteArray->am) (d:Nat) (t:ab):ab:=bA (fun p _=>cV bl (ι p)) d { data:=#[] } t
section
variable {w0 w : World} {T0 tb bb sp sb cap mb n N dp m1 m2 fb nf : Nat} {nx : Int} {s : ay} {er : Value} {d b : Nat} {t : ab} {Q : Nat → Prop} {fs : List (ByteArray × Nat)}
theorem DG (T:aw w (fun _=>False) T0 tb bb sp sb cap mb n s.bl s.u s.tab) (S:bz N s.bl s.u s.tab) (M:bw w 9 fb nf (fmap fs)) (ι:ByteArray->am)
  (hall:∀x∈aj d t,x.1.size<=maxLen/\∃k:Nat,fmap fs (.string x.1.data.toList)=some (.int .i64 (k:Int))/\af s.tab k=some (ι x.1)/\aR (aq s.bl (ι x.1).blocks (ι x.1).bytes)=(ι x.1).sum)
  (bd:w.heap[dp]? = some (.cells #[.pointer (some ⟨tb,0,none⟩),.map (some m1),.map (some m2),.int .i64 nx] 137 (0,0)))
  (hT:bE w Q d b 0 t) (hr:∃cur,w.heap[b]? = some (.cells cur 32 (0,0))/\4<=cur.size) (hQb:¬Q b) (hQ:∀q,Q q->w0.heap.size<=q) (hb0:w0.heap.size<=b) (hG:cB d t) (hd:d*20<=100000)
  (bel:Bl w0 w) (eg:w.cell? ⟨2,0,none⟩=some er) (hgr:∃cs ty,w.heap[2]? = some (.cells cs ty (0,0))/\cY (.cells cs ty (0,0))=false) :
  Cl 91 #[.pointer (some ⟨dp,0,none⟩),.pointer (some ⟨b,0,none⟩),.map (some fb)] w fun e w'=>e = .returned .nilIface/\bE w' Q d b 0 (gp s.bl ι d t)/\Bl w0 w':=by
 obtain ⟨cur,hr,hrs⟩:=hr;obtain ⟨csg,tyg,hgg,htg⟩:=hgr;obtain ⟨W1,hW1⟩:∃W1,W1=(w.alloc (.cells #[.pointer (some ⟨dp,0,none⟩)] 25)).alloc (.cells #[.map (some fb)] 140):=⟨_,rfl⟩;have hbel:Bl w W1:=by rw [hW1];exact ((je _ w).alloc (jd _) _).alloc (by simp) _
 have hblk:∀k o,w.heap[k]? = some o->W1.heap[k]? = some o:=fun k o hk=>by rw [hbel.block k (ja.1 hk).1];exact hk
 have r1:W1.heap[w.heap.size]? = some (.cells #[.pointer (some ⟨dp,0,none⟩)] 25 (0,0)):=by
  rw [hW1,jp _ _ _ (by simp)];exact heap_alloc_last w _
 have r2:W1.heap[w.heap.size+1]? = some (.cells #[.map (some fb)] 140 (0,0)):=by
  rw [hW1];have h:=heap_alloc_last (w.alloc (.cells #[.pointer (some ⟨dp,0,none⟩)] 25)) (.cells #[.map (some fb)] 140);rw [jE] at h;exact h
 have HEA:Hid (Cl 120 #[.pointer (some ⟨b,0,none⟩),.string { data:=#[] },.func (.func 141) #[] #[.pointer (some ⟨w.heap.size,0,none⟩),.pointer (some ⟨w.heap.size+1,0,none⟩)]] W1 fun e w'=>e = .returned .nilIface/\bE w' Q d b 0 (gp s.bl ι d t)/\Bl w0 w'):=by
  refine (ni (enters_of Tryz.func141 (by kernel_rfl) rfl) _ (rR ⟨T0,tb,bb,sp,sb,cap,mb,n,s,dp,m1,m2,nx,w.heap.size,w.heap.size+1,fb,nf,fs,er⟩ (aj d t) N S ι hall w0) d t { data:=#[] } b 0 Q [] W1 cur ?_ (hT.kept (fun k c _ h=>hblk k _ h) (fun j _ _=>jl ((hblk b _ hr).trans hr.symm)) (fun _ h=>h)) (.inl (hblk _ _ hr)) (by omega) hQb hG (by rw [show ({ data:=#[] }:ByteArray).size=0 from rfl];omega) hQ hb0).mono ?_
  ·rw [qz]
   refine ⟨⟨[],rfl⟩,T.below hbel,?_,bel.trans (hbel.mono bel.size),r1,r2,hblk _ _ bd,?_,csg,tyg,hblk _ _ hgg,htg⟩
   ·obtain ⟨es,cl,hm⟩:=M.obj
    exact M.keep ((hblk _ _ hm).trans hm.symm)
   ·show W1.cell? _=_
    rw [jl (a:=⟨2,0,none⟩) ((hblk _ _ hgg).trans hgg.symm)];exact eg
  ·rintro e w' (⟨he,hJ,hT',hF⟩|⟨_,_,h⟩)
   ·exact ⟨he,hT',hJ.bel⟩
   ·exact h.elim
 clear T S M hall bd hT hr hQb hQ hb0 hG bel eg hgg htg hbel hblk r1 r2;subst hW1;go_enter Tryz.func91,Tryz.ntmps91;go_wp2_with fail
 refine jk HEA.out ?_;rintro e w2 ⟨rfl,hT2,hb2⟩;go_wp2_with fail
 go_ret;exact ⟨rfl,hT2,hb2⟩
end
end
section
set_option maxRecDepth 100000
open Go.RowKit Go.Maps

def cw (w:World) (d:Nat) (t:ab) (u:Value):Prop:=∃(Q:Nat->Prop) (ad:Option Addr) (cap:Nat),u = .slice ad t.kids.length cap/\t.kids.length<=1759218604390/\t.kids.length<=cap/\(t.kids≠[]->∃(g:Nat) (cur:Array Value) (Qs:Nat->Nat->Prop),ad=some ⟨g,0,none⟩/\Q g/\w.heap[g]? = some (.cells cur 153 (0,0))/\t.kids.length*5<=cur.size /\
   (∀i x,t.kids[i]? = some x->x.1.size<=140737488355328/\w.cell? ⟨g,i*5,none⟩=some (.string x.1)/\bE w (Qs i) d g (i*5+1) x.2)/\(∀i k,Qs i k->Q k/\k≠g)/\∀i j k,i≠j->Qs i k->¬Qs j k)/\∀q,Q q->q<w.heap.size
theorem bE.kids {w:World} {Q:Nat->Prop} {d b o:Nat} {t:ab} (h:bE w Q (d+1) b o t) (hQ:∀q,Q q->q<w.heap.size):∃u,dS w b o t u/\cw w d t u:=by
 obtain ⟨ad,cap,hn,hl,hlc,hk⟩:=h;exact ⟨_,hn,Q,ad,cap,rfl,hl,hlc,hk,hQ⟩
theorem cw.kept {w w':World} {d:Nat} {t:ab} {u:Value} (h:cw w d t u) (hs:w.heap.size<=w'.heap.size) (hk:∀(k:Nat) (cur:Array Value),w.heap[k]? = some (Obj.cells cur 153 (0,0))->w'.heap[k]? = some (Obj.cells cur 153 (0,0))):cw w' d t u:=by
 obtain ⟨Q,ad,cap,e,hl,hlc,hkk,hQ⟩:=h;refine ⟨Q,ad,cap,e,hl,hlc,fun hne=>?_,fun q hq=>jn (hQ q hq) hs⟩;obtain ⟨g,cur,Qs,e1,hg,hr,hsz,hi,hsub,hdis⟩:=hkk hne;have hr':=hk g cur hr;have hcell:∀j,w'.cell? ⟨g,j,none⟩=w.cell? ⟨g,j,none⟩:=fun j=>jl (by rw [hr,hr']);refine ⟨g,cur,Qs,e1,hg,hr',hsz,fun i x hx=>?_,hsub,hdis⟩;obtain ⟨a1,a2,a3⟩:=hi i x hx;exact ⟨a1,by rw [hcell];exact a2,a3.kept (fun k c _ h=>hk k c h) (fun j _ _=>hcell j) (fun _ h=>h)⟩
theorem cw.lies {w:World} {d:Nat} {t:ab} {u:Value} (h:cw w d t u):aA w w.heap.size (d+1) t.kids u:=by
 obtain ⟨Q,ad,cap,rfl,hl,_,hkk,hQ⟩:=h;refine ⟨ad,cap,rfl,hl,fun i x hx=>?_⟩;obtain ⟨g,cur,Qs,e,hg,hr,hs,hi,hsub,hdis⟩:=hkk (fun h0=>by rw [h0] at hx;simp at hx);obtain ⟨h1,h2,h3⟩:=hi i x hx;obtain ⟨u,hc,hl3⟩:=bE.lies h3 (fun k hk=>hQ k (hsub i k hk).1);refine ⟨g,0,u,e,hQ g hg,h1,?_⟩;simp only [j6];exact ⟨h2,hc.kind,hc.data,hc.exec,hc.kids,hl3⟩
structure ah where
 t:ab
 fs:List (ByteArray×Nat)
def aY (tr:List (Option ah)) (k:Int):Option ah:=if 0<=k then (tr[k.toNat]?).join else none
theorem cD (tr:List (Option ah)) (k:Nat):aY tr (k:Int)=(tr[k]?).join:=by simp [aY]
def zX (t:ab) (u:Value):Value:=.agg #[.string t.kind,.string t.data,.bool t.exec,u]
structure aI (w:World) (T0 dp tb mb m1 m2 n1 d:Nat) (tr:List (Option ah)) (fb:Nat->Nat):Prop where
 box:w.heap[dp]? = some (.cells #[.pointer (some ⟨tb,0,none⟩),.map (some m1),.map (some m2),.int .i64 (tr.length:Int)] 137 (0,0))
 maps:∃(f1 f2:Lit->Option Value),bw w 3 m1 n1 f1/\bw w 3 m2 n1 f2/\(∀k:Int,aY tr k=none->f1 (.int .i64 k)=none/\f2 (.int .i64 k)=none) /\
  (∀(k:Nat) (x:ah),aY tr (k:Int)=some x->(∃u,f1 (.int .i64 (k:Int))=some (zX x.t u)/\cw w d x.t u)/\f2 (.int .i64 (k:Int))=some (.map (some (fb k)))/\bw w 9 (fb k) 1000000 (fmap x.fs)/\fb k≠m1/\fb k≠m2/\fb k≠mb/\T0<=fb k) /\
  ∀(k j:Nat) (x y:ah),aY tr (k:Int)=some x->aY tr (j:Int)=some y->fb k=fb j->k=j
 low:T0<=dp/\T0<=m1/\T0<=m2/\m1≠m2/\m1≠mb/\m2≠mb/\n1<=1000000
theorem aI.cells {w:World} {T0 dp tb mb m1 m2 n1 d:Nat} {tr:List (Option ah)} {fb:Nat->Nat} (D:aI w T0 dp tb mb m1 m2 n1 d tr fb):w.cell? ⟨dp,0,none⟩=some (.pointer (some ⟨tb,0,none⟩))/\w.cell? ⟨dp,1,none⟩=some (.map (some m1))/\w.cell? ⟨dp,2,none⟩=some (.map (some m2))/\w.cell? ⟨dp,3,none⟩=some (.int .i64 (tr.length:Int)):=by
 refine ⟨?_,?_,?_,?_⟩ <;> rw [ze _ _ _ _ _ _ D.box] <;> rfl
theorem aI.kept {w w':World} {T0 dp tb mb m1 m2 n1 d:Nat} {tr:List (Option ah)} {fb:Nat->Nat} (D:aI w T0 dp tb mb m1 m2 n1 d tr fb) (hs:w.heap.size<=w'.heap.size) (hm:∀(k:Nat) (o:Obj),w.heap[k]? = some o->fT o=true->k≠mb->w'.heap[k]? = some o) (hd:∀cur:Array Value,w.heap[dp]? = some (Obj.cells cur 137 (0,0))->w'.heap[dp]? = some (Obj.cells cur 137 (0,0))) (hk:∀(k:Nat) (cur:Array Value),w.heap[k]? = some (Obj.cells cur 153 (0,0))->w'.heap[k]? = some (Obj.cells cur 153 (0,0))):aI w' T0 dp tb mb m1 m2 n1 d tr fb:=by
 obtain ⟨f1,f2,M1,M2,h0,h1,h2⟩:=D.maps
 have hmk:∀ {kt mm n:Nat} {f:Lit->Option Value},bw w kt mm n f->mm≠mb->bw w' kt mm n f:=fun M hne=>by
  obtain ⟨es,cl,h⟩:=M.obj;exact M.keep ((hm _ _ h rfl hne).trans h.symm)
 refine ⟨hd _ D.box,⟨f1,f2,hmk M1 D.low.2.2.2.2.1,hmk M2 D.low.2.2.2.2.2.1,h0,fun k x hx=>?_,h2⟩,D.low⟩;obtain ⟨⟨u,a1,a2⟩,a3,a4,a5,a6,a7,a8⟩:=h1 k x hx;exact ⟨⟨u,a1,a2.kept hs hk⟩,a3,hmk a4 a7,a5,a6,a7,a8⟩
theorem aI.below {w w':World} {T0 dp tb mb m1 m2 n1 d:Nat} {tr:List (Option ah)} {fb:Nat->Nat} (D:aI w T0 dp tb mb m1 m2 n1 d tr fb) (h:Bl w w'):aI w' T0 dp tb mb m1 m2 n1 d tr fb:=by
 have hb:∀(k:Nat) (o:Obj),w.heap[k]? = some o->w'.heap[k]? = some o:=fun k o hk=>by rw [h.block k (ja.1 hk).1];exact hk
 exact D.kept h.size (fun k o hk _ _=>hb k o hk) (fun c hc=>hb _ _ hc) (fun k c hc=>hb _ _ hc)
theorem aI.but {w w':World} {T0 T1 dp tb mb m1 m2 n1 d:Nat} {tr:List (Option ah)} {fb:Nat->Nat} (D:aI w T0 dp tb mb m1 m2 n1 d tr fb) (h:bg T1 mb w w'):aI w' T0 dp tb mb m1 m2 n1 d tr fb :=
 D.kept h.size h.maps (fun _ hc=>h.block _ _ hc (.inr rfl)) (fun _ _ hc=>h.block _ _ hc (.inr rfl))
theorem f9:Keyed Tryz.prog 3:=int_keyed Tryz.underlying3
end
section
set_option maxRecDepth 100000
open Go.RowKit

def ma (w:World) (v:Value) (l:List ByteArray):Prop:=∃ad cap,v = .slice ad l.length cap/\∀i x,l[i]? = some x->∃b off,ad=some ⟨b,off,none⟩/\w.cell? ⟨b,off+i,none⟩=some (.string x)
theorem ma.of_own {w:World} {base:Nat} {v:Value} {l:List ByteArray} (h:w.ownsRow base 9 1 v l.length (l.map Value.string)):ma w v l:=by
 rcases h.2 with ⟨hv,hn⟩|⟨g,cap,cur,hv,_⟩
 ·exact ⟨none,0,by rw [hv,hn],fun i x hx=>by have:=(jb.1 hx).1;omega⟩
 ·refine ⟨some ⟨g,0,none⟩,cap,hv,fun i x hx=>⟨g,0,rfl,?_⟩⟩
  have hc:=h.cells (g:=g) (by rw [hv];rfl) i (.string x) (by rw [jx,hx];rfl);have hadd:(⟨g,0,none⟩:Addr).add i=⟨g,0+i,none⟩:=by unfold Addr.add;split <;> simp_all
  rw [hadd] at hc;exact hc
def IR (a b:List ByteArray) (k:Nat):Bool:=(List.range k).all fun i=>(a[i]?.getD ByteArray.empty).toList==(b[i]?.getD ByteArray.empty).toList
def I7 (a b:List ByteArray):Bool:=decide (a.length=b.length)&&IR a b a.length
end
section
set_option maxRecDepth 100000
open Go.RowKit

def aP:List UInt8->List (List UInt8)
 | []=>[[]]
 | c :: l=>if c=47 then [] :: aP l else match aP l with
  | h :: t=>(c :: h) :: t
  | []=>[[c]]
theorem gN (l:List UInt8):aP l≠[]:=by
 cases l with
 | nil=>simp [aP]
 | cons c l =>
  unfold aP
  split
  ·simp
  ·split <;> simp
theorem re (l:List UInt8):1<=(aP l).length:=by
 have:=gN l
 cases h:aP l with
 | nil=>exact absurd h this
 | cons=>simp
theorem ft (l:List UInt8):aP (47 :: l) = [] :: aP l:=by simp [aP]
theorem eZ {c:UInt8} (hc:c≠47) {l h:List UInt8} {t:List (List UInt8)} (e:aP l=h :: t):aP (c :: l)=(c :: h) :: t:=by
 simp [aP,hc,e]
theorem pC:∀(l:List UInt8),(aP l).length<=l.length+1
 | []=>by simp [aP]
 | c :: l=>by
  have ih:=pC l;by_cases hc:c=47
  ·subst hc;rw [ft];simp;omega
  ·obtain ⟨h,t,e⟩:∃h t,aP l=h :: t:=by
    cases h:aP l with
    | nil=>exact absurd h (gN l)
    | cons a b=>exact ⟨a,b,rfl⟩
   rw [eZ hc e];rw [e] at ih;simp at ih ⊢;omega
theorem oO:∀ {l:List UInt8},Lib.indexByte l 47 = -1->aP l = [l]
 | [],_=>rfl
 | c :: l,h=>by
  unfold Lib.indexByte at h;by_cases hc:c=47
  ·subst hc;simp at h
  ·rw [zi (by simpa using hc)] at h
   split at h
   ·rename_i h2
    rw [eZ hc (oO (beq_iff_eq.1 h2))]
   ·have:=Lib.indexByte_ge l 47
    omega
theorem oP:∀ {l:List UInt8} {i:Nat},Lib.indexByte l 47=i->aP l=l.take i :: aP (l.drop (i+1))
 | [],i,h=>by simp [Lib.indexByte] at h
 | c :: l,i,h=>by
  unfold Lib.indexByte at h;by_cases hc:c=47
  ·subst hc
   rw [zj (by decide)] at h;obtain rfl:i=0:=by omega
   rw [ft];rfl
  ·rw [zi (by simpa using hc)] at h
   split at h
   ·omega
   ·rename_i h2
    have h3:Lib.indexByte l 47 ≠ -1:=fun e=>h2 (beq_iff_eq.2 e);have h4:=Lib.indexByte_ge l 47;obtain ⟨k,rfl⟩:∃k,i=k+1:=⟨i-1,by omega⟩;have ih:=oP (l:=l) (i:=k) (by omega);rw [eZ hc ih];rfl
theorem rS:∀(k:Nat) (l:List UInt8),((aP l).length<=k+1->Lib.splitK [47] 0 k l=aP l)/\(k+1<(aP l).length->(Lib.splitK [47] 0 k l).length=k+1)
 | 0,l=>by
  refine ⟨fun h=>?_,fun _=>rfl⟩;have hp:=re l
  cases hi:decide (Lib.indexByte l 47 = -1) with
  | true=>rw [oO (by simpa using hi)];rfl
  | false =>
   have h1:Lib.indexByte l 47 ≠ -1:=(by simpa using hi);have h2:=Lib.indexByte_ge l 47;rw [oP (i:=(Lib.indexByte l 47).toNat) (by omega)] at h
   have:=re (l.drop ((Lib.indexByte l 47).toNat+1))
   simp at h;exact absurd h (gN _)
 | k+1,l=>by
  unfold Lib.splitK;rw [Lib.index_one];by_cases h1:Lib.indexByte l 47 = -1
  ·rw [zj (beq_iff_eq.2 h1),oO h1]
   exact ⟨fun _=>rfl,fun h=>by simp at h⟩
  ·have h2:=Lib.indexByte_ge l 47
   rw [zi (fun e=>h1 (beq_iff_eq.1 e)),oP (i:=(Lib.indexByte l 47).toNat) (by omega)];have ih:=rS k (l.drop ((Lib.indexByte l 47).toNat+1));simp only [jz,qF,yh,j6];exact ⟨fun h=>by rw [ih.1 (by omega)],fun h=>by rw [ih.2 (by omega)]⟩
def cN:ByteArray:={ data:=#[47] }
def bQ (s:ByteArray):Option (List ByteArray) :=
 if s=cN then some [] else match s.data.toList with
  | []=>none
  | c :: l=>if c=47/\(aP l).length<=8/\((aP l).all fun x=>aL ⟨x.toArray⟩)=true then some ((aP l).map fun x=>⟨x.toArray⟩) else none
theorem ny:bQ cN=some []:=by unfold bQ;rw [zj rfl]
theorem vK {r:ByteArray}:((aP r.data.toList).length<=8->Lib.splitB cN 0 (min 9 (r.size+1)-1) r=(aP r.data.toList).map fun x=>⟨x.toArray⟩)/\(8<(aP r.data.toList).length->8<(Lib.splitB cN 0 (min 9 (r.size+1)-1) r).length):=by
 have hd:=Lib.splitB_data cN 0 (min 9 (r.size+1)-1) r;have hk:=rS (min 9 (r.size+1)-1) r.data.toList;have hle:=pC r.data.toList;have hl:r.data.toList.length=r.size:=by simp
 rw [show cN.data.toList = [47] from rfl] at hd;have hlen:(Lib.splitB cN 0 (min 9 (r.size+1)-1) r).length=(Lib.splitK [47] 0 (min 9 (r.size+1)-1) r.data.toList).length:=by rw [<-hd,jB]
 constructor
 ·intro h
  rw [hk.1 (by omega)] at hd;rw [<-hd,qC]
  have:(fun x:List UInt8=>(⟨x.toArray⟩:ByteArray)) ∘ (fun x:ByteArray=>x.data.toList)=id:=by
   funext x
   rfl
  rw [this,List.map_id]
 ·intro h
  rw [hlen];by_cases h9:(aP r.data.toList).length<=min 9 (r.size+1)-1+1
  ·rw [hk.1 h9];exact h
  ·rw [hk.2 (by omega)];omega
end
end Go.Proofs.YtcflefeedcihjaaGreatDoor
namespace Go.Proofs
open Go.Shelf
def Tryz.lays103_ren : Go.Shelf.Ren := ⟨fun | 103 => 143 | 210 => 171 | 206 => 197 | n => n, fun | 9 => 9 | 4 => 4 | 24 => 238 | 3 => 3 | n => n, fun | n => n⟩
theorem Tryz.lays103 : Go.Proofs.Lays.n103 Tryz.prog Tryz.lays103_ren := {
  mixed := by kernel_rfl
  f103 := Tryz.func143.trans (congrArg some (by kernel_rfl))
  f206 := Tryz.func197.trans (congrArg some (by kernel_rfl))
  f210 := Tryz.func171.trans (congrArg some (by kernel_rfl))
  t3 := Tryz.underlying3
  a3 := Tryz.isAgg3
  z3 := Tryz.sizeOf3
  v3 := Tryz.zeroValue3
  t4 := Tryz.underlying4
  a4 := Tryz.isAgg4
  z4 := Tryz.sizeOf4
  v4 := Tryz.zeroValue4
  t9 := Tryz.underlying9
  a9 := Tryz.isAgg9
  z9 := Tryz.sizeOf9
  v9 := Tryz.zeroValue9
  t24 := Tryz.underlying238
  a24 := Tryz.isAgg238
  z24 := Tryz.sizeOf238
  v24 := Tryz.zeroValue238 }
open Go.RowKit in
theorem Tryz.strings_CutPrefix (s p : ByteArray) (w : World) :
    Calls Tryz.prog 143 #[.string s, .string p] w fun e w' => e = .returned (.tuple #[.string ⟨(Lib.trimPrefix s.data.toList p.data.toList).toArray⟩, .bool (Lib.hasPrefix s.data.toList p.data.toList)]) ∧ w' = w := Any.strings_CutPrefix Tryz.lays103 s p w
def Tryz.lays147_ren : Go.Shelf.Ren := ⟨fun | 147 => 144 | 221 => 172 | 268 => 198 | 138 => 199 | 143 => 200 | 195 => 215 | 197 => 216 | 218 => 217 | 219 => 218 | 260 => 223 | 217 => 224 | 225 => 225 | 224 => 226 | 267 => 227 | 266 => 228 | 314 => 229 | n => n, fun | 9 => 9 | 3 => 3 | 31 => 62 | 4 => 4 | 0 => 0 | 105 => 315 | 21 => 21 | 5 => 5 | 46 => 205 | 119 => 323 | 139 => 326 | 138 => 325 | 146 => 327 | 51 => 90 | n => n, fun | 1 => 15 | 3 => 18 | 4 => 19 | n => n⟩
theorem Tryz.lays147 : Go.Proofs.Lays.n147 Tryz.prog Tryz.lays147_ren := {
  mixed := by kernel_rfl
  f138 := Tryz.func199.trans (congrArg some (by kernel_rfl))
  f143 := Tryz.func200.trans (congrArg some (by kernel_rfl))
  f147 := Tryz.func144.trans (congrArg some (by kernel_rfl))
  f195 := Tryz.func215.trans (congrArg some (by kernel_rfl))
  f197 := Tryz.func216.trans (congrArg some (by kernel_rfl))
  f217 := Tryz.func224.trans (congrArg some (by kernel_rfl))
  f218 := Tryz.func217.trans (congrArg some (by kernel_rfl))
  f219 := Tryz.func218.trans (congrArg some (by kernel_rfl))
  f221 := Tryz.func172.trans (congrArg some (by kernel_rfl))
  f224 := Tryz.func226.trans (congrArg some (by kernel_rfl))
  f225 := Tryz.func225.trans (congrArg some (by kernel_rfl))
  f260 := Tryz.func223.trans (congrArg some (by kernel_rfl))
  f266 := Tryz.func228.trans (congrArg some (by kernel_rfl))
  f267 := Tryz.func227.trans (congrArg some (by kernel_rfl))
  f268 := Tryz.func198.trans (congrArg some (by kernel_rfl))
  f314 := Tryz.func229.trans (congrArg some (by kernel_rfl))
  t0 := Tryz.underlying0
  a0 := Tryz.isAgg0
  z0 := Tryz.sizeOf0
  v0 := Tryz.zeroValue0
  t3 := Tryz.underlying3
  a3 := Tryz.isAgg3
  z3 := Tryz.sizeOf3
  v3 := Tryz.zeroValue3
  t4 := Tryz.underlying4
  a4 := Tryz.isAgg4
  z4 := Tryz.sizeOf4
  v4 := Tryz.zeroValue4
  t5 := Tryz.underlying5
  a5 := Tryz.isAgg5
  z5 := Tryz.sizeOf5
  v5 := Tryz.zeroValue5
  t9 := Tryz.underlying9
  a9 := Tryz.isAgg9
  z9 := Tryz.sizeOf9
  v9 := Tryz.zeroValue9
  t21 := Tryz.underlying21
  a21 := Tryz.isAgg21
  z21 := Tryz.sizeOf21
  v21 := Tryz.zeroValue21
  t31 := Tryz.underlying62
  a31 := Tryz.isAgg62
  z31 := Tryz.sizeOf62
  v31 := Tryz.zeroValue62
  t46 := Tryz.underlying205
  a46 := Tryz.isAgg205
  z46 := Tryz.sizeOf205
  v46 := Tryz.zeroValue205
  t51 := Tryz.underlying90
  a51 := Tryz.isAgg90
  z51 := Tryz.sizeOf90
  v51 := Tryz.zeroValue90
  t105 := Tryz.underlying315
  a105 := Tryz.isAgg315
  z105 := Tryz.sizeOf315
  v105 := Tryz.zeroValue315
  t119 := Tryz.underlying323
  a119 := Tryz.isAgg323
  z119 := Tryz.sizeOf323
  t138 := Tryz.underlying325
  a138 := Tryz.isAgg325
  z138 := Tryz.sizeOf325
  v138 := Tryz.zeroValue325
  t139 := Tryz.underlying326
  a139 := Tryz.isAgg326
  z139 := Tryz.sizeOf326
  v139 := Tryz.zeroValue326
  t146 := Tryz.underlying327
  a146 := Tryz.isAgg327
  z146 := Tryz.sizeOf327
  v146 := Tryz.zeroValue327
  g1 := by kernel_rfl
  g3 := by kernel_rfl
  g4 := by kernel_rfl }
open Go.RowKit Go.Lib in
theorem Tryz.strings_SplitN (s sep : ByteArray) (n : Nat) (m : Int) (w : World) (hs : s.size < 4294967281) (hm : w.cell? ⟨15, 0, none⟩ = some (.int .i64 m)) (h1 : 1 ≤ sep.size) (hn : 1 ≤ n) (hn63 : n ≤ 9223372036854775807) :
    Calls Tryz.prog 144 #[.string s, .string sep, .int .i64 n] w fun e w' =>
      e = .returned (.slice (some ⟨w.heap.size, 0, none⟩) (Lib.splitB sep 0 (min n (s.size + 1) - 1) s).length (min n (s.size + 1))) ∧ w' = w.alloc (.cells (Lib.cellsOf (Lib.splitB sep 0 (min n (s.size + 1) - 1) s) (min n (s.size + 1))) 9) := Any.strings_SplitN Tryz.lays147 (by kernel_rfl) s sep n m w hs hm h1 hn hn63
end Go.Proofs
namespace Go.Proofs.YtcflefeedcihjaaGreatDoor
section
set_option maxHeartbeats 2000000
set_option maxRecDepth 100000
open Go.RowKit
attribute [local go_sem ↓] Go.wp_at_zero Go.wp_at_succ

theorem pD:(Tryz.prog.info? 153).map (fun i=>(i.zero,i.size,i.bytes))=some (some (.agg #[.string { data:=#[] },.string { data:=#[] },.string { data:=#[] },.bool false,.slice none 0 0]),5,80):=by kernel_rfl

structure nz (w:World) (d:Nat) (t:ab) (ta:Option Addr) (tc:Nat) (j:Nat) (us:List Value) (v:Value) (wr:World):Prop where
 box:wr.heap[w.heap.size]? = some (.cells #[.string t.kind,.string t.data,.bool t.exec,.slice ta t.kids.length tc] 32 (0,0))
 res:wr.heap[w.heap.size+1]? = some (.cells #[.string { data:=#[] },.string { data:=#[] },.bool false,.slice none 0 0] 32 (0,0))
 len:us.length=j
 own:wr.ownsRow (w.heap.size+1+1) 153 5 v j (aT (t.kids.take j) us)
 kids:∃Qs:Nat->Nat->Prop,(∀(i:Nat) (x:ByteArray×ab) (u:Value),t.kids[i]? = some x->us[i]? = some u->bY wr (Qs i) d x.2.kids u)/\(∀i b,Qs i b->w.heap.size+1+1<=b/\b<wr.heap.size/\v.ownBlock≠some b)/\∀i j b,i≠j->Qs i b->¬Qs j b
 below:Bl w wr

theorem vL {w wr w2 wa w5:World} {d:Nat} {t:ab} {ta:Option Addr} {tc j:Nat} {us:List Value} {v u':Value} {x:ByteArray×ab} {g cap H:Nat} (O:nz w d t ta tc j us v wr) (hx:t.kids[j]? = some x)
  (hb2:Bl wr w2) (hu':bY w2 (fun b=>wr.heap.size<=b/\b<w2.heap.size) d x.2.kids u') (hba:Bl w2 wa)
  (hown1:w5.ownsRow (w.heap.size+1+1) 153 5 (.slice (some ⟨g,0,none⟩) (j+1) cap) (j+1) (aT (t.kids.take j) us ++ [.string x.1,.string x.2.kind,.string x.2.data,.bool x.2.exec,u']))
  (hgrow:wa.grownBy w5 v.ownBlock) (hat:v.ownBlock=some g∨g=H) (hH:w2.heap.size<=H):nz w d t ta tc (j+1) (us ++ [u']) (.slice (some ⟨g,0,none⟩) (j+1) cap) w5:=by
 have hbr:=be O.box;have hbs:=be O.res;have hlt:=fun k hk=>O.own.lt k hk
 have h5:∀k,k<w2.heap.size->v.ownBlock≠some k->w5.heap[k]? = w2.heap[k]? := fun k hk hne=>by
  rw [hgrow.block k (jn hk hba.size) (fun e=>hne e.symm),hba.block k hk]
 have h5r:∀k,k<wr.heap.size->v.ownBlock≠some k->w5.heap[k]? = wr.heap[k]? := fun k hk hne=>by
  rw [h5 k (jn hk hb2.size) hne,hb2.block k hk]
 have hs5:w2.heap.size<=w5.heap.size:=jm hba.size hgrow.size;have hj:j<t.kids.length:=(jb.1 hx).1;refine ⟨?_,?_,?_,?_,?_,?_⟩
 ·rw [h5r _ hbr (fun e=>by have:=(hlt _ e).1;omega)];exact O.box
 ·rw [h5r _ hbs (fun e=>by have:=(hlt _ e).1;omega)];exact O.res
 ·simp [O.len]
 ·have e:t.kids.take (j+1)=t.kids.take j ++ [x]:=by rw [ju hj,(jb.1 hx).2]
  rw [e,ii _ _ _ _ (by rw [O.len,js];omega)];exact hown1
 ·obtain ⟨Qs,k1,k2,k3⟩:=O.kids
  have hwr:w.heap.size<=wr.heap.size:=O.below.size
  have hold:∀k,k<wr.heap.size->v.ownBlock≠some k->some g≠some k:=fun k hk hne e=>by
   simp only [jh] at e
   rcases hat with h|h
   ·exact hne (by rw [h,e])
   ·have:=hb2.size;omega
  refine ⟨fun i=>if i=j then (fun b=>wr.heap.size<=b/\b<w2.heap.size) else Qs i,fun i y u hy hu=>?_,fun i b hb=>?_,fun i i' b hne hb hb'=>?_⟩
  ·by_cases hi:i<us.length
   ·rw [jD hi] at hu
    have hij:i≠j:=(by have:=O.len;omega);simp only [zi hij];exact (k1 i y u hy hu).kept (fun k hk=>h5r k (k2 i k hk).2.1 (k2 i k hk).2.2) (fun _ hk=>hk)
   ·have hle:us.length<=i:=by omega
    rw [jA hle] at hu
    have hi0:i-us.length=0:=by
     rcases Nat.eq_zero_or_pos (i-us.length) with h|h
     ·exact h
     ·rw [qw (by simp;omega)] at hu;cases hu
    rw [hi0] at hu;simp only [jJ,jh] at hu;have hij:i=j:=by have:=O.len;omega
    subst hij;rw [hx] at hy;simp only [jh] at hy;subst hy;subst hu;simp only [if_true];exact hu'.kept (fun k hk=>h5 k hk.2 (fun e=>by have:=(hlt k e).2;omega)) (fun _ hk=>hk)
  ·by_cases hij:i=j
   ·simp only [zj hij] at hb
    refine ⟨by omega,by omega,?_⟩;simp only [Value.ownBlock,ne_eq,jh]
    rcases hat with h|h
    ·have:=(hlt g h).2;omega
    ·omega
   ·simp only [zi hij] at hb
    have:=k2 i b hb
    exact ⟨this.1,by have:=hb2.size;omega,hold b this.2.1 this.2.2⟩
  ·by_cases hij:i=j
   ·have hij':i'≠j:=by omega
    simp only [zj hij] at hb;simp only [zi hij'] at hb'
    have:=k2 i' b hb'
    omega
   ·simp only [zi hij] at hb
    by_cases hij':i'=j
    ·simp only [zj hij'] at hb'
     have:=k2 i b hb
     omega
    ·simp only [zi hij'] at hb'
     exact k3 i i' b hne hb hb'
 ·refine ⟨?_,?_,?_,?_,fun k hk=>?_⟩
  ·exact hgrow.os.trans (hba.os.trans (hb2.os.trans O.below.os))
  ·exact hgrow.tape.trans (hba.tape.trans (hb2.tape.trans O.below.tape))
  ·exact hgrow.output.trans (hba.output.trans (hb2.output.trans O.below.output))
  ·exact jm O.below.size (jm hb2.size hs5)
  ·rw [h5r k (jn hk O.below.size) (fun e=>by have:=(hlt k e).1;omega)]
   exact O.below.block k hk

theorem yO {w wr w':World} {d:Nat} {t:ab} {ta:Option Addr} {tc j:Nat} {us:List Value} {v:Value} (O:nz w d t ta tc j us v wr) (hj:j=t.kids.length) (hlen:t.kids.length<=1759218604390) (hs:∀x∈t.kids,x.1.size<=140737488355328)
  (hos:w'.os=wr.os) (hta:w'.tape=wr.tape) (hou:w'.output=wr.output) (hsz:w'.heap.size=wr.heap.size) (hw:∀k,k≠w.heap.size->k≠w.heap.size+1->w'.heap[k]? = wr.heap[k]?) :
  bY w' (fun b=>w.heap.size<=b/\b<w'.heap.size) (d+1) t.kids v/\Bl w w':=by
 subst hj;have hown:=O.own;rw [jS] at hown;have hlt:=fun k hk=>hown.lt k hk;obtain ⟨Qs,k1,k2,k3⟩:=O.kids;refine ⟨⟨hlen,hs,us,Qs,O.len,?_,fun g hg=>⟨by have:=(hlt g hg).1;omega,by have:=(hlt g hg).2;omega⟩,fun i x u hx hu=>?_,fun i b hb=>?_,k3⟩,?_⟩
 ·exact ij (aH hown fun k hk=>hw k (by have:=(hlt k hk).1;omega) (by have:=(hlt k hk).1;omega)) (jq _)
 ·exact (k1 i x u hx hu).kept (fun k hk=>hw k (by have:=k2 i k hk;omega) (by have:=k2 i k hk;omega)) (fun _ hk=>hk)
 ·have:=k2 i b hb
  exact ⟨⟨by omega,by omega⟩,this.2.2⟩
 ·exact ⟨hos.trans O.below.os,hta.trans O.below.tape,hou.trans O.below.output,by rw [hsz];exact O.below.size,fun k hk=>by rw [hw k (by omega) (by omega)];exact O.below.block k hk⟩

theorem FE (B:Nat):∀(d:Nat) (t:ab) (u:Value) (w:World),B<=w.heap.size->aA w B d t.kids u ->
  Cl 76 #[.agg #[.string t.kind,.string t.data,.bool t.exec,u]] w fun e w'=>∃u',e = .returned (.agg #[.string t.kind,.string t.data,.bool t.exec,u'])/\bY w' (fun b=>w.heap.size<=b/\b<w'.heap.size) d t.kids u'/\Bl w w':=by
 intro d
 induction d with
 | zero=>intro t u w _ hl;exact absurd hl (by simp [aA])
 | succ d ih =>
  intro t u w hB hl;have hlo:=hl.open;obtain ⟨ta,tc,rfl⟩:=hl.form;obtain ⟨i0,hi0,hz0,hz1,hz2⟩:=info_parts pD;have HL:Hid _:=hlo;have HIH:Hid _:=ih;have hlen:=hlo.1
  have HN:Hid (∀x∈t.kids,x.1.size<=140737488355328):=fun x hx=>by
   obtain ⟨i,hi,he⟩:=yt hx;have hxi:t.kids[i]? = some x:=by rw [jc hi,he]
   rcases hlo.2 with ⟨h0,_⟩|⟨b,off,cp,_,_,hk⟩
   ·rw [h0] at hxi;simp at hxi
   ·obtain ⟨u,K⟩:=hk i x hxi
    exact K.size
  clear hlo hl ih;go_enter Tryz.func76,Tryz.ntmps76;go_wp2_with fail
  go_loopw [3,4] (fun v i wr=>∃(j:Nat) (us:List Value) (va:Option Addr) (vc:Nat),j<=t.kids.length/\i = .int .i64 j/\v = .slice va j vc/\nz w d t ta tc j us (.slice va j vc) wr) (fun _ i _=>t.kids.length-(intOf i).toNat)
  case atStart =>
   refine ⟨0,[],none,0,jq _,rfl,rfl,⟨?_,?_,rfl,?_,?_,?_⟩⟩
   ·rw [jp _ _ _ (by simp)];exact bM _ _ _
   ·have:=bM (w.alloc (.cells #[.string t.kind,.string t.data,.bool t.exec,.slice ta t.kids.length tc] 32)) #[.string { data:=#[] },.string { data:=#[] },.bool false,.slice none 0 0] 32
    simpa using this
   ·have e:aT (t.kids.take 0) [] = []:=by simp [aT]
    rw [e];exact qt _ _ _ _
   ·exact ⟨fun _ _=>False,fun i x u _ h=>by simp at h,fun _ _ h=>h.elim,fun _ _ _ _ h=>h.elim⟩
   ·exact ((je _ _).alloc (jd _) _).alloc (by simp) _
  case round =>
   obtain ⟨j,us,va,vc,hj,rfl,rfl,O⟩:=hrel;have hrow:=O.box;have g0:wr.cell? ⟨w.heap.size,0,none⟩=some (.string t.kind):=by rw [ze wr _ _ _ _ _ O.box];rfl
   have g1:wr.cell? ⟨w.heap.size,1,none⟩=some (.string t.data):=(by rw [ze wr _ _ _ _ _ O.box];rfl);have g2:wr.cell? ⟨w.heap.size,2,none⟩=some (.bool t.exec):=by rw [ze wr _ _ _ _ _ O.box];rfl
   have g3:wr.cell? ⟨w.heap.size,3,none⟩=some (.slice ta t.kids.length tc):=(by rw [ze wr _ _ _ _ _ O.box];rfl);by_cases hlt:j<t.kids.length
   ·obtain ⟨x,hx⟩:∃x,t.kids[j]? = some x:=⟨t.kids[j],jc hlt⟩
    obtain ⟨b,off,rfl,ux,K0⟩:∃b off,ta=some ⟨b,off,none⟩/\∃u,eH w B d b off j x u:=by
     rcases HL.out.2 with ⟨h0,_⟩|⟨b,off,cp,e,_,hk⟩
     ·rw [h0] at hlt;exact absurd hlt (by simp)
     ·simp only [jo] at e
      exact ⟨b,off,e.1,hk j x hx⟩
    have K:=K0.below O.below hB;obtain ⟨xa,xc,rfl⟩:=K.lies.form;have n0:=K.name;have n1:=K.kind;have n2:=K.data;have n3:=K.exec;have n4:=K.kids;have hBr:B<=wr.heap.size:=jm hB O.below.size;have lb:b<wr.heap.size:=jn K.lt hBr;have lw:w.heap.size<wr.heap.size:=be O.box;have HC:Hid _:=HIH.out x.2 (.slice xa x.2.kids.length xc) wr hBr K.lies;have hj0:(0:Int)<=(j:Int):=(by omega);have hj1:(j:Int)<(t.kids.length:Int):=(by omega);have HKLT:=kH K.lt;have HO:Hid _:=O;have HX:Hid _:=hx;clear O hrow K K0 hx;go_wp2_with fail
    refine jk HC.out ?_;rintro e w2 ⟨u',rfl,hq,hb2⟩;obtain ⟨xa',xc',rfl⟩:=hq.form;have g3':w2.cell? ⟨w.heap.size,3,none⟩=some (.slice (some ⟨b,off,none⟩) t.kids.length tc):=by rw [hb2.cell (p:=⟨w.heap.size,3,none⟩) lw];exact g3
    have n0':w2.cell? ⟨b,off+j*5,none⟩=some (.string x.1):=(by rw [hb2.cell (p:=⟨b,off+j*5,none⟩) lb];exact n0);have lw2:w.heap.size<w2.heap.size:=jn lw hb2.size;have lb2:b<w2.heap.size:=jn lb hb2.size;have hown2:w2.ownsRow (w.heap.size+1+1) 153 5 (.slice va j vc) j (aT (t.kids.take j) us):=aH HO.out.own fun k hk=>hb2.block k (HO.out.own.lt k hk).2;have HOW2:Hid _:=hown2;have HQ:=kH hq;have HB2:Hid _:=hb2
    have HN2:Hid (∀o,((w2.alloc o).alloc (.cells #[.string x.1,.string x.2.kind,.string x.2.data,.bool x.2.exec,.slice xa' x.2.kids.length xc'] 153)).heap[w2.heap.size+1]? = some (.cells #[.string x.1,.string x.2.kind,.string x.2.data,.bool x.2.exec,.slice xa' x.2.kids.length xc'] 153 (0,0))):=fun o=>by
     have:=bM (w2.alloc o) #[.string x.1,.string x.2.kind,.string x.2.data,.bool x.2.exec,.slice xa' x.2.kids.length xc'] 153
     simpa using this
    have a1:(Value.slice va j vc).ownBlock≠some w.heap.size:=fun e=>(by have:=(HO.out.own.lt _ e).1;omega);have a2:(Value.slice va j vc).ownBlock≠some b:=fun e=>by have:=(HO.out.own.lt _ e).1;have:=HKLT.out;omega
    have a3:(Value.slice va j vc).ownBlock≠some w2.heap.size:=fun e=>(by have:=(HO.out.own.lt _ e).2;have:=hb2.size;omega);have hbs:w.heap.size+1+1<=w2.heap.size:=by have:=be HO.out.res;have:=hb2.size;omega
    clear hown2 hq hb2 n0 n1 n2 n3 n4 g0 g1 g2 g3;go_wp2_with fail
    go_region_held3 (fun w'=>w'.cell? ⟨w.heap.size,3,none⟩=some (.slice (some ⟨b,off,none⟩) t.kids.length tc)/\w'.cell? ⟨b,off+j*5,none⟩=some (.string x.1)/\w'.cell? ⟨w2.heap.size,0,none⟩=some (.string x.2.kind)/\w'.cell? ⟨w2.heap.size,1,none⟩=some (.string x.2.data)/\w'.cell? ⟨w2.heap.size,2,none⟩=some (.bool x.2.exec)/\w'.cell? ⟨w2.heap.size,3,none⟩=some (.slice xa' x.2.kids.length xc'))
     (first
      | go_keep
      | (go_split_ands;refine ⟨?_,?_,?_,?_,?_,?_⟩;(rw [hgrow.cell_far _ (by first|(simp;done)|(simp;omega)) (Ne.symm a1)];assumption);(rw [hgrow.cell_far _ (by first|(simp;done)|(simp;omega)) (Ne.symm a2)];assumption);(rw [hgrow.cell_far _ (by first|(simp;done)|(simp;omega)) (Ne.symm a3)];assumption);(rw [hgrow.cell_far _ (by first|(simp;done)|(simp;omega)) (Ne.symm a3)];assumption);(rw [hgrow.cell_far _ (by first|(simp;done)|(simp;omega)) (Ne.symm a3)];assumption);(rw [hgrow.cell_far _ (by first|(simp;done)|(simp;omega)) (Ne.symm a3)];assumption)))
     ((refine step_append_lies _ (by rfl) _ _ _ (by rfl) (w.heap.size+1+1) 153 i0 _ 5 80 Tryz.underlying30 hi0 hz0 hz1 hz2 rfl (by omega) (.slice va j vc) j (aT (t.kids.take j) us) (by rfl) ((jG (jG HOW2.out _) _).drew) ⟨w2.heap.size+1,0,none⟩ 1 1 [.string x.1,.string x.2.kind,.string x.2.data,.bool x.2.exec,.slice xa' x.2.kids.length xc'] (by rfl) (by rfl) (World.news_of_block (cs:=#[.string x.1,.string x.2.kind,.string x.2.data,.bool x.2.exec,.slice xa' x.2.kids.length xc']) (t:=153) (fr:=(0,0)) (HN2.out _)) (by simp [Value.oneCell']) (by omega) (by unfold maxLen;omega) (by omega) (by simp;omega) (w2.heap.size+1+1) (by simp) ?_;intro g cap' w5 hown5 hgrow hat hlt5))
    go_wp2_with fail
    have hO:=vL HO.out HX.out HB2.out HQ.out (wa:=((w2.alloc (.cells #[.string x.2.kind,.string x.2.data,.bool x.2.exec,.slice xa' x.2.kids.length xc'] 32)).alloc (.cells #[.string x.1,.string x.2.kind,.string x.2.data,.bool x.2.exec,.slice xa' x.2.kids.length xc'] 153)).drew) (by go_grown) hown5 hgrow hat (by omega)
    go_roundw
    case rel=>exact ⟨j+1,us ++ [.slice xa' x.2.kids.length xc'],some ⟨g,0,none⟩,cap',by omega,by go_num,rfl,hO⟩
    case measure=>simp [intOf];omega
   ·have f3:wr.frozen? ⟨w.heap.size,3,none⟩=false:=ar O.box 3
    have r0:wr.cell? ⟨w.heap.size+1,0,none⟩=some (.string { data:=#[] }):=(by rw [ze wr _ _ _ _ _ O.res];rfl);have r1:wr.cell? ⟨w.heap.size+1,1,none⟩=some (.string { data:=#[] }):=by rw [ze wr _ _ _ _ _ O.res];rfl
    have r2:wr.cell? ⟨w.heap.size+1,2,none⟩=some (.bool false):=(by rw [ze wr _ _ _ _ _ O.res];rfl);have r3:wr.cell? ⟨w.heap.size+1,3,none⟩=some (.slice none 0 0):=by rw [ze wr _ _ _ _ _ O.res];rfl
    have s0:wr.frozen? ⟨w.heap.size+1,0,none⟩=false:=ar O.res 0;have s1:wr.frozen? ⟨w.heap.size+1,1,none⟩=false:=ar O.res 1;have s2:wr.frozen? ⟨w.heap.size+1,2,none⟩=false:=ar O.res 2;have s3:wr.frozen? ⟨w.heap.size+1,3,none⟩=false:=ar O.res 3
    have HE:Hid _:=yO (w':=(((((wr.setCell ⟨w.heap.size,3,none⟩ (.slice va j vc)).setCell ⟨w.heap.size+1,0,none⟩ (.string t.kind)).setCell ⟨w.heap.size+1,1,none⟩ (.string t.data)).setCell ⟨w.heap.size+1,2,none⟩ (.bool t.exec)).setCell ⟨w.heap.size+1,3,none⟩ (.slice va j vc)))
     O (by omega) hlen HN.out rfl rfl rfl (by simp [World.setCell]) (fun k h1 h2=>by
      rw [jf _ _ _ _ h2,jf _ _ _ _ h2,jf _ _ _ _ h2,jf _ _ _ _ h2,jf _ _ _ _ h1])
    clear O hrow;go_wp2_with fail
    refine zv (v:=.agg #[.string t.kind,.string t.data,.bool t.exec,.slice va j vc]) (by simp [results,Tryz.results76,go_sem,r0,r1,r2,r3]) rfl ⟨.slice va j vc,rfl,?_,?_⟩
    ·exact HE.out.1
    ·exact HE.out.2
end
end Go.Proofs.YtcflefeedcihjaaGreatDoor
