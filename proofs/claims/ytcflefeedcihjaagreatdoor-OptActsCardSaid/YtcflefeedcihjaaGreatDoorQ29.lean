/-
  Gp Ma Mb, joined.
  Conditions: those that each states.
-/
import Derived.Test.YtcflefeedcihjaaGreatDoorQ28
namespace Go.Proofs.YtcflefeedcihjaaGreatDoor
set_option maxHeartbeats 2000000
section
set_option maxRecDepth 100000
open Go.RowKit Go.Maps

section
variable {w : World} {T0 dp tb mb m1 m2 n1 d bb sp sb cap n N : Nat} {tr : List (Option ah)} {fb : Nat → Nat} {s : ay} {a : Nat → Addr}
theorem AB (k:Int) (p:ByteArray) (was j:Nat) (y z:am) (ae:Addr) (hk:(Lit.int .i64 k).wf=true) (hp:p.size<=1000000) (P:fu a w) (D:aI w T0 dp tb mb m1 m2 n1 d tr fb) (T:aw w (fun _=>False) T0 tb bb sp sb cap mb n s.bl s.u s.tab) (S:bz N s.bl s.u s.tab) (hi:dP tr k p = .ok was) (hy:af s.tab was=some y) (hz:af s.tab j=some z) (hne:¬j=was) (hc:¬(aR (aq s.bl y.blocks y.bytes)=y.sum/\aR (aq s.bl z.blocks z.bytes)=z.sum)) (eg:w.cell? ⟨2,0,none⟩=some (.iface 329 (.pointer (some ae)))) :
  Cl 80 #[.pointer (some ⟨dp,0,none⟩),.int .i64 k,.string p,.int .i64 (j:Int)] w fun e w'=>e = .returned (.iface 329 (.pointer (some ae)))/\Bl w w':=by
 have HIN:=iz k p was hk hp P D hi;have HST:Hid _:=iI j z D T S hz
 have HAL:Hid (∀W,Bl w W->Cl 128 #[.pointer (some ⟨dp,0,none⟩),.int .i64 (was:Int),.int .i64 (j:Int)] W fun e w'=>e = .returned (.iface 329 (.pointer (some ae)))/\Bl W w'):=fun W hW =>
  Ck was j y z ae hy hz hc (T.below hW) S (D.below hW).box (by rw [hW.cell (p:=⟨2,0,none⟩) (ji w _ eg)];exact eg)
 have hneI:((j:Int)==(was:Int))=false:=zl.2 (by omega);clear D P T hi S hz hy hc eg hne;go_enter Tryz.func80,Tryz.ntmps80
 go_wp2_with (first
  | (go_at_call 45;refine HIN.mono ?_;rintro e w1 ⟨rfl,b1⟩;(obtain ⟨c0,HS1⟩:=HST.out w1 b1);clear HIN HST)
  | (go_at_call 39;refine HS1.mono ?_;rintro e w2 ⟨ax,cx,rfl,b2⟩;(have HB2:Hid (Bl w (w2.alloc (.cells #[.int .i64 (z.bytes:Int),.int .i64 (z.links:Int),.bool z.exec,.slice ax z.blocks.length cx,.int .u32 (z.sum:Int)] 92))):=(b1.trans (b2.mono b1.size)).alloc (b1.trans (b2.mono b1.size)).size _);(have HA2:=HAL.out _ HB2.out);clear HAL b1 b2)
  | (go_at_call 128;refine HA2.mono ?_;rintro e w3 ⟨rfl,b3⟩))
 go_ret;exact ⟨rfl,HB2.out.trans (b3.mono HB2.out.size)⟩
theorem Cm (k:Int) (hk:(Lit.int .i64 k).wf=true) (hx:aY tr k=none) (P:fu a w) (D:aI w T0 dp tb mb m1 m2 n1 d tr fb) :
  Cl 42 #[.pointer (some ⟨dp,0,none⟩),.int .i64 k] w fun e w'=>e = .returned (.tuple #[.agg #[.string { data:=#[] },.string { data:=#[] },.bool false,.slice none 0 0],.iface 329 (.pointer (some (a 5)))])/\Bl w w':=by
 obtain ⟨W0,hW0⟩:∃W0,W0=w.alloc (.cells #[.string { data:=#[] },.string { data:=#[] },.bool false,.slice none 0 0] 32):=⟨_,rfl⟩;have hbW:Bl w W0:=by rw [hW0];exact (je _ w).alloc (jd _) _
 have HRW:Hid (W0.heap[w.heap.size]? = some (.cells #[.string { data:=#[] },.string { data:=#[] },.bool false,.slice none 0 0] 32 (0,0))):=by rw [hW0];exact heap_alloc_last w _
 have hzW:w.heap.size<W0.heap.size:=by rw [hW0];simp
 have HH:Hid (Cl 90 #[.pointer (some ⟨dp,0,none⟩),.int .i64 k] W0 fun e w'=>e = .returned (.bool false)/\Bl W0 w'):=(i4 k hk (D.below hbW)).mono fun e w' ⟨he,hb⟩=>⟨by rw [he,hx];rfl,hb⟩;have HP:=kH P;have HBW:=kH hbW;clear D P hx hbW;subst hW0;go_enter Tryz.func42,Tryz.ntmps42
 go_wp2_with (go_at_call 90;refine HH.out.mono ?_;rintro e w1 ⟨rfl,b1⟩)
 have HB1:=kH (HBW.out.trans (b1.mono HBW.out.size));obtain ⟨⟨q0,q1,q2,q3⟩,g0,g1,g2,g3⟩:=It ((b1.block _ hzW).trans HRW.out);have c5:=(HP.out.below HB1.out).no;have z5:1<w.heap.size:=ji w _ HP.out.no;have hne5:1≠w.heap.size:=by omega
 clear b1
 go_region
 go_wp2_with fail
 refine zv (v:=.tuple #[.agg #[.string { data:=#[] },.string { data:=#[] },.bool false,.slice none 0 0],.iface 329 (.pointer (some (a 5)))]) (by simp [results,Tryz.results42,go_sem,q0,q1,q2,q3]) rfl ?_;have hS:=((((oW.refl w.heap.size w1).set 0 (.string { data:=#[] })).set 1 (.string { data:=#[] })).set 2 (.bool false)).set 3 (.slice none 0 0);exact ⟨rfl,(hS.below HB1.out (by omega)).drew⟩
end
def I0 (C:zW) (all:List (ByteArray×ab)) (ok:ByteArray->Prop) (w0:World) (r:List (ByteArray×ab)) (w:World):Prop :=
 DF C all w0 r w/\∃dn,dn++r=all/\∀y∈dn,ok y.1
theorem EL (C:zW) (all:List (ByteArray×ab)) (N:Nat) (S:bz N C.s.bl C.s.u C.s.tab) (ι:ByteArray->am) (hall:∀x∈all,x.1.size<=maxLen/\∃k:Nat,fmap C.fs (.string x.1.data.toList)=some (.int .i64 (k:Int))/\af C.s.tab k=some (ι x.1)) (ae:Addr) (he:C.er = .iface 329 (.pointer (some ae))) (w0:World) :
  oC Tryz.prog 141 #[.pointer (some ⟨C.c1,0,none⟩),.pointer (some ⟨C.c2,0,none⟩)] 329 (fun p _=>cV C.s.bl (ι p)) (I0 C all (fun p=>aR (aq C.s.bl (ι p).blocks (ι p).bytes)=(ι p).sum) w0) (fun v w=>v=C.er/\Bl w0 w) w0.heap.size:=by
 refine ⟨fun r w ⟨J,e⟩=>⟨⟨J.ex,J.t.below (je _ w).drew,J.m,J.bel.drew,J.b1,J.b2,J.bd,J.eg,J.egr⟩,e⟩,fun p t r w b o ad cap cur ⟨J,dn,e0,hdn⟩ hn hR hRs hf hk hb0=>?_⟩;have hin:(p,t)∈all:=by rw [<-e0];simp
 obtain ⟨hps,k,hk1,hk2⟩:=hall (p,t) hin
 simp only at hps hk1 hk2
 by_cases hc:aR (aq C.s.bl (ι p).blocks (ι p).bytes)=(ι p).sum
 ·have V:=rR C [(p,t)] N S ι (fun x hx=>by
   rw [jF] at hx;subst hx;exact ⟨hps,k,hk1,hk2,hc⟩) w0
  refine (V.call p t [] w b o ad cap cur ⟨⟨[],rfl⟩,J.t,J.m,J.bel,J.b1,J.b2,J.bd,J.eg,J.egr⟩ hn hR hRs hf hk hb0).mono fun e w' h=>?_
  rcases h with ⟨h1,J',h3⟩|⟨_,_,h⟩
  ·have e1:(dn ++ [(p,t)])++r=all:=by rw [<-e0];simp
   refine .inl ⟨h1,⟨⟨⟨_,e1⟩,J'.t,J'.m,J'.bel,J'.b1,J'.b2,J'.bd,J'.eg,J'.egr⟩,_,e1,fun y hy=>?_⟩,h3⟩
   rcases jT.1 hy with h|h
   ·exact hdn y h
   ·rw [jF] at h
    subst h;exact hc
  ·exact h.elim
 ·obtain ⟨T0,tb,bb,sp,sb,capT,mb,n,s,dp,m1,m2,nxt,c1,c2,fb,nf,fs,er⟩:=C
  simp only at *
  subst he;have HFL:=kH (uA k (ι p) ae hk2 hc J.t S J.bd J.eg)
  have hlk:(Instr.lookup 140 (.map (some fb)) (.string p) false).run Tryz.prog w = .ok (.int .i64 (k:Int)) w:=by
   have h:=J.m.look iH Tryz.underlying140 (iw w) (WideMaps.keyOf_string_mk Tryz.underlying9 hps) trivial;rw [hk1] at h;exact h
  have q1:w.cell? ⟨c1,0,none⟩=some (.pointer (some ⟨dp,0,none⟩)):=(by rw [ze _ _ _ _ _ _ J.b1];rfl);have q2:w.cell? ⟨c2,0,none⟩=some (.map (some fb)):=by rw [ze _ _ _ _ _ _ J.b2];rfl
  have HBE:=kH J.bel;clear J hn hR hRs hf hk hb0 e0 hdn hin hall hps hk1 hk2 hc S;show Cl 141 #[.string p,.pointer (some ⟨b,o,none⟩),.pointer (some ⟨c1,0,none⟩),.pointer (some ⟨c2,0,none⟩)] w _;go_enter Tryz.func141,Tryz.ntmps141
  go_wp2_with (go_at_call 142;refine HFL.out.mono ?_;rintro e w1 ⟨rfl,hb1⟩)
  go_ret;have h1:=HBE.out.trans (hb1.mono HBE.out.size);exact .inr ⟨_,rfl,rfl,h1.alloc h1.size _⟩
section
variable {w0 w : World} {T0 tb bb sp sb cap mb n N dp m1 m2 fb nf : Nat} {nx : Int} {s : ay} {d b : Nat} {t : ab} {Q : Nat → Prop} {fs : List (ByteArray × Nat)}
theorem EM (T:aw w (fun _=>False) T0 tb bb sp sb cap mb n s.bl s.u s.tab) (S:bz N s.bl s.u s.tab) (M:bw w 9 fb nf (fmap fs)) (ι:ByteArray->am) (ae:Addr)
  (hall:∀x∈aj d t,x.1.size<=maxLen/\∃k:Nat,fmap fs (.string x.1.data.toList)=some (.int .i64 (k:Int))/\af s.tab k=some (ι x.1))
  (hbad:∃x∈aj d t,¬aR (aq s.bl (ι x.1).blocks (ι x.1).bytes)=(ι x.1).sum)
  (bd:w.heap[dp]? = some (.cells #[.pointer (some ⟨tb,0,none⟩),.map (some m1),.map (some m2),.int .i64 nx] 137 (0,0)))
  (hT:bE w Q d b 0 t) (hr:∃cur,w.heap[b]? = some (.cells cur 32 (0,0))/\4<=cur.size) (hQb:¬Q b) (hQ:∀q,Q q->w0.heap.size<=q) (hb0:w0.heap.size<=b) (hG:cB d t) (hd:d*20<=100000)
  (bel:Bl w0 w) (eg:w.cell? ⟨2,0,none⟩=some (.iface 329 (.pointer (some ae)))) (hgr:∃cs ty,w.heap[2]? = some (.cells cs ty (0,0))/\cY (.cells cs ty (0,0))=false) :
  Cl 91 #[.pointer (some ⟨dp,0,none⟩),.pointer (some ⟨b,0,none⟩),.map (some fb)] w fun e w'=>e = .returned (.iface 329 (.pointer (some ae)))/\Bl w0 w':=by
 obtain ⟨cur,hr,hrs⟩:=hr;obtain ⟨csg,tyg,hgg,htg⟩:=hgr;obtain ⟨W1,hW1⟩:∃W1,W1=(w.alloc (.cells #[.pointer (some ⟨dp,0,none⟩)] 25)).alloc (.cells #[.map (some fb)] 140):=⟨_,rfl⟩;have hbel:Bl w W1:=by rw [hW1];exact ((je _ w).alloc (jd _) _).alloc (by simp) _
 have hblk:∀k o,w.heap[k]? = some o->W1.heap[k]? = some o:=fun k o hk=>by rw [hbel.block k (ja.1 hk).1];exact hk
 have r1:W1.heap[w.heap.size]? = some (.cells #[.pointer (some ⟨dp,0,none⟩)] 25 (0,0)):=by
  rw [hW1,jp _ _ _ (by simp)];exact heap_alloc_last w _
 have r2:W1.heap[w.heap.size+1]? = some (.cells #[.map (some fb)] 140 (0,0)):=by
  rw [hW1];have h:=heap_alloc_last (w.alloc (.cells #[.pointer (some ⟨dp,0,none⟩)] 25)) (.cells #[.map (some fb)] 140);rw [jE] at h;exact h
 have HEA:Hid (Cl 120 #[.pointer (some ⟨b,0,none⟩),.string { data:=#[] },.func (.func 141) #[] #[.pointer (some ⟨w.heap.size,0,none⟩),.pointer (some ⟨w.heap.size+1,0,none⟩)]] W1 fun e w'=>e = .returned (.iface 329 (.pointer (some ae)))/\Bl w0 w'):=by
  refine (ni (enters_of Tryz.func141 (by kernel_rfl) rfl) _ (EL ⟨T0,tb,bb,sp,sb,cap,mb,n,s,dp,m1,m2,nx,w.heap.size,w.heap.size+1,fb,nf,fs,.iface 329 (.pointer (some ae))⟩ (aj d t) N S ι hall ae rfl w0) d t { data:=#[] } b 0 Q [] W1 cur ?_ (hT.kept (fun k c _ h=>hblk k _ h) (fun j _ _=>jl ((hblk b _ hr).trans hr.symm)) (fun _ h=>h)) (.inl (hblk _ _ hr)) (by omega) hQb hG (by rw [show ({ data:=#[] }:ByteArray).size=0 from rfl];omega) hQ hb0).mono ?_
  ·rw [qz]
   refine ⟨⟨⟨[],rfl⟩,T.below hbel,?_,bel.trans (hbel.mono bel.size),r1,r2,hblk _ _ bd,?_,csg,tyg,hblk _ _ hgg,htg⟩,[],rfl,fun _ h=>absurd h (List.not_mem_nil)⟩
   ·obtain ⟨es,cl,hm⟩:=M.obj
    exact M.keep ((hblk _ _ hm).trans hm.symm)
   ·show W1.cell? _=_
    rw [jl (a:=⟨2,0,none⟩) ((hblk _ _ hgg).trans hgg.symm)];exact eg
  ·rintro e w' (⟨he,⟨_,dn,h1,h2⟩,_⟩|⟨er,he,h1,h2⟩)
   ·obtain ⟨x,hx,hb⟩:=hbad
    rw [qz] at h1;rw [<-h1] at hx;exact absurd (h2 x hx) hb
   ·exact ⟨by rw [he,h1],h2⟩
 clear T S M hall bd hT hr hQb hQ hb0 hG bel eg hgg htg hbel hblk r1 r2 hbad;subst hW1;go_enter Tryz.func91,Tryz.ntmps91;go_wp2_with fail
 refine jk HEA.out ?_;rintro e w2 ⟨rfl,hb2⟩;go_wp2_with fail
 go_ret;exact ⟨rfl,hb2⟩
end
section
variable {w : World} {T0 dp tb mb m1 m2 n1 d bb sp sb cap n N : Nat} {tr : List (Option ah)} {fb : Nat → Nat} {s : ay}
theorem EN (k:Nat) (x:ah) (ι:ByteArray->am) (ae:Addr) (hk:(Lit.int .i64 (k:Int)).wf=true) (hx:aY tr (k:Int)=some x) (D:aI w T0 dp tb mb m1 m2 n1 d tr fb) (T:aw w (fun _=>False) T0 tb bb sp sb cap mb n s.bl s.u s.tab) (S:bz N s.bl s.u s.tab)
  (hall:∀y∈aj (d+1) x.t,y.1.size<=maxLen/\∃q:Nat,bG x.fs y.1=some q/\af s.tab q=some (ι y.1)) (hbad:∃y∈aj (d+1) x.t,¬aR (aq s.bl (ι y.1).blocks (ι y.1).bytes)=(ι y.1).sum) (hG:cB (d+1) x.t) (hd:(d+1)*20<=100000)
  (eg:w.cell? ⟨2,0,none⟩=some (.iface 329 (.pointer (some ae)))) (hgr:∃cs ty,w.heap[2]? = some (.cells cs ty (0,0))/\cY (.cells cs ty (0,0))=false) :
  Cl 42 #[.pointer (some ⟨dp,0,none⟩),.int .i64 (k:Int)] w fun e w'=>e = .returned (.tuple #[.agg #[.string { data:=#[] },.string { data:=#[] },.bool false,.slice none 0 0],.iface 329 (.pointer (some ae))])/\Bl w w':=by
 obtain ⟨W0,hW0⟩:∃W0,W0=w.alloc (.cells #[.string { data:=#[] },.string { data:=#[] },.bool false,.slice none 0 0] 32):=⟨_,rfl⟩;have hbW:Bl w W0:=by rw [hW0];exact (je _ w).alloc (jd _) _
 have hrW:W0.heap[w.heap.size]? = some (.cells #[.string { data:=#[] },.string { data:=#[] },.bool false,.slice none 0 0] 32 (0,0)):=by rw [hW0];exact heap_alloc_last w _
 have D0:=D.below hbW;have T1:=T.below hbW;have eg0:W0.cell? ⟨2,0,none⟩=some (.iface 329 (.pointer (some ae))):=by rw [hbW.cell (p:=⟨2,0,none⟩) (ji w _ eg)];exact eg
 have hgr0:∃cs ty,W0.heap[2]? = some (.cells cs ty (0,0))/\cY (.cells cs ty (0,0))=false:=by
  obtain ⟨cs,ty,h1,h2⟩:=hgr;exact ⟨cs,ty,by rw [hbW.block _ (ja.1 h1).1];exact h1,h2⟩
 clear D T eg hgr;have HH:Hid (∀W,Bl W0 W->Cl 90 #[.pointer (some ⟨dp,0,none⟩),.int .i64 (k:Int)] W fun e w'=>e = .returned (.bool true)/\Bl W w'):=fun W hW=>(i4 (k:Int) hk (D0.below hW)).mono fun e w' ⟨he,hb⟩=>⟨by rw [he,hx];rfl,hb⟩;have HC:Hid (∀W,Bl W0 W->W.cell? ⟨dp,1,none⟩=some (.map (some m1))/\W.cell? ⟨dp,2,none⟩=some (.map (some m2))):=fun W hW=>⟨(D0.below hW).cells.2.1,(D0.below hW).cells.2.2.1⟩
 have HY:Hid (∀W,Bl W0 W->∃ad cap,(Instr.lookup 134 (.map (some m1)) (.int .i64 (k:Int)) false).run Tryz.prog W = .ok (.agg #[.string x.t.kind,.string x.t.data,.bool x.t.exec,.slice ad x.t.kids.length cap]) W/\Cl 71 #[.agg #[.string x.t.kind,.string x.t.data,.bool x.t.exec,.slice ad x.t.kids.length cap]] W fun e w'=>∃ad' cap',e = .returned (.agg #[.string x.t.kind,.string x.t.data,.bool x.t.exec,.slice ad' x.t.kids.length cap'])/\bY w' (fun b=>W.heap.size<=b/\b<w'.heap.size) (d+1) x.t.kids (.slice ad' x.t.kids.length cap')/\Bl W w'):=fun W hW=>by
  obtain ⟨ad,cap,K,_,e2,_⟩:=(D0.below hW).yes hk hx;refine ⟨ad,cap,e2,(rh W.heap.size (d+1) x.t _ W (jd _) K.lies).mono fun e w' ⟨u',he,ho,hb⟩=>?_⟩;obtain ⟨ad',cap',rfl⟩:=ho.form;exact ⟨ad',cap',he,ho,hb⟩
 have HF:Hid (∀W1 b ad' cap',Bl W0 W1->bY W1 (fun q=>W0.heap.size<=q/\q<b) (d+1) x.t.kids (.slice ad' x.t.kids.length cap')->W0.heap.size<=b->W1.heap[b]? = some (.cells #[.string x.t.kind,.string x.t.data,.bool x.t.exec,.slice ad' x.t.kids.length cap'] 32 (0,0))->∃fb,(Instr.lookup 135 (.map (some m2)) (.int .i64 (k:Int)) false).run Tryz.prog W1 = .ok (.map (some fb)) W1/\Cl 91 #[.pointer (some ⟨dp,0,none⟩),.pointer (some ⟨b,0,none⟩),.map (some fb)] W1 fun e w'=>e = .returned (.iface 329 (.pointer (some ae)))/\Bl W0 w'):=fun W1 b ad' cap' hW hO hb hr=>by
  obtain ⟨_,_,_,_,_,e3,M,_⟩:=(D0.below hW).yes hk hx;refine ⟨fb k,e3,?_⟩;have hn:dS W1 b 0 x.t (.slice ad' x.t.kids.length cap'):=by constructor <;> rw [ze _ _ _ _ _ _ hr] <;> rfl
  obtain ⟨csg,tyg,hgg,htg⟩:=hgr0;have hgg1:W1.heap[2]? = some (.cells csg tyg (0,0)):=by rw [hW.block _ (ja.1 hgg).1];exact hgg
  refine EM (w0:=W0) (T1.below hW) S M ι ae (fun y hy=>?_) hbad (D0.below hW).box (bE.of_own hO hn) ⟨_,hr,by simp⟩ (fun h=>Nat.lt_irrefl _ h.2) (fun q h=>h.1) hb hG hd hW (by rw [hW.cell (p:=⟨2,0,none⟩) (ji W0 _ eg0)];exact eg0) ⟨csg,tyg,hgg1,htg⟩;obtain ⟨h1,q,h2,h3⟩:=hall y hy;exact ⟨h1,q,by rw [e9 _ _ _ rfl,h2];rfl,h3⟩
 have HBW:=kH hbW;have HRW:=kH hrW;have hzW:w.heap.size<W0.heap.size:=(ja.1 hrW).1;clear D0 T1 S hall hG hd eg0 hgr0 hx hbW hrW hbad;have HH0:=HH.out W0 (je _ _);have HC0:=(HC.out W0 (je _ _)).1;subst hW0;go_enter Tryz.func42,Tryz.ntmps42
 go_wp2_with (first
  | (go_at_call 90;refine HH0.mono ?_;rintro e w1 ⟨rfl,b1⟩;(obtain ⟨ad1,cap1,hl1,HCP⟩:=HY.out w1 b1);(have c1:=(HC.out w1 b1).1);(have HB1:Hid _:=b1);clear b1 HH0 HY)
  | (go_at_call 71;refine HCP.mono ?_;rintro e w2 ⟨ad2,cap2,rfl,ho2,b2⟩;(have HB2:Hid (Bl (w.alloc (.cells #[.string { data:=#[] },.string { data:=#[] },.bool false,.slice none 0 0] 32)) (w2.alloc (.cells #[.string x.t.kind,.string x.t.data,.bool x.t.exec,.slice ad2 x.t.kids.length cap2] 32))):=((HB1.out.trans (b2.mono HB1.out.size)).alloc (HB1.out.trans (b2.mono HB1.out.size)).size _));(obtain ⟨fbk,hl2,HFC⟩:=HF.out (w2.alloc (.cells #[.string x.t.kind,.string x.t.data,.bool x.t.exec,.slice ad2 x.t.kids.length cap2] 32)) w2.heap.size ad2 cap2 HB2.out (ho2.kept (fun q hq=>jp _ _ _ hq.2) (fun q hq=>⟨jm HB1.out.size hq.1,hq.2⟩)) (jm HB1.out.size b2.size) (heap_alloc_last w2 _));(have c2:=(HC.out (w2.alloc (.cells #[.string x.t.kind,.string x.t.data,.bool x.t.exec,.slice ad2 x.t.kids.length cap2] 32)) HB2.out).2);clear ho2 b2 HF HCP hl1 c1)
  | (go_at_call 91;refine HFC.mono ?_;rintro e w3 ⟨rfl,b3⟩;(have hr3:=(b3.block w.heap.size hzW).trans HRW.out);(have hst:=gM (o:=0) hr3 (by simp) ⟨{ data:=#[] },{ data:=#[] },false,[]⟩ (.slice none 0 0) (fun _=>False));(have hth:=cA (o:=0) (n:=4) hr3 (by simp));clear HFC)
  | refine wpList_store_mid (by rfl) 32 _ _ (by rfl) w.heap.size 0 #[.string { data:=#[] },.string { data:=#[] },.bool false,.slice none 0 0] (by rfl) (by rfl) hth (by kernel_rfl) (by simp [Value.oneCell']) ?_)
 have q0:=hst.1.kind;have q1:=hst.1.data;have q2:=hst.1.exec;have q3:=hst.1.kids;have hgr:=hst.2.2;simp only [j6] at q1 q2 q3;refine zv (v:=.tuple #[.agg #[.string { data:=#[] },.string { data:=#[] },.bool false,.slice none 0 0],.iface 329 (.pointer (some ae))]) (by simp [results,Tryz.results42,go_sem,q0,q1,q2,q3]) rfl ⟨rfl,?_⟩;exact (HBW.out.trans (b3.mono HBW.out.size)).grown hgr (jm HBW.out.size b3.size) (fun q hq=>by cases hq;exact jd _)
end
end
section
set_option maxRecDepth 100000
open Go.RowKit

def iL (p:Option am×Value):List Value:=match p.1 with
 | some x=>[.bool true,.int .i64 (x.bytes:Int),.int .i64 (x.links:Int),.bool x.exec,p.2,.int .i64 (x.sum:Int)]
 | none=>[.bool false,.int .i64 0,.int .i64 0,.bool false,.slice none 0 0,.int .i64 0]
theorem oh (p:Option am×Value):(iL p).length=6:=by
 unfold iL;cases p.1 <;> rfl
def wH:Obj->Bool
 | .cells _ t _=>t==100||t==96||t==103||t==9||t==198
 | _=>false
structure aB (w:World) (B mt md:Nat) (la:Option Addr) (lc:Nat) (ia:Option Addr) (ic:Nat) (bl:List (List UInt8)) (tab:List (Option am)) (vs:List Value):Prop where
 box:w.heap[mt]? = some (.cells #[.pointer (some ⟨md,0,none⟩),.slice ia tab.length ic] 100 (0,0))
 disk:bi w md la lc none 0 bl []
 row:w.ownsRow B 96 6 (.slice ia tab.length ic) tab.length ((tab.zip vs).flatMap iL)
 len:vs.length=tab.length
 its:∀(k:Nat) (x:am) (v:Value),tab[k]? = some (some x)->vs[k]? = some v->aU w v (aD x.blocks)
structure aN (T0:Nat) (w w':World):Prop where
 os:w'.os=w.os
 tape:w'.tape=w.tape
 output:w'.output=w.output
 size:w.heap.size<=w'.heap.size
 block:∀(k:Nat) (o:Obj),w.heap[k]? = some o->(k<T0∨wH o=false)->w'.heap[k]? = some o
namespace aN
variable {T0 : Nat} {w w' w'' : World}
theorem refl (T0:Nat) (w:World):aN T0 w w:=⟨rfl,rfl,rfl,jd _,fun _ _ h _=>h⟩
theorem trans (h:aN T0 w w') (h':aN T0 w' w''):aN T0 w w'' :=
 ⟨h'.os.trans h.os,h'.tape.trans h.tape,h'.output.trans h.output,jm h.size h'.size,fun k o hk hp=>h'.block k o (h.block k o hk hp) hp⟩
theorem of_below (h:Bl w w'):aN T0 w w':=⟨h.os,h.tape,h.output,h.size,fun k o hk _=>by rw [h.block k (ja.1 hk).1];exact hk⟩
end aN
theorem sG {α β:Type} {l:List α} {m:List β} {k:Nat} {x:α} {y:β} (h:l[k]? = some x) (h':m[k]? = some y):(l.zip m)[k]? = some (x,y):=by
 rw [List.getElem?_zip_eq_some];exact ⟨h,h'⟩
section
variable {w w' : World} {B mt md : Nat} {la : Option Addr} {lc : Nat} {ia : Option Addr} {ic : Nat} {bl : List (List UInt8)} {tab : List (Option am)} {vs : List Value}
theorem c6:∀p∈tab.zip vs,(iL p).length=6:=fun p _=>oh p
theorem bi.turn {p:Obj->Bool} {la wa:Option Addr} {lc wcp:Nat} {bl:List (List UInt8)} {wt:List (Nat×List UInt8)} (M:bi w md la lc wa wcp bl wt) (h:aO p w w') (h1:∀c f,p (.cells c 103 f)=false) (h2:∀c f,p (.cells c 9 f)=false) (h3:∀c f,p (.cells c 198 f)=false):bi w' md la lc wa wcp bl wt :=
 M.ext fun k hk=>by
  rcases hk with rfl|⟨a,ha,rfl⟩|⟨a,ha,rfl⟩
  ·rw [M.disk];exact h _ _ M.disk (h1 _ _)
  ·obtain ⟨_,_,cur,h2',_⟩:=eR M.lrow ha
   rw [h2'];exact h _ _ h2' (h2 _ _)
  ·obtain ⟨_,_,cur,h2',_⟩:=eR M.wrow ha
   rw [h2'];exact h _ _ h2' (h3 _ _)
theorem zc {e:TypeId} {size n:Nat} {v:Value} {xs:List Value} (h:w.ownsRow B e size v n xs) (hb:∀(k:Nat) (cur:Array Value),w.heap[k]? = some (.cells cur e (0,0))->w'.heap[k]? = some (.cells cur e (0,0))):w'.ownsRow B e size v n xs:=by
 refine ⟨h.1,?_⟩
 rcases h.2 with h2|⟨g,cap,cur,e1,e2,e3,e4⟩
 ·exact .inl h2
 ·exact .inr ⟨g,cap,cur,e1,e2,hb g cur e3,e4⟩
theorem aB.turn {p:Obj->Bool} (M:aB w B mt md la lc ia ic bl tab vs) (h:aO p w w') (h0:∀c f,p (.cells c 100 f)=false) (h1:∀c f,p (.cells c 103 f)=false) (h2:∀c f,p (.cells c 9 f)=false) (h3:∀c f,p (.cells c 198 f)=false) (h4:∀c f,p (.cells c 96 f)=false) (h5:∀c f,p (.cells c 3 f)=false):aB w' B mt md la lc ia ic bl tab vs :=
 ⟨h _ _ M.box (h0 _ _),M.disk.turn h h1 h2 h3,zc M.row fun _ _ hk=>h _ _ hk (h4 _ _),M.len,fun k x v hk hv=>(M.its k x v hk hv).turn h h5⟩
theorem aB.below (M:aB w B mt md la lc ia ic bl tab vs) (h:Bl w w'):aB w' B mt md la lc ia ic bl tab vs :=
 M.turn (aO.of_below (p:=fun _=>false) h) (fun _ _=>rfl) (fun _ _=>rfl) (fun _ _=>rfl) (fun _ _=>rfl) (fun _ _=>rfl) (fun _ _=>rfl)
theorem aB.cells (M:aB w B mt md la lc ia ic bl tab vs):w.cell? ⟨mt,0,none⟩=some (.pointer (some ⟨md,0,none⟩))/\w.cell? ⟨mt,1,none⟩=some (.slice ia tab.length ic)/\w.frozen? ⟨mt,1,none⟩=false:=by
 refine ⟨?_,?_,by simp [World.frozen?,M.box]⟩ <;> rw [ze _ _ _ _ _ _ M.box] <;> rfl
theorem aB.slot (M : aB w B mt md la lc ia ic bl tab vs) {k : Nat} {o : Option am} (hk : tab[k]? = some o) : ∃ v g, vs[k]? = some v ∧ ia = some ⟨g, 0, none⟩ ∧ (∀ i c, (iL (o, v))[i]? = some c → w.cell? ⟨g, k * 6 + i, none⟩ = some c) ∧ (∀ i, w.frozen? ⟨g, i, none⟩ = false) := by
  have hl := (jb.1 hk).1;have hv : vs[k]? = some (vs[k]'(by rw [M.len]; exact hl)) := jc _
  rcases M.row.2 with ⟨_, h0⟩ | ⟨g, c, cur, e, _⟩
  · omega
  · simp only [jo] at e
    obtain ⟨rfl, _, rfl⟩ := e;refine ⟨_, g, hv, rfl, fun i cc hi => ?_, fun i => World.ownsRow.frozenAt M.row i⟩;have hi6 : i < 6 := by have := (jb.1 hi).1; rw [oh] at this; exact this
    rw [World.ownsRow.cellAt M.row (k * 6 + i) (by have : k * 6 + 6 ≤ tab.length * 6 := by omega
                                                   omega), nt c6 (sG hk hv) hi6]
    exact hi
theorem aB.ty {g:Nat} (M:aB w B mt md la lc (some ⟨g,0,none⟩) ic bl tab vs):∃cur,w.heap[g]? = some (.cells cur 96 (0,0)):=by
 rcases M.row.2 with ⟨h,_⟩|⟨g',c,cur,e,_,h,_⟩
 ·simp at h
 ·simp only [jo,jh,qH] at e
  obtain ⟨⟨rfl,_⟩,_⟩:=e;exact ⟨cur,h⟩
theorem aB.rowed {g:Nat} {tab':List (Option am)} {vs':List Value} (M:aB w B mt md la lc (some ⟨g,0,none⟩) ic bl tab vs) (hk:∀k,k≠g->w'.heap[k]? = w.heap[k]?) (hr:w'.ownsRow B 96 6 (.slice (some ⟨g,0,none⟩) tab.length ic) tab.length ((tab'.zip vs').flatMap iL)) (hl:tab'.length=tab.length) (hl':vs'.length=tab'.length)
  (hi:∀(k:Nat) (x:am) (v:Value),tab'[k]? = some (some x)->vs'[k]? = some v->aU w v (aD x.blocks)):aB w' B mt md la lc (some ⟨g,0,none⟩) ic bl tab' vs':=by
 obtain ⟨cg,hg⟩:=M.ty
 have ht:aO (fun o=>match o with | .cells _ t _=>t==96|_=>false) w w':=fun k o hk2 hp=>by
  rw [hk k (fun e=>by rw [e,hg] at hk2;cases hk2;exact absurd (show true=false from hp) (by simp))];exact hk2
 exact ⟨by rw [hl];exact ht _ _ M.box rfl,M.disk.turn ht (fun _ _=>rfl) (fun _ _=>rfl) (fun _ _=>rfl),by rw [hl];exact hr,hl',fun k x v h1 h2=>(hi k x v h1 h2).turn ht (fun _ _=>rfl)⟩
theorem aB.but {g:Nat} (M:aB w B mt md la lc (some ⟨g,0,none⟩) ic bl tab vs) {T0:Nat} (hT:T0<=B) (hg:w.grownBy w' (some g)):aN T0 w w':=by
 obtain ⟨cg,hc⟩:=M.ty;have hgB:B<=g:=(qj M.row g rfl).1;refine ⟨hg.os,hg.tape,hg.output,hg.size,fun k o hk hp=>?_⟩;rw [hg.block k (ja.1 hk).1 (fun e=>?_)]
 ·exact hk
 ·cases e
  rcases hp with hp|hp
  ·omega
  ·rw [hc] at hk;cases hk;exact absurd (show true=false from hp) (by simp)
theorem aB.links {g k:Nat} {x:am} (M:aB w B mt md la lc (some ⟨g,0,none⟩) ic bl tab vs) (hx:tab[k]? = some (some x)) (l:Nat):aB (w.setCell ⟨g,k*6+2,none⟩ (.int .i64 (l:Int))) B mt md la lc (some ⟨g,0,none⟩) ic bl (tab.set k (some { x with links:=l })) vs:=by
 obtain ⟨v,g',hv,e,_⟩:=M.slot hx;have hl:=(jb.1 hx).1;refine M.rowed (fun q hq=>jf _ _ _ _ hq) ?_ (by simp) (by simp [M.len]) (fun q y z h1 h2=>?_)
 ·have h:=(yp M.row (k*6+2) (.int .i64 (l:Int))).1
  rw [lz (y:=(some { x with links:=l },v)) c6 (sG hx hv) (by omega) rfl] at h
  have e2:(tab.zip vs).set k (some { x with links:=l },v)=(tab.set k (some { x with links:=l })).zip vs:=by
   apply List.ext_getElem?
   intro q;by_cases hq:q=k
   ·subst hq
    rw [jM (by rw [List.length_zip,M.len];omega),sG (jM hl) hv]
   ·rw [jV (fun h=>hq h.symm)]
    simp only [List.zip,yx,jV (fun h=>hq h.symm)]
  rw [e2] at h;exact h
 ·by_cases hq:q=k
  ·subst hq
   rw [jM hl] at h1;cases h1
   exact M.its q x z hx h2
  ·rw [jV (fun h=>hq h.symm)] at h1
   exact M.its q y z h1 h2
theorem IB (xs:List Value) (o:Nat) (a b c d e f:Value) (h:o+6<=xs.length):(((((xs.set o a).set (o+1) b).set (o+2) c).set (o+3) d).set (o+4) e).set (o+5) f=over xs o [a,b,c,d,e,f]:=by
 rw [<-fM _ _ _ _ (by omega),<-fM _ _ _ _ (by simp;omega),<-fM _ _ _ _ (by simp;omega),<-fM _ _ _ _ (by simp;omega),<-fM _ _ _ _ (by simp;omega),<-fM _ _ _ _ (by simp;omega)]
 simp [over]
def kR (w:World) (g o:Nat) (a b c d e f:Value):World:=(((((w.setCell ⟨g,o,none⟩ a).setCell ⟨g,o+1,none⟩ b).setCell ⟨g,o+2,none⟩ c).setCell ⟨g,o+3,none⟩ d).setCell ⟨g,o+4,none⟩ e).setCell ⟨g,o+5,none⟩ f
theorem sH (w:World) (g o:Nat) (a b c d e f:Value) {k:Nat} (h:k≠g):(kR w g o a b c d e f).heap[k]? = w.heap[k]? := by
 unfold kR;rw [jf _ _ _ _ h,jf _ _ _ _ h,jf _ _ _ _ h,jf _ _ _ _ h,jf _ _ _ _ h,jf _ _ _ _ h]
theorem lS (w:World) (g i:Nat) (v:Value):w.grownBy (w.setCell ⟨g,i,none⟩ v) (some g) :=
 ⟨rfl,rfl,rfl,by simp [World.setCell],fun k _ hk=>jf _ _ _ _ (fun e=>hk (by rw [e]))⟩
theorem ph {w w1 w2:World} {g:Option Nat} (h:w.grownBy w1 g) (h':w1.grownBy w2 g):w.grownBy w2 g :=
 ⟨h'.os.trans h.os,h'.tape.trans h.tape,h'.output.trans h.output,jm h.size h'.size,fun k hk hne=>(h'.block k (jn hk h.size) hne).trans (h.block k hk hne)⟩
theorem sI (w:World) (g o:Nat) (a b c d e f:Value):w.grownBy (kR w g o a b c d e f) (some g) :=
 ph (ph (ph (ph (ph (lS w g o a) (lS _ g _ b)) (lS _ g _ c)) (lS _ g _ d)) (lS _ g _ e)) (lS _ g _ f)
theorem aB.put {g k:Nat} {o0 o:Option am} {v a b c d e f:Value} (M:aB w B mt md la lc (some ⟨g,0,none⟩) ic bl tab vs) (hx:tab[k]? = some o0) (hc:iL (o,v) = [a,b,c,d,e,f]) (hi:∀x,o=some x->aU w v (aD x.blocks)):aB (kR w g (k*6) a b c d e f) B mt md la lc (some ⟨g,0,none⟩) ic bl (tab.set k o) (vs.set k v):=by
 obtain ⟨v0,g',hv,_⟩:=M.slot hx;have hl:=(jb.1 hx).1;have hl':=(jb.1 hv).1;refine M.rowed (fun q hq=>sH _ _ _ _ _ _ _ _ _ hq) ?_ (by simp) (by simp [M.len]) (fun q y z h1 h2=>?_)
 ·have hxl:((tab.zip vs).flatMap iL).length=tab.length*6:=by rw [ly c6,List.length_zip,M.len,Nat.min_self]
  have r0:=(yp M.row (k*6) a).1;have r1:=(yp r0 (k*6+1) b).1;have r2:=(yp r1 (k*6+2) c).1;have r3:=(yp r2 (k*6+3) d).1;have r4:=(yp r3 (k*6+4) e).1;have r5:=(yp r4 (k*6+5) f).1;rw [IB _ _ _ _ _ _ _ _ (by rw [hxl];omega),<-hc,tW (y:=(o,v)) c6 (sG hx hv) (oh _)] at r5
  have e2:(tab.zip vs).set k (o,v)=(tab.set k o).zip (vs.set k v):=by
   apply List.ext_getElem?
   intro q;by_cases hq:q=k
   ·subst hq
    rw [jM (by rw [List.length_zip,M.len];omega),sG (jM hl) (jM hl')]
   ·rw [jV (fun h=>hq h.symm)]
    simp only [List.zip,yx,jV (fun h=>hq h.symm)]
  rw [e2] at r5;exact r5
 ·by_cases hq:q=k
  ·subst hq
   rw [jM hl] at h1;rw [jM hl'] at h2;cases h1;cases h2
   exact hi y rfl
  ·rw [jV (fun h=>hq h.symm)] at h1 h2
   exact M.its q y z h1 h2
def fE (tab:List (Option am)) (b:Nat):Bool:=tab.any fun o=>match o with
 | some x=>x.blocks.contains b
 | none=>false
def freeM (tab:List (Option am)) (n:Nat):List Nat:=(List.range n).filter fun b=>!fE tab b
theorem uB {tab:List (Option am)} {b:Nat}:fE tab b=true↔∃k x,af tab k=some x/\b∈x.blocks:=by
 unfold fE;rw [List.any_eq_true]
 constructor
 ·rintro ⟨o,ho,h⟩
  obtain ⟨k,hk⟩:=List.mem_iff_getElem?.1 ho
  cases o with
  | none=>cases h
  | some x=>exact ⟨k,x,iW hk,by simpa using h⟩
 ·rintro ⟨k,x,hx,hb⟩
  exact ⟨some x,jg (cO hx),by simpa using hb⟩
theorem bz.freeM {N:Nat} {bl:List (List UInt8)} {u:List Bool} {tab:List (Option am)} (S:bz N bl u tab):freeM tab N=aE u:=by
 unfold Proofs.YtcflefeedcihjaaGreatDoor.freeM aE cJ;rw [S.lu]
 apply List.filter_congr
 intro b hb;have hbN:b<u.length:=by rw [S.lu];simpa using hb
 rw [jc hbN];simp only [Option.getD_some]
 congr 1
 rw [Bool.eq_iff_iff,uB]
 constructor
 ·rintro ⟨k,x,hx,h⟩
  have:=(S.own k x hx).2.1 b h
  rw [jc hbN] at this
  simpa using this
 ·intro h
  exact S.all b (by rw [jc hbN,h])
end
end
section
set_option maxRecDepth 100000
open Go.RowKit

structure sJ (tab:List (Option am)):Prop where
 len:tab.length<=5000
 blocks:∀k x,af tab k=some x->x.blocks.length<=1000
section
variable {w w' : World} {B mt md : Nat} {la : Option Addr} {lc : Nat} {ia : Option Addr} {ic : Nat} {bl : List (List UInt8)} {tab : List (Option am)} {vs : List Value}
theorem pi (k:Int) (w:World) (M:aB w B mt md la lc ia ic bl tab vs) :
  Cl 60 #[.pointer (some ⟨mt,0,none⟩),.int .i64 k] w fun e w'=>e = .returned (.bool (eV tab k).isSome)/\w'=w:=by
 obtain ⟨_,c1,_⟩:=M.cells;by_cases h0:0<=k
 ·by_cases h1:k<(tab.length:Int)
  ·obtain ⟨j,rfl⟩:∃j:Nat,k=(j:Int):=⟨k.toNat,by omega⟩
   have hj:j<tab.length:=(by omega);obtain ⟨v,g,_,rfl,hc,_⟩:=M.slot (jc hj)
   have c0:w.cell? ⟨g,j*6,none⟩=some (.bool (eV tab (j:Int)).isSome):=by
    rw [fN,iW (jc hj)];have h:=hc 0;rw [yh] at h
    apply h
    cases tab[j] <;> rfl
   generalize (eV tab (j:Int)).isSome=r at *;have hn:¬(j:Int)<0:=(by omega);have hge:¬(tab.length:Int)<=(j:Int):=(by omega);clear M hc h0;go_enter Tryz.func60,Tryz.ntmps60;go_wp2_with fail
   go_ret;exact ⟨rfl,rfl⟩
  ·have e:eV tab k=none:=by
    unfold eV;rw [zj h0];unfold af;rw [qw (by omega)];rfl
   rw [e];have hn:¬k<0:=(by omega);have hge:(tab.length:Int)<=k:=(by omega);clear M h0 h1 e;go_enter Tryz.func60,Tryz.ntmps60;go_wp2_with fail
   go_ret;exact ⟨rfl,rfl⟩
 ·have e:eV tab k=none:=by unfold eV;rw [zi h0]
  rw [e];have hn:k<0:=(by omega);clear M h0 e;go_enter Tryz.func60,Tryz.ntmps60;go_wp2_with fail
  go_ret;exact ⟨rfl,rfl⟩
def lT (tab:List (Option am)) (b j:Nat):Bool:=fE (tab.take j) b
theorem xJ {b j:Nat} {o:Option am} (h:tab[j]? = some o):lT tab b (j+1)=(lT tab b j||fE [o] b):=by
 obtain ⟨hj,e⟩:=jb.1 h;unfold lT fE;rw [ju hj,List.any_append,e]
theorem AC (l:List Nat) (b:Nat):gq (aD l) (b:Int) (aD l).length=l.contains b:=by
 unfold gq;rw [jS,Bool.eq_iff_iff];simp only [aD,List.any_map,List.any_eq_true,Function.comp,beq_iff_eq,List.contains_iff_mem];exact ⟨fun ⟨x,hx,h⟩=>by rw [<-Int.ofNat.inj h];exact hx,fun h=>⟨b,h,rfl⟩⟩
theorem Ho (b:Nat) (w:World) (M:aB w B mt md la lc ia ic bl tab vs) (O:sJ tab) :
  Cl 87 #[.pointer (some ⟨mt,0,none⟩),.int .i64 (b:Int)] w fun e w'=>e = .returned (.bool (fE tab b))/\w'=w:=by
 obtain ⟨_,c1,_⟩:=M.cells;have HM:Hid _:=M;have hl:=O.len;have HO:Hid _:=O;clear M O;go_enter Tryz.func87,Tryz.ntmps87;go_wp2_with fail
 go_loopw [5] (fun i wr=>∃j:Nat,j<=tab.length/\i = .int .i64 j/\wr=w/\lT tab b j=false) (fun i _=>tab.length-(intOf i).toNat)
 case atStart=>exact ⟨0,jq _,rfl,rfl,rfl⟩
 case round =>
  obtain ⟨j,hj,rfl,rfl,hu⟩:=hrel;have HU:=kH hu;clear hu;by_cases hlt:j<tab.length
  ·obtain ⟨o,ho⟩:∃o,tab[j]? = some o:=⟨_,jc hlt⟩
   obtain ⟨v,g,hv,rfl,hc,_⟩:=aB.slot HM.out ho;have HN:Hid (lT tab b (j+1)=fE [o] b):=by show _=_;rw [xJ ho,HU.out];rfl
   cases o with
   | none =>
    have c0:wr.cell? ⟨g,j*6,none⟩=some (.bool false):=hc 0 _ rfl;clear hc ho hv;go_wp2_with fail
    exact ⟨⟨j+1,by omega,by simp,by first|rfl|trivial,by rw [HN.out];rfl⟩,by simp [intOf];omega⟩
   | some x =>
    have c0:wr.cell? ⟨g,j*6,none⟩=some (.bool true):=hc 0 _ rfl;have c4:wr.cell? ⟨g,j*6+4,none⟩=some v:=hc 4 _ rfl;have iv:=aB.its HM.out j x v ho hv;have HH:=pV v (aD x.blocks) (b:Int) wr iv.at (by rw [cU];have:=sJ.blocks HO.out j x (iW ho);omega);rw [AC] at HH;have HN2:Hid (lT tab b (j+1)=x.blocks.contains b):=by show _=_;rw [HN.out];simp [fE]
    have HALL:Hid (x.blocks.contains b=true->fE tab b=true):=fun h=>uB.2 ⟨j,x,iW ho,by simpa using h⟩;clear hc ho hv iv;generalize x.blocks.contains b=r at *
    cases r with
    | true =>
     have HT:Hid (fE tab b=true):=HALL.out rfl
     go_wp2_with (go_at_call 137;refine HH.mono ?_;rintro e w2 ⟨rfl,hw⟩;rw [hw];clear hw)
     go_ret;exact ⟨by rw [HT.out];rfl,rfl⟩
    | false =>
     go_wp2_with (go_at_call 137;refine HH.mono ?_;rintro e w2 ⟨rfl,hw⟩;rw [hw];clear hw)
     exact ⟨⟨j+1,by omega,by simp,by first|rfl|trivial,HN2.out⟩,by simp [intOf];omega⟩
  ·obtain rfl:j=tab.length:=by omega
   have HF:Hid (fE tab b=false):=(by have:=HU.out;unfold lT at this;rwa [jS] at this);go_wp2_with fail
   go_ret;exact ⟨by rw [HF.out];rfl,rfl⟩
theorem wI (s:Nat) (hs:s<=100000) (w:World):Cl 103 #[.int .i64 (s:Int)] w fun e w'=>e = .returned (.int .i64 (aC s:Int))/\w'=w:=by
 have h16:∀j:Nat,j<aC s↔(0:Int)<(s:Int)-16*(j:Int):=fun j=>by unfold aC;omega
 have HH:Hid _:=h16;have hnd:aC s<=10000:=by unfold aC;omega
 clear h16;generalize aC s=nd at *;go_enter Tryz.func103,Tryz.ntmps103;go_wp2_with fail
 go_loopw [0,3] (fun b n wr=>∃j:Nat,j<=nd/\b = .int .i64 ((s:Int)-16*(j:Int))/\n = .int .i64 j/\wr=w) (fun _ n _=>nd-(intOf n).toNat)
 case atStart=>exact ⟨0,jq _,by simp,rfl,rfl⟩
 case round =>
  obtain ⟨j,hj,rfl,rfl,rfl⟩:=hrel;by_cases hlt:j<nd
  ·have hp:=(HH.out j).1 hlt
   go_wp2_with fail
   exact ⟨⟨j+1,by omega,by simp;omega,by simp,by first|rfl|trivial⟩,by simp [intOf];omega⟩
  ·obtain rfl:j=nd:=by omega
   have hp:¬(0:Int)<(s:Int)-16*(j:Int):=fun h=>absurd ((HH.out j).2 h) (by omega);go_wp2_with fail
   go_ret;exact ⟨rfl,rfl⟩
theorem AD (tab:List (Option am)) (n:Nat):freeM tab (n+1)=if fE tab n then freeM tab n else freeM tab n ++ [n]:=by
 unfold freeM;rw [qJ,yy];cases h:fE tab n <;> simp [h]
theorem pj (tab:List (Option am)) (n:Nat):(freeM tab n).length<=n:=by
 unfold freeM;exact jm (qu _ _) (by simp)
def mz (tab:List (Option am)) (n:Nat):List Nat:=(List.range n).filter fun k=>(af tab k).isSome
theorem Cn (tab:List (Option am)) (n:Nat):mz tab (n+1)=if (af tab n).isSome then mz tab n ++ [n] else mz tab n:=by
 unfold mz;rw [qJ,yy];cases h:(af tab n).isSome <;> simp [h]
theorem EO (tab:List (Option am)) (n:Nat):(mz tab n).length<=n:=by
 unfold mz;exact jm (qu _ _) (by simp)
theorem bi.lcell {w:World} {md:Nat} {la wa:Option Addr} {lc wcp:Nat} {bl:List (List UInt8)} {wt:List (Nat×List UInt8)} (M:bi w md la lc wa wcp bl wt):w.cell? ⟨md,0,none⟩=some (.slice la bl.length lc):=by
 rw [ze _ _ _ _ _ _ M.disk];rfl
theorem pk (w:World) (M:aB w B mt md la lc ia ic bl tab vs) (O:sJ tab) (hbl:bl.length<=512) :
  Cl 40 #[.pointer (some ⟨mt,0,none⟩)] w fun e w'=>∃v,e = .returned v/\bR w' w.heap.size v (freeM tab bl.length)/\Bl w w':=by
 obtain ⟨i0,hi0,hz0,hz1,hz2⟩:=info_parts rL;have HM:Hid _:=M;have HUS:Hid (∀(b:Nat) (W:World),Bl w W->Cl 87 #[.pointer (some ⟨mt,0,none⟩),.int .i64 (b:Int)] W fun e w'=>e = .returned (.bool (fE tab b))/\w'=W):=fun b W hW=>Ho b W (M.below hW) O;have HCL:Hid (∀W,Bl w W->(W.cell? ⟨mt,0,none⟩=some (.pointer (some ⟨md,0,none⟩))/\W.cell? ⟨md,0,none⟩=some (.slice la bl.length lc))):=fun W hW=>⟨(M.below hW).cells.1,(M.below hW).disk.lcell⟩;clear M O;generalize bl.length=N at *;go_enter Tryz.func40,Tryz.ntmps40;go_wp2_with fail
 go_loopw [3,4] (fun l i wr=>∃j:Nat,j<=N/\i = .int .i64 j/\bR wr w.heap.size l (freeM tab j)/\Bl w wr) (fun _ i _=>N-(intOf i).toNat)
 case atStart=>exact ⟨0,jq _,rfl,bR.nil _ _,je _ _⟩
 case round =>
  obtain ⟨j,hj,rfl,ho,hb⟩:=hrel;have HO:=kH ho;have HB:=kH hb;obtain ⟨c0,c1⟩:=HCL.out wr hb;by_cases hlt:j<N
  ·have HN:=kH (AD tab j)
   have HC:=HUS.out j wr hb;have hwl:=pj tab j;clear ho hb
   cases hp:fE tab j with
   | false =>
    rw [hp] at HC HN;have hsz:=HB.out.size;obtain ⟨m,xs,HMm,HO1⟩:∃m xs,Hid (m=(freeM tab j).length/\xs=(aD (freeM tab j)).map (Value.int .i64))/\Hid (∀X,(wr.alloc X).ownsRow w.heap.size 3 1 u3 m xs):=⟨_,_,⟨rfl,rfl⟩,fun X=>bR.alloc HO.out X⟩;have hm5:m<=512:=by rw [HMm.out.1];omega
    go_wp2_with (first
     | (go_at_call 87;refine HC.mono ?_;rintro e w2 ⟨rfl,hw⟩;rw [hw];clear hw)
     | (at_builtin;refine zt _ (by rfl) (.tmp 23) (.tmp 25) 58 (by rfl) w.heap.size 3 i0 _ 1 8 Tryz.underlying58 hi0 hz0 hz1 hz2 rfl (by omega) _ m _ (by rfl) (HO1.out _) ⟨wr.heap.size,0,none⟩ 1 1 [.int .i64 (j:Int)] (by rfl) rfl (cell_one_new _ _ _) (fun u hu=>by rw [jF.1 hu];rfl) (by unfold maxLen;omega) (by omega) (by rw [jE];omega) ?_;intro v' w3 hown hgrow _))
    refine ⟨⟨j+1,by omega,by simp,?_,(HB.out.alloc hsz _).grown hgrow (by rw [jE];omega) (fun k hk=>(qj HO.out k hk).1)⟩,by simp [intOf];omega⟩;rw [HN.out];obtain ⟨e1,e2⟩:=HMm.out;rw [e1,e2] at hown;unfold bR
    simpa [aD] using hown
   | true =>
    rw [hp] at HC HN
    go_wp2_with (go_at_call 87;refine HC.mono ?_;rintro e w2 ⟨rfl,hw⟩;rw [hw];clear hw)
    refine ⟨⟨j+1,by omega,by simp,by rw [HN.out];exact HO.out,HB.out⟩,by simp [intOf];omega⟩
  ·obtain rfl:j=N:=by omega
   clear ho hb;go_wp2_with fail
   go_ret;exact ⟨_,rfl,HO.out,HB.out⟩
theorem IC (w:World) (M:aB w B mt md la lc ia ic bl tab vs) (hl:tab.length<=5000) :
  Cl 65 #[.pointer (some ⟨mt,0,none⟩)] w fun e w'=>∃v,e = .returned v/\bR w' w.heap.size v (mz tab tab.length)/\Bl w w':=by
 obtain ⟨i0,hi0,hz0,hz1,hz2⟩:=info_parts rL;have HM:Hid _:=M
 have HCL:Hid (∀W,Bl w W->(W.cell? ⟨mt,1,none⟩=some (.slice ia tab.length ic)/\∀j,j<tab.length->∃g,ia=some ⟨g,0,none⟩/\W.cell? ⟨g,j*6,none⟩=some (.bool (af tab j).isSome))):=fun W hW=>⟨(M.below hW).cells.2.1,fun j hj=>by
  obtain ⟨v,g,_,e,hc,_⟩:=(M.below hW).slot (jc hj);refine ⟨g,e,?_⟩;rw [iW (jc hj)];have h:=hc 0;rw [yh] at h
  apply h
  cases tab[j] <;> rfl⟩
 clear M;obtain ⟨N,HNN⟩:∃N,Hid (N=tab.length):=⟨_,(rfl:tab.length=_)⟩;rw [<-HNN.out] at HCL hl ⊢;go_enter Tryz.func65,Tryz.ntmps65;go_wp2_with fail
 go_loopw [3,4] (fun l i wr=>∃j:Nat,j<=N/\i = .int .i64 j/\bR wr w.heap.size l (mz tab j)/\Bl w wr) (fun _ i _=>N-(intOf i).toNat)
 case atStart=>exact ⟨0,jq _,rfl,bR.nil _ _,je _ _⟩
 case round =>
  obtain ⟨j,hj,rfl,ho,hb⟩:=hrel;have HO:=kH ho;have HB:=kH hb;obtain ⟨c0,hcs⟩:=HCL.out wr hb;by_cases hlt:j<N
  ·obtain ⟨g,rfl,c1⟩:=hcs j hlt
   have HN:=kH (Cn tab j);have hwl:=EO tab j;clear ho hb hcs
   cases hp:(af tab j).isSome with
   | true =>
    rw [hp] at c1 HN;have hsz:=HB.out.size;obtain ⟨m,xs,HMm,HO1⟩:∃m xs,Hid (m=(mz tab j).length/\xs=(aD (mz tab j)).map (Value.int .i64))/\Hid (∀X,(wr.alloc X).ownsRow w.heap.size 3 1 u3 m xs):=⟨_,_,⟨rfl,rfl⟩,fun X=>bR.alloc HO.out X⟩;have hm5:m<=5000:=by rw [HMm.out.1];omega
    clear hp
    go_wp2_with (at_builtin;refine zt _ (by rfl) (.tmp 22) (.tmp 24) 58 (by rfl) w.heap.size 3 i0 _ 1 8 Tryz.underlying58 hi0 hz0 hz1 hz2 rfl (by omega) _ m _ (by rfl) (HO1.out _) ⟨wr.heap.size,0,none⟩ 1 1 [.int .i64 (j:Int)] (by rfl) rfl (cell_one_new _ _ _) (fun u hu=>by rw [jF.1 hu];rfl) (by unfold maxLen;omega) (by omega) (by rw [jE];omega) ?_;intro v' w3 hown hgrow _)
    refine ⟨⟨j+1,by omega,by simp,?_,(HB.out.alloc hsz _).grown hgrow (by rw [jE];omega) (fun k hk=>(qj HO.out k hk).1)⟩,by simp [intOf];omega⟩;rw [HN.out];obtain ⟨e1,e2⟩:=HMm.out;rw [e1,e2] at hown;unfold bR
    simpa [aD] using hown
   | false =>
    rw [hp] at c1 HN;clear hp;go_wp2_with fail
    refine ⟨⟨j+1,by omega,by simp,by rw [HN.out];exact HO.out,HB.out⟩,by simp [intOf];omega⟩
  ·obtain rfl:j=N:=by omega
   clear ho hb hcs;go_wp2_with fail
   go_ret;exact ⟨_,rfl,HO.out,HB.out⟩
end
end
end Go.Proofs.YtcflefeedcihjaaGreatDoor
