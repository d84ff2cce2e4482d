/-
  Dy Dz ShelfN Ea Eb Ords ShelfC Find PAt, joined.
  Conditions: those that each states.
-/
import Derived.Test.YthofhjnfkholoaaGreatDoorQ24
import Derived.Lib.Bytealg
import Derived.Shelf.Small.Strs
import Derived.Deep.LoopGhost
namespace Go.Proofs.YthofhjnfkholoaaGreatDoor
section
set_option maxRecDepth 100000
open Go.RowKit Go.Maps

theorem nO {y:ByteArray×Nat} (fs:List (ByteArray×Nat)):y∈fs->(bT fs y.1).isSome=true:=iM (P:=fun fs=>y∈fs->(bT fs y.1).isSome=true) (fun h=>by cases h) (fun l x ih h=>by
 rw [kO]
 split
 ·rfl
 ·rename_i e
  rcases jT.1 h with h|h
  ·exact ih h
  ·rw [jF.1 h] at e
   exact absurd rfl e) _ fs rfl
structure lC (T0 dp tb mb m1 m2 n1 d bb sp sb cap n N:Nat) (tr:List (Option ah)) (fb:Nat->Nat) (s:aA) (k:Nat) (x:ah) (eb en:Value) (D:DataW Value) (r:Nat) (w0 wr:World) (left:Lit->Bool) (cnt:Nat) (done:List (ByteArray×Nat)):Prop where
 rg:wr.ranges Tryz.prog 9 dS (fb k) r 1000000 D left cnt
 val:∀kl,WideAt.IsKeyLit kl->(∀z,D.atKey kl z=kN (fmap x.fs kl) z)/\Maps.has D kl=(fmap x.fs kl).isSome
 keys:(x.fs.map (·.1)).Nodup
 ne:fb k≠mb
 low:w0.heap.size<=r
 perm:(done++x.fs.filter (fun y=>left (fY y))).Perm x.fs
 ok:eO (cu s (done.map (·.2))) ((x.fs.filter (fun y=>left (fY y))).map (·.2))
 inv:aY N (cu s (done.map (·.2))).bl (cu s (done.map (·.2))).u (cu s (done.map (·.2))).tab
 dir:aL wr T0 dp tb mb m1 m2 n1 d tr fb
 tab:aq wr (fun _=>False) T0 tb bb sp sb cap mb n (cu s (done.map (·.2))).bl (cu s (done.map (·.2))).u (cu s (done.map (·.2))).tab
 but:bE T0 dp w0 wr
 eb:wr.cell? ⟨4,0,none⟩=some eb
 en:wr.cell? ⟨1,0,none⟩=some en
 gT:4<T0/\1<T0
def qc (T0 dp tb mb m1 m2 n1 d bb sp sb cap n N:Nat) (tr:List (Option ah)) (fb:Nat->Nat) (s:aA) (x:ah) (w0 wr:World):Prop :=
 ∃l,l.Perm (x.fs.map (·.2))/\aL wr T0 dp tb mb m1 m2 n1 d tr fb/\aq wr (fun _=>False) T0 tb bb sp sb cap mb n (cu s l).bl (cu s l).u (cu s l).tab/\aY N (cu s l).bl (cu s l).u (cu s l).tab/\bE T0 dp w0 wr
section
variable {T0 dp tb mb m1 m2 n1 d bb sp sb cap n N k r cnt : Nat} {tr : List (Option ah)} {fb : Nat → Nat} {s : aA} {x : ah} {eb en : Value} {D : DataW Value} {w0 wr : World} {left : Lit → Bool} {done : List (ByteArray × Nat)}
theorem lC.ends (J:lC T0 dp tb mb m1 m2 n1 d bb sp sb cap n N tr fb s k x eb en D r w0 wr left cnt done) (h:∀kl,left kl=false):qc T0 dp tb mb m1 m2 n1 d bb sp sb cap n N tr fb s x w0 wr:=by
 have hp:=J.perm;rw [List.filter_eq_nil_iff.2 (fun y _=>by simp [h]),qz] at hp;exact ⟨_,hp.map _,J.dir,J.tab,J.inv,J.but⟩
theorem lC.more {w1:World} {cnt1:Nat} {p:ByteArray} {c:Value} {kl:Lit} {y:DataW Value×List MemPlace} (J:lC T0 dp tb mb m1 m2 n1 d bb sp sb cap n N tr fb s k x eb en D r w0 wr left cnt done) (hkey:keyOf Tryz.prog 9 (.string p)=some kl) (hl:left kl=true) (hv:dS c=some y) (hat:∀zd,D.atKey kl zd=y.1) (hrg:w1.ranges Tryz.prog 9 dS (fb k) r 1000000 D (fun z=>left z && !z.sameKey kl) cnt1) (hlt:cnt1<cnt) (hg:wr.grownBy w1 (some r)) (hs:w1.heap.size=wr.heap.size) :
  ∃i:Nat,c = .int .i64 (i:Int)/\w1.cell? ⟨dp,0,none⟩=some (.pointer (some ⟨tb,0,none⟩))/\Cl 31 #[.pointer (some ⟨tb,0,none⟩),.int .i64 (i:Int)] w1 fun e w2=>e = .returned .nilIface/\(∃left' cnt' done',lC T0 dp tb mb m1 m2 n1 d bb sp sb cap n N tr fb s k x eb en D r w0 w2 left' cnt' done')/\w2.rangeLeft (fb k) r<wr.rangeLeft (fb k) r:=by
 obtain ⟨p',ep,rfl⟩:=rJ hkey;cases ep
 have hy:y.1 = .held c:=by simp only [dS,jh] at hv;rw [<-hv]
 have hf:fmap x.fs (.string p.data.toList)=some c:=by
  cases h:fmap x.fs (.string p.data.toList) with
  | none =>
   have h1:=(J.val (.string p.data.toList) trivial).1 (.lit (.int .i64 0));rw [hat,hy,h] at h1;cases h1
  | some v =>
   have h1:=(J.val (.string p.data.toList) trivial).1 (.lit (.int .i64 0));rw [hat,hy,h] at h1;simp only [kN,DataW.held.injEq] at h1;rw [h1]
 rw [fW p _ _ rfl] at hf;obtain ⟨i,hi,rfl⟩:=qP.1 hf;have hm:=fu _ hi;have hp:=vH (left:=left) (z:=(p,i)) hl J.keys hm;have hok:=J.ok.perm (hp.map (·.2));rw [jH] at hok;obtain ⟨z,hz,_,hz2⟩:=hok i (jy ..);have hst:=hok.step hz;have hun:=tK s (done.map (·.2)) i hz;rw [<-hun] at hst;obtain ⟨⟨es,cl,ob⟩,⟨m,sv,vv,cv,oi⟩⟩:=gG J.rg
 have ht:am EG wr w1:=fun q o hq hp'=>by
  rw [hg.block q (ja.1 hq).1 (fun e=>?_)]
  ·exact hq
  ·rw [jO e,oi] at hq;cases hq;cases hp'
 have D1:=J.dir.iter (by rw [hs];exact jd _) ht;have T1:=J.tab.iter ht
 have P1:bE T0 dp w0 w1:=⟨hg.os.trans J.but.os,hg.tape.trans J.but.tape,hg.output.trans J.but.output,by rw [hs];exact J.but.size,fun q o hq hp' hne=>by
  have h1:=J.but.block q o hq hp' hne;have h2:=(ja.1 hq).1;have h3:=J.low;rw [hg.block q (ja.1 h1).1 (fun e=>by cases e;omega)];exact h1⟩
 have cE:∀(g:Nat) (v:Value),wr.cell? ⟨g,0,none⟩=some v->w1.cell? ⟨g,0,none⟩=some v:=fun g v hv=>by
  have hne:g≠r:=fun e=>(by rw [e] at hv;simp [World.cell?,oi] at hv);rw [jl (a:=⟨g,0,none⟩) (hg.block g (ji wr _ hv) (fun e=>hne (jO e)))];exact hv
 refine ⟨i,rfl,D1.cells.1,(nM i z eb en hz hz2 T1 J.inv (cE _ _ J.eb) (cE _ _ J.en) J.gT).mono fun e w2 ⟨he,T2,B2⟩=>⟨he,⟨(fun z=>left z && !z.sameKey (.string p.data.toList)),cnt1,done ++ [(p,i)],?_⟩,?_⟩⟩
 ·have rg2:=pM hrg (fun o ho=>B2.maps _ o ho (by
   obtain ⟨⟨es1,cl1,ob1⟩,_⟩:=gG hrg;rw [ob1] at ho;cases ho;rfl) J.ne) (fun o ho=>B2.block _ o ho (.inr (by
   obtain ⟨_,⟨m1,sv1,vv1,cv1,oi1⟩⟩:=gG hrg;rw [oi1] at ho;cases ho;rfl)))
  have em:(done ++ [(p,i)]).map (·.2)=done.map (·.2) ++ [i]:=(by simp);refine ⟨rg2,J.val,J.keys,J.ne,J.low,?_,?_,?_,D1.but B2,?_,P1.trans (bE.of_tb B2),B2.cellE J.gT.1 (cE _ _ J.eb),B2.cellE J.gT.2 (cE _ _ J.en),J.gT⟩
  ·rw [jK]
   exact (List.Perm.append_left done hp.symm).trans J.perm
  ·rw [em];exact hst
  ·rw [em,hun];exact yL J.inv hz
  ·rw [em,hun];exact T2
 ·have rg2:=pM hrg (fun o ho=>B2.maps _ o ho (by
   obtain ⟨⟨es1,cl1,ob1⟩,_⟩:=gG hrg;rw [ob1] at ho;cases ho;rfl) J.ne) (fun o ho=>B2.block _ o ho (.inr (by
   obtain ⟨_,⟨m1,sv1,vv1,cv1,oi1⟩⟩:=gG hrg;rw [oi1] at ho;cases ho;rfl)))
  rw [rg2.left_eq,J.rg.left_eq];exact hlt
theorem Ca {ops:Array Oper} {rest:List Oper} {o:Oper} {a:Act} {Q:Exit->Act->World->Prop} (J:lC T0 dp tb mb m1 m2 n1 d bb sp sb cap n N tr fb s k x eb en D r w0 wr left cnt done) (hgd:o.guard=none) (it:Operand) (hop:o.op=Op.next it false) (hit:a.eval it = .pointer (some ⟨r,0,none⟩))
  (hDone:Hid (qc T0 dp tb mb m1 m2 n1 d bb sp sb cap n N tr fb s x w0 wr)->wpList Tryz.prog ops Q rest (a.put o.dst (.tuple #[.bool false])) wr)
  (hMore:∀(p:ByteArray) (i:Nat) (w1:World),w1.cell? ⟨dp,0,none⟩=some (.pointer (some ⟨tb,0,none⟩))->Hid (Cl 31 #[.pointer (some ⟨tb,0,none⟩),.int .i64 (i:Int)] w1 fun e w2=>e = .returned .nilIface/\(∃left' cnt' done',lC T0 dp tb mb m1 m2 n1 d bb sp sb cap n N tr fb s k x eb en D r w0 w2 left' cnt' done')/\w2.rangeLeft (fb k) r<wr.rangeLeft (fb k) r)->(Instr.entry (.pointer (some ⟨r,0,none⟩))).run Tryz.prog w1 = .ok (.tuple #[.string p,.int .i64 (i:Int)]) w1->wpList Tryz.prog ops Q rest (a.put o.dst (.tuple #[.bool true,.string p,.int .i64 (i:Int)])) w1) :
  wpList Tryz.prog ops Q (o :: rest) a wr :=
 wpList_next_ranges wr hgd it hop 9 ls dS Value.string (fun v:Value=>v) (fun key kl h=>by obtain ⟨p,e,_⟩:=rJ h;exact ⟨p,e⟩) (fun v y _=>⟨v,rfl⟩) (fb k) r 1000000 D left cnt hit J.rg (fun _ hl=>hDone (J.ends hl)) (fun p c kl y w1 cnt1 hkey hl hv hat hrg hlt hg hs hen=>by
  obtain ⟨i,rfl,h1,h2⟩:=J.more hkey hl hv hat hrg hlt hg hs;exact hMore p i w1 h1 h2 hen)
end
end
section
set_option maxHeartbeats 2000000
set_option maxRecDepth 100000
open Go.RowKit Go.Maps

section
variable {w : World} {T0 dp tb mb m1 m2 n1 d bb sp sb cap n N : Nat} {tr : List (Option ah)} {fb : Nat → Nat} {s : aA} {eb en : Value}
theorem xr {k:Nat} {x:ah} (hk:(Lit.int .i64 (k:Int)).wf=true) (D:aL w T0 dp tb mb m1 m2 n1 d tr fb) (T:aq w (fun _=>False) T0 tb bb sp sb cap mb n s.bl s.u s.tab) (S:aY N s.bl s.u s.tab) (hx:bu tr (k:Int)=some x) (hn:(x.fs.map (·.1)).Nodup) (hc:eO s (x.fs.map (·.2))) (hEb:w.cell? ⟨4,0,none⟩=some eb) (hEn:w.cell? ⟨1,0,none⟩=some en) (hgT:4<T0/\1<T0) (W:World) (hW:Bl w W) :
  W.cell? ⟨dp,2,none⟩=some (.map (some m2))/\(Instr.lookup 174 (.map (some m2)) (.int .i64 (k:Int)) false).run Tryz.prog W = .ok (.map (some (fb k))) W/\∃DD:DataW Value,W.ownsMap Tryz.prog 9 dS (fb k) 1000000 DD/\∀w0,w0.ranges Tryz.prog 9 dS (fb k) W.heap.size 1000000 DD (Maps.has DD) (Maps.size DD)->W.grownBy w0 none->w0.heap.size=W.heap.size+1->∃left cnt done,lC T0 dp tb mb m1 m2 n1 d bb sp sb cap n N tr fb s k x eb en DD W.heap.size w w0 left cnt done:=by
 have DW:=D.below hW;obtain ⟨_,_,_,_,_,e3,Mk,q1,q2,q3,q4⟩:=DW.yes hk hx;refine ⟨DW.cells.2.2.1,e3,?_⟩;obtain ⟨DD,hown,hD⟩:=Mk;refine ⟨DD,hown,fun w0 hrg hg hs=>⟨Maps.has DD,Maps.size DD,[],?_⟩⟩;have hb:Bl W w0:=⟨hg.os,hg.tape,hg.output,hg.size,fun q hq=>hg.block q hq (by simp)⟩;have hb0:Bl w w0:=hW.trans (hb.mono hW.size)
 have hfil:x.fs.filter (fun y=>Maps.has DD (fY y))=x.fs:=List.filter_eq_self.2 fun y hy=>by
  rw [(hD (fY y) trivial).2];show (fmap x.fs (.string y.1.data.toList)).isSome=true;rw [fW y.1 _ _ rfl,Option.isSome_map];exact nO _ hy
 refine ⟨hrg,hD,hn,q3,hW.size,by rw [hfil];exact List.Perm.refl _,by rw [hfil];exact hc,S,D.below hb0,T.below hb0,bE.of_below hb0,?_,?_,hgT⟩
 ·rw [hb0.cell (p:=⟨4,0,none⟩) (ji w _ hEb)];exact hEb
 ·rw [hb0.cell (p:=⟨1,0,none⟩) (ji w _ hEn)];exact hEn
theorem Cb {k:Nat} {x:ah} {w0:World} (hk:(Lit.int .i64 (k:Int)).wf=true) (hx:bu tr (k:Int)=some x) (W:World) (h:qc T0 dp tb mb m1 m2 n1 d bb sp sb cap n N tr fb s x w0 W) :
  W.cell? ⟨dp,1,none⟩=some (.map (some m1))/\∃W1 W2,(Builtin.delete_ #[173,3] 0 #[.map (some m1),.int .i64 (k:Int)]).run Tryz.prog W = .ok (.tuple #[]) W1/\W1.cell? ⟨dp,2,none⟩=some (.map (some m2))/\(Builtin.delete_ #[174,3] 0 #[.map (some m2),.int .i64 (k:Int)]).run Tryz.prog W1 = .ok (.tuple #[]) W2/\Hid (qc T0 dp tb mb m1 m2 n1 d bb sp sb cap n N (tr.set k none) fb s x w0 W2):=by
 obtain ⟨l,hl,D,T,S,P⟩:=h;obtain ⟨W1,W2,r1,r2,k1,k2,⟨o1,o2,o3,o4⟩,D2⟩:=D.dropped hk hx 0;obtain ⟨f1,f2,M1,M2,_⟩:=D.maps;obtain ⟨es1,cl1,hm1⟩:=M1.obj;obtain ⟨es2,cl2,hm2⟩:=M2.obj;obtain ⟨l1,l2,l3,l4,l5,l6,l7⟩:=D.low;have b1:=k1 _ _ D.box (fun e=>by have:=D.box;rw [e,hm1] at this;cases this);refine ⟨D.cells.2.1,W1,W2,r1,?_,r2,l,hl,D2,?_,S,P.trans ⟨o1,o2,o3,by rw [o4];exact jd _,fun q o hq hp _=>k2 q o hq (fun e=>?_) (fun e=>?_)⟩⟩
 ·rw [jl (a:=⟨dp,2,none⟩) (b1.trans D.box.symm)];exact D.cells.2.2.1
 ·obtain ⟨f,Nd⟩:=T.nodes
  have ht:am fw W W2:=fun q o hq hp=>k2 q o hq (fun e=>by rw [e,hm1] at hq;cases hq;cases hp) (fun e=>by rw [e,hm2] at hq;cases hq;cases hp);refine ⟨ht _ _ T.box rfl,T.disk.turn ht (fun _ _=>rfl) (fun _ _=>rfl) (fun _ _=>rfl),T.space.turn ht (fun _ _=>rfl) (fun _ _=>rfl),⟨f,?_,fun k x hx=>?_,Nd.none_,Nd.inj⟩,T.low⟩
  ·obtain ⟨es,cl,hb⟩:=Nd.map.obj
   exact Nd.map.keep (by rw [hb];exact k2 _ _ hb l5.symm l6.symm)
  ·obtain ⟨b,e,hb,S⟩:=Nd.some_ k x hx
   exact ⟨b,e,hb,S.turn ht (fun _ _=>rfl) (fun _ _=>rfl)⟩
 ·rcases hp with h|h
  ·omega
  ·rw [e,hm1] at hq;cases hq;cases h
 ·rcases hp with h|h
  ·omega
  ·rw [e,hm2] at hq;cases hq;cases h
theorem Ah (k:Int) (hk:(Lit.int .i64 k).wf=true) (D:aL w T0 dp tb mb m1 m2 n1 d tr fb) (hx:bu tr k=none) (hEn:w.cell? ⟨1,0,none⟩=some en) :
  Cl 92 #[.pointer (some ⟨dp,0,none⟩),.int .i64 k] w fun e w'=>e = .returned en/\Bl w w':=by
 have HH:=qb k hk D;rw [hx] at HH;have HE:Hid (∀W,Bl w W->W.cell? ⟨1,0,none⟩=some en):=fun W hW=>by rw [hW.cell (p:=⟨1,0,none⟩) (ji w _ hEn)];exact hEn
 clear D hx hEn;go_enter Tryz.func92,Tryz.ntmps92
 go_wp2_with (go_at_call 131;refine HH.mono ?_;rintro e w1 ⟨rfl,b1⟩;have c1:=HE.out w1 b1;clear HH HE)
 go_ret;exact ⟨rfl,b1⟩
theorem Cc (k:Nat) (x:ah) (hk:(Lit.int .i64 (k:Int)).wf=true) (D:aL w T0 dp tb mb m1 m2 n1 d tr fb) (T:aq w (fun _=>False) T0 tb bb sp sb cap mb n s.bl s.u s.tab) (S:aY N s.bl s.u s.tab) (hx:bu tr (k:Int)=some x) (hn:(x.fs.map (·.1)).Nodup) (hc:eO s (x.fs.map (·.2))) (hEb:w.cell? ⟨4,0,none⟩=some eb) (hEn:w.cell? ⟨1,0,none⟩=some en) (hgT:4<T0/\1<T0) :
  Cl 92 #[.pointer (some ⟨dp,0,none⟩),.int .i64 (k:Int)] w fun e w'=>e = .returned .nilIface/\qc T0 dp tb mb m1 m2 n1 d bb sp sb cap n N (tr.set k none) fb s x w w':=by
 have HH:=qb (k:Int) hk D;rw [hx] at HH;have HS:Hid (∀W,Bl w W->W.cell? ⟨dp,2,none⟩=some (.map (some m2))/\(Instr.lookup 174 (.map (some m2)) (.int .i64 (k:Int)) false).run Tryz.prog W = .ok (.map (some (fb k))) W/\∃DD:DataW Value,W.ownsMap Tryz.prog 9 dS (fb k) 1000000 DD/\∀w0,w0.ranges Tryz.prog 9 dS (fb k) W.heap.size 1000000 DD (Maps.has DD) (Maps.size DD)->W.grownBy w0 none->w0.heap.size=W.heap.size+1->∃left cnt done,lC T0 dp tb mb m1 m2 n1 d bb sp sb cap n N tr fb s k x eb en DD W.heap.size w w0 left cnt done):=xr hk D T S hx hn hc hEb hEn hgT;have HD:Hid (∀W,qc T0 dp tb mb m1 m2 n1 d bb sp sb cap n N tr fb s x w W->W.cell? ⟨dp,1,none⟩=some (.map (some m1))/\∃W1 W2,(Builtin.delete_ #[173,3] 0 #[.map (some m1),.int .i64 (k:Int)]).run Tryz.prog W = .ok (.tuple #[]) W1/\W1.cell? ⟨dp,2,none⟩=some (.map (some m2))/\(Builtin.delete_ #[174,3] 0 #[.map (some m2),.int .i64 (k:Int)]).run Tryz.prog W1 = .ok (.tuple #[]) W2/\Hid (qc T0 dp tb mb m1 m2 n1 d bb sp sb cap n N (tr.set k none) fb s x w W2)):=Cb hk hx;clear D T S hx hn hc hEb hEn;go_enter Tryz.func92,Tryz.ntmps92
 go_wp2_with (first
  | (go_at_call 131;refine HH.mono ?_;rintro e w1 ⟨rfl,b1⟩;(obtain ⟨c2,hlk,DD,hown,HJ⟩:=HS.out w1 b1);clear HH HS b1)
  | (at_range;refine wpList_range_own _ rfl _ 177 rfl 9 3 ls Tryz.underlying177 dS (fb k) 1000000 DD rfl hown ?_;intro w0 hrg0 hg0 hs0;(have HJ0:Hid (∃left cnt done,lC T0 dp tb mb m1 m2 n1 d bb sp sb cap n N tr fb s k x eb en DD w1.heap.size w w0 left cnt done):=HJ w0 hrg0 hg0 hs0);clear HJ hown hlk c2 hrg0 hg0 hs0))
 go_frame
 go_loopw [] (fun wr=>∃left cnt done,lC T0 dp tb mb m1 m2 n1 d bb sp sb cap n N tr fb s k x eb en DD w1.heap.size w wr left cnt done) (fun wr=>wr.rangeLeft (fb k) w1.heap.size)
 case atStart=>exact HJ0.out
 case round =>
  obtain ⟨left,cnt,done,J⟩:=hrel
  go_wp2_with (first
   | (at_next;refine Ca J rfl _ rfl rfl (fun HE=>?_) (fun p i w2 c0 HM hen=>?_);any_goals (try (obtain ⟨c1,W1,W2,d1,c2,d2,HE2⟩:=HD.out _ HE.out;clear HE)))
   | (go_at_call 31;refine HM.out.mono ?_;rintro e w3 ⟨rfl,hJ3,hlt3⟩;clear HM))
  ·go_ret
   exact ⟨rfl,HE2.out⟩
  ·exact ⟨hJ3,hlt3⟩
end
end
end Go.Proofs.YthofhjnfkholoaaGreatDoor
namespace Go.Proofs
open Go.Shelf
def Tryz.keysN_ren : Go.Shelf.Ren := ⟨fun | 7 => 117 | 10 => 147 | n => n, fun | 23 => 173 | 26 => 3 | 3 => 53 | 28 => 169 | 0 => 0 | 27 => 168 | 33 => 99 | 4 => 4 | n => n, fun | n => n⟩
theorem Tryz.keysN : Go.Proofs.SlLaysZI.n7 Tryz.prog Tryz.keysN_ren := {
  mixed := by kernel_rfl
  f7 := ⟨Tryz.f117.name, by decide, Tryz.func117.trans (congrArg some (by kernel_rfl))⟩
  f10 := ⟨Tryz.f147.name, by decide, Tryz.func147.trans (congrArg some (by kernel_rfl))⟩
  t0 := Tryz.underlying0
  a0 := Tryz.isAgg0
  z0 := Tryz.sizeOf0
  v0 := Tryz.zeroValue0
  t4 := Tryz.underlying4
  a4 := Tryz.isAgg4
  z4 := Tryz.sizeOf4
  v4 := Tryz.zeroValue4
  t23 := Tryz.underlying173
  a23 := Tryz.isAgg173
  z23 := Tryz.sizeOf173
  v23 := Tryz.zeroValue173
  t26 := Tryz.underlying3
  a26 := Tryz.isAgg3
  z26 := Tryz.sizeOf3
  v26 := Tryz.zeroValue3
  t27 := Tryz.underlying168
  a27 := Tryz.isAgg168
  z27 := Tryz.sizeOf168
  v27 := Tryz.zeroValue168
  t28 := Tryz.underlying169
  a28 := Tryz.isAgg169
  z28 := Tryz.sizeOf169
  v28 := Tryz.zeroValue169
  t33 := Tryz.underlying99
  a33 := Tryz.isAgg99
  z33 := Tryz.sizeOf99
  v33 := Tryz.zeroValue99 }
end Go.Proofs
namespace Go.Proofs.YthofhjnfkholoaaGreatDoor
section
set_option maxRecDepth 100000
set_option maxHeartbeats 1000000
open Go.RowKit Go.Maps Go.Shelf

def ci (tr:List (Option ah)):List Nat:=(List.range tr.length).filter fun k=>(bu tr (k:Int)).isSome
theorem nP {tr:List (Option ah)} {k:Nat}:k∈ci tr↔∃x,bu tr (k:Int)=some x:=by
 unfold ci;rw [qK,qR,yA];refine ⟨fun h=>h.2,fun ⟨x,h⟩=>⟨?_,x,h⟩⟩;rw [dh] at h
 cases h':tr[k]? with
 | none=>rw [h'] at h;cases h
 | some z=>exact (jb.1 h').1
theorem Ai (tr:List (Option ah)):(ci tr).Pairwise (· < ·):=List.pairwise_lt_range.filter _
section
variable {w : World} {T0 dp tb mb m1 m2 n1 d : Nat} {tr : List (Option ah)} {fb : Nat → Nat}
theorem Aj (D:aL w T0 dp tb mb m1 m2 n1 d tr fb) :
  Cl 84 #[.pointer (some ⟨dp,0,none⟩)] w fun e w'=>∃v,e = .returned v/\bw w' w.heap.size v (ci tr)/\Bl w w':=by
 obtain ⟨f1,f2,M1,M2,h0,h1,_⟩:=D.maps;obtain ⟨D0,hown,hD⟩:=M1;have hsz:=hown.size_le;have hn:=D.low.2.2.2.2.2.2;have hmax:Maps.size D0<=maxLen:=by unfold maxLen;omega
 have hbytes:Maps.size D0*8<=140737488355328:=by omega
 have hf1:∀k:Int,(f1 (.int .i64 k)).isSome=(bu tr k).isSome:=fun k=>by
  cases h:bu tr k with
  | none=>rw [(h0 k h).1];rfl
  | some x =>
   obtain ⟨j,rfl,hj⟩:=iL h;obtain ⟨⟨u,a1,_⟩,_⟩:=h1 j x hj;rw [a1];rfl
 have HKS:Hid (∀ss:List Int,ss.Perm (intKeys D0)->ss.mergeSort (fun x y=>decide (x<=y))=ar (ci tr)/\ss.length=(ci tr).length):=fun ss hp=>pH (f:=fun k=>if (bu tr (k:Int)).isSome=true then some 0 else none) hown (fun k=>by
  rw [(hD (.int .i64 k) trivial).2,hf1 k];unfold gR;by_cases hk:0<=k
  ·rw [zj hk]
   show _=(if (bu tr ((k.toNat:Nat):Int)).isSome=true then some 0 else none).isSome;have e:((k.toNat:Nat):Int)=k:=by omega
   rw [e];cases (bu tr k).isSome <;> rfl
  ·rw [zi hk]
   have e:bu tr k=none:=(by unfold bu;rw [zi hk]);rw [e];rfl) (fun k=>by
  rw [nP,<-yA];cases (bu tr (k:Int)).isSome <;> simp) (Ai tr) hp
 obtain ⟨_,c1,_,_⟩:=D.cells;clear D h0 h1 hD M2 hf1;refine (callsIn_wide (n:=6)).1 ?_;have hbl:=hown.lt
 have hseq:SeqGives Fence.wide 2 Tryz.prog 147 #[.pointer (some ⟨w.heap.size,0,none⟩)] encZ (fun ss=>ss.Perm (intKeys D0)) (Maps.size D0) (w.alloc (.cells #[.map (some m1)] 173)) :=
  AnyZI.keys_gives (ρ:=Tryz.keysN_ren) { Tryz.keysN with } Fence.wide _ trivial rfl (by omega) w.heap.size m1 n1 D0 _ (by simp) (by simp) (by
   obtain ⟨es,clock,hb,Ft,hs,hD⟩:=hown;exact ⟨es,clock,(jp _ _ m1 hbl).trans hb,Ft,hs,hD⟩)
 have cK:∀mb W,CallsIn Fence.wide 5 Tryz.prog 117 #[.map mb] W fun e w'=>e = .returned (.func (.func 147) #[] #[.pointer (some ⟨W.heap.size,0,none⟩)])/\w'=W.alloc (.cells #[.map mb] 173):=fun mb W=>AnyZI.keys_in Tryz.keysN Fence.wide 5 trivial rfl mb W;have cS:=AnyZI.sorted_in Tryz.sortedA Fence.wide 5 trivial trivial trivial trivial rfl (by omega) (BA _) (enters_of Tryz.func111 (by kernel_rfl) rfl) 147 #[.pointer (some ⟨w.heap.size,0,none⟩)] trivial (enters_of Tryz.func147 (by kernel_rfl) rfl) _ _ hmax hbytes _ hseq
 change CallsIn _ _ Tryz.prog 79 _ _ _ at cS
 have hfK:Fence.wide.fn 117:=trivial;have hfS:Fence.wide.fn 79:=trivial;refine callsIn_of_wp Tryz.func84 rfl trivial ?_ rfl;simp only [Tryz.ntmps84,qv,jz,qF,Nat.reduceAdd,Nat.reduceSub,qU,qV,yr,yf,qq,jX]
 gi_wp2_with (first
  | (gi_at_call 117;refine (cK _ _).mono ?_;rintro e w' ⟨rfl,rfl⟩)
  | (gi_at_call 79;refine cS.mono ?_;rintro e w' ⟨v,ss,rfl,hS,hrow,hnil,hb⟩))
 go_ret;obtain ⟨e1,e2⟩:=HKS.out ss hS;rw [e1,e2] at hrow;exact ⟨v,rfl,ownsRow_base_a hrow (by simp),((je _ w).alloc (jd _) _).trans (hb.mono (by simp))⟩
theorem EH (hmb:mb<w.heap.size) (hT:T0<=w.heap.size) (d:Nat) (fb:Nat->Nat) :
  Cl 49 #[.pointer (some ⟨tb,0,none⟩)] w fun e w'=>∃dp m1 m2,e = .returned (.tuple #[.pointer (some ⟨dp,0,none⟩),.nilIface])/\aL w' T0 dp tb mb m1 m2 0 d [] fb/\Bl w w':=by
 have hmm := @run_makeMap Tryz.prog;go_enter Tryz.func49,Tryz.ntmps49;go_wp2_with fail
 go_ret2;have hb:Bl w (((w.alloc (.map #[] 0)).alloc (.map #[] 0)).alloc (.cells #[.pointer (some ⟨tb,0,none⟩),.map (some w.heap.size),.map (some (w.heap.size+1)),.int .i64 0] 176)):=(((je _ w).alloc (jd _) _).alloc (by simp) _).alloc (by simp;omega) _
 have k1:(((w.alloc (.map #[] 0)).alloc (.map #[] 0)).alloc (.cells #[.pointer (some ⟨tb,0,none⟩),.map (some w.heap.size),.map (some (w.heap.size+1)),.int .i64 0] 176)).heap[w.heap.size]? = (w.alloc (.map #[] 0)).heap[w.heap.size]? := by
  rw [jp _ _ _ (by simp;omega),jp _ _ _ (by simp)]
 have M1:=(bD.made w 3).keep k1;have M2:=(bD.made (w.alloc (.map #[] 0)) 3).keep (w':=(((w.alloc (.map #[] 0)).alloc (.map #[] 0)).alloc (.cells #[.pointer (some ⟨tb,0,none⟩),.map (some w.heap.size),.map (some (w.heap.size+1)),.int .i64 0] 176))) (jp _ _ _ (by simp));rw [jE] at M2;refine ⟨w.heap.size+2,w.heap.size,w.heap.size+1,by simp,⟨?_,⟨_,_,M1,M2,fun _ _=>⟨rfl,rfl⟩,fun k x h=>by rw [dh] at h;simp at h,fun k j x y h=>by rw [dh] at h;simp at h⟩,by omega,hT,by omega,by omega,by omega,by omega,by omega⟩,hb⟩;have h:=heap_alloc_last ((w.alloc (.map #[] 0)).alloc (.map #[] 0)) (.cells #[.pointer (some ⟨tb,0,none⟩),.map (some w.heap.size),.map (some (w.heap.size+1)),.int .i64 0] 176);rw [jE,jE] at h;exact h
end
end
section
set_option maxRecDepth 100000
open Go.RowKit Go.Maps

structure EI (N:Nat) (s:aA) (R:List (Nat×ByteArray×Bool)):Prop where
 sp:aY N s.bl s.u s.tab
 held:∀r∈R,∃y,af s.tab r.1=some y/\au s.bl y.blocks y.bytes=r.2.1/\y.exec=r.2.2/\y.sum=aQ r.2.1
 links:∀q y,af s.tab q=some y->y.links=(R.map (·.1)).count q
def refs (fs:List (ByteArray×Nat)) (files:List (ByteArray×ab)):List (Nat×ByteArray×Bool):=List.zipWith (fun f y=>(f.2,y.2.data,y.2.exec)) fs files
namespace EI
variable {N : Nat} {s : aA} {R R' : List (Nat × ByteArray × Bool)}
end EI
end
section
set_option maxRecDepth 100000
open Go.RowKit

theorem qm:∀(a b:List UInt8),(Lib.compareBytes a b<0↔Op.bytesLess a b=true)/\(Lib.compareBytes a b=0↔a=b)
 | [],[]=>by simp [Lib.compareBytes,Op.bytesLess]
 | [],_ :: _=>by simp [Lib.compareBytes,Op.bytesLess]
 | _ :: _,[]=>by simp [Lib.compareBytes,Op.bytesLess]
 | a :: x,b :: y=>by
  have ih:=qm x y;simp only [Lib.compareBytes,Op.bytesLess,yF,zm,qS,beq_iff_eq,qD];by_cases h1:a<b
  ·have hne:a≠b:=fun e=>by subst e;exact absurd h1 (by simp)
   simp [h1,hne]
  ·by_cases h2:b<a
   ·have hne:a≠b:=fun e=>by subst e;exact absurd h2 (by simp)
    simp [h1,h2,hne]
   ·have e:a=b:=by
     have h3:=UInt8.not_lt.1 h1;have h4:=UInt8.not_lt.1 h2;exact UInt8.le_antisymm h4 h3
    subst e;simp only [h1,if_false,true_and,false_or];exact ih
theorem nQ:∀ {a b c:List UInt8},Op.bytesLess a b=true->Op.bytesLess b c=true->Op.bytesLess a c=true
 | _,[],_,h,_=>by simp [Op.bytesLess] at h
 | [],_ :: _,[],_,h=>by simp [Op.bytesLess] at h
 | [],_ :: _,_ :: _,_,_=>by simp [Op.bytesLess]
 | _ :: _,_ :: _,[],_,h=>by simp [Op.bytesLess] at h
 | a :: x,b :: y,c :: z,h1,h2=>by
  simp only [Op.bytesLess,yF,zm,qS,beq_iff_eq] at h1 h2 ⊢
  rcases h1 with h1|⟨rfl,h1⟩
  ·rcases h2 with h2|⟨rfl,_⟩
   ·exact .inl (UInt8.lt_trans h1 h2)
   ·exact .inl h1
  ·rcases h2 with h2|⟨rfl,h2⟩
   ·exact .inl h2
   ·exact .inr ⟨rfl,nQ h1 h2⟩
theorem mi (a:List UInt8):Op.bytesLess a a=false:=by
 cases h:Op.bytesLess a a with
 | false=>rfl
 | true =>
  have:=(qm a a).1.2 h
  have:=(qm a a).2.2 rfl
  omega

def nR (l:List (ByteArray×ab)):Prop:=∀(i j:Nat) (x y:ByteArray×ab),i<j->l[i]? = some x->l[j]? = some y->Op.bytesLess x.1.toList y.1.toList=true
theorem EJ {l:List (ByteArray×ab)} (h:cm l l.length=true):nR l:=by
 have one:∀(j:Nat) (x y:ByteArray×ab),l[j]? = some x->l[j+1]? = some y->Op.bytesLess x.1.toList y.1.toList=true:=fun j x y hx hy=>by
  have hj:j+1<l.length:=(jb.1 hy).1
  cases hk:cm l (j+1+1) with
  | false=>rw [fS (by omega) hk] at h;cases h
  | true =>
   rw [lp hx hy] at hk
   simpa using (qS _ _ ▸ hk:_/\_).2
 intro i j
 induction j with
 | zero=>intro x y h;omega
 | succ j ih =>
  intro x y hij hx hy;have hj:j+1<l.length:=(jb.1 hy).1;obtain ⟨z,hz⟩:∃z,l[j]? = some z:=⟨l[j],jc (by omega)⟩;have h1:=one j z y hz hy
  rcases qO i j with h2|h2
  ·exact nQ (ih x z h2 hx hz) h1
  ·obtain rfl:i=j:=by omega
   rw [hx] at hz;obtain rfl:=jO hz;exact h1

def pu (l:List (ByteArray×ab)) (s:ByteArray):Nat:=l.countP fun x=>Op.bytesLess x.1.toList s.toList
def sR (l:List (ByteArray×ab)) (s:ByteArray):Bool:=match l[pu l s]? with
 | none=>false
 | some x=>decide (x.1=s)
theorem vI (p:ByteArray×ab->Bool):∀(l:List (ByteArray×ab)) (i:Nat),i<=l.length->(∀t x,t<i->l[t]? = some x->p x=true)->(∀t x,i<=t->l[t]? = some x->p x=false)->l.countP p=i
 | [],i,hi,_,_=>by simp at hi;simp [hi]
 | a :: r,0,_,_,h2=>by
  rw [List.countP_eq_zero];intro x hx;obtain ⟨t,ht,rfl⟩:=yt hx
  have:=h2 t _ (jq _) (jc ht)
  simp [this]
 | a :: r,i+1,hi,h1,h2=>by
  have ha:p a=true:=h1 0 a (Nat.succ_pos _) rfl;rw [List.countP_cons_of_pos ha,vI p r i (by simpa using hi) (fun t x ht hx=>h1 (t+1) x (by omega) (by simpa using hx)) (fun t x ht hx=>h2 (t+1) x (by omega) (by simpa using hx))]
theorem tL (s:ByteArray):s.toList=s.data.toList:=ByteArray.toList_eq s
theorem vJ {l:List (ByteArray×ab)} {i:Nat} {x:ByteArray×ab} (hr:nR l) (hx:l[i]? = some x):pu l x.1=i:=by
 have hi:i<l.length:=(jb.1 hx).1;refine vI _ l i (by omega) (fun t y ht hy=>hr t i y x ht hy hx) (fun t y ht hy=>?_)
 rcases qO i t with h|h
 ·cases hc:Op.bytesLess y.1.toList x.1.toList with
  | false=>rfl
  | true =>
   have:=nQ hc (hr i t x y h hx hy)
   rw [mi] at this;cases this
 ·obtain rfl:t=i:=by omega
  rw [hx] at hy;obtain rfl:=jO hy;exact mi _
theorem EK {l:List (ByteArray×ab)} {i:Nat} {x:ByteArray×ab} (hr:nR l) (hx:l[i]? = some x):sR l x.1=true:=by
 unfold sR;rw [vJ hr hx,hx]
 simp
end
end Go.Proofs.YthofhjnfkholoaaGreatDoor
namespace Go.Proofs
open Go.Shelf

end Go.Proofs
namespace Go.Proofs.YthofhjnfkholoaaGreatDoor
section
set_option maxRecDepth 100000
open Go.RowKit
attribute [local go_sem ↓] Go.wp_at_zero Go.wp_at_succ

abbrev Kq (x:ByteArray×ab) (u:Value):Value:=.agg #[.string x.1,.string x.2.kind,.string x.2.data,.bool x.2.exec,u]


end
section
set_option maxRecDepth 100000
open Go.RowKit
attribute [local go_sem ↓] Go.wp_at_zero Go.wp_at_succ

def uN (t:ab) (s:ByteArray):Option ab:=if sR t.kids s=true then (t.kids[pu t.kids s]?).map (·.2) else none
def rK:List ByteArray->ab->Option ab
 | [],t=>some t
 | s :: r,t=>match uN t s with
  | none=>none
  | some k=>rK r k
def lD:Nat->ab->Prop
 | 0,_=>False
 | d+1,t=>nR t.kids/\∀x∈t.kids,lD d x.2
def Iw (w:World) (B d b o:Nat) (t:ab):Prop:=b<B/\∃u,w.cell? ⟨b,o,none⟩=some (.string t.kind)/\w.cell? ⟨b,o+1,none⟩=some (.string t.data)/\w.cell? ⟨b,o+2,none⟩=some (.bool t.exec)/\w.cell? ⟨b,o+3,none⟩=some u/\aE w B d t.kids u
def Cd (w:World):List ByteArray->ab->Nat->Nat->Nat->Nat->Prop
 | [],_,b0,o0,b,o=>b=b0/\o=o0
 | x :: r,t,b0,o0,b,o=>∃k g go n c,uN t x=some k/\w.cell? ⟨b0,o0+3,none⟩=some (.slice (some ⟨g,go,none⟩) n c)/\Cd w r k g (go+pu t.kids x*5+1) b o
def J3 (B d b0 o0:Nat) (t:ab) (names:List ByteArray) (w:World) (e:Ending) (w':World):Prop:=Bl w w' /\
 ((rK names t=none/\e = .returned (.pointer none))∨∃k d' b o,rK names t=some k/\e = .returned (.pointer (some ⟨b,o,none⟩))/\Iw w B d' b o k/\d'<=d/\Cd w names t b0 o0 b o)

end
end Go.Proofs.YthofhjnfkholoaaGreatDoor
