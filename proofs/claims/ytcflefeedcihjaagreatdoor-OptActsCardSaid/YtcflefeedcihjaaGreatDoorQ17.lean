/-
  Dy Dz ShelfK ImO ShelfN Ea Eb, joined.
  Conditions: those that each states.
-/
import Derived.Test.YtcflefeedcihjaaGreatDoorQ16
import Derived.Shelf.SlIterI.Nil
import Derived.Shelf.SortM.Plain
import Derived.Shelf.SortM.SortNone
import Derived.Ground.GgzProg
import Derived.Ground.SlgmProg
namespace Go.Proofs.YtcflefeedcihjaaGreatDoor
section
set_option maxRecDepth 100000
open Go.RowKit Go.Maps

theorem ld {y:ByteArray×Nat} (fs:List (ByteArray×Nat)):y∈fs->(bG fs y.1).isSome=true:=i8 (P:=fun fs=>y∈fs->(bG fs y.1).isSome=true) (fun h=>by cases h) (fun l x ih h=>by
 rw [kZ]
 split
 ·rfl
 ·rename_i e
  rcases jT.1 h with h|h
  ·exact ih h
  ·rw [jF.1 h] at e
   exact absurd rfl e) _ fs rfl
structure lH (T0 dp tb mb m1 m2 n1 d bb sp sb cap n N:Nat) (tr:List (Option ah)) (fb:Nat->Nat) (s:ay) (k:Nat) (x:ah) (eb en:Value) (D:DataW Value) (r:Nat) (w0 wr:World) (left:Lit->Bool) (cnt:Nat) (done:List (ByteArray×Nat)):Prop where
 rg:wr.ranges Tryz.prog 9 d9 (fb k) r 1000000 D left cnt
 val:∀kl,WideAt.IsKeyLit kl->(∀z,D.atKey kl z=kY (fmap x.fs kl) z)/\Maps.has D kl=(fmap x.fs kl).isSome
 keys:(x.fs.map (·.1)).Nodup
 ne:fb k≠mb
 low:w0.heap.size<=r
 perm:(done++x.fs.filter (fun y=>left (gF y))).Perm x.fs
 ok:fe (cF s (done.map (·.2))) ((x.fs.filter (fun y=>left (gF y))).map (·.2))
 inv:bz N (cF s (done.map (·.2))).bl (cF s (done.map (·.2))).u (cF s (done.map (·.2))).tab
 dir:aI wr T0 dp tb mb m1 m2 n1 d tr fb
 tab:aw wr (fun _=>False) T0 tb bb sp sb cap mb n (cF s (done.map (·.2))).bl (cF s (done.map (·.2))).u (cF s (done.map (·.2))).tab
 but:aZ T0 dp w0 wr
 eb:wr.cell? ⟨6,0,none⟩=some eb
 en:wr.cell? ⟨1,0,none⟩=some en
 gT:6<T0/\1<T0
def ri (T0 dp tb mb m1 m2 n1 d bb sp sb cap n N:Nat) (tr:List (Option ah)) (fb:Nat->Nat) (s:ay) (x:ah) (w0 wr:World):Prop :=
 ∃l,l.Perm (x.fs.map (·.2))/\aI wr T0 dp tb mb m1 m2 n1 d tr fb/\aw wr (fun _=>False) T0 tb bb sp sb cap mb n (cF s l).bl (cF s l).u (cF s l).tab/\bz N (cF s l).bl (cF s l).u (cF s l).tab/\aZ T0 dp w0 wr
section
variable {T0 dp tb mb m1 m2 n1 d bb sp sb cap n N k r cnt : Nat} {tr : List (Option ah)} {fb : Nat → Nat} {s : ay} {x : ah} {eb en : Value} {D : DataW Value} {w0 wr : World} {left : Lit → Bool} {done : List (ByteArray × Nat)}
theorem lH.ends (J:lH T0 dp tb mb m1 m2 n1 d bb sp sb cap n N tr fb s k x eb en D r w0 wr left cnt done) (h:∀kl,left kl=false):ri T0 dp tb mb m1 m2 n1 d bb sp sb cap n N tr fb s x w0 wr:=by
 have hp:=J.perm;rw [List.filter_eq_nil_iff.2 (fun y _=>by simp [h]),qz] at hp;exact ⟨_,hp.map _,J.dir,J.tab,J.inv,J.but⟩
theorem lH.more {w1:World} {cnt1:Nat} {p:ByteArray} {c:Value} {kl:Lit} {y:DataW Value×List MemPlace} (J:lH T0 dp tb mb m1 m2 n1 d bb sp sb cap n N tr fb s k x eb en D r w0 wr left cnt done) (hkey:keyOf Tryz.prog 9 (.string p)=some kl) (hl:left kl=true) (hv:d9 c=some y) (hat:∀zd,D.atKey kl zd=y.1) (hrg:w1.ranges Tryz.prog 9 d9 (fb k) r 1000000 D (fun z=>left z && !z.sameKey kl) cnt1) (hlt:cnt1<cnt) (hg:wr.grownBy w1 (some r)) (hs:w1.heap.size=wr.heap.size) :
  ∃i:Nat,c = .int .i64 (i:Int)/\w1.cell? ⟨dp,0,none⟩=some (.pointer (some ⟨tb,0,none⟩))/\Cl 55 #[.pointer (some ⟨tb,0,none⟩),.int .i64 (i:Int)] w1 fun e w2=>e = .returned .nilIface/\(∃left' cnt' done',lH T0 dp tb mb m1 m2 n1 d bb sp sb cap n N tr fb s k x eb en D r w0 w2 left' cnt' done')/\w2.rangeLeft (fb k) r<wr.rangeLeft (fb k) r:=by
 obtain ⟨p',ep,rfl⟩:=rU hkey;cases ep
 have hy:y.1 = .held c:=by simp only [d9,jh] at hv;rw [<-hv]
 have hf:fmap x.fs (.string p.data.toList)=some c:=by
  cases h:fmap x.fs (.string p.data.toList) with
  | none =>
   have h1:=(J.val (.string p.data.toList) trivial).1 (.lit (.int .i64 0));rw [hat,hy,h] at h1;cases h1
  | some v =>
   have h1:=(J.val (.string p.data.toList) trivial).1 (.lit (.int .i64 0));rw [hat,hy,h] at h1;simp only [kY,DataW.held.injEq] at h1;rw [h1]
 rw [e9 p _ _ rfl] at hf;obtain ⟨i,hi,rfl⟩:=qP.1 hf;have hm:=dC _ hi;have hp:=vQ (left:=left) (z:=(p,i)) hl J.keys hm;have hok:=J.ok.perm (hp.map (·.2));rw [jH] at hok;obtain ⟨z,hz,_,hz2⟩:=hok i (jy ..);have hst:=hok.step hz;have hun:=ub s (done.map (·.2)) i hz;rw [<-hun] at hst;obtain ⟨⟨es,cl,ob⟩,⟨m,sv,vv,cv,oi⟩⟩:=g9 J.rg
 have ht:aO DM wr w1:=fun q o hq hp'=>by
  rw [hg.block q (ja.1 hq).1 (fun e=>?_)]
  ·exact hq
  ·rw [jO e,oi] at hq;cases hq;cases hp'
 have D1:=J.dir.iter (by rw [hs];exact jd _) ht;have T1:=J.tab.iter ht
 have P1:aZ T0 dp w0 w1:=⟨hg.os.trans J.but.os,hg.tape.trans J.but.tape,hg.output.trans J.but.output,by rw [hs];exact J.but.size,fun q o hq hp' hne=>by
  have h1:=J.but.block q o hq hp' hne;have h2:=(ja.1 hq).1;have h3:=J.low;rw [hg.block q (ja.1 h1).1 (fun e=>by cases e;omega)];exact h1⟩
 have cE:∀(g:Nat) (v:Value),wr.cell? ⟨g,0,none⟩=some v->w1.cell? ⟨g,0,none⟩=some v:=fun g v hv=>by
  have hne:g≠r:=fun e=>(by rw [e] at hv;simp [World.cell?,oi] at hv);rw [jl (a:=⟨g,0,none⟩) (hg.block g (ji wr _ hv) (fun e=>hne (jO e)))];exact hv
 refine ⟨i,rfl,D1.cells.1,(nJ i z eb en hz hz2 T1 J.inv (cE _ _ J.eb) (cE _ _ J.en) J.gT).mono fun e w2 ⟨he,T2,B2⟩=>⟨he,⟨(fun z=>left z && !z.sameKey (.string p.data.toList)),cnt1,done ++ [(p,i)],?_⟩,?_⟩⟩
 ·have rg2:=pT hrg (fun o ho=>B2.maps _ o ho (by
   obtain ⟨⟨es1,cl1,ob1⟩,_⟩:=g9 hrg;rw [ob1] at ho;cases ho;rfl) J.ne) (fun o ho=>B2.block _ o ho (.inr (by
   obtain ⟨_,⟨m1,sv1,vv1,cv1,oi1⟩⟩:=g9 hrg;rw [oi1] at ho;cases ho;rfl)))
  have em:(done ++ [(p,i)]).map (·.2)=done.map (·.2) ++ [i]:=(by simp);refine ⟨rg2,J.val,J.keys,J.ne,J.low,?_,?_,?_,D1.but B2,?_,P1.trans (aZ.of_tb B2),B2.cellE J.gT.1 (cE _ _ J.eb),B2.cellE J.gT.2 (cE _ _ J.en),J.gT⟩
  ·rw [jK]
   exact (List.Perm.append_left done hp.symm).trans J.perm
  ·rw [em];exact hst
  ·rw [em,hun];exact tB J.inv hz
  ·rw [em,hun];exact T2
 ·have rg2:=pT hrg (fun o ho=>B2.maps _ o ho (by
   obtain ⟨⟨es1,cl1,ob1⟩,_⟩:=g9 hrg;rw [ob1] at ho;cases ho;rfl) J.ne) (fun o ho=>B2.block _ o ho (.inr (by
   obtain ⟨_,⟨m1,sv1,vv1,cv1,oi1⟩⟩:=g9 hrg;rw [oi1] at ho;cases ho;rfl)))
  rw [rg2.left_eq,J.rg.left_eq];exact hlt
theorem BE {ops:Array Oper} {rest:List Oper} {o:Oper} {a:Act} {Q:Exit->Act->World->Prop} (J:lH T0 dp tb mb m1 m2 n1 d bb sp sb cap n N tr fb s k x eb en D r w0 wr left cnt done) (hgd:o.guard=none) (it:Operand) (hop:o.op=Op.next it false) (hit:a.eval it = .pointer (some ⟨r,0,none⟩))
  (hDone:Hid (ri T0 dp tb mb m1 m2 n1 d bb sp sb cap n N tr fb s x w0 wr)->wpList Tryz.prog ops Q rest (a.put o.dst (.tuple #[.bool false])) wr)
  (hMore:∀(p:ByteArray) (i:Nat) (w1:World),w1.cell? ⟨dp,0,none⟩=some (.pointer (some ⟨tb,0,none⟩))->Hid (Cl 55 #[.pointer (some ⟨tb,0,none⟩),.int .i64 (i:Int)] w1 fun e w2=>e = .returned .nilIface/\(∃left' cnt' done',lH T0 dp tb mb m1 m2 n1 d bb sp sb cap n N tr fb s k x eb en D r w0 w2 left' cnt' done')/\w2.rangeLeft (fb k) r<wr.rangeLeft (fb k) r)->(Instr.entry (.pointer (some ⟨r,0,none⟩))).run Tryz.prog w1 = .ok (.tuple #[.string p,.int .i64 (i:Int)]) w1->wpList Tryz.prog ops Q rest (a.put o.dst (.tuple #[.bool true,.string p,.int .i64 (i:Int)])) w1) :
  wpList Tryz.prog ops Q (o :: rest) a wr :=
 wpList_next_ranges wr hgd it hop 9 iH d9 Value.string (fun v:Value=>v) (fun key kl h=>by obtain ⟨p,e,_⟩:=rU h;exact ⟨p,e⟩) (fun v y _=>⟨v,rfl⟩) (fb k) r 1000000 D left cnt hit J.rg (fun _ hl=>hDone (J.ends hl)) (fun p c kl y w1 cnt1 hkey hl hv hat hrg hlt hg hs hen=>by
  obtain ⟨i,rfl,h1,h2⟩:=J.more hkey hl hv hat hrg hlt hg hs;exact hMore p i w1 h1 h2 hen)
end
end
section
set_option maxHeartbeats 2000000
set_option maxRecDepth 100000
open Go.RowKit Go.Maps

section
variable {w : World} {T0 dp tb mb m1 m2 n1 d bb sp sb cap n N : Nat} {tr : List (Option ah)} {fb : Nat → Nat} {s : ay} {eb en : Value}
theorem xt {k:Nat} {x:ah} (hk:(Lit.int .i64 (k:Int)).wf=true) (D:aI w T0 dp tb mb m1 m2 n1 d tr fb) (T:aw w (fun _=>False) T0 tb bb sp sb cap mb n s.bl s.u s.tab) (S:bz N s.bl s.u s.tab) (hx:aY tr (k:Int)=some x) (hn:(x.fs.map (·.1)).Nodup) (hc:fe s (x.fs.map (·.2))) (hEb:w.cell? ⟨6,0,none⟩=some eb) (hEn:w.cell? ⟨1,0,none⟩=some en) (hgT:6<T0/\1<T0) (W:World) (hW:Bl w W) :
  W.cell? ⟨dp,2,none⟩=some (.map (some m2))/\(Instr.lookup 135 (.map (some m2)) (.int .i64 (k:Int)) false).run Tryz.prog W = .ok (.map (some (fb k))) W/\∃DD:DataW Value,W.ownsMap Tryz.prog 9 d9 (fb k) 1000000 DD/\∀w0,w0.ranges Tryz.prog 9 d9 (fb k) W.heap.size 1000000 DD (Maps.has DD) (Maps.size DD)->W.grownBy w0 none->w0.heap.size=W.heap.size+1->∃left cnt done,lH T0 dp tb mb m1 m2 n1 d bb sp sb cap n N tr fb s k x eb en DD W.heap.size w w0 left cnt done:=by
 have DW:=D.below hW;obtain ⟨_,_,_,_,_,e3,Mk,q1,q2,q3,q4⟩:=DW.yes hk hx;refine ⟨DW.cells.2.2.1,e3,?_⟩;obtain ⟨DD,hown,hD⟩:=Mk;refine ⟨DD,hown,fun w0 hrg hg hs=>⟨Maps.has DD,Maps.size DD,[],?_⟩⟩;have hb:Bl W w0:=⟨hg.os,hg.tape,hg.output,hg.size,fun q hq=>hg.block q hq (by simp)⟩;have hb0:Bl w w0:=hW.trans (hb.mono hW.size)
 have hfil:x.fs.filter (fun y=>Maps.has DD (gF y))=x.fs:=List.filter_eq_self.2 fun y hy=>by
  rw [(hD (gF y) trivial).2];show (fmap x.fs (.string y.1.data.toList)).isSome=true;rw [e9 y.1 _ _ rfl,Option.isSome_map];exact ld _ hy
 refine ⟨hrg,hD,hn,q3,hW.size,by rw [hfil];exact List.Perm.refl _,by rw [hfil];exact hc,S,D.below hb0,T.below hb0,aZ.of_below hb0,?_,?_,hgT⟩
 ·rw [hb0.cell (p:=⟨6,0,none⟩) (ji w _ hEb)];exact hEb
 ·rw [hb0.cell (p:=⟨1,0,none⟩) (ji w _ hEn)];exact hEn
theorem BF {k:Nat} {x:ah} {w0:World} (hk:(Lit.int .i64 (k:Int)).wf=true) (hx:aY tr (k:Int)=some x) (W:World) (h:ri T0 dp tb mb m1 m2 n1 d bb sp sb cap n N tr fb s x w0 W) :
  W.cell? ⟨dp,1,none⟩=some (.map (some m1))/\∃W1 W2,(Builtin.delete_ #[134,3] 0 #[.map (some m1),.int .i64 (k:Int)]).run Tryz.prog W = .ok (.tuple #[]) W1/\W1.cell? ⟨dp,2,none⟩=some (.map (some m2))/\(Builtin.delete_ #[135,3] 0 #[.map (some m2),.int .i64 (k:Int)]).run Tryz.prog W1 = .ok (.tuple #[]) W2/\Hid (ri T0 dp tb mb m1 m2 n1 d bb sp sb cap n N (tr.set k none) fb s x w0 W2):=by
 obtain ⟨l,hl,D,T,S,P⟩:=h;obtain ⟨W1,W2,r1,r2,k1,k2,⟨o1,o2,o3,o4⟩,D2⟩:=D.dropped hk hx 0;obtain ⟨f1,f2,M1,M2,_⟩:=D.maps;obtain ⟨es1,cl1,hm1⟩:=M1.obj;obtain ⟨es2,cl2,hm2⟩:=M2.obj;obtain ⟨l1,l2,l3,l4,l5,l6,l7⟩:=D.low;have b1:=k1 _ _ D.box (fun e=>by have:=D.box;rw [e,hm1] at this;cases this);refine ⟨D.cells.2.1,W1,W2,r1,?_,r2,l,hl,D2,?_,S,P.trans ⟨o1,o2,o3,by rw [o4];exact jd _,fun q o hq hp _=>k2 q o hq (fun e=>?_) (fun e=>?_)⟩⟩
 ·rw [jl (a:=⟨dp,2,none⟩) (b1.trans D.box.symm)];exact D.cells.2.2.1
 ·obtain ⟨f,Nd⟩:=T.nodes
  have ht:aO fT W W2:=fun q o hq hp=>k2 q o hq (fun e=>by rw [e,hm1] at hq;cases hq;cases hp) (fun e=>by rw [e,hm2] at hq;cases hq;cases hp);refine ⟨ht _ _ T.box rfl,T.disk.turn ht (fun _ _=>rfl) (fun _ _=>rfl) (fun _ _=>rfl),T.space.turn ht (fun _ _=>rfl) (fun _ _=>rfl),⟨f,?_,fun k x hx=>?_,Nd.none_,Nd.inj⟩,T.low⟩
  ·obtain ⟨es,cl,hb⟩:=Nd.map.obj
   exact Nd.map.keep (by rw [hb];exact k2 _ _ hb l5.symm l6.symm)
  ·obtain ⟨b,e,hb,S⟩:=Nd.some_ k x hx
   exact ⟨b,e,hb,S.turn ht (fun _ _=>rfl) (fun _ _=>rfl)⟩
 ·rcases hp with h|h
  ·omega
  ·rw [e,hm1] at hq;cases hq;cases h
 ·rcases hp with h|h
  ·omega
  ·rw [e,hm2] at hq;cases hq;cases h
theorem Ac (k:Int) (hk:(Lit.int .i64 k).wf=true) (D:aI w T0 dp tb mb m1 m2 n1 d tr fb) (hx:aY tr k=none) (hEn:w.cell? ⟨1,0,none⟩=some en) :
  Cl 78 #[.pointer (some ⟨dp,0,none⟩),.int .i64 k] w fun e w'=>e = .returned en/\Bl w w':=by
 have HH:=i4 k hk D;rw [hx] at HH;have HE:Hid (∀W,Bl w W->W.cell? ⟨1,0,none⟩=some en):=fun W hW=>by rw [hW.cell (p:=⟨1,0,none⟩) (ji w _ hEn)];exact hEn
 clear D hx hEn;go_enter Tryz.func78,Tryz.ntmps78
 go_wp2_with (go_at_call 90;refine HH.mono ?_;rintro e w1 ⟨rfl,b1⟩;have c1:=HE.out w1 b1;clear HH HE)
 go_ret;exact ⟨rfl,b1⟩
theorem BG (k:Nat) (x:ah) (hk:(Lit.int .i64 (k:Int)).wf=true) (D:aI w T0 dp tb mb m1 m2 n1 d tr fb) (T:aw w (fun _=>False) T0 tb bb sp sb cap mb n s.bl s.u s.tab) (S:bz N s.bl s.u s.tab) (hx:aY tr (k:Int)=some x) (hn:(x.fs.map (·.1)).Nodup) (hc:fe s (x.fs.map (·.2))) (hEb:w.cell? ⟨6,0,none⟩=some eb) (hEn:w.cell? ⟨1,0,none⟩=some en) (hgT:6<T0/\1<T0) :
  Cl 78 #[.pointer (some ⟨dp,0,none⟩),.int .i64 (k:Int)] w fun e w'=>e = .returned .nilIface/\ri T0 dp tb mb m1 m2 n1 d bb sp sb cap n N (tr.set k none) fb s x w w':=by
 have HH:=i4 (k:Int) hk D;rw [hx] at HH;have HS:Hid (∀W,Bl w W->W.cell? ⟨dp,2,none⟩=some (.map (some m2))/\(Instr.lookup 135 (.map (some m2)) (.int .i64 (k:Int)) false).run Tryz.prog W = .ok (.map (some (fb k))) W/\∃DD:DataW Value,W.ownsMap Tryz.prog 9 d9 (fb k) 1000000 DD/\∀w0,w0.ranges Tryz.prog 9 d9 (fb k) W.heap.size 1000000 DD (Maps.has DD) (Maps.size DD)->W.grownBy w0 none->w0.heap.size=W.heap.size+1->∃left cnt done,lH T0 dp tb mb m1 m2 n1 d bb sp sb cap n N tr fb s k x eb en DD W.heap.size w w0 left cnt done):=xt hk D T S hx hn hc hEb hEn hgT;have HD:Hid (∀W,ri T0 dp tb mb m1 m2 n1 d bb sp sb cap n N tr fb s x w W->W.cell? ⟨dp,1,none⟩=some (.map (some m1))/\∃W1 W2,(Builtin.delete_ #[134,3] 0 #[.map (some m1),.int .i64 (k:Int)]).run Tryz.prog W = .ok (.tuple #[]) W1/\W1.cell? ⟨dp,2,none⟩=some (.map (some m2))/\(Builtin.delete_ #[135,3] 0 #[.map (some m2),.int .i64 (k:Int)]).run Tryz.prog W1 = .ok (.tuple #[]) W2/\Hid (ri T0 dp tb mb m1 m2 n1 d bb sp sb cap n N (tr.set k none) fb s x w W2)):=BF hk hx;clear D T S hx hn hc hEb hEn;go_enter Tryz.func78,Tryz.ntmps78
 go_wp2_with (first
  | (go_at_call 90;refine HH.mono ?_;rintro e w1 ⟨rfl,b1⟩;(obtain ⟨c2,hlk,DD,hown,HJ⟩:=HS.out w1 b1);clear HH HS b1)
  | (at_range;refine wpList_range_own _ rfl _ 140 rfl 9 3 iH Tryz.underlying140 d9 (fb k) 1000000 DD rfl hown ?_;intro w0 hrg0 hg0 hs0;(have HJ0:Hid (∃left cnt done,lH T0 dp tb mb m1 m2 n1 d bb sp sb cap n N tr fb s k x eb en DD w1.heap.size w w0 left cnt done):=HJ w0 hrg0 hg0 hs0);clear HJ hown hlk c2 hrg0 hg0 hs0))
 go_frame
 go_loopw [] (fun wr=>∃left cnt done,lH T0 dp tb mb m1 m2 n1 d bb sp sb cap n N tr fb s k x eb en DD w1.heap.size w wr left cnt done) (fun wr=>wr.rangeLeft (fb k) w1.heap.size)
 case atStart=>exact HJ0.out
 case round =>
  obtain ⟨left,cnt,done,J⟩:=hrel
  go_wp2_with (first
   | (at_next;refine BE J rfl _ rfl rfl (fun HE=>?_) (fun p i w2 c0 HM hen=>?_);any_goals (try (obtain ⟨c1,W1,W2,d1,c2,d2,HE2⟩:=HD.out _ HE.out;clear HE)))
   | (go_at_call 55;refine HM.out.mono ?_;rintro e w3 ⟨rfl,hJ3,hlt3⟩;clear HM))
  ·go_ret
   exact ⟨rfl,HE2.out⟩
  ·exact ⟨hJ3,hlt3⟩
end
end
end Go.Proofs.YtcflefeedcihjaaGreatDoor
namespace Go.Proofs
open Go.Shelf
def Tryz.keysA_ren : Go.Shelf.Ren := ⟨fun | 7 => 113 | 10 => 151 | n => n, fun | 23 => 145 | 26 => 3 | 3 => 169 | 28 => 174 | 0 => 0 | 27 => 173 | 33 => 126 | 4 => 4 | n => n, fun | n => n⟩
theorem Tryz.keysA : Go.Proofs.SlLaysZI.n7 Tryz.prog Tryz.keysA_ren := {
  mixed := by kernel_rfl
  f7 := ⟨Tryz.f113.name, by decide, Tryz.func113.trans (congrArg some (by kernel_rfl))⟩
  f10 := ⟨Tryz.f151.name, by decide, Tryz.func151.trans (congrArg some (by kernel_rfl))⟩
  t0 := Tryz.underlying0
  a0 := Tryz.isAgg0
  z0 := Tryz.sizeOf0
  v0 := Tryz.zeroValue0
  t4 := Tryz.underlying4
  a4 := Tryz.isAgg4
  z4 := Tryz.sizeOf4
  v4 := Tryz.zeroValue4
  t23 := Tryz.underlying145
  a23 := Tryz.isAgg145
  z23 := Tryz.sizeOf145
  v23 := Tryz.zeroValue145
  t26 := Tryz.underlying3
  a26 := Tryz.isAgg3
  z26 := Tryz.sizeOf3
  v26 := Tryz.zeroValue3
  t27 := Tryz.underlying173
  a27 := Tryz.isAgg173
  z27 := Tryz.sizeOf173
  v27 := Tryz.zeroValue173
  t28 := Tryz.underlying174
  a28 := Tryz.isAgg174
  z28 := Tryz.sizeOf174
  v28 := Tryz.zeroValue174
  t33 := Tryz.underlying126
  a33 := Tryz.isAgg126
  z33 := Tryz.sizeOf126
  v33 := Tryz.zeroValue126 }
def Tryz.sortedA_ren : Go.Shelf.Ren := ⟨fun | 6 => 88 | 8 => 138 | 9 => 139 | 11 => 168 | 13 => 170 | 12 => 169 | 23 => 195 | 24 => 196 | 14 => 186 | 15 => 187 | 16 => 188 | 17 => 189 | 18 => 190 | 19 => 191 | 20 => 192 | 21 => 193 | 22 => 194 | 25 => 209 | 26 => 210 | 27 => 211 | 28 => 212 | 29 => 213 | 30 => 214 | 31 => 222 | n => n, fun | 26 => 3 | 28 => 174 | 24 => 58 | 0 => 0 | 3 => 3 | 37 => 205 | 48 => 90 | 50 => 283 | 4 => 4 | 40 => 291 | 39 => 290 | 45 => 160 | 5 => 5 | 9 => 9 | 51 => 309 | 55 => 313 | 57 => 319 | 58 => 81 | 33 => 126 | n => n, fun | n => n⟩
theorem Tryz.sortedA : Go.Proofs.SlLaysZI.n6 Tryz.prog Tryz.sortedA_ren := {
  mixed := by kernel_rfl
  f6 := ⟨Tryz.f88.name, by decide, Tryz.func88.trans (congrArg some (by kernel_rfl))⟩
  f8 := ⟨Tryz.f138.name, by decide, Tryz.func138.trans (congrArg some (by kernel_rfl))⟩
  f11 := ⟨Tryz.f168.name, by decide, Tryz.func168.trans (congrArg some (by kernel_rfl))⟩
  t0 := Tryz.underlying0
  a0 := Tryz.isAgg0
  z0 := Tryz.sizeOf0
  v0 := Tryz.zeroValue0
  t24 := Tryz.underlying58
  a24 := Tryz.isAgg58
  z24 := Tryz.sizeOf58
  v24 := Tryz.zeroValue58
  t26 := Tryz.underlying3
  a26 := Tryz.isAgg3
  z26 := Tryz.sizeOf3
  v26 := Tryz.zeroValue3
  t28 := Tryz.underlying174
  a28 := Tryz.isAgg174
  z28 := Tryz.sizeOf174
  v28 := Tryz.zeroValue174
  i26 := by kernel_rfl }
def Tryz.sortA_ren : Go.Shelf.Ren := ⟨fun | 5 => 139 | 8 => 170 | 7 => 169 | 19 => 195 | 20 => 196 | 10 => 186 | 11 => 187 | 12 => 188 | 13 => 189 | 14 => 190 | 15 => 191 | 16 => 192 | 17 => 193 | 18 => 194 | 30 => 209 | 31 => 210 | 32 => 211 | 33 => 212 | 34 => 213 | 35 => 214 | 40 => 222 | n => n, fun | 23 => 58 | 25 => 3 | 3 => 3 | 32 => 205 | 22 => 58 | 0 => 0 | 44 => 90 | 46 => 283 | 4 => 4 | 36 => 291 | 35 => 290 | 41 => 160 | 5 => 5 | 9 => 9 | 53 => 309 | 57 => 313 | 63 => 319 | 64 => 81 | n => n, fun | n => n⟩
theorem Tryz.sortA : Go.Proofs.SlLaysM.n5 Tryz.prog Tryz.sortA_ren := {
  mixed := by kernel_rfl
  f5 := ⟨Tryz.f139.name, by decide, Tryz.func139.trans (congrArg some (by kernel_rfl))⟩
  f7 := ⟨Tryz.f169.name, by decide, Tryz.func169.trans (congrArg some (by kernel_rfl))⟩
  f8 := Tryz.func170.trans (congrArg some (by kernel_rfl))
  f10 := ⟨Tryz.f186.name, by decide, Tryz.func186.trans (congrArg some (by kernel_rfl))⟩
  f11 := ⟨Tryz.f187.name, by decide, Tryz.func187.trans (congrArg some (by kernel_rfl))⟩
  f12 := ⟨Tryz.f188.name, by decide, Tryz.func188.trans (congrArg some (by kernel_rfl))⟩
  f13 := ⟨Tryz.f189.name, by decide, Tryz.func189.trans (congrArg some (by kernel_rfl))⟩
  f14 := ⟨Tryz.f190.name, by decide, Tryz.func190.trans (congrArg some (by kernel_rfl))⟩
  f15 := ⟨Tryz.f191.name, by decide, Tryz.func191.trans (congrArg some (by kernel_rfl))⟩
  f16 := ⟨Tryz.f192.name, by decide, Tryz.func192.trans (congrArg some (by kernel_rfl))⟩
  f17 := ⟨Tryz.f193.name, by decide, Tryz.func193.trans (congrArg some (by kernel_rfl))⟩
  f18 := ⟨Tryz.f194.name, by decide, Tryz.func194.trans (congrArg some (by kernel_rfl))⟩
  f19 := Tryz.func195.trans (congrArg some (by kernel_rfl))
  f20 := Tryz.func196.trans (congrArg some (by kernel_rfl))
  f30 := ⟨Tryz.f209.name, by decide, Tryz.func209.trans (congrArg some (by kernel_rfl))⟩
  f31 := Tryz.func210.trans (congrArg some (by kernel_rfl))
  f32 := Tryz.func211.trans (congrArg some (by kernel_rfl))
  f33 := ⟨Tryz.f212.name, by decide, Tryz.func212.trans (congrArg some (by kernel_rfl))⟩
  f34 := ⟨Tryz.f213.name, by decide, Tryz.func213.trans (congrArg some (by kernel_rfl))⟩
  f35 := ⟨Tryz.f214.name, by decide, Tryz.func214.trans (congrArg some (by kernel_rfl))⟩
  f40 := ⟨Tryz.f222.name, by decide, Tryz.func222.trans (congrArg some (by kernel_rfl))⟩
  t0 := Tryz.underlying0
  a0 := Tryz.isAgg0
  z0 := Tryz.sizeOf0
  v0 := Tryz.zeroValue0
  t3 := Tryz.underlying3
  a3 := Tryz.isAgg3
  z3 := Tryz.sizeOf3
  v3 := Tryz.zeroValue3
  t4 := Tryz.underlying4
  a4 := Tryz.isAgg4
  z4 := Tryz.sizeOf4
  v4 := Tryz.zeroValue4
  t5 := Tryz.underlying5
  a5 := Tryz.isAgg5
  z5 := Tryz.sizeOf5
  v5 := Tryz.zeroValue5
  t9 := Tryz.underlying9
  a9 := Tryz.isAgg9
  z9 := Tryz.sizeOf9
  v9 := Tryz.zeroValue9
  t22 := Tryz.underlying58
  a22 := Tryz.isAgg58
  z22 := Tryz.sizeOf58
  v22 := Tryz.zeroValue58
  t23 := Tryz.underlying58
  a23 := Tryz.isAgg58
  z23 := Tryz.sizeOf58
  v23 := Tryz.zeroValue58
  t25 := Tryz.underlying3
  a25 := Tryz.isAgg3
  z25 := Tryz.sizeOf3
  v25 := Tryz.zeroValue3
  t32 := Tryz.underlying205
  a32 := Tryz.isAgg205
  z32 := Tryz.sizeOf205
  v32 := Tryz.zeroValue205
  t35 := Tryz.underlying290
  a35 := Tryz.isAgg290
  z35 := Tryz.sizeOf290
  v35 := Tryz.zeroValue290
  t36 := Tryz.underlying291
  a36 := Tryz.isAgg291
  z36 := Tryz.sizeOf291
  v36 := Tryz.zeroValue291
  t41 := Tryz.underlying160
  a41 := Tryz.isAgg160
  z41 := Tryz.sizeOf160
  v41 := Tryz.zeroValue160
  t44 := Tryz.underlying90
  a44 := Tryz.isAgg90
  z44 := Tryz.sizeOf90
  v44 := Tryz.zeroValue90
  t46 := Tryz.underlying283
  a46 := Tryz.isAgg283
  z46 := Tryz.sizeOf283
  v46 := Tryz.zeroValue283
  t53 := Tryz.underlying309
  a53 := Tryz.isAgg309
  z53 := Tryz.sizeOf309
  v53 := Tryz.zeroValue309
  t57 := Tryz.underlying313
  a57 := Tryz.isAgg313
  z57 := Tryz.sizeOf313
  v57 := Tryz.zeroValue313
  t63 := Tryz.underlying319
  a63 := Tryz.isAgg319
  z63 := Tryz.sizeOf319
  v63 := Tryz.zeroValue319
  t64 := Tryz.underlying81
  a64 := Tryz.isAgg81
  z64 := Tryz.sizeOf81
  v64 := Tryz.zeroValue81 }
end Go.Proofs
namespace Go.Proofs.YtcflefeedcihjaaGreatDoor
section
set_option maxRecDepth 100000
set_option maxHeartbeats 1000000
open Go.RowKit Go.Maps Go.Shelf

def bq (tab:List (Option am)):List Nat:=(List.range tab.length).filter fun k=>(af tab k).isSome
theorem fw {tab:List (Option am)} {k:Nat}:k∈bq tab↔∃x,af tab k=some x:=by
 unfold bq;rw [qK,qR,yA];exact ⟨fun h=>h.2,fun ⟨x,h⟩=>⟨aK h,x,h⟩⟩
theorem nL (tab:List (Option am)):(bq tab).Nodup:=List.nodup_range.filter _
theorem Ad (tab:List (Option am)):(bq tab).Pairwise (· < ·):=List.pairwise_lt_range.filter _
theorem DN (tab:List (Option am)):(bq tab).length<=tab.length:=by
 unfold bq;exact jm (qu _ _) (by simp)
theorem DO {l:List Nat} {x:Int}:x∈aD l↔∃k∈l,x=(k:Int):=by
 unfold aD;rw [jv];exact ⟨fun ⟨k,h,e⟩=>⟨k,h,e.symm⟩,fun ⟨k,h,e⟩=>⟨k,h,e.symm⟩⟩
theorem Ae {l:List Nat} (h:l.Nodup):(aD l).Nodup:=by
 unfold aD;exact List.pairwise_map.2 (h.imp fun hne e=>hne (Int.ofNat.inj e))
theorem xu {l:List Nat} (h:l.Pairwise (· < ·)):(aD l).mergeSort leI=aD l:=by
 apply List.mergeSort_of_pairwise
 unfold aD;refine List.pairwise_map.2 (h.imp fun {a b} hlt=>?_);simp only [leI,zm];exact Int.ofNat_le.2 (Nat.le_of_lt hlt)
theorem pU {H:Type} {R:Value->Option (DataW H×List MemPlace)} {w:World} {b n:Nat} {D:DataW H} {f:Nat->Option Nat} {L:List Nat} {ss:List Int} (hown:w.ownsMap Tryz.prog 3 R b n D) (hD:∀k:Int,Maps.has D (.int .i64 k)=(iu f k).isSome) (hL:∀k,k∈L↔(f k).isSome=true) (hs:L.Pairwise (· < ·)) (hp:ss.Perm (intKeys D)):ss.mergeSort (fun x y=>decide (x<=y))=aD L/\ss.length=L.length:=by
 have hnd:L.Nodup:=hs.imp fun h=>Nat.ne_of_lt h
 have hc:CollectedI D (fun _=>false) (aD L):=⟨Ae hnd,fun x=>by
  rw [hD x,DO]
  constructor
  ·rintro ⟨k,hk,rfl⟩
   rw [gi];exact ⟨(hL k).1 hk,rfl⟩
  ·rintro ⟨h,_⟩
   unfold iu at h
   split at h
   ·exact ⟨x.toNat,(hL _).2 h,by omega⟩
   ·cases h⟩
 have hp2:ss.Perm (aD L):=hp.trans (hc.perm hown vg Tryz.underlying3 (fun _=>rfl)).symm;refine ⟨(mergeSort_of_perm_i hp2).trans (xu hs),?_⟩;rw [hp2.length_eq];unfold aD;simp
theorem BH (m:Nat):AnyZI.SortsIn Tryz.prog Tryz.sortedA_ren Fence.wide m :=
  ⟨fun blk off cap ss W hH hblk hsz=>callsIn_wide.2 (AnyM.slices_Sort_int Tryz.sortA blk off cap ss W hH hblk hsz),
   fun p cap W=>callsIn_wide.2 (AnyM.slices_Sort_int_none Tryz.sortA p cap W)⟩
section
variable {F : Nat → Prop} {T0 tb bb sp sb cap mb n : Nat} {bl : List (List UInt8)} {u : List Bool} {tab : List (Option am)}
theorem BI (w:World) (T:aw w F T0 tb bb sp sb cap mb n bl u tab) :
  Cl 64 #[.pointer (some ⟨tb,0,none⟩)] w fun e w'=>∃v,e = .returned v/\bR w' w.heap.size v (bq tab)/\Bl w w':=by
 obtain ⟨f,N⟩:=T.nodes;obtain ⟨D0,hown,hD⟩:=N.map;have hsz:=hown.size_le;have hn:=T.low.2.2.2.2.2.2;have hmax:Maps.size D0<=maxLen:=by unfold maxLen;omega
 have hbytes:Maps.size D0*8<=140737488355328:=by omega
 have HKS:Hid (∀ss:List Int,ss.Perm (intKeys D0)->ss.mergeSort (fun x y=>decide (x<=y))=aD (bq tab)/\ss.length=(bq tab).length):=fun ss hp=>pU (f:=f) hown (fun k=>(hD k).2) (fun k=>by
  rw [fw]
  constructor
  ·rintro ⟨x,hx⟩
   obtain ⟨b,e,_⟩:=N.some_ k x hx;rw [e];rfl
  ·intro h
   cases hx:af tab k with
   | some x=>exact ⟨x,rfl⟩
   | none=>rw [N.none_ k hx] at h;cases h) (Ad tab) hp
 obtain ⟨_,_,c2⟩:=T.cells;clear N hD T;refine (callsIn_wide (n:=6)).1 ?_;have hbl:=hown.lt
 have hseq:SeqGives Fence.wide 2 Tryz.prog 151 #[.pointer (some ⟨w.heap.size,0,none⟩)] encZ (fun ss=>ss.Perm (intKeys D0)) (Maps.size D0) (w.alloc (.cells #[.map (some mb)] 145)) :=
  AnyZI.keys_gives (ρ:=Tryz.keysA_ren) { Tryz.keysA with } Fence.wide _ trivial rfl (by omega) w.heap.size mb n D0 _ (by simp) (by simp) (by
   obtain ⟨es,clock,hb,Ft,hs,hD⟩:=hown;exact ⟨es,clock,(jp _ _ mb hbl).trans hb,Ft,hs,hD⟩)
 have cK:∀mb W,CallsIn Fence.wide 5 Tryz.prog 113 #[.map mb] W fun e w'=>e = .returned (.func (.func 151) #[] #[.pointer (some ⟨W.heap.size,0,none⟩)])/\w'=W.alloc (.cells #[.map mb] 145):=fun mb W=>AnyZI.keys_in Tryz.keysA Fence.wide 5 trivial rfl mb W;have cS:=AnyZI.sorted_in Tryz.sortedA Fence.wide 5 trivial trivial trivial trivial rfl (by omega) (BH _) (enters_of Tryz.func139 (by kernel_rfl) rfl) 151 #[.pointer (some ⟨w.heap.size,0,none⟩)] trivial (enters_of Tryz.func151 (by kernel_rfl) rfl) _ _ hmax hbytes _ hseq
 change CallsIn _ _ Tryz.prog 88 _ _ _ at cS
 have hfK:Fence.wide.fn 113:=trivial;have hfS:Fence.wide.fn 88:=trivial;refine callsIn_of_wp Tryz.func64 rfl trivial ?_ rfl;simp only [Tryz.ntmps64,qv,jz,qF,Nat.reduceAdd,Nat.reduceSub,qU,qV,yr,yf,qq,jX]
 gi_wp2_with (first
  | (gi_at_call 113;refine (cK _ _).mono ?_;rintro e w' ⟨rfl,rfl⟩)
  | (gi_at_call 88;refine cS.mono ?_;rintro e w' ⟨v,ss,rfl,hS,hrow,hnil,hb⟩))
 go_ret;obtain ⟨e1,e2⟩:=HKS.out ss hS;rw [e1,e2] at hrow;exact ⟨v,rfl,ownsRow_base_a hrow (by simp),((je _ w).alloc (jd _) _).trans (hb.mono (by simp))⟩
theorem yS (w:World) (T:aw w F T0 tb bb sp sb cap mb n bl u tab) :
  Cl 47 #[.pointer (some ⟨tb,0,none⟩)] w fun e w'=>e = .returned (.pointer (some ⟨bb+1,0,none⟩))/\w'=w:=by
 obtain ⟨c0,_,_⟩:=T.cells;clear T;go_enter Tryz.func47,Tryz.ntmps47;go_wp2_with fail
 go_ret;exact ⟨rfl,rfl⟩
end
end
end Go.Proofs.YtcflefeedcihjaaGreatDoor
namespace Go.Proofs
open Go.Shelf
def Tryz.keysN_ren : Go.Shelf.Ren := ⟨fun | 7 => 89 | 10 => 140 | n => n, fun | 23 => 134 | 26 => 3 | 3 => 32 | 28 => 174 | 0 => 0 | 27 => 173 | 33 => 126 | 4 => 4 | n => n, fun | n => n⟩
theorem Tryz.keysN : Go.Proofs.SlLaysZI.n7 Tryz.prog Tryz.keysN_ren := {
  mixed := by kernel_rfl
  f7 := ⟨Tryz.f89.name, by decide, Tryz.func89.trans (congrArg some (by kernel_rfl))⟩
  f10 := ⟨Tryz.f140.name, by decide, Tryz.func140.trans (congrArg some (by kernel_rfl))⟩
  t0 := Tryz.underlying0
  a0 := Tryz.isAgg0
  z0 := Tryz.sizeOf0
  v0 := Tryz.zeroValue0
  t4 := Tryz.underlying4
  a4 := Tryz.isAgg4
  z4 := Tryz.sizeOf4
  v4 := Tryz.zeroValue4
  t23 := Tryz.underlying134
  a23 := Tryz.isAgg134
  z23 := Tryz.sizeOf134
  v23 := Tryz.zeroValue134
  t26 := Tryz.underlying3
  a26 := Tryz.isAgg3
  z26 := Tryz.sizeOf3
  v26 := Tryz.zeroValue3
  t27 := Tryz.underlying173
  a27 := Tryz.isAgg173
  z27 := Tryz.sizeOf173
  v27 := Tryz.zeroValue173
  t28 := Tryz.underlying174
  a28 := Tryz.isAgg174
  z28 := Tryz.sizeOf174
  v28 := Tryz.zeroValue174
  t33 := Tryz.underlying126
  a33 := Tryz.isAgg126
  z33 := Tryz.sizeOf126
  v33 := Tryz.zeroValue126 }
end Go.Proofs
namespace Go.Proofs.YtcflefeedcihjaaGreatDoor
section
set_option maxRecDepth 100000
set_option maxHeartbeats 1000000
open Go.RowKit Go.Maps Go.Shelf

def bK (tr:List (Option ah)):List Nat:=(List.range tr.length).filter fun k=>(aY tr (k:Int)).isSome
theorem nM {tr:List (Option ah)} {k:Nat}:k∈bK tr↔∃x,aY tr (k:Int)=some x:=by
 unfold bK;rw [qK,qR,yA];refine ⟨fun h=>h.2,fun ⟨x,h⟩=>⟨?_,x,h⟩⟩;rw [cD] at h
 cases h':tr[k]? with
 | none=>rw [h'] at h;cases h
 | some z=>exact (jb.1 h').1
theorem Af (tr:List (Option ah)):(bK tr).Pairwise (· < ·):=List.pairwise_lt_range.filter _
section
variable {w : World} {T0 dp tb mb m1 m2 n1 d : Nat} {tr : List (Option ah)} {fb : Nat → Nat}
theorem rV (D:aI w T0 dp tb mb m1 m2 n1 d tr fb) :
  Cl 41 #[.pointer (some ⟨dp,0,none⟩)] w fun e w'=>∃v,e = .returned v/\bR w' w.heap.size v (bK tr)/\Bl w w':=by
 obtain ⟨f1,f2,M1,M2,h0,h1,_⟩:=D.maps;obtain ⟨D0,hown,hD⟩:=M1;have hsz:=hown.size_le;have hn:=D.low.2.2.2.2.2.2;have hmax:Maps.size D0<=maxLen:=by unfold maxLen;omega
 have hbytes:Maps.size D0*8<=140737488355328:=by omega
 have hf1:∀k:Int,(f1 (.int .i64 k)).isSome=(aY tr k).isSome:=fun k=>by
  cases h:aY tr k with
  | none=>rw [(h0 k h).1];rfl
  | some x =>
   obtain ⟨j,rfl,hj⟩:=ip h;obtain ⟨⟨u,a1,_⟩,_⟩:=h1 j x hj;rw [a1];rfl
 have HKS:Hid (∀ss:List Int,ss.Perm (intKeys D0)->ss.mergeSort (fun x y=>decide (x<=y))=aD (bK tr)/\ss.length=(bK tr).length):=fun ss hp=>pU (f:=fun k=>if (aY tr (k:Int)).isSome=true then some 0 else none) hown (fun k=>by
  rw [(hD (.int .i64 k) trivial).2,hf1 k];unfold iu;by_cases hk:0<=k
  ·rw [zj hk]
   show _=(if (aY tr ((k.toNat:Nat):Int)).isSome=true then some 0 else none).isSome;have e:((k.toNat:Nat):Int)=k:=by omega
   rw [e];cases (aY tr k).isSome <;> rfl
  ·rw [zi hk]
   have e:aY tr k=none:=(by unfold aY;rw [zi hk]);rw [e];rfl) (fun k=>by
  rw [nM,<-yA];cases (aY tr (k:Int)).isSome <;> simp) (Af tr) hp
 obtain ⟨_,c1,_,_⟩:=D.cells;clear D h0 h1 hD M2 hf1;refine (callsIn_wide (n:=6)).1 ?_;have hbl:=hown.lt
 have hseq:SeqGives Fence.wide 2 Tryz.prog 140 #[.pointer (some ⟨w.heap.size,0,none⟩)] encZ (fun ss=>ss.Perm (intKeys D0)) (Maps.size D0) (w.alloc (.cells #[.map (some m1)] 134)) :=
  AnyZI.keys_gives (ρ:=Tryz.keysN_ren) { Tryz.keysN with } Fence.wide _ trivial rfl (by omega) w.heap.size m1 n1 D0 _ (by simp) (by simp) (by
   obtain ⟨es,clock,hb,Ft,hs,hD⟩:=hown;exact ⟨es,clock,(jp _ _ m1 hbl).trans hb,Ft,hs,hD⟩)
 have cK:∀mb W,CallsIn Fence.wide 5 Tryz.prog 89 #[.map mb] W fun e w'=>e = .returned (.func (.func 140) #[] #[.pointer (some ⟨W.heap.size,0,none⟩)])/\w'=W.alloc (.cells #[.map mb] 134):=fun mb W=>AnyZI.keys_in Tryz.keysN Fence.wide 5 trivial rfl mb W;have cS:=AnyZI.sorted_in Tryz.sortedA Fence.wide 5 trivial trivial trivial trivial rfl (by omega) (BH _) (enters_of Tryz.func139 (by kernel_rfl) rfl) 140 #[.pointer (some ⟨w.heap.size,0,none⟩)] trivial (enters_of Tryz.func140 (by kernel_rfl) rfl) _ _ hmax hbytes _ hseq
 change CallsIn _ _ Tryz.prog 88 _ _ _ at cS
 have hfK:Fence.wide.fn 89:=trivial;have hfS:Fence.wide.fn 88:=trivial;refine callsIn_of_wp Tryz.func41 rfl trivial ?_ rfl;simp only [Tryz.ntmps41,qv,jz,qF,Nat.reduceAdd,Nat.reduceSub,qU,qV,yr,yf,qq,jX]
 gi_wp2_with (first
  | (gi_at_call 89;refine (cK _ _).mono ?_;rintro e w' ⟨rfl,rfl⟩)
  | (gi_at_call 88;refine cS.mono ?_;rintro e w' ⟨v,ss,rfl,hS,hrow,hnil,hb⟩))
 go_ret;obtain ⟨e1,e2⟩:=HKS.out ss hS;rw [e1,e2] at hrow;exact ⟨v,rfl,ownsRow_base_a hrow (by simp),((je _ w).alloc (jd _) _).trans (hb.mono (by simp))⟩
theorem DP (hmb:mb<w.heap.size) (hT:T0<=w.heap.size) (d:Nat) (fb:Nat->Nat) :
  Cl 32 #[.pointer (some ⟨tb,0,none⟩)] w fun e w'=>∃dp m1 m2,e = .returned (.tuple #[.pointer (some ⟨dp,0,none⟩),.nilIface])/\aI w' T0 dp tb mb m1 m2 0 d [] fb/\Bl w w':=by
 have hmm := @run_makeMap Tryz.prog;go_enter Tryz.func32,Tryz.ntmps32;go_wp2_with fail
 go_ret2;have hb:Bl w (((w.alloc (.map #[] 0)).alloc (.map #[] 0)).alloc (.cells #[.pointer (some ⟨tb,0,none⟩),.map (some w.heap.size),.map (some (w.heap.size+1)),.int .i64 0] 137)):=(((je _ w).alloc (jd _) _).alloc (by simp) _).alloc (by simp;omega) _
 have k1:(((w.alloc (.map #[] 0)).alloc (.map #[] 0)).alloc (.cells #[.pointer (some ⟨tb,0,none⟩),.map (some w.heap.size),.map (some (w.heap.size+1)),.int .i64 0] 137)).heap[w.heap.size]? = (w.alloc (.map #[] 0)).heap[w.heap.size]? := by
  rw [jp _ _ _ (by simp;omega),jp _ _ _ (by simp)]
 have M1:=(bw.made w 3).keep k1;have M2:=(bw.made (w.alloc (.map #[] 0)) 3).keep (w':=(((w.alloc (.map #[] 0)).alloc (.map #[] 0)).alloc (.cells #[.pointer (some ⟨tb,0,none⟩),.map (some w.heap.size),.map (some (w.heap.size+1)),.int .i64 0] 137))) (jp _ _ _ (by simp));rw [jE] at M2;refine ⟨w.heap.size+2,w.heap.size,w.heap.size+1,by simp,⟨?_,⟨_,_,M1,M2,fun _ _=>⟨rfl,rfl⟩,fun k x h=>by rw [cD] at h;simp at h,fun k j x y h=>by rw [cD] at h;simp at h⟩,by omega,hT,by omega,by omega,by omega,by omega,by omega⟩,hb⟩;have h:=heap_alloc_last ((w.alloc (.map #[] 0)).alloc (.map #[] 0)) (.cells #[.pointer (some ⟨tb,0,none⟩),.map (some w.heap.size),.map (some (w.heap.size+1)),.int .i64 0] 137);rw [jE,jE] at h;exact h
end
end
section
set_option maxRecDepth 100000
open Go.RowKit Go.Maps

structure i9 (N:Nat) (s:ay) (R:List (Nat×ByteArray×Bool)):Prop where
 sp:bz N s.bl s.u s.tab
 held:∀r∈R,∃y,af s.tab r.1=some y/\aq s.bl y.blocks y.bytes=r.2.1/\y.exec=r.2.2/\y.sum=aR r.2.1
 links:∀q y,af s.tab q=some y->y.links=(R.map (·.1)).count q
def refs (fs:List (ByteArray×Nat)) (files:List (ByteArray×ab)):List (Nat×ByteArray×Bool):=List.zipWith (fun f y=>(f.2,y.2.data,y.2.exec)) fs files
namespace i9
variable {N : Nat} {s : ay} {R R' : List (Nat × ByteArray × Bool)}
theorem perm (I:i9 N s R) (p:R.Perm R'):i9 N s R':=⟨I.sp,fun r hr=>I.held r (p.mem_iff.2 hr),fun q y hy=>by rw [I.links q y hy];exact (p.map _).count_eq q⟩
theorem make (I:i9 N s R) {d:ByteArray} (ex:Bool) (hd:d.size<=2000) (hf:aC d.size<=(aE s.u).length):i9 N (oo s d ex) ((bJ s.tab,d,ex) :: R):=by
 have hfree:∀b∈eI s d,s.u[b]? = some false:=fun b h=>gt.1 (jU h);have hnd:(eI s d).Nodup:=(fH _ _ _).sublist (List.take_sublist _ _);have hlt:∀b∈eI s d,b<s.bl.length:=fun b h=>by rw [I.sp.lbl,<-I.sp.lu];exact (jb.1 (hfree b h)).1
 have hfit:d.size<=(eI s d).length*16:=by
  have:=lY d.size
  unfold eI;rw [js,yu hf];exact this
 have hslot:∀j,af (oo s d ex).tab j=if j=bJ s.tab then some ⟨d.size,1,ex,eI s d,aR d⟩ else af s.tab j:=fun j=>fP _ _ _
 have hne:∀r∈R,¬r.1=bJ s.tab:=fun r hr e=>by
  obtain ⟨y,hy,_⟩:=I.held r hr;rw [e,kC] at hy;cases hy
 refine ⟨I.sp.make hd rfl hf,fun r hr=>?_,fun q y hy=>?_⟩
 ·rw [hslot]
  rcases jN.1 hr with e|hr
  ·subst e
   rw [zj rfl];exact ⟨_,rfl,uS hnd hlt hfit,rfl,rfl⟩
  ·rw [zi (hne r hr)]
   obtain ⟨y,hy,h1,h2⟩:=I.held r hr;refine ⟨y,hy,?_,h2⟩;show aq (db s.bl (eI s d) d) y.blocks y.bytes=_
   rw [Bq (fun b hb hb2=>by
    have e1:=(I.sp.own _ y hy).2.1 b hb;rw [hfree b hb2] at e1;cases e1)]
   exact h1
 ·rw [hslot] at hy
  rw [jH]
  split at hy
  ·rename_i e
   cases hy
   rw [e,qX,List.count_eq_zero.2 (fun h=>by
    obtain ⟨r,hr,e1⟩:=jv.1 h;exact hne r hr e1)]
  ·rename_i e
   rw [yi (fun h=>e h.symm)];exact I.links q y hy
theorem unlink {q:Nat} {d:ByteArray} {e:Bool} {y:am} (I:i9 N s ((q,d,e) :: R)) (hy:af s.tab q=some y):i9 N (bh s q y) R:=by
 have hl:=I.links q y hy;rw [jH,qX] at hl;have hbl:(bh s q y).bl=s.bl:=by unfold bh;split <;> rfl
 refine ⟨tB I.sp hy,fun r hr=>?_,fun j z hz=>?_⟩
 ·obtain ⟨z,hz,h1,h2,h3⟩:=I.held r (jw _ hr)
  rw [gE hy,hbl];by_cases er:r.1=q
  ·have h0:0<(R.map (·.1)).count q:=yn.2 (by rw [<-er];exact qA (f:=(·.1)) hr)
   rw [er,hy] at hz;cases hz
   rw [zj er,zi (by omega)];exact ⟨_,rfl,h1,h2,h3⟩
  ·rw [zi er]
   exact ⟨z,hz,h1,h2,h3⟩
 ·rw [gE hy] at hz
  split at hz
  ·rename_i ej
   split at hz
   ·cases hz
   ·cases hz
    rw [ej];show y.links-1=_;omega
  ·rename_i ej
   have:=I.links j z hz
   rw [jH,yi (fun h=>ej h.symm)] at this;exact this
theorem link {j:Nat} {z:am} (I:i9 N s R) (hz:af s.tab j=some z) (hc:aR (aq s.bl z.blocks z.bytes)=z.sum):i9 N (cG s j z) ((j,aq s.bl z.blocks z.bytes,z.exec) :: R):=by
 have hslot:∀i,af (cG s j z).tab i=if i=j then some { z with links:=z.links+1 } else af s.tab i:=fun i=>bT (aK hz) _ _
 refine ⟨pF I.sp hz,fun r hr=>?_,fun i y hy=>?_⟩
 ·rw [hslot]
  rcases jN.1 hr with e|hr
  ·subst e
   rw [zj rfl];exact ⟨_,rfl,rfl,rfl,hc.symm⟩
  ·obtain ⟨y,hy,h1,h2,h3⟩:=I.held r hr
   by_cases e:r.1=j
   ·rw [e,hz] at hy
    cases hy
    rw [zj e];exact ⟨_,rfl,h1,h2,h3⟩
   ·rw [zi e]
    exact ⟨y,hy,h1,h2,h3⟩
 ·rw [hslot] at hy
  rw [jH]
  split at hy
  ·rename_i e
   cases hy
   rw [e,qX,<-I.links j z hz]
  ·rename_i e
   rw [yi (fun h=>e h.symm)];exact I.links i y hy
theorem makes:∀(l:List (ByteArray×ab)) {s:ay} {R:List (Nat×ByteArray×Bool)},i9 N s R->(∀x∈l,x.2.data.size<=2000)->aG l<=(aE s.u).length->i9 N (aW s l) (refs (bS s l) l++R)
 | [],s,R,I,_,_=>I
 | x :: l,s,R,I,hs,hn=>by
  have hn':aG (x :: l)=aC x.2.data.size+aG l:=(by simp [aG]);have h1:=I.make x.2.exec (hs x (jy ..)) (by omega)
  have h2:=makes l h1 (fun y hy=>hs y (jw _ hy)) (by
   show aG l<=(aE (bo s.u true (eI s x.2.data))).length;unfold eI;rw [l8]
   omega)
  refine h2.perm ?_;show (refs (bS (oo s x.2.data x.2.exec) l) l++(bJ s.tab,x.2.data,x.2.exec) :: R).Perm _;exact List.perm_middle
end i9
end
end Go.Proofs.YtcflefeedcihjaaGreatDoor
