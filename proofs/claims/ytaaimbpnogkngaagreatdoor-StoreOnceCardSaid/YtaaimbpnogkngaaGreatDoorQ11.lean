/- Dx Dy Dz ShelfK ImO ShelfN Ea CpC Eb, joined. Conditions: as each states. -/
import Derived.Test.YtaaimbpnogkngaaGreatDoorQ10
import Derived.Shelf.SlIterI.Nil
import Derived.Shelf.SortM.Plain
import Derived.Shelf.SortM.SortNone
import Derived.Ground.GgzProg
import Derived.Ground.SlgmProg
namespace Go.Proofs.YtaaimbpnogkngaaGreatDoor
set_option maxHeartbeats 4000000
set_option maxRecDepth 100000
section
open Go.RowKit Go.Maps

def sx (s:aV) (i:Nat):aV:=match aj s.tab i with
 | some y=>cV s i y
 | none=>s
def dw (s:aV) (l:List Nat):aV:=l.foldl sx s
def il (s:aV) (L:List Nat):Prop:=∀i,i∈L->∃y,aj s.tab i=some y/\L.count i<=y.links/\y.links<=1000000
theorem il.perm {s:aV} {L M:List Nat} (h:il s L) (p:L.Perm M):il s M:=fun i hi=>by
 obtain ⟨y,a,b,c⟩:=h i (p.mem_iff.2 hi);exact ⟨y,a,by rw [<-p.count_eq i];exact b,c⟩
theorem mP {s:aV} {i:Nat} {y:ay} (hy:aj s.tab i=some y) (j:Nat):aj (cV s i y).tab j=if j=i then (if y.links=1 then none else some { y with links:=y.links-1 }) else aj s.tab j:=by
 unfold cV
 split
 ·show aj (s.tab.set i none) j=_
  rw [bW (bz hy)]
 ·show aj (s.tab.set i _) j=_
  rw [bW (bz hy)]
theorem il.step {s:aV} {i:Nat} {y:ay} {L:List Nat} (h:il s (i :: L)) (hy:aj s.tab i=some y):il (cV s i y) L:=fun j hj=>by
 obtain ⟨z,a,b,c⟩:=h j (jw _ hj);rw [mP hy];by_cases e:j=i
 ·subst e
  rw [hy] at a;cases a
  rw [qX] at b;have h0:0<L.count j:=yn.2 hj;rw [zj rfl,zi (by omega)];exact ⟨_,rfl,by show _<=y.links-1;omega,by show y.links-1<=_;omega⟩
 ·rw [zi e]
  rw [yi (fun h=>e h.symm)] at b;exact ⟨z,a,b,c⟩
theorem CJ (s:aV) (l:List Nat) (i:Nat) {y:ay} (hy:aj (dw s l).tab i=some y):dw s (l ++ [i])=cV (dw s l) i y:=by
 have h:dw s (l ++ [i])=sx (dw s l) i:=by simp [dw]
 rw [h];unfold sx;rw [hy]
def fO (x:Yb×Nat):Lit:=.string x.1.data.toList
theorem dC {p:Yb} {i:Nat} (fs:List (Yb×Nat)):aH fs p=some i->(p,i)∈fs:=fN (P:=fun fs=>aH fs p=some i->(p,i)∈fs) (fun h=>by cases h) (fun l x ih h=>by
 rw [ik] at h
 split at h
 ·rename_i e
  cases h
  rw [<-e]
  simp
 ·exact yD _ (ih h)) _ fs rfl
theorem FW (x:Yb×Nat):(fO x).sameKey (fO x)=true:=WideAt.sameKey_self (by trivial)
theorem CK {x y:Yb×Nat} (h:¬x.1=y.1):(fO x).sameKey (fO y)=false:=Maps.sameKey_ne (fun e=>h (fK (by simpa [fO] using e)))
theorem vF {left:Lit->Bool} {z:Yb×Nat} (hl:left (fO z)=true):∀ {fs:List (Yb×Nat)},(fs.map (·.1)).Nodup->z∈fs->(fs.filter (fun x=>left (fO x))).Perm (z :: fs.filter (fun x=>left (fO x) && !(fO x).sameKey (fO z)))
 | [],_,h=>by cases h
 | x :: fs,hn,h=>by
  rw [jH,yj] at hn
  rcases jN.1 h with e|hm
  ·subst e
   rw [qL (by simp [hl]),qM (by simp [FW])];refine List.Perm.cons _ (List.Perm.of_eq (List.filter_congr fun y hy=>?_));rw [CK (fun e=>hn.1 (by rw [<-e];exact qA (f:=(·.1)) hy))]
   simp
  ·have hx:(fO x).sameKey (fO z)=false:=CK (fun e=>hn.1 (by rw [e];exact qA (f:=(·.1)) hm))
   have ih:=vF hl hn.2 hm
   cases hxl:left (fO x) with
   | false=>rw [qM (by simp [hxl]),qM (by simp [hxl])];exact ih
   | true =>
    rw [qL (by simp [hxl]),qL (by simp [hxl,hx])];exact (List.Perm.cons x ih).trans (List.Perm.swap _ _ _)
theorem rk {key:Yv} {kl:Lit} (h:keyOf Tryz.prog 9 key=some kl):∃p:Yb,key = .string p/\kl = .string p.data.toList:=by
 have hu:=Tryz.underlying9;cases key <;> simp [keyOf,hu,mapKey] at h
 exact ⟨_,rfl,h.2.symm⟩
theorem oV {w w':Yw} {kt b r n cnt:Nat} {D:DataW Yv} {left:Lit->Bool} (h:w.ranges Tryz.prog kt bD b r n D left cnt) (hb:∀o,w.heap[b]? = some o->w'.heap[b]? = some o) (hr:∀o,w.heap[r]? = some o->w'.heap[r]? = some o):w'.ranges Tryz.prog kt bD b r n D left cnt:=by
 obtain ⟨es,clock,since,seen,c0,h1,F,hs,hD,h2,rest⟩:=h;exact ⟨es,clock,since,seen,c0,hb _ h1,F,hs,hD,hr _ h2,rest⟩
theorem gA {w:Yw} {kt b r n cnt:Nat} {D:DataW Yv} {left:Lit->Bool} (h:w.ranges Tryz.prog kt bD b r n D left cnt):(∃es cl,w.heap[b]? = some (.map es cl))/\∃m s v c,w.heap[r]? = some (.mapIter m s v c):=by
 obtain ⟨es,clock,since,seen,c0,h1,F,hs,hD,h2,rest⟩:=h;exact ⟨⟨_,_,h1⟩,⟨_,_,_,_,h2⟩⟩
def FX:Obj->Bool
 | .mapIter _ _ _ _=>true
 | _=>false
section
variable {w w':Yw} {T0 dp tb mb m1 m2 n1 d bb sp sb cap n:Nat} {tr:List (Yo af)} {fb:Nat → Nat} {F:Nat → Prop} {bl:List (Yu)} {u:List Bool} {tab:List (Yo ay)}
theorem am.iter (T:am w F T0 tb bb sp sb cap mb n bl u tab) (ht:aN FX w w'):am w' F T0 tb bb sp sb cap mb n bl u tab:=by
 obtain ⟨f,Nd⟩:=T.nodes;refine ⟨ht _ _ T.box rfl,T.disk.turn ht (fun _ _=>rfl) (fun _ _=>rfl) (fun _ _=>rfl),T.space.turn ht (fun _ _=>rfl) (fun _ _=>rfl),⟨f,?_,fun k x hx=>?_,Nd.none_,Nd.inj⟩,T.low⟩
 ·obtain ⟨es,cl,hb⟩:=Nd.map.obj
  exact Nd.map.keep (by rw [hb];exact ht _ _ hb rfl)
 ·obtain ⟨b,e,hb,S⟩:=Nd.some_ k x hx
  exact ⟨b,e,hb,S.turn ht (fun _ _=>rfl) (fun _ _=>rfl)⟩
theorem aG.iter (D:aG w T0 dp tb mb m1 m2 n1 d tr fb) (hs:w.heap.size<=w'.heap.size) (ht:aN FX w w'):aG w' T0 dp tb mb m1 m2 n1 d tr fb :=
 D.kept hs (fun k o hk hp _=>ht k o hk (by cases o <;> first|rfl|cases hp)) (fun _ hc=>ht _ _ hc rfl) (fun _ _ hc=>ht _ _ hc rfl)
theorem aG.dropped (D:aG w T0 dp tb mb m1 m2 n1 d tr fb) {k:Nat} {x:af} (hk:(Lit.int .i64 (k:Int)).wf=true) (hx:aO tr (k:Int)=some x) (ty:TypeId) :
  ∃w1 w2,(Builtin.delete_ #[140,3] ty #[.map (some m1),.int .i64 (k:Int)]).run Tryz.prog w = .ok (.tuple #[]) w1/\(Builtin.delete_ #[141,3] ty #[.map (some m2),.int .i64 (k:Int)]).run Tryz.prog w1 = .ok (.tuple #[]) w2/\(∀(q:Nat) (o:Obj),w.heap[q]? = some o->q≠m1->w1.heap[q]? = some o)/\(∀(q:Nat) (o:Obj),w.heap[q]? = some o->q≠m1->q≠m2->w2.heap[q]? = some o)/\(w2.os=w.os/\w2.tape=w.tape/\w2.output=w.output/\w2.heap.size=w.heap.size)/\aG w2 T0 dp tb mb m1 m2 n1 d (tr.set k none) fb:=by
 obtain ⟨l1,l2,l3,l4,l5,l6,l7⟩:=D.low;obtain ⟨f1,f2,M1,M2,h0,h1,h2⟩:=D.maps;obtain ⟨w1,r1,M1',g1,z1⟩:=M1.del eU Tryz.underlying140 (keyOf_int_mk Tryz.underlying3 hk) ty;obtain ⟨es1,cl1,hm1⟩:=M1.obj;obtain ⟨es2,cl2,hm2⟩:=M2.obj;have M2w:ar w1 3 m2 n1 f2:=M2.keep (by rw [g1.block m2 (ja.1 hm2).1 (fun e=>l4 (jO e).symm)]);obtain ⟨w2,r2,M2',g2,z2⟩:=M2w.del eU Tryz.underlying141 (keyOf_int_mk Tryz.underlying3 hk) ty;have k1:∀(q:Nat) (o:Obj),w.heap[q]? = some o->q≠m1->w1.heap[q]? = some o:=fun q o hq hne=>by rw [g1.block q (ja.1 hq).1 (fun e=>hne (jO e))];exact hq
 have k2:∀(q:Nat) (o:Obj),w.heap[q]? = some o->q≠m1->q≠m2->w2.heap[q]? = some o:=fun q o hq hne hne2=>by
  have hq1:=k1 q o hq hne;rw [g2.block q (ja.1 hq1).1 (fun e=>hne2 (jO e))];exact hq1
 have kc:∀(q:Nat) cs ty,w.heap[q]? = some (Obj.cells cs ty (0,0))->w2.heap[q]? = some (Obj.cells cs ty (0,0)):=fun q cs ty hq=>k2 q _ hq (fun e=>by rw [e,hm1] at hq;cases hq) (fun e=>by rw [e,hm2] at hq;cases hq)
 have mk:∀ {kt mm q:Nat} {f:Lit->Yo Yv},ar w kt mm q f->mm≠m1->mm≠m2->ar w2 kt mm q f:=fun M a b=>by
  obtain ⟨es,cl,h⟩:=M.obj;exact M.keep ((k2 _ _ h a b).trans h.symm)
 have M1'':ar w2 3 m1 n1 (updK f1 (.int .i64 (k:Int)) none):=by
  obtain ⟨es,cl,h⟩:=M1'.obj;exact M1'.keep (by rw [g2.block m1 (ja.1 h).1 (fun e=>l4 (jO e))])
 refine ⟨w1,w2,r1,r2,k1,k2,⟨g2.os.trans g1.os,g2.tape.trans g1.tape,g2.output.trans g1.output,by rw [z2,z1]⟩,⟨by rw [jI];exact kc _ _ _ D.box,⟨_,_,M1'',M2',fun j hj=>?_,fun j y hy=>?_,fun i j y z hy hz e=>?_⟩,D.low⟩⟩
 ·rw [eV hx] at hj
  by_cases e:j=(k:Int)
  ·rw [e,bN,bN];exact ⟨rfl,rfl⟩
  ·rw [zi e] at hj
   rw [aP _ _ (fun h=>e (by simpa using h)),aP _ _ (fun h=>e (by simpa using h))];exact h0 j hj
 ·rw [eV hx] at hy
  split at hy
  ·cases hy
  ·rename_i e
   obtain ⟨⟨v,a1,a2⟩,a3,a4,a5,a6,a7⟩:=h1 j y hy;refine ⟨⟨v,?_,a2.kept (by rw [z2,z1];exact jd _) (fun q c h=>kc q c _ h)⟩,?_,mk a4 a5 a6,a5,a6,a7⟩
   ·rw [aP _ _ (fun h=>e (by simpa using h))];exact a1
   ·rw [aP _ _ (fun h=>e (by simpa using h))];exact a3
 ·have key:∀(i:Nat) (y:af),aO (tr.set k none) (i:Int)=some y->aO tr (i:Int)=some y:=fun i y hy=>by
   rw [eV hx] at hy
   split at hy
   ·cases hy
   ·exact hy
  exact h2 i j y z (key i y hy) (key j z hz) e
end
end
section
open Go.RowKit Go.Maps

theorem rn {y:Yb×Nat} (fs:List (Yb×Nat)):y∈fs->(aH fs y.1).isSome=true:=fN (P:=fun fs=>y∈fs->(aH fs y.1).isSome=true) (fun h=>by cases h) (fun l x ih h=>by
 rw [ik]
 split
 ·rfl
 ·rename_i e
  rcases jT.1 h with h|h
  ·exact ih h
  ·rw [jF.1 h] at e
   exact absurd rfl e) _ fs rfl
structure lp (T0 dp tb mb m1 m2 n1 d bb sp sb cap n N:Nat) (tr:List (Yo af)) (fb:Nat->Nat) (s:aV) (k:Nat) (x:af) (eb en:Yv) (D:DataW Yv) (r:Nat) (w0 wr:Yw) (left:Lit->Bool) (cnt:Nat) (done:List (Yb×Nat)):Prop where
 rg:wr.ranges Tryz.prog 9 bD (fb k) r 1000000 D left cnt
 val:∀kl,WideAt.IsKeyLit kl->(∀z,D.atKey kl z=fV (fmap x.fs kl) z)/\Maps.has D kl=(fmap x.fs kl).isSome
 keys:(x.fs.map (·.1)).Nodup
 ne:fb k≠mb
 low:w0.heap.size<=r
 perm:(done++x.fs.filter (fun y=>left (fO y))).Perm x.fs
 ok:il (dw s (done.map (·.2))) ((x.fs.filter (fun y=>left (fO y))).map (·.2))
 inv:bT N (dw s (done.map (·.2))).bl (dw s (done.map (·.2))).u (dw s (done.map (·.2))).tab
 dir:aG wr T0 dp tb mb m1 m2 n1 d tr fb
 tab:am wr (fun _=>False) T0 tb bb sp sb cap mb n (dw s (done.map (·.2))).bl (dw s (done.map (·.2))).u (dw s (done.map (·.2))).tab
 but:bH T0 dp w0 wr
 eb:wr.cell? ⟨1,0,none⟩=some eb
 en:wr.cell? ⟨5,0,none⟩=some en
 gT:1<T0/\5<T0
def pL (T0 dp tb mb m1 m2 n1 d bb sp sb cap n N:Nat) (tr:List (Yo af)) (fb:Nat->Nat) (s:aV) (x:af) (w0 wr:Yw):Prop :=
 ∃l,l.Perm (x.fs.map (·.2))/\aG wr T0 dp tb mb m1 m2 n1 d tr fb/\am wr (fun _=>False) T0 tb bb sp sb cap mb n (dw s l).bl (dw s l).u (dw s l).tab/\bT N (dw s l).bl (dw s l).u (dw s l).tab/\bH T0 dp w0 wr
section
variable {T0 dp tb mb m1 m2 n1 d bb sp sb cap n N k r cnt:Nat} {tr:List (Yo af)} {fb:Nat → Nat} {s:aV} {x:af} {eb en:Yv} {D:DataW Yv} {w0 wr:Yw} {left:Lit → Bool} {done:List (Yb × Nat)}
theorem lp.ends (J:lp T0 dp tb mb m1 m2 n1 d bb sp sb cap n N tr fb s k x eb en D r w0 wr left cnt done) (h:∀kl,left kl=false):pL T0 dp tb mb m1 m2 n1 d bb sp sb cap n N tr fb s x w0 wr:=by
 have hp:=J.perm;rw [List.filter_eq_nil_iff.2 (fun y _=>by simp [h]),qz] at hp;exact ⟨_,hp.map _,J.dir,J.tab,J.inv,J.but⟩
theorem lp.more {w1:Yw} {cnt1:Nat} {p:Yb} {c:Yv} {kl:Lit} {y:DataW Yv×List MemPlace} (J:lp T0 dp tb mb m1 m2 n1 d bb sp sb cap n N tr fb s k x eb en D r w0 wr left cnt done) (hkey:keyOf Tryz.prog 9 (.string p)=some kl) (hl:left kl=true) (hv:bD c=some y) (hat:∀zd,D.atKey kl zd=y.1) (hrg:w1.ranges Tryz.prog 9 bD (fb k) r 1000000 D (fun z=>left z && !z.sameKey kl) cnt1) (hlt:cnt1<cnt) (hg:wr.grownBy w1 (some r)) (hs:w1.heap.size=wr.heap.size) :
  ∃i:Nat,c = .int .i64 (i:Int)/\w1.cell? ⟨dp,0,none⟩=some (.pointer (some ⟨tb,0,none⟩))/\Cl 197 #[.pointer (some ⟨tb,0,none⟩),.int .i64 (i:Int)] w1 fun e w2=>e = .returned .nilIface/\(∃left' cnt' done',lp T0 dp tb mb m1 m2 n1 d bb sp sb cap n N tr fb s k x eb en D r w0 w2 left' cnt' done')/\w2.rangeLeft (fb k) r<wr.rangeLeft (fb k) r:=by
 obtain ⟨p',ep,rfl⟩:=rk hkey;cases ep
 have hy:y.1 = .held c:=by simp only [bD,jh] at hv;rw [<-hv]
 have hf:fmap x.fs (.string p.data.toList)=some c:=by
  cases h:fmap x.fs (.string p.data.toList) with
  | none =>
   have h1:=(J.val (.string p.data.toList) trivial).1 (.lit (.int .i64 0));rw [hat,hy,h] at h1;cases h1
  | some v =>
   have h1:=(J.val (.string p.data.toList) trivial).1 (.lit (.int .i64 0));rw [hat,hy,h] at h1;simp only [fV,DataW.held.injEq] at h1;rw [h1]
 rw [eC p _ _ rfl] at hf;obtain ⟨i,hi,rfl⟩:=qP.1 hf;have hm:=dC _ hi;have hp:=vF (left:=left) (z:=(p,i)) hl J.keys hm;have hok:=J.ok.perm (hp.map (·.2));rw [jH] at hok;obtain ⟨z,hz,_,hz2⟩:=hok i (jy ..);have hst:=hok.step hz;have hun:=CJ s (done.map (·.2)) i hz;rw [<-hun] at hst;obtain ⟨⟨es,cl,ob⟩,⟨m,sv,vv,cv,oi⟩⟩:=gA J.rg
 have ht:aN FX wr w1:=fun q o hq hp'=>by
  rw [hg.block q (ja.1 hq).1 (fun e=>?_)]
  ·exact hq
  ·rw [jO e,oi] at hq;cases hq;cases hp'
 have D1:=J.dir.iter (by rw [hs];exact jd _) ht;have T1:=J.tab.iter ht
 have P1:bH T0 dp w0 w1:=⟨hg.os.trans J.but.os,hg.tape.trans J.but.tape,hg.output.trans J.but.output,by rw [hs];exact J.but.size,fun q o hq hp' hne=>by
  have h1:=J.but.block q o hq hp' hne;have h2:=(ja.1 hq).1;have h3:=J.low;rw [hg.block q (ja.1 h1).1 (fun e=>by cases e;omega)];exact h1⟩
 have cE:∀(g:Nat) (v:Yv),wr.cell? ⟨g,0,none⟩=some v->w1.cell? ⟨g,0,none⟩=some v:=fun g v hv=>by
  have hne:g≠r:=fun e=>(by rw [e] at hv;simp [World.cell?,oi] at hv);rw [jl (a:=⟨g,0,none⟩) (hg.block g (ji wr _ hv) (fun e=>hne (jO e)))];exact hv
 refine ⟨i,rfl,D1.cells.1,(rj i z eb en hz hz2 T1 J.inv (cE _ _ J.eb) (cE _ _ J.en) J.gT).mono fun e w2 ⟨he,T2,B2⟩=>⟨he,⟨(fun z=>left z && !z.sameKey (.string p.data.toList)),cnt1,done ++ [(p,i)],?_⟩,?_⟩⟩
 ·have rg2:=oV hrg (fun o ho=>B2.maps _ o ho (by
   obtain ⟨⟨es1,cl1,ob1⟩,_⟩:=gA hrg;rw [ob1] at ho;cases ho;rfl) J.ne) (fun o ho=>B2.block _ o ho (.inr (by
   obtain ⟨_,⟨m1,sv1,vv1,cv1,oi1⟩⟩:=gA hrg;rw [oi1] at ho;cases ho;rfl)))
  have em:(done ++ [(p,i)]).map (·.2)=done.map (·.2) ++ [i]:=(by simp);refine ⟨rg2,J.val,J.keys,J.ne,J.low,?_,?_,?_,D1.but B2,?_,P1.trans (bH.of_tb B2),B2.cellE J.gT.1 (cE _ _ J.eb),B2.cellE J.gT.2 (cE _ _ J.en),J.gT⟩
  ·rw [jK]
   exact (List.Perm.append_left done hp.symm).trans J.perm
  ·rw [em];exact hst
  ·rw [em,hun];exact zz J.inv hz
  ·rw [em,hun];exact T2
 ·have rg2:=oV hrg (fun o ho=>B2.maps _ o ho (by
   obtain ⟨⟨es1,cl1,ob1⟩,_⟩:=gA hrg;rw [ob1] at ho;cases ho;rfl) J.ne) (fun o ho=>B2.block _ o ho (.inr (by
   obtain ⟨_,⟨m1,sv1,vv1,cv1,oi1⟩⟩:=gA hrg;rw [oi1] at ho;cases ho;rfl)))
  rw [rg2.left_eq,J.rg.left_eq];exact hlt
theorem CL {ops:Array Oper} {rest:List Oper} {o:Oper} {a:Act} {Q:Exit->Act->Yw->Prop} (J:lp T0 dp tb mb m1 m2 n1 d bb sp sb cap n N tr fb s k x eb en D r w0 wr left cnt done) (hgd:o.guard=none) (it:Operand) (hop:o.op=Op.next it false) (hit:a.eval it = .pointer (some ⟨r,0,none⟩))
  (hDone:Hid (pL T0 dp tb mb m1 m2 n1 d bb sp sb cap n N tr fb s x w0 wr)->wpList Tryz.prog ops Q rest (a.put o.dst (.tuple #[.bool false])) wr)
  (hMore:∀(p:Yb) (i:Nat) (w1:Yw),w1.cell? ⟨dp,0,none⟩=some (.pointer (some ⟨tb,0,none⟩))->Hid (Cl 197 #[.pointer (some ⟨tb,0,none⟩),.int .i64 (i:Int)] w1 fun e w2=>e = .returned .nilIface/\(∃left' cnt' done',lp T0 dp tb mb m1 m2 n1 d bb sp sb cap n N tr fb s k x eb en D r w0 w2 left' cnt' done')/\w2.rangeLeft (fb k) r<wr.rangeLeft (fb k) r)->(Instr.entry (.pointer (some ⟨r,0,none⟩))).run Tryz.prog w1 = .ok (.tuple #[.string p,.int .i64 (i:Int)]) w1->wpList Tryz.prog ops Q rest (a.put o.dst (.tuple #[.bool true,.string p,.int .i64 (i:Int)])) w1) :
  wpList Tryz.prog ops Q (o :: rest) a wr :=
 wpList_next_ranges wr hgd it hop 9 d8 bD Value.string (fun v:Yv=>v) (fun key kl h=>by obtain ⟨p,e,_⟩:=rk h;exact ⟨p,e⟩) (fun v y _=>⟨v,rfl⟩) (fb k) r 1000000 D left cnt hit J.rg (fun _ hl=>hDone (J.ends hl)) (fun p c kl y w1 cnt1 hkey hl hv hat hrg hlt hg hs hen=>by
  obtain ⟨i,rfl,h1,h2⟩:=J.more hkey hl hv hat hrg hlt hg hs;exact hMore p i w1 h1 h2 hen)
end
end
section
open Go.RowKit Go.Maps

section
variable {w:Yw} {T0 dp tb mb m1 m2 n1 d bb sp sb cap n N:Nat} {tr:List (Yo af)} {fb:Nat → Nat} {s:aV} {eb en:Yv}
theorem xQ {k:Nat} {x:af} (hk:(Lit.int .i64 (k:Int)).wf=true) (D:aG w T0 dp tb mb m1 m2 n1 d tr fb) (T:am w (fun _=>False) T0 tb bb sp sb cap mb n s.bl s.u s.tab) (S:bT N s.bl s.u s.tab) (hx:aO tr (k:Int)=some x) (hn:(x.fs.map (·.1)).Nodup) (hc:il s (x.fs.map (·.2))) (hEb:w.cell? ⟨1,0,none⟩=some eb) (hEn:w.cell? ⟨5,0,none⟩=some en) (hgT:1<T0/\5<T0) (W:Yw) (hW:Bl w W) :
  W.cell? ⟨dp,2,none⟩=some (.map (some m2))/\(Instr.lookup 141 (.map (some m2)) (.int .i64 (k:Int)) false).run Tryz.prog W = .ok (.map (some (fb k))) W/\∃DD:DataW Yv,W.ownsMap Tryz.prog 9 bD (fb k) 1000000 DD/\∀w0,w0.ranges Tryz.prog 9 bD (fb k) W.heap.size 1000000 DD (Maps.has DD) (Maps.size DD)->W.grownBy w0 none->w0.heap.size=W.heap.size+1->∃left cnt done,lp T0 dp tb mb m1 m2 n1 d bb sp sb cap n N tr fb s k x eb en DD W.heap.size w w0 left cnt done:=by
 have DW:=D.below hW;obtain ⟨_,_,_,_,_,e3,Mk,q1,q2,q3,q4⟩:=DW.yes hk hx;refine ⟨DW.cells.2.2.1,e3,?_⟩;obtain ⟨DD,hown,hD⟩:=Mk;refine ⟨DD,hown,fun w0 hrg hg hs=>⟨Maps.has DD,Maps.size DD,[],?_⟩⟩;have hb:Bl W w0:=⟨hg.os,hg.tape,hg.output,hg.size,fun q hq=>hg.block q hq (by simp)⟩;have hb0:Bl w w0:=hW.trans (hb.mono hW.size)
 have hfil:x.fs.filter (fun y=>Maps.has DD (fO y))=x.fs:=List.filter_eq_self.2 fun y hy=>by
  rw [(hD (fO y) trivial).2];show (fmap x.fs (.string y.1.data.toList)).isSome=true;rw [eC y.1 _ _ rfl,Option.isSome_map];exact rn _ hy
 refine ⟨hrg,hD,hn,q3,hW.size,by rw [hfil];exact List.Perm.refl _,by rw [hfil];exact hc,S,D.below hb0,T.below hb0,bH.of_below hb0,?_,?_,hgT⟩
 ·rw [hb0.cell (p:=⟨1,0,none⟩) (ji w _ hEb)];exact hEb
 ·rw [hb0.cell (p:=⟨5,0,none⟩) (ji w _ hEn)];exact hEn
theorem CM {k:Nat} {x:af} {w0:Yw} (hk:(Lit.int .i64 (k:Int)).wf=true) (hx:aO tr (k:Int)=some x) (W:Yw) (h:pL T0 dp tb mb m1 m2 n1 d bb sp sb cap n N tr fb s x w0 W) :
  W.cell? ⟨dp,1,none⟩=some (.map (some m1))/\∃W1 W2,(Builtin.delete_ #[140,3] 0 #[.map (some m1),.int .i64 (k:Int)]).run Tryz.prog W = .ok (.tuple #[]) W1/\W1.cell? ⟨dp,2,none⟩=some (.map (some m2))/\(Builtin.delete_ #[141,3] 0 #[.map (some m2),.int .i64 (k:Int)]).run Tryz.prog W1 = .ok (.tuple #[]) W2/\Hid (pL T0 dp tb mb m1 m2 n1 d bb sp sb cap n N (tr.set k none) fb s x w0 W2):=by
 obtain ⟨l,hl,D,T,S,P⟩:=h;obtain ⟨W1,W2,r1,r2,k1,k2,⟨o1,o2,o3,o4⟩,D2⟩:=D.dropped hk hx 0;obtain ⟨f1,f2,M1,M2,_⟩:=D.maps;obtain ⟨es1,cl1,hm1⟩:=M1.obj;obtain ⟨es2,cl2,hm2⟩:=M2.obj;obtain ⟨l1,l2,l3,l4,l5,l6,l7⟩:=D.low;have b1:=k1 _ _ D.box (fun e=>by have:=D.box;rw [e,hm1] at this;cases this);refine ⟨D.cells.2.1,W1,W2,r1,?_,r2,l,hl,D2,?_,S,P.trans ⟨o1,o2,o3,by rw [o4];exact jd _,fun q o hq hp _=>k2 q o hq (fun e=>?_) (fun e=>?_)⟩⟩
 ·rw [jl (a:=⟨dp,2,none⟩) (b1.trans D.box.symm)];exact D.cells.2.2.1
 ·obtain ⟨f,Nd⟩:=T.nodes
  have ht:aN dZ W W2:=fun q o hq hp=>k2 q o hq (fun e=>by rw [e,hm1] at hq;cases hq;cases hp) (fun e=>by rw [e,hm2] at hq;cases hq;cases hp);refine ⟨ht _ _ T.box rfl,T.disk.turn ht (fun _ _=>rfl) (fun _ _=>rfl) (fun _ _=>rfl),T.space.turn ht (fun _ _=>rfl) (fun _ _=>rfl),⟨f,?_,fun k x hx=>?_,Nd.none_,Nd.inj⟩,T.low⟩
  ·obtain ⟨es,cl,hb⟩:=Nd.map.obj
   exact Nd.map.keep (by rw [hb];exact k2 _ _ hb l5.symm l6.symm)
  ·obtain ⟨b,e,hb,S⟩:=Nd.some_ k x hx
   exact ⟨b,e,hb,S.turn ht (fun _ _=>rfl) (fun _ _=>rfl)⟩
 ·rcases hp with h|h
  ·omega
  ·rw [e,hm1] at hq;cases hq;cases h
 ·rcases hp with h|h
  ·omega
  ·rw [e,hm2] at hq;cases hq;cases h
theorem CN (k:Nat) (x:af) (hk:(Lit.int .i64 (k:Int)).wf=true) (D:aG w T0 dp tb mb m1 m2 n1 d tr fb) (T:am w (fun _=>False) T0 tb bb sp sb cap mb n s.bl s.u s.tab) (S:bT N s.bl s.u s.tab) (hx:aO tr (k:Int)=some x) (hn:(x.fs.map (·.1)).Nodup) (hc:il s (x.fs.map (·.2))) (hEb:w.cell? ⟨1,0,none⟩=some eb) (hEn:w.cell? ⟨5,0,none⟩=some en) (hgT:1<T0/\5<T0) :
  Cl 149 #[.pointer (some ⟨dp,0,none⟩),.int .i64 (k:Int)] w fun e w'=>e = .returned .nilIface/\pL T0 dp tb mb m1 m2 n1 d bb sp sb cap n N (tr.set k none) fb s x w w':=by
 have HH:=pJ (k:Int) hk D;rw [hx] at HH;have HS:Hid (∀W,Bl w W->W.cell? ⟨dp,2,none⟩=some (.map (some m2))/\(Instr.lookup 141 (.map (some m2)) (.int .i64 (k:Int)) false).run Tryz.prog W = .ok (.map (some (fb k))) W/\∃DD:DataW Yv,W.ownsMap Tryz.prog 9 bD (fb k) 1000000 DD/\∀w0,w0.ranges Tryz.prog 9 bD (fb k) W.heap.size 1000000 DD (Maps.has DD) (Maps.size DD)->W.grownBy w0 none->w0.heap.size=W.heap.size+1->∃left cnt done,lp T0 dp tb mb m1 m2 n1 d bb sp sb cap n N tr fb s k x eb en DD W.heap.size w w0 left cnt done):=xQ hk D T S hx hn hc hEb hEn hgT;have HD:Hid (∀W,pL T0 dp tb mb m1 m2 n1 d bb sp sb cap n N tr fb s x w W->W.cell? ⟨dp,1,none⟩=some (.map (some m1))/\∃W1 W2,(Builtin.delete_ #[140,3] 0 #[.map (some m1),.int .i64 (k:Int)]).run Tryz.prog W = .ok (.tuple #[]) W1/\W1.cell? ⟨dp,2,none⟩=some (.map (some m2))/\(Builtin.delete_ #[141,3] 0 #[.map (some m2),.int .i64 (k:Int)]).run Tryz.prog W1 = .ok (.tuple #[]) W2/\Hid (pL T0 dp tb mb m1 m2 n1 d bb sp sb cap n N (tr.set k none) fb s x w W2)):=CM hk hx;clear D T S hx hn hc hEb hEn;go_enter Tryz.func149,Tryz.ntmps149
 go_wp2_with (first
  | (go_at_call 87;refine HH.mono ?_;rintro e w1 ⟨rfl,b1⟩;(obtain ⟨c2,hlk,DD,hown,HJ⟩:=HS.out w1 b1);clear HH HS b1)
  | (at_range;refine wpList_range_own _ rfl _ 77 rfl 9 3 d8 Tryz.underlying77 bD (fb k) 1000000 DD rfl hown ?_;intro w0 hrg0 hg0 hs0;(have HJ0:Hid (∃left cnt done,lp T0 dp tb mb m1 m2 n1 d bb sp sb cap n N tr fb s k x eb en DD w1.heap.size w w0 left cnt done):=HJ w0 hrg0 hg0 hs0);clear HJ hown hlk c2 hrg0 hg0 hs0))
 go_frame
 go_loopw [] (fun wr=>∃left cnt done,lp T0 dp tb mb m1 m2 n1 d bb sp sb cap n N tr fb s k x eb en DD w1.heap.size w wr left cnt done) (fun wr=>wr.rangeLeft (fb k) w1.heap.size)
 case atStart=>exact HJ0.out
 case round =>
  obtain ⟨left,cnt,done,J⟩:=hrel
  go_wp2_with (first
   | (at_next;refine CL J rfl _ rfl rfl (fun HE=>?_) (fun p i w2 c0 HM hen=>?_);any_goals (try (obtain ⟨c1,W1,W2,d1,c2,d2,HE2⟩:=HD.out _ HE.out;clear HE)))
   | (go_at_call 197;refine HM.out.mono ?_;rintro e w3 ⟨rfl,hJ3,hlt3⟩;clear HM))
  ·go_ret
   exact ⟨rfl,HE2.out⟩
  ·exact ⟨hJ3,hlt3⟩
end
end
end Go.Proofs.YtaaimbpnogkngaaGreatDoor
namespace Go.Proofs
set_option maxHeartbeats 4000000
set_option maxRecDepth 100000
open Go.Shelf
def Tryz.keysA_ren : Go.Shelf.Ren := ⟨fun | 7 => 216 | 10 => 272 | n => n, fun | 23 => 137 | 26 => 3 | 3 => 209 | 28 => 301 | 0 => 0 | 27 => 300 | 33 => 169 | 4 => 4 | n => n, fun | n => n⟩
theorem Tryz.keysA : Go.Proofs.SlLaysZI.n7 Tryz.prog Tryz.keysA_ren := {
  mixed := by kernel_rfl
  f7 := ⟨Tryz.f216.name, by decide, Tryz.func216.trans (congrArg some (by kernel_rfl))⟩
  f10 := ⟨Tryz.f272.name, by decide, Tryz.func272.trans (congrArg some (by kernel_rfl))⟩
  t0 := Tryz.underlying0
  a0 := Tryz.isAgg0
  z0 := Tryz.sizeOf0
  v0 := Tryz.zeroValue0
  t4 := Tryz.underlying4
  a4 := Tryz.isAgg4
  z4 := Tryz.sizeOf4
  v4 := Tryz.zeroValue4
  t23 := Tryz.underlying137
  a23 := Tryz.isAgg137
  z23 := Tryz.sizeOf137
  v23 := Tryz.zeroValue137
  t26 := Tryz.underlying3
  a26 := Tryz.isAgg3
  z26 := Tryz.sizeOf3
  v26 := Tryz.zeroValue3
  t27 := Tryz.underlying300
  a27 := Tryz.isAgg300
  z27 := Tryz.sizeOf300
  v27 := Tryz.zeroValue300
  t28 := Tryz.underlying301
  a28 := Tryz.isAgg301
  z28 := Tryz.sizeOf301
  v28 := Tryz.zeroValue301
  t33 := Tryz.underlying169
  a33 := Tryz.isAgg169
  z33 := Tryz.sizeOf169
  v33 := Tryz.zeroValue169 }
def Tryz.sortedA_ren : Go.Shelf.Ren := ⟨fun | 6 => 215 | 8 => 270 | 9 => 271 | 11 => 306 | 13 => 214 | 12 => 307 | 23 => 268 | 24 => 269 | 14 => 324 | 15 => 325 | 16 => 326 | 17 => 327 | 18 => 328 | 19 => 329 | 20 => 330 | 21 => 331 | 22 => 332 | 25 => 335 | 26 => 302 | 27 => 303 | 28 => 336 | 29 => 337 | 30 => 338 | 31 => 340 | n => n, fun | 26 => 3 | 28 => 301 | 24 => 187 | 0 => 0 | 3 => 3 | 37 => 224 | 48 => 204 | 50 => 305 | 4 => 4 | 40 => 338 | 39 => 337 | 45 => 126 | 5 => 5 | 9 => 9 | 51 => 366 | 55 => 370 | 57 => 382 | 58 => 33 | 33 => 169 | n => n, fun | n => n⟩
theorem Tryz.sortedA : Go.Proofs.SlLaysZI.n6 Tryz.prog Tryz.sortedA_ren := {
  mixed := by kernel_rfl
  f6 := ⟨Tryz.f215.name, by decide, Tryz.func215.trans (congrArg some (by kernel_rfl))⟩
  f8 := ⟨Tryz.f270.name, by decide, Tryz.func270.trans (congrArg some (by kernel_rfl))⟩
  f11 := ⟨Tryz.f306.name, by decide, Tryz.func306.trans (congrArg some (by kernel_rfl))⟩
  t0 := Tryz.underlying0
  a0 := Tryz.isAgg0
  z0 := Tryz.sizeOf0
  v0 := Tryz.zeroValue0
  t24 := Tryz.underlying187
  a24 := Tryz.isAgg187
  z24 := Tryz.sizeOf187
  v24 := Tryz.zeroValue187
  t26 := Tryz.underlying3
  a26 := Tryz.isAgg3
  z26 := Tryz.sizeOf3
  v26 := Tryz.zeroValue3
  t28 := Tryz.underlying301
  a28 := Tryz.isAgg301
  z28 := Tryz.sizeOf301
  v28 := Tryz.zeroValue301
  i26 := by kernel_rfl }
def Tryz.sortA_ren : Go.Shelf.Ren := ⟨fun | 5 => 271 | 8 => 214 | 7 => 307 | 19 => 268 | 20 => 269 | 10 => 324 | 11 => 325 | 12 => 326 | 13 => 327 | 14 => 328 | 15 => 329 | 16 => 330 | 17 => 331 | 18 => 332 | 30 => 335 | 31 => 302 | 32 => 303 | 33 => 336 | 34 => 337 | 35 => 338 | 40 => 340 | n => n, fun | 23 => 187 | 25 => 3 | 3 => 3 | 32 => 224 | 22 => 187 | 0 => 0 | 44 => 204 | 46 => 305 | 4 => 4 | 36 => 338 | 35 => 337 | 41 => 126 | 5 => 5 | 9 => 9 | 53 => 366 | 57 => 370 | 63 => 382 | 64 => 33 | n => n, fun | n => n⟩
theorem Tryz.sortA : Go.Proofs.SlLaysM.n5 Tryz.prog Tryz.sortA_ren := {
  mixed := by kernel_rfl
  f5 := ⟨Tryz.f271.name, by decide, Tryz.func271.trans (congrArg some (by kernel_rfl))⟩
  f7 := ⟨Tryz.f307.name, by decide, Tryz.func307.trans (congrArg some (by kernel_rfl))⟩
  f8 := Tryz.func214.trans (congrArg some (by kernel_rfl))
  f10 := ⟨Tryz.f324.name, by decide, Tryz.func324.trans (congrArg some (by kernel_rfl))⟩
  f11 := ⟨Tryz.f325.name, by decide, Tryz.func325.trans (congrArg some (by kernel_rfl))⟩
  f12 := ⟨Tryz.f326.name, by decide, Tryz.func326.trans (congrArg some (by kernel_rfl))⟩
  f13 := ⟨Tryz.f327.name, by decide, Tryz.func327.trans (congrArg some (by kernel_rfl))⟩
  f14 := ⟨Tryz.f328.name, by decide, Tryz.func328.trans (congrArg some (by kernel_rfl))⟩
  f15 := ⟨Tryz.f329.name, by decide, Tryz.func329.trans (congrArg some (by kernel_rfl))⟩
  f16 := ⟨Tryz.f330.name, by decide, Tryz.func330.trans (congrArg some (by kernel_rfl))⟩
  f17 := ⟨Tryz.f331.name, by decide, Tryz.func331.trans (congrArg some (by kernel_rfl))⟩
  f18 := ⟨Tryz.f332.name, by decide, Tryz.func332.trans (congrArg some (by kernel_rfl))⟩
  f19 := Tryz.func268.trans (congrArg some (by kernel_rfl))
  f20 := Tryz.func269.trans (congrArg some (by kernel_rfl))
  f30 := ⟨Tryz.f335.name, by decide, Tryz.func335.trans (congrArg some (by kernel_rfl))⟩
  f31 := Tryz.func302.trans (congrArg some (by kernel_rfl))
  f32 := Tryz.func303.trans (congrArg some (by kernel_rfl))
  f33 := ⟨Tryz.f336.name, by decide, Tryz.func336.trans (congrArg some (by kernel_rfl))⟩
  f34 := ⟨Tryz.f337.name, by decide, Tryz.func337.trans (congrArg some (by kernel_rfl))⟩
  f35 := ⟨Tryz.f338.name, by decide, Tryz.func338.trans (congrArg some (by kernel_rfl))⟩
  f40 := ⟨Tryz.f340.name, by decide, Tryz.func340.trans (congrArg some (by kernel_rfl))⟩
  t0 := Tryz.underlying0
  a0 := Tryz.isAgg0
  z0 := Tryz.sizeOf0
  v0 := Tryz.zeroValue0
  t3 := Tryz.underlying3
  a3 := Tryz.isAgg3
  z3 := Tryz.sizeOf3
  v3 := Tryz.zeroValue3
  t4 := Tryz.underlying4
  a4 := Tryz.isAgg4
  z4 := Tryz.sizeOf4
  v4 := Tryz.zeroValue4
  t5 := Tryz.underlying5
  a5 := Tryz.isAgg5
  z5 := Tryz.sizeOf5
  v5 := Tryz.zeroValue5
  t9 := Tryz.underlying9
  a9 := Tryz.isAgg9
  z9 := Tryz.sizeOf9
  v9 := Tryz.zeroValue9
  t22 := Tryz.underlying187
  a22 := Tryz.isAgg187
  z22 := Tryz.sizeOf187
  v22 := Tryz.zeroValue187
  t23 := Tryz.underlying187
  a23 := Tryz.isAgg187
  z23 := Tryz.sizeOf187
  v23 := Tryz.zeroValue187
  t25 := Tryz.underlying3
  a25 := Tryz.isAgg3
  z25 := Tryz.sizeOf3
  v25 := Tryz.zeroValue3
  t32 := Tryz.underlying224
  a32 := Tryz.isAgg224
  z32 := Tryz.sizeOf224
  v32 := Tryz.zeroValue224
  t35 := Tryz.underlying337
  a35 := Tryz.isAgg337
  z35 := Tryz.sizeOf337
  v35 := Tryz.zeroValue337
  t36 := Tryz.underlying338
  a36 := Tryz.isAgg338
  z36 := Tryz.sizeOf338
  v36 := Tryz.zeroValue338
  t41 := Tryz.underlying126
  a41 := Tryz.isAgg126
  z41 := Tryz.sizeOf126
  v41 := Tryz.zeroValue126
  t44 := Tryz.underlying204
  a44 := Tryz.isAgg204
  z44 := Tryz.sizeOf204
  v44 := Tryz.zeroValue204
  t46 := Tryz.underlying305
  a46 := Tryz.isAgg305
  z46 := Tryz.sizeOf305
  v46 := Tryz.zeroValue305
  t53 := Tryz.underlying366
  a53 := Tryz.isAgg366
  z53 := Tryz.sizeOf366
  v53 := Tryz.zeroValue366
  t57 := Tryz.underlying370
  a57 := Tryz.isAgg370
  z57 := Tryz.sizeOf370
  v57 := Tryz.zeroValue370
  t63 := Tryz.underlying382
  a63 := Tryz.isAgg382
  z63 := Tryz.sizeOf382
  v63 := Tryz.zeroValue382
  t64 := Tryz.underlying33
  a64 := Tryz.isAgg33
  z64 := Tryz.sizeOf33
  v64 := Tryz.zeroValue33 }
end Go.Proofs
namespace Go.Proofs.YtaaimbpnogkngaaGreatDoor
set_option maxHeartbeats 4000000
set_option maxRecDepth 100000
section
open Go.RowKit Go.Maps Go.Shelf

def cW (tab:List (Yo ay)):List Nat:=(List.range tab.length).filter fun k=>(aj tab k).isSome
theorem gM {tab:List (Yo ay)} {k:Nat}:k∈cW tab↔∃x,aj tab k=some x:=by
 unfold cW;rw [qK,qR,yA];exact ⟨fun h=>h.2,fun ⟨x,h⟩=>⟨bz h,x,h⟩⟩
theorem AC (tab:List (Yo ay)):(cW tab).Nodup:=List.nodup_range.filter _
theorem AD (tab:List (Yo ay)):(cW tab).Pairwise (· < ·):=List.pairwise_lt_range.filter _
theorem FY (tab:List (Yo ay)):(cW tab).length<=tab.length:=by
 unfold cW;exact jm (qu _ _) (by simp)
theorem FZ {l:List Nat} {x:Int}:x∈aF l↔∃k∈l,x=(k:Int):=by
 unfold aF;rw [jv];exact ⟨fun ⟨k,h,e⟩=>⟨k,h,e.symm⟩,fun ⟨k,h,e⟩=>⟨k,h,e.symm⟩⟩
theorem AE {l:List Nat} (h:l.Nodup):(aF l).Nodup:=by
 unfold aF;exact List.pairwise_map.2 (h.imp fun hne e=>hne (Int.ofNat.inj e))
theorem xR {l:List Nat} (h:l.Pairwise (· < ·)):(aF l).mergeSort leI=aF l:=by
 apply List.mergeSort_of_pairwise
 unfold aF;refine List.pairwise_map.2 (h.imp fun {a b} hlt=>?_);simp only [leI,zm];exact Int.ofNat_le.2 (Nat.le_of_lt hlt)
theorem oW {H:Type} {R:Yv->Yo (DataW H×List MemPlace)} {w:Yw} {b n:Nat} {D:DataW H} {f:Nat->Yo Nat} {L:List Nat} {ss:List Int} (hown:w.ownsMap Tryz.prog 3 R b n D) (hD:∀k:Int,Maps.has D (.int .i64 k)=(gy f k).isSome) (hL:∀k,k∈L↔(f k).isSome=true) (hs:L.Pairwise (· < ·)) (hp:ss.Perm (intKeys D)):ss.mergeSort (fun x y=>decide (x<=y))=aF L/\ss.length=L.length:=by
 have hnd:L.Nodup:=hs.imp fun h=>Nat.ne_of_lt h
 have hc:CollectedI D (fun _=>false) (aF L):=⟨AE hnd,fun x=>by
  rw [hD x,FZ]
  constructor
  ·rintro ⟨k,hk,rfl⟩
   rw [eA];exact ⟨(hL k).1 hk,rfl⟩
  ·rintro ⟨h,_⟩
   unfold gy at h
   split at h
   ·exact ⟨x.toNat,(hL _).2 h,by omega⟩
   ·cases h⟩
 have hp2:ss.Perm (aF L):=hp.trans (hc.perm hown oy Tryz.underlying3 (fun _=>rfl)).symm;refine ⟨(mergeSort_of_perm_i hp2).trans (xR hs),?_⟩;rw [hp2.length_eq];unfold aF;simp
theorem CO (m:Nat):AnyZI.SortsIn Tryz.prog Tryz.sortedA_ren Fence.wide m :=
  ⟨fun blk off cap ss W hH hblk hsz=>callsIn_wide.2 (AnyM.slices_Sort_int Tryz.sortA blk off cap ss W hH hblk hsz),
   fun p cap W=>callsIn_wide.2 (AnyM.slices_Sort_int_none Tryz.sortA p cap W)⟩
section
variable {F:Nat → Prop} {T0 tb bb sp sb cap mb n:Nat} {bl:List (Yu)} {u:List Bool} {tab:List (Yo ay)}
theorem CP (w:Yw) (T:am w F T0 tb bb sp sb cap mb n bl u tab) :
  Cl 168 #[.pointer (some ⟨tb,0,none⟩)] w fun e w'=>∃v,e = .returned v/\bK w' w.heap.size v (cW tab)/\Bl w w':=by
 obtain ⟨f,N⟩:=T.nodes;obtain ⟨D0,hown,hD⟩:=N.map;have hsz:=hown.size_le;have hn:=T.low.2.2.2.2.2.2;have hmax:Maps.size D0<=maxLen:=by unfold maxLen;omega
 have hbytes:Maps.size D0*8<=140737488355328:=by omega
 have HKS:Hid (∀ss:List Int,ss.Perm (intKeys D0)->ss.mergeSort (fun x y=>decide (x<=y))=aF (cW tab)/\ss.length=(cW tab).length):=fun ss hp=>oW (f:=f) hown (fun k=>(hD k).2) (fun k=>by
  rw [gM]
  constructor
  ·rintro ⟨x,hx⟩
   obtain ⟨b,e,_⟩:=N.some_ k x hx;rw [e];rfl
  ·intro h
   cases hx:aj tab k with
   | some x=>exact ⟨x,rfl⟩
   | none=>rw [N.none_ k hx] at h;cases h) (AD tab) hp
 obtain ⟨_,_,c2⟩:=T.cells;clear N hD T;refine (callsIn_wide (n:=6)).1 ?_;have hbl:=hown.lt
 have hseq:SeqGives Fence.wide 2 Tryz.prog 272 #[.pointer (some ⟨w.heap.size,0,none⟩)] encZ (fun ss=>ss.Perm (intKeys D0)) (Maps.size D0) (w.alloc (.cells #[.map (some mb)] 137)) :=
  AnyZI.keys_gives (ρ:=Tryz.keysA_ren) { Tryz.keysA with } Fence.wide _ trivial rfl (by omega) w.heap.size mb n D0 _ (by simp) (by simp) (by
   obtain ⟨es,clock,hb,Ft,hs,hD⟩:=hown;exact ⟨es,clock,(jp _ _ mb hbl).trans hb,Ft,hs,hD⟩)
 have cK:∀mb W,CallsIn Fence.wide 5 Tryz.prog 216 #[.map mb] W fun e w'=>e = .returned (.func (.func 272) #[] #[.pointer (some ⟨W.heap.size,0,none⟩)])/\w'=W.alloc (.cells #[.map mb] 137):=fun mb W=>AnyZI.keys_in Tryz.keysA Fence.wide 5 trivial rfl mb W;have cS:=AnyZI.sorted_in Tryz.sortedA Fence.wide 5 trivial trivial trivial trivial rfl (by omega) (CO _) (enters_of Tryz.func271 (by kernel_rfl) rfl) 272 #[.pointer (some ⟨w.heap.size,0,none⟩)] trivial (enters_of Tryz.func272 (by kernel_rfl) rfl) _ _ hmax hbytes _ hseq
 change CallsIn _ _ Tryz.prog 215 _ _ _ at cS
 have hfK:Fence.wide.fn 216:=trivial;have hfS:Fence.wide.fn 215:=trivial;refine callsIn_of_wp Tryz.func168 rfl trivial ?_ rfl;simp only [Tryz.ntmps168,qv,jz,qF,Nat.reduceAdd,Nat.reduceSub,qU,qV,yr,yf,qq,jX]
 gi_wp2_with (first
  | (gi_at_call 216;refine (cK _ _).mono ?_;rintro e w' ⟨rfl,rfl⟩)
  | (gi_at_call 215;refine cS.mono ?_;rintro e w' ⟨v,ss,rfl,hS,hrow,hnil,hb⟩))
 go_ret;obtain ⟨e1,e2⟩:=HKS.out ss hS;rw [e1,e2] at hrow;exact ⟨v,rfl,ownsRow_base_a hrow (by simp),((je _ w).alloc (jd _) _).trans (hb.mono (by simp))⟩
end
end
end Go.Proofs.YtaaimbpnogkngaaGreatDoor
namespace Go.Proofs
set_option maxHeartbeats 4000000
set_option maxRecDepth 100000
open Go.Shelf
def Tryz.keysN_ren : Go.Shelf.Ren := ⟨fun | 7 => 275 | 10 => 309 | n => n, fun | 23 => 140 | 26 => 3 | 3 => 40 | 28 => 301 | 0 => 0 | 27 => 300 | 33 => 169 | 4 => 4 | n => n, fun | n => n⟩
theorem Tryz.keysN : Go.Proofs.SlLaysZI.n7 Tryz.prog Tryz.keysN_ren := {
  mixed := by kernel_rfl
  f7 := ⟨Tryz.f275.name, by decide, Tryz.func275.trans (congrArg some (by kernel_rfl))⟩
  f10 := ⟨Tryz.f309.name, by decide, Tryz.func309.trans (congrArg some (by kernel_rfl))⟩
  t0 := Tryz.underlying0
  a0 := Tryz.isAgg0
  z0 := Tryz.sizeOf0
  v0 := Tryz.zeroValue0
  t4 := Tryz.underlying4
  a4 := Tryz.isAgg4
  z4 := Tryz.sizeOf4
  v4 := Tryz.zeroValue4
  t23 := Tryz.underlying140
  a23 := Tryz.isAgg140
  z23 := Tryz.sizeOf140
  v23 := Tryz.zeroValue140
  t26 := Tryz.underlying3
  a26 := Tryz.isAgg3
  z26 := Tryz.sizeOf3
  v26 := Tryz.zeroValue3
  t27 := Tryz.underlying300
  a27 := Tryz.isAgg300
  z27 := Tryz.sizeOf300
  v27 := Tryz.zeroValue300
  t28 := Tryz.underlying301
  a28 := Tryz.isAgg301
  z28 := Tryz.sizeOf301
  v28 := Tryz.zeroValue301
  t33 := Tryz.underlying169
  a33 := Tryz.isAgg169
  z33 := Tryz.sizeOf169
  v33 := Tryz.zeroValue169 }
end Go.Proofs
namespace Go.Proofs.YtaaimbpnogkngaaGreatDoor
set_option maxHeartbeats 4000000
set_option maxRecDepth 100000
section
open Go.RowKit Go.Maps Go.Shelf

def b9 (tr:List (Yo af)):List Nat:=(List.range tr.length).filter fun k=>(aO tr (k:Int)).isSome
theorem mQ {tr:List (Yo af)} {k:Nat}:k∈b9 tr↔∃x,aO tr (k:Int)=some x:=by
 unfold b9;rw [qK,qR,yA];refine ⟨fun h=>h.2,fun ⟨x,h⟩=>⟨?_,x,h⟩⟩;rw [cH] at h
 cases h':tr[k]? with
 | none=>rw [h'] at h;cases h
 | some z=>exact (jb.1 h').1
theorem AF (tr:List (Yo af)):(b9 tr).Pairwise (· < ·):=List.pairwise_lt_range.filter _
section
variable {w:Yw} {T0 dp tb mb m1 m2 n1 d:Nat} {tr:List (Yo af)} {fb:Nat → Nat}
theorem AG (D:aG w T0 dp tb mb m1 m2 n1 d tr fb) :
  Cl 218 #[.pointer (some ⟨dp,0,none⟩)] w fun e w'=>∃v,e = .returned v/\bK w' w.heap.size v (b9 tr)/\Bl w w':=by
 obtain ⟨f1,f2,M1,M2,h0,h1,_⟩:=D.maps;obtain ⟨D0,hown,hD⟩:=M1;have hsz:=hown.size_le;have hn:=D.low.2.2.2.2.2.2;have hmax:Maps.size D0<=maxLen:=by unfold maxLen;omega
 have hbytes:Maps.size D0*8<=140737488355328:=by omega
 have hf1:∀k:Int,(f1 (.int .i64 k)).isSome=(aO tr k).isSome:=fun k=>by
  cases h:aO tr k with
  | none=>rw [(h0 k h).1];rfl
  | some x =>
   obtain ⟨j,rfl,hj⟩:=pI h;obtain ⟨⟨u,a1,_⟩,_⟩:=h1 j x hj;rw [a1];rfl
 have HKS:Hid (∀ss:List Int,ss.Perm (intKeys D0)->ss.mergeSort (fun x y=>decide (x<=y))=aF (b9 tr)/\ss.length=(b9 tr).length):=fun ss hp=>oW (f:=fun k=>if (aO tr (k:Int)).isSome=true then some 0 else none) hown (fun k=>by
  rw [(hD (.int .i64 k) trivial).2,hf1 k];unfold gy;by_cases hk:0<=k
  ·rw [zj hk]
   show _=(if (aO tr ((k.toNat:Nat):Int)).isSome=true then some 0 else none).isSome;have e:((k.toNat:Nat):Int)=k:=by omega
   rw [e];cases (aO tr k).isSome <;> rfl
  ·rw [zi hk]
   have e:aO tr k=none:=(by unfold aO;rw [zi hk]);rw [e];rfl) (fun k=>by
  rw [mQ,<-yA];cases (aO tr (k:Int)).isSome <;> simp) (AF tr) hp
 obtain ⟨_,c1,_,_⟩:=D.cells;clear D h0 h1 hD M2 hf1;refine (callsIn_wide (n:=6)).1 ?_;have hbl:=hown.lt
 have hseq:SeqGives Fence.wide 2 Tryz.prog 309 #[.pointer (some ⟨w.heap.size,0,none⟩)] encZ (fun ss=>ss.Perm (intKeys D0)) (Maps.size D0) (w.alloc (.cells #[.map (some m1)] 140)) :=
  AnyZI.keys_gives (ρ:=Tryz.keysN_ren) { Tryz.keysN with } Fence.wide _ trivial rfl (by omega) w.heap.size m1 n1 D0 _ (by simp) (by simp) (by
   obtain ⟨es,clock,hb,Ft,hs,hD⟩:=hown;exact ⟨es,clock,(jp _ _ m1 hbl).trans hb,Ft,hs,hD⟩)
 have cK:∀mb W,CallsIn Fence.wide 5 Tryz.prog 275 #[.map mb] W fun e w'=>e = .returned (.func (.func 309) #[] #[.pointer (some ⟨W.heap.size,0,none⟩)])/\w'=W.alloc (.cells #[.map mb] 140):=fun mb W=>AnyZI.keys_in Tryz.keysN Fence.wide 5 trivial rfl mb W;have cS:=AnyZI.sorted_in Tryz.sortedA Fence.wide 5 trivial trivial trivial trivial rfl (by omega) (CO _) (enters_of Tryz.func271 (by kernel_rfl) rfl) 309 #[.pointer (some ⟨w.heap.size,0,none⟩)] trivial (enters_of Tryz.func309 (by kernel_rfl) rfl) _ _ hmax hbytes _ hseq
 change CallsIn _ _ Tryz.prog 215 _ _ _ at cS
 have hfK:Fence.wide.fn 275:=trivial;have hfS:Fence.wide.fn 215:=trivial;refine callsIn_of_wp Tryz.func218 rfl trivial ?_ rfl;simp only [Tryz.ntmps218,qv,jz,qF,Nat.reduceAdd,Nat.reduceSub,qU,qV,yr,yf,qq,jX]
 gi_wp2_with (first
  | (gi_at_call 275;refine (cK _ _).mono ?_;rintro e w' ⟨rfl,rfl⟩)
  | (gi_at_call 215;refine cS.mono ?_;rintro e w' ⟨v,ss,rfl,hS,hrow,hnil,hb⟩))
 go_ret;obtain ⟨e1,e2⟩:=HKS.out ss hS;rw [e1,e2] at hrow;exact ⟨v,rfl,ownsRow_base_a hrow (by simp),((je _ w).alloc (jd _) _).trans (hb.mono (by simp))⟩
theorem F0 (hmb:mb<w.heap.size) (hT:T0<=w.heap.size) (d:Nat) (fb:Nat->Nat) :
  Cl 37 #[.pointer (some ⟨tb,0,none⟩)] w fun e w'=>∃dp m1 m2,e = .returned (.tuple #[.pointer (some ⟨dp,0,none⟩),.nilIface])/\aG w' T0 dp tb mb m1 m2 0 d [] fb/\Bl w w':=by
 have hmm := @run_makeMap Tryz.prog;go_enter Tryz.func37,Tryz.ntmps37;go_wp2_with fail
 go_ret2;have hb:Bl w (((w.alloc (.map #[] 0)).alloc (.map #[] 0)).alloc (.cells #[.pointer (some ⟨tb,0,none⟩),.map (some w.heap.size),.map (some (w.heap.size+1)),.int .i64 0] 143)):=(((je _ w).alloc (jd _) _).alloc (by simp) _).alloc (by simp;omega) _
 have k1:(((w.alloc (.map #[] 0)).alloc (.map #[] 0)).alloc (.cells #[.pointer (some ⟨tb,0,none⟩),.map (some w.heap.size),.map (some (w.heap.size+1)),.int .i64 0] 143)).heap[w.heap.size]? = (w.alloc (.map #[] 0)).heap[w.heap.size]? := by
  rw [jp _ _ _ (by simp;omega),jp _ _ _ (by simp)]
 have M1:=(ar.made w 3).keep k1;have M2:=(ar.made (w.alloc (.map #[] 0)) 3).keep (w':=(((w.alloc (.map #[] 0)).alloc (.map #[] 0)).alloc (.cells #[.pointer (some ⟨tb,0,none⟩),.map (some w.heap.size),.map (some (w.heap.size+1)),.int .i64 0] 143))) (jp _ _ _ (by simp));rw [jE] at M2;refine ⟨w.heap.size+2,w.heap.size,w.heap.size+1,by simp,⟨?_,⟨_,_,M1,M2,fun _ _=>⟨rfl,rfl⟩,fun k x h=>by rw [cH] at h;simp at h,fun k j x y h=>by rw [cH] at h;simp at h⟩,by omega,hT,by omega,by omega,by omega,by omega,by omega⟩,hb⟩;have h:=heap_alloc_last ((w.alloc (.map #[] 0)).alloc (.map #[] 0)) (.cells #[.pointer (some ⟨tb,0,none⟩),.map (some w.heap.size),.map (some (w.heap.size+1)),.int .i64 0] 143);rw [jE,jE] at h;exact h
end
end
section
open Go.RowKit Go.Maps

theorem xS {w:Yw} {b clock:Nat} {es:Array MapEntry} (hb:w.heap[b]? = some (.map es clock)):Cl 43 #[.map (some b)] w fun e w'=>e = .returned (.map (some w.heap.size))/\w'=w.alloc (.map es clock):=AnyW.maps_Clone Tryz.cloneSI b es clock w hb
theorem xU {w:Yw} {b clock:Nat} {es:Array MapEntry} (hb:w.heap[b]? = some (.map es clock)):Cl 81 #[.map (some b)] w fun e w'=>e = .returned (.map (some w.heap.size))/\w'=w.alloc (.map es clock):=AnyW.maps_Clone Tryz.cloneIN b es clock w hb
theorem ar.cloned {w:Yw} {kt b n:Nat} {f:Lit->Yo Yv} (M:ar w kt b n f):∃es clock,w.heap[b]? = some (.map es clock)/\∀(w':Yw) (b':Nat),w'.heap[b']? = some (.map es clock)->ar w' kt b' n f:=by
 obtain ⟨D,⟨es,clock,h,F,hs,hD⟩,hk⟩:=M;exact ⟨es,clock,h,fun w' b' h'=>⟨D,⟨es,clock,h',F,hs,hD⟩,hk⟩⟩
theorem ar.lt {w:Yw} {kt b n:Nat} {f:Lit->Yo Yv} (M:ar w kt b n f):b<w.heap.size:=by
 obtain ⟨es,cl,h⟩:=M.obj;exact (ja.1 h).1
theorem ar.below {w w':Yw} {kt b n:Nat} {f:Lit->Yo Yv} (M:ar w kt b n f) (h:Bl w w'):ar w' kt b n f:=M.keep (h.block b M.lt)
theorem ro {w:Yw} {kt b n:Nat} {f:Lit->Yo Yv} (M:ar w kt b n f):Cl 43 #[.map (some b)] w fun e w'=>e = .returned (.map (some w.heap.size))/\ar w' kt w.heap.size n f/\Bl w w'/\w'.heap.size=w.heap.size+1:=by
 obtain ⟨es,clock,h,hc⟩:=M.cloned;refine (xS h).mono fun e w' ⟨he,hw⟩=>?_;subst hw;exact ⟨he,hc _ _ (MapKept.heap_alloc w _).1,(je _ w).alloc (jd _) _,by simp⟩
theorem AH {w:Yw} {kt b n:Nat} {f:Lit->Yo Yv} (M:ar w kt b n f):Cl 81 #[.map (some b)] w fun e w'=>e = .returned (.map (some w.heap.size))/\ar w' kt w.heap.size n f/\Bl w w'/\w'.heap.size=w.heap.size+1:=by
 obtain ⟨es,clock,h,hc⟩:=M.cloned;refine (xU h).mono fun e w' ⟨he,hw⟩=>?_;subst hw;exact ⟨he,hc _ _ (MapKept.heap_alloc w _).1,(je _ w).alloc (jd _) _,by simp⟩
theorem vG {w w':Yw} {b r n cnt:Nat} {D:DataW Yv} {left:Lit->Bool} (h:w.ranges Tryz.prog 3 bD b r n D left cnt) (hb:∀o,w.heap[b]? = some o->w'.heap[b]? = some o) (hr:∀o,w.heap[r]? = some o->w'.heap[r]? = some o):w'.ranges Tryz.prog 3 bD b r n D left cnt:=by
 obtain ⟨es,clock,since,seen,c0,h1,F,hs,hD,h2,rest⟩:=h;exact ⟨es,clock,since,seen,c0,hb _ h1,F,hs,hD,hr _ h2,rest⟩
structure zA (m2 n1:Nat) (tr:List (Yo af)) (f2:Lit->Yo Yv) (mc r:Nat) (D:DataW Yv) (w0 wr:Yw) (left:Lit->Bool) (cnt m:Nat):Prop where
 rg:wr.ranges Tryz.prog 3 bD m2 r n1 D left cnt
 val:∀kl,WideAt.IsKeyLit kl->(∀z,D.atKey kl z=fV (f2 kl) z)/\Maps.has D kl=(f2 kl).isSome
 low:Bl w0 wr
 it:∃mm s v c,wr.heap[r]? = some (.mapIter mm s v c)
 ge:w0.heap.size<=mc/\mc<wr.heap.size/\w0.heap.size<=r/\mc≠r/\m2<w0.heap.size
 new:∃(g:Lit->Yo Yv) (fb:Nat->Nat),ar wr 3 mc m g/\(∀(k:Nat) x,aO tr (k:Int)=some x->left (.int .i64 (k:Int))=false->g (.int .i64 (k:Int))=some (.map (some (fb k)))/\ar wr 9 (fb k) 1000000 (fmap x.fs)/\w0.heap.size<=fb k/\fb k≠mc)/\(∀k:Int,aO tr k=none∨left (.int .i64 k)=true->g (.int .i64 k)=none)/\∀(k j:Nat) x y,aO tr (k:Int)=some x->aO tr (j:Int)=some y->left (.int .i64 (k:Int))=false->left (.int .i64 (j:Int))=false->fb k=fb j->k=j
 few:m+cnt<=n1
def L5 (n1:Nat) (tr:List (Yo af)) (mc:Nat) (w0 wr:Yw):Prop:=Bl w0 wr/\w0.heap.size<=mc/\mc<wr.heap.size/\∃(g:Lit->Yo Yv) (fb:Nat->Nat),ar wr 3 mc n1 g/\(∀(k:Nat) x,aO tr (k:Int)=some x->g (.int .i64 (k:Int))=some (.map (some (fb k)))/\ar wr 9 (fb k) 1000000 (fmap x.fs)/\w0.heap.size<=fb k/\fb k≠mc)/\(∀k:Int,aO tr k=none->g (.int .i64 k)=none)/\∀(k j:Nat) x y,aO tr (k:Int)=some x->aO tr (j:Int)=some y->fb k=fb j->k=j
section
variable {m2 n1 mc r cnt m:Nat} {tr:List (Yo af)} {f2:Lit → Yo Yv} {fb0:Nat → Nat} {D:DataW Yv} {w0 wr:Yw} {left:Lit → Bool}
theorem zA.ends (J:zA m2 n1 tr f2 mc r D w0 wr left cnt m) (h:∀kl,left kl=false):L5 n1 tr mc w0 wr:=by
 obtain ⟨g,fb,M,h1,h2,h3⟩:=J.new;exact ⟨J.low,J.ge.1,J.ge.2.1,g,fb,M.mono (by have:=J.few;omega),fun k x hx=>h1 k x hx (h _),fun k hk=>h2 k (.inl hk),fun k j x y hx hy e=>h3 k j x y hx hy (h _) (h _) e⟩
theorem Jd {ops:Array Oper} {rest:List Oper} {o:Oper} {a:Act} {Q:Exit->Act->Yw->Prop} (J:zA m2 n1 tr f2 mc r D w0 wr left cnt m) (h0:∀k:Int,aO tr k=none->f2 (.int .i64 k)=none) (hf:∀(k:Nat) x,aO tr (k:Int)=some x->f2 (.int .i64 (k:Int))=some (.map (some (fb0 k)))/\ar w0 9 (fb0 k) 1000000 (fmap x.fs)) (hn:n1<=1000000) (hgd:o.guard=none) (it:Operand) (hop:o.op=Op.next it false) (hit:a.eval it = .pointer (some ⟨r,0,none⟩))
  (hDone:Hid (L5 n1 tr mc w0 wr)->wpList Tryz.prog ops Q rest (a.put o.dst (.tuple #[.bool false])) wr)
  (hMore:∀(k b:Nat) (w1:Yw),Hid (Cl 43 #[.map (some b)] w1 fun e w2=>∃b' w4,e = .returned (.map (some b'))/\(Instr.mapUpdate 141 (.map (some mc)) (.int .i64 (k:Int)) (.map (some b'))).run Tryz.prog w2 = .ok () w4/\(∃left' cnt' m',zA m2 n1 tr f2 mc r D w0 w4 left' cnt' m')/\w4.rangeLeft m2 r<wr.rangeLeft m2 r)->(Instr.entry (.pointer (some ⟨r,0,none⟩))).run Tryz.prog w1 = .ok (.tuple #[.int .i64 (k:Int),.map (some b)]) w1->wpList Tryz.prog ops Q rest (a.put o.dst (.tuple #[.bool true,.int .i64 (k:Int),.map (some b)])) w1) :
  wpList Tryz.prog ops Q (o :: rest) a wr:=by
 refine wpList_next_ranges wr hgd it hop 3 eU bD (Value.int .i64) (fun v:Yv=>v) (fun key kl h=>y4 h) (fun v y _=>⟨v,rfl⟩) m2 r n1 D left cnt hit J.rg (fun _ hl=>hDone (J.ends hl)) (fun k c kl y w1 cnt1 hkey hl hv hat hrg hlt hg hs hen=>?_);obtain ⟨k',e1,rfl,hwf⟩:=Maps.keyOf_int_inv Tryz.underlying3 hkey;cases e1
 have hy:y.1 = .held c:=by simp only [bD,jh] at hv;rw [<-hv]
 have hv2:=(J.val (.int .i64 k) trivial).1 .nil;rw [hat,hy] at hv2
 obtain ⟨x,hx⟩:∃x,aO tr k=some x:=by
  cases h:aO tr k with
  | some x=>exact ⟨x,rfl⟩
  | none=>rw [h0 k h] at hv2;cases hv2
 obtain ⟨q,rfl⟩:∃q:Nat,k=(q:Int):=by
  unfold aO at hx
  split at hx
  ·exact ⟨k.toNat,by omega⟩
  ·cases hx
 obtain ⟨hf2,MF⟩:=hf q x hx;rw [hf2] at hv2;obtain rfl:c = .map (some (fb0 q)):=by simpa [fV] using hv2
 obtain ⟨l1,l2,l3,l4,l5⟩:=J.ge;obtain ⟨mm,sv,vv,cv,oi⟩:=J.it
 have B1:Bl w0 w1:=⟨hg.os.trans J.low.os,hg.tape.trans J.low.tape,hg.output.trans J.low.output,by rw [hs];exact J.low.size,fun k hk=>by
  rw [hg.block k (jn hk J.low.size) (fun e=>by cases e;omega),J.low.block k hk]⟩
 refine hMore q (fb0 q) w1 ?_ hen;refine (ro (MF.below B1)).mono fun e w2 ⟨he,M2,hB2,hz2⟩=>?_;obtain ⟨g,fb,M,g1,g2,g3⟩:=J.new;have hrlt:r<wr.heap.size:=(ja.1 oi).1
 have hk2:∀k,k<wr.heap.size->k≠r->w2.heap[k]? = wr.heap[k]? := fun k hk hne=>by
  rw [hB2.block k (by omega),hg.block k hk (fun e=>hne (jO e))]
 have M3:ar w2 3 mc m g:=M.keep (hk2 mc l2 l4);obtain ⟨w4,hr4,M4,hg4,hz4⟩:=M3.put eU Tryz.underlying141 (by have:=J.few;unfold maxLen;omega) (keyOf_int_mk Tryz.underlying3 hwf) trivial (.map (some w1.heap.size));have hk4:∀k,k<w2.heap.size->k≠mc->w4.heap[k]? = w2.heap[k]? := fun k hk hne=>hg4.block k hk (fun e=>hne (jO e));have hzB:=B1.size
 have rg1:w4.ranges Tryz.prog 3 bD m2 r n1 D (fun z=>left z && !z.sameKey (.int .i64 (q:Int))) cnt1:=vG hrg
  (fun o ho=>by rw [hk4 m2 (by omega) (by omega),hB2.block m2 (by omega)];exact ho)
  (fun o ho=>by rw [hk4 r (by omega) (fun e=>l4 e.symm),hB2.block r (by omega)];exact ho)
 have oi1:∃mm s v c,w4.heap[r]? = some (.mapIter mm s v c):=by
  obtain ⟨es,clock,since,seen,c0,_,_,_,_,h2,_⟩:=rg1;exact ⟨_,_,_,_,h2⟩
 have keep4:∀ {kt b nn:Nat} {f:Lit->Yo Yv},ar wr kt b nn f->b≠mc->ar w4 kt b nn f:=fun {kt b nn f} MM hne=>by
  have hb:=MM.lt;refine MM.keep ?_
  rw [hk4 b (by omega) hne,hk2 b hb (fun e=>by
   obtain ⟨es,cl,h⟩:=MM.obj;rw [e,oi] at h;cases h)]
 have ne_left:∀k:Int,¬k=(q:Int)->(left (.int .i64 k) && !(Lit.int .i64 k).sameKey (.int .i64 (q:Int)))=left (.int .i64 k):=fun k hk=>by
  rw [show (Lit.int .i64 k).sameKey (.int .i64 (q:Int))=false from Maps.sameKey_ne (fun h=>hk (by simpa using h))];simp
 have eq_left:(left (.int .i64 (q:Int)) && !(Lit.int .i64 (q:Int)).sameKey (.int .i64 (q:Int)))=false:=by
  rw [show (Lit.int .i64 (q:Int)).sameKey (.int .i64 (q:Int))=true from WideAt.sameKey_self (by trivial)];simp
 have litne:∀ {k:Int},¬k=(q:Int)->¬(Lit.int .i64 k) = .int .i64 (q:Int):=fun h e=>h (by simpa using e);refine ⟨_,w4,he,hr4,⟨_,cnt1,m+1,rg1,J.val,?_,oi1,⟨l1,by omega,l3,l4,l5⟩,⟨_,fun j=>if j=q then w1.heap.size else fb j,M4,fun k z hzk hlk=>?_,fun k hk=>?_,fun k j z1 z2 hz1 hz2 hlk hlj e=>?_⟩,by have:=J.few;omega⟩,?_⟩
 ·exact ⟨hg4.os.trans (hB2.os.trans B1.os),hg4.tape.trans (hB2.tape.trans B1.tape),hg4.output.trans (hB2.output.trans B1.output),by omega,fun k hk=>by
   rw [hk4 k (by omega) (by omega),hB2.block k (by omega),B1.block k hk]⟩
 ·by_cases e:k=q
  ·subst e
   rw [hx] at hzk;cases hzk
   simp only [if_true];rw [bN];exact ⟨rfl,M2.keep (hk4 _ (by omega) (by omega)),by omega,by omega⟩
  ·simp only [zi e]
   rw [aP _ _ (litne (by omega))];have hlk':left (.int .i64 (k:Int))=false:=(ne_left k (by omega)).symm.trans hlk;obtain ⟨a1,a2,a3,a4⟩:=g1 k z hzk hlk';exact ⟨a1,keep4 a2 a4,a3,a4⟩
 ·by_cases e:k=(q:Int)
  ·subst e
   rcases hk with h|h
   ·rw [hx] at h;cases h
   ·have h':(left (.int .i64 (q:Int)) && !(Lit.int .i64 (q:Int)).sameKey (.int .i64 (q:Int)))=true:=h
    rw [eq_left] at h';cases h'
  ·rw [aP _ _ (litne e)]
   refine g2 k ?_
   rcases hk with h|h
   ·exact .inl h
   ·exact .inr ((ne_left k e).symm.trans h)
 ·simp only at e
  have low:∀ {i:Nat} {v:af},aO tr (i:Int)=some v->¬i=q->(left (.int .i64 (i:Int)) && !(Lit.int .i64 (i:Int)).sameKey (.int .i64 (q:Int)))=false->fb i<wr.heap.size/\left (.int .i64 (i:Int))=false:=fun {i v} hi hne hl=>by
   have hl':=(ne_left i (by omega)).symm.trans hl;exact ⟨(g1 i v hi hl').2.1.lt,hl'⟩
  by_cases ek:k=q <;> by_cases ej:j=q
  ·omega
  ·rw [zj ek,zi ej] at e
   have:=(low hz2 ej hlj).1
   omega
  ·rw [zi ek,zj ej] at e
   have:=(low hz1 ek hlk).1
   omega
  ·rw [zi ek,zi ej] at e
   exact g3 k j z1 z2 hz1 hz2 (low hz1 ek hlk).2 (low hz2 ej hlj).2 e
 ·rw [rg1.left_eq,J.rg.left_eq]
  exact hlt
end
theorem am.down {w:Yw} {F:Nat->Prop} {T0 T1 tb bb sp sb cap mb n:Nat} {bl:List (Yu)} {u:List Bool} {tab:List (Yo ay)} (T:am w F T1 tb bb sp sb cap mb n bl u tab) (h:T0<=T1):am w F T0 tb bb sp sb cap mb n bl u tab:=by
 obtain ⟨f,N⟩:=T.nodes;obtain ⟨l1,l2,l3,r⟩:=T.low;exact ⟨T.box,T.disk,T.space,⟨f,N.map,fun k x hx=>by obtain ⟨b,e,hb,S⟩:=N.some_ k x hx;exact ⟨b,e,by omega,S⟩,N.none_,N.inj⟩,by omega,by omega,by omega,r⟩
theorem am.mblt {w:Yw} {F:Nat->Prop} {T0 tb bb sp sb cap mb n:Nat} {bl:List (Yu)} {u:List Bool} {tab:List (Yo ay)} (T:am w F T0 tb bb sp sb cap mb n bl u tab):mb<w.heap.size:=by
 obtain ⟨f,N⟩:=T.nodes;obtain ⟨es,cl,h⟩:=N.map.obj;exact (ja.1 h).1
section
variable {w:Yw} {T0 dp tb bb sp sb cap mb m1 m2 n n1 d:Nat} {bl:List (Yu)} {u:List Bool} {tab:List (Yo ay)} {tr:List (Yo af)} {fb:Nat → Nat}
theorem F4 (D:aG w T0 dp tb mb m1 m2 n1 d tr fb) (T:am w (fun _=>False) T0 tb bb sp sb cap mb n bl u tab) (h1:1<=bl.length) (hbk:∀q x,aj tab q=some x->x.blocks.length<=100000) :
  Cl 44 #[.pointer (some ⟨dp,0,none⟩)] w fun e w'=>∃dp' tb' bb' sp' sb' cap' mb' m1' m2' fb',e = .returned (.pointer (some ⟨dp',0,none⟩))/\aG w' w.heap.size dp' tb' mb' m1' m2' n1 d tr fb'/\am w' (fun _=>False) w.heap.size tb' bb' sp' sb' cap' mb' n bl u tab/\Bl w w':=by
 have HTB:Hid (∀W,Bl w W->Cl 80 #[.pointer (some ⟨tb,0,none⟩)] W fun e w'=>∃tb' bb' sp' sb' cap' mb',e = .returned (.pointer (some ⟨tb',0,none⟩))/\am w' (fun _=>False) W.heap.size tb' bb' sp' sb' cap' mb' n bl u tab/\Bl W w'):=fun W hW=>I0 (T.below hW) h1 hbk;obtain ⟨nt,HNT⟩:∃nt,Hid (nt=tr.length):=⟨_,rfl⟩;have HS0:Hid (∀W,Bl w W->W.cell? ⟨dp,0,none⟩=some (.pointer (some ⟨tb,0,none⟩))/\W.cell? ⟨dp,1,none⟩=some (.map (some m1))/\W.cell? ⟨dp,2,none⟩=some (.map (some m2))/\W.cell? ⟨dp,3,none⟩=some (.int .i64 (nt:Int))):=fun W hW=>by rw [HNT.out];exact (D.below hW).cells
 obtain ⟨f1,f2,M1,M2,hd0,hd1,_⟩:=D.maps;have hn1:n1<=1000000:=D.low.2.2.2.2.2.2;have HD0:=kH hd0
 have HD1:Hid (∀(k:Nat) (x:af),aO tr (k:Int)=some x->(∃u,f1 (.int .i64 (k:Int))=some (vy x.t u)/\bZ w d x.t u)/\f2 (.int .i64 (k:Int))=some (.map (some (fb k)))/\ar w 9 (fb k) 1000000 (fmap x.fs)):=fun k x hx=>by
  obtain ⟨a1,a2,a3,_⟩:=hd1 k x hx;exact ⟨a1,a2,a3⟩
 have HM1:Hid (∀W,Bl w W->ar W 3 m1 n1 f1):=fun W hW=>M1.below hW;have hm2:m2<w.heap.size:=M2.lt;obtain ⟨DD,hown,hval⟩:=M2;have hsz:Maps.size DD<=n1:=hown.size_le;have HV:=kH hval
 have HO:Hid (∀W,Bl w W->W.ownsMap Tryz.prog 3 bD m2 n1 DD):=fun W hW=>by
  obtain ⟨es,clock,hb,rest⟩:=hown;exact ⟨es,clock,(hW.block m2 hm2).trans hb,rest⟩
 have HMM:=kH (ar.made w 3);obtain ⟨c0,c1,c2,c3⟩:=HS0.out w (je _ _);have c2a:=(HS0.out (w.alloc (.map #[] 0)) ((je _ w).alloc (jd _) _)).2.2.1;have hmm := @run_makeMap Tryz.prog;clear D T M1 hown hval hd0 hd1;go_enter Tryz.func44,Tryz.ntmps44
 go_wp2_with (first
  | (at_range;refine wpList_range_own _ rfl _ 141 rfl 3 77 eU Tryz.underlying141 bD m2 n1 DD rfl (HO.out _ ((je _ w).alloc (jd _) _)) ?_;intro w1 hrg0 hg0 hs0;(have HR0:=kH (And.intro hrg0 (And.intro hg0 hs0)));clear hrg0 hg0 hs0))
 obtain ⟨hrg0,hg0,hs0⟩:=HR0.out
 have hit0:∃mm s v c,w1.heap[w.heap.size+1]? = some (.mapIter mm s v c):=by
  obtain ⟨es,clock,since,seen,c0,_,_,_,_,h2,_⟩:=hrg0;rw [jE] at h2;exact ⟨_,_,_,_,h2⟩
 have HJ0:Hid (∃left cnt m,zA m2 n1 tr f2 w.heap.size (w.heap.size+1) DD w w1 left cnt m):=⟨_,_,0,by simpa using hrg0,HV.out,Ck hg0 hs0,hit0,⟨jd _,by rw [hs0];simp only [jE];omega,by omega,by omega,hm2⟩,⟨fun _=>none,fun _=>0,HMM.out.keep (hg0.block _ (by simp) (by simp)),fun k x hx hl=>(by
  have h:=(HV.out (.int .i64 (k:Int)) trivial).2;rw [hl,(HD1.out k x hx).2.1] at h;cases h),fun _ _=>rfl,fun k j x y hx _ hl _ _=>(by
  have h:=(HV.out (.int .i64 (k:Int)) trivial).2;rw [hl,(HD1.out k x hx).2.1] at h;cases h)⟩,by omega⟩
 clear hrg0 hg0 hs0 HR0 hit0;rw [jE]
 go_frame
 go_loopw [] (fun wr=>∃left cnt m,zA m2 n1 tr f2 w.heap.size (w.heap.size+1) DD w wr left cnt m) (fun wr=>wr.rangeLeft m2 (w.heap.size+1))
 case atStart=>exact HJ0.out
 case round =>
  obtain ⟨left,cnt,m,J⟩:=hrel
  go_wp2_with (first
   | (at_next;refine Jd (fb0:=fb) J (fun k hk=>(HD0.out k hk).2) (fun k x hx=>(HD1.out k x hx).2) hn1 rfl _ rfl rfl (fun HE=>?_) (fun q b w2 HM hen=>?_))
   | (go_at_call 43;refine HM.out.mono ?_;rintro e w3 ⟨b',w4,rfl,hr4,hJ4,hlt4⟩;clear HM)
   | (refine wpList_mapPut (by rfl) _ _ _ 141 (by rfl) (.map (some w.heap.size)) (.int .i64 (q:Int)) (.map (some b')) (by rfl) (by rfl) (by rfl) hr4 ?_))
  ·obtain ⟨hlow,hm3,hm4,g,fb',hE⟩:=HE.out
   have HLW:=kH hlow;have HEE:Hid _:=hE;obtain ⟨mc,HMC⟩:∃mc,Hid (mc=w.heap.size):=⟨_,rfl⟩
   have HS:Hid (∀W,Bl wr W->W.cell? ⟨dp,0,none⟩=some (.pointer (some ⟨tb,0,none⟩))/\W.cell? ⟨dp,1,none⟩=some (.map (some m1))/\W.cell? ⟨dp,3,none⟩=some (.int .i64 (nt:Int))):=fun W hW=>by
    obtain ⟨h0,h1,_,h3⟩:=HS0.out W (HLW.out.trans (hW.mono HLW.out.size));exact ⟨h0,h1,h3⟩
   have HTC:Hid (∀W,Bl wr W->Cl 80 #[.pointer (some ⟨tb,0,none⟩)] W fun e w'=>∃tb' bb' sp' sb' cap' mb',e = .returned (.pointer (some ⟨tb',0,none⟩))/\am w' (fun _=>False) wr.heap.size tb' bb' sp' sb' cap' mb' n bl u tab/\Bl W w'):=fun W hW=>(HTB.out W (HLW.out.trans (hW.mono HLW.out.size))).mono fun e w' ⟨tb',bb',sp',sb',cap',mb',he,ht,hb⟩=>⟨tb',bb',sp',sb',cap',mb',he,ht.down hW.size,hb⟩;have HMC1:Hid (∀W,Bl wr W->Cl 81 #[.map (some m1)] W fun e w'=>e = .returned (.map (some W.heap.size))/\ar w' 3 W.heap.size n1 f1/\Bl W w'/\w'.heap.size=W.heap.size+1):=fun W hW=>AH (HM1.out W (HLW.out.trans (hW.mono HLW.out.size)));have HGE:Hid (mc=w.heap.size/\w.heap.size<wr.heap.size):=⟨HMC.out,hm4⟩;rw [<-HMC.out];clear HE hlow hE HTB HS0 HO HV HMM HJ0 J c0 c1 c2 c2a c3 hm3 hm4 HMC HM1 hmm;go_wp2_with fail
   refine zh (S:=fun W=>W.cell? ⟨dp,0,none⟩=some (.pointer (some ⟨tb,0,none⟩))/\W.cell? ⟨dp,1,none⟩=some (.map (some m1))/\W.cell? ⟨dp,3,none⟩=some (.int .i64 (nt:Int))) (by kernel_rfl) (HS.out _ ((je _ wr).drew)) (fun hHeld=>?_);refine bI [(0,pZ dp 0),(1,pZ dp 0),(2,pZ dp 0),(3,pZ tb 0),(5,pZ dp 0),(6,pZ dp 0),(7,pZ dp 1),(8,.map (some m1)),(10,.map (some mc)),(11,pZ dp 0),(12,pZ dp 0),(13,pZ dp 3),(14,iZ nt)] hHeld ?_;refine aU 4 rfl fun K' hK=>?_;simp only [au];go_simp;refine jk (HTC.out _ ((je _ wr).drew)) ?_;rintro e wx ⟨tb',bb',sp',sb',cap',mb',rfl,ht,bx⟩;have HBX:Hid (Bl wr wx):=((je _ wr).drew).trans bx;have HTX:=kH ht;clear ht bx;go_wp2_with fail
   refine hK.out _ _ (HS.out _ HBX.out) (fun hHeld=>?_);clear hK K';refine aU 9 rfl fun K' hK=>?_;simp only [au];go_simp;refine jk (HMC1.out _ HBX.out) ?_;rintro e wy ⟨rfl,hM,by1,hzy⟩;have HBY:=kH (HBX.out.trans (by1.mono HBX.out.size));have HMY:Hid (ar wy 3 wx.heap.size n1 f1/\Bl wx wy/\wy.heap.size=wx.heap.size+1):=⟨hM,by1,hzy⟩;clear hM by1 hzy;go_wp2_with fail
   refine hK.out _ _ (HS.out _ HBY.out) (fun hHeld=>?_);clear hK K';refine tk 15 (.agg #[.pointer (some ⟨tb',0,none⟩),.map (some wx.heap.size),.map (some mc),.int .i64 (nt:Int)]) rfl hHeld ?_;simp only [au,Act.put,cu];refine aU 16 rfl fun K' hK=>?_;simp only [au];go_simp;go_wp2_with fail
   refine hK.out _ _ (HS.out _ (HBY.out.alloc HBY.out.size _)) (fun hHeld=>?_);clear hK K';refine tk 17 (.pointer (some ⟨wy.heap.size,0,none⟩)) rfl hHeld ?_;simp only [au,Act.put,cu];refine zk (by kernel_rfl) ?_ _;go_wp2_with fail
   go_ret;obtain ⟨hM1,hbY,hzY⟩:=HMY.out;obtain ⟨e0,hlt⟩:=HGE.out;obtain ⟨hMg,hg1,hg2,hg3⟩:=HEE.out;rw [<-e0] at hMg hg1;have hlw:=HLW.out.size;have hmb:=HTX.out.mblt;have hmbl:=HTX.out.low.2.2.1;have hzx:=HBX.out.size;obtain ⟨W',HW'⟩:∃W',W'=wy.alloc (.cells #[.pointer (some ⟨tb',0,none⟩),.map (some wx.heap.size),.map (some mc),.int .i64 (nt:Int)] 143):=⟨_,rfl⟩;have hb3:Bl wy W':=by rw [HW'];exact (je _ wy).alloc (jd _) _
   have hbr:Bl wr W':=HBY.out.trans (hb3.mono HBY.out.size);have hbw:Bl w W':=HLW.out.trans (hbr.mono hlw);have hbx:W'.heap[wy.heap.size]? = some (.cells #[.pointer (some ⟨tb',0,none⟩),.map (some wx.heap.size),.map (some mc),.int .i64 (nt:Int)] 143 (0,0)):=by rw [HW'];exact heap_alloc_last _ _
   rw [HNT.out] at hbx;rw [<-HW'];refine ⟨_,_,_,_,_,_,_,_,_,fb',rfl,⟨hbx,⟨f1,g,hM1.below hb3,hMg.below hbr,fun k hk=>⟨(HD0.out k hk).1,hg2 k hk⟩,fun k x hx=>?_,hg3⟩,⟨by omega,by omega,by omega,by omega,by omega,by omega,hn1⟩⟩,(HTX.out.below (hbY.trans (hb3.mono hbY.size))).down hlw,hbw⟩;obtain ⟨a1,a2,a3,a4⟩:=hg1 k x hx;obtain ⟨⟨uu,b1,b2⟩,_⟩:=HD1.out k x hx;have hfl:=a2.lt;exact ⟨⟨uu,b1,b2.kept hbw.size fun q cur hq=>(hbw.block q (ja.1 hq).1).trans hq⟩,a1,a2.below hbr,by omega,by omega,by omega,by omega⟩
  ·exact ⟨⟨_,_,_,_,_,_,_,_,_,_,_,hJ4,rfl⟩,hlt4⟩
end
end
section
open Go.RowKit Go.Maps

structure gq (N:Nat) (s:aV) (R:List (Nat×Yb×Bool)):Prop where
 sp:bT N s.bl s.u s.tab
 held:∀r∈R,∃y,aj s.tab r.1=some y/\aK s.bl y.blocks y.bytes=r.2.1/\y.exec=r.2.2/\y.sum=cF r.2.1
 links:∀q y,aj s.tab q=some y->y.links=(R.map (·.1)).count q
def refs (fs:List (Yb×Nat)) (files:List (Yb×ab)):List (Nat×Yb×Bool):=List.zipWith (fun f y=>(f.2,y.2.data,y.2.exec)) fs files
namespace gq
variable {N:Nat} {s:aV} {R R':List (Nat × Yb × Bool)}
theorem perm (I:gq N s R) (p:R.Perm R'):gq N s R':=⟨I.sp,fun r hr=>I.held r (p.mem_iff.2 hr),fun q y hy=>by rw [I.links q y hy];exact (p.map _).count_eq q⟩
theorem make (I:gq N s R) {d:Yb} (ex:Bool) (hd:d.size<=2000) (hf:bk d.size<=(aE s.u).length):gq N (zf s d ex) ((ci s.tab,d,ex) :: R):=by
 have hfree:∀b∈fW s d,s.u[b]? = some false:=fun b h=>fG.1 (jU h);have hnd:(fW s d).Nodup:=(fF _ _ _).sublist (List.take_sublist _ _);have hlt:∀b∈fW s d,b<s.bl.length:=fun b h=>by rw [I.sp.lbl,<-I.sp.lu];exact (jb.1 (hfree b h)).1
 have hfit:d.size<=(fW s d).length*16:=by
  have:=sV d.size
  unfold fW;rw [js,yu hf];exact this
 have hslot:∀j,aj (zf s d ex).tab j=if j=ci s.tab then some ⟨d.size,1,ex,fW s d,cF d⟩ else aj s.tab j:=fun j=>fI _ _ _
 have hne:∀r∈R,¬r.1=ci s.tab:=fun r hr e=>by
  obtain ⟨y,hy,_⟩:=I.held r hr;rw [e,nD] at hy;cases hy
 refine ⟨I.sp.make hd rfl hf,fun r hr=>?_,fun q y hy=>?_⟩
 ·rw [hslot]
  rcases jN.1 hr with e|hr
  ·subst e
   rw [zj rfl];exact ⟨_,rfl,uB hnd hlt hfit,rfl,rfl⟩
  ·rw [zi (hne r hr)]
   obtain ⟨y,hy,h1,h2⟩:=I.held r hr;refine ⟨y,hy,?_,h2⟩;show aK (d7 s.bl (fW s d) d) y.blocks y.bytes=_
   rw [Cz (fun b hb hb2=>by
    have e1:=(I.sp.own _ y hy).2.1 b hb;rw [hfree b hb2] at e1;cases e1)]
   exact h1
 ·rw [hslot] at hy
  rw [jH]
  split at hy
  ·rename_i e
   cases hy
   rw [e,qX,List.count_eq_zero.2 (fun h=>by
    obtain ⟨r,hr,e1⟩:=jv.1 h;exact hne r hr e1)]
  ·rename_i e
   rw [yi (fun h=>e h.symm)];exact I.links q y hy
theorem unlink {q:Nat} {d:Yb} {e:Bool} {y:ay} (I:gq N s ((q,d,e) :: R)) (hy:aj s.tab q=some y):gq N (cV s q y) R:=by
 have hl:=I.links q y hy;rw [jH,qX] at hl;have hbl:(cV s q y).bl=s.bl:=by unfold cV;split <;> rfl
 refine ⟨zz I.sp hy,fun r hr=>?_,fun j z hz=>?_⟩
 ·obtain ⟨z,hz,h1,h2,h3⟩:=I.held r (jw _ hr)
  rw [mP hy,hbl];by_cases er:r.1=q
  ·have h0:0<(R.map (·.1)).count q:=yn.2 (by rw [<-er];exact qA (f:=(·.1)) hr)
   rw [er,hy] at hz;cases hz
   rw [zj er,zi (by omega)];exact ⟨_,rfl,h1,h2,h3⟩
  ·rw [zi er]
   exact ⟨z,hz,h1,h2,h3⟩
 ·rw [mP hy] at hz
  split at hz
  ·rename_i ej
   split at hz
   ·cases hz
   ·cases hz
    rw [ej];show y.links-1=_;omega
  ·rename_i ej
   have:=I.links j z hz
   rw [jH,yi (fun h=>ej h.symm)] at this;exact this
theorem link {j:Nat} {z:ay} (I:gq N s R) (hz:aj s.tab j=some z) (hc:cF (aK s.bl z.blocks z.bytes)=z.sum):gq N (ec s j z) ((j,aK s.bl z.blocks z.bytes,z.exec) :: R):=by
 have hslot:∀i,aj (ec s j z).tab i=if i=j then some { z with links:=z.links+1 } else aj s.tab i:=fun i=>bW (bz hz) _ _
 refine ⟨zy I.sp hz,fun r hr=>?_,fun i y hy=>?_⟩
 ·rw [hslot]
  rcases jN.1 hr with e|hr
  ·subst e
   rw [zj rfl];exact ⟨_,rfl,rfl,rfl,hc.symm⟩
  ·obtain ⟨y,hy,h1,h2,h3⟩:=I.held r hr
   by_cases e:r.1=j
   ·rw [e,hz] at hy
    cases hy
    rw [zj e];exact ⟨_,rfl,h1,h2,h3⟩
   ·rw [zi e]
    exact ⟨y,hy,h1,h2,h3⟩
 ·rw [hslot] at hy
  rw [jH]
  split at hy
  ·rename_i e
   cases hy
   rw [e,qX,<-I.links j z hz]
  ·rename_i e
   rw [yi (fun h=>e h.symm)];exact I.links i y hy
theorem cnt {A:List (Nat×Yb×Bool)} (I:gq N s (A++R)) (hl:(A++R).length<=1000000):il s (A.map (·.1)):=fun i hi=>by
 obtain ⟨r,hr,e⟩:=jv.1 hi;obtain ⟨y,hy,_⟩:=I.held r (yD _ hr);rw [e] at hy;have h1:=I.links i y hy;refine ⟨y,hy,?_,?_⟩
 ·rw [h1,jR,List.count_append];omega
 ·rw [h1]
  exact jm List.count_le_length (by rw [jB];exact hl)
theorem unlinks:∀(l:List Nat) {s:aV} {A:List (Nat×Yb×Bool)},gq N s (A++R)->l.Perm (A.map (·.1))->gq N (dw s l) R
 | [],s,A,I,p=>by
  have h:A = []:=List.map_eq_nil_iff.1 (List.nil_perm.1 p);rw [h] at I;exact I
 | q :: l,s,A,I,p=>by
  obtain ⟨r,hr,e⟩:=jv.1 (p.mem_iff.1 (jy ..));obtain ⟨A1,A2,rfl⟩:=List.append_of_mem hr;have pA:(A1++r :: A2).Perm (r :: (A1++A2)):=List.perm_middle
  have p':l.Perm ((A1++A2).map (·.1)):=by
   have h:=p.trans (pA.map (·.1));rw [jH,e] at h;exact h.cons_inv
  have I':=I.perm (pA.append_right R);obtain ⟨y,hy,_⟩:=I'.held r (by simp);obtain ⟨q',d,b⟩:=r
  simp only at e
  subst e;have h:=unlinks l (I'.unlink hy) p'
  have hu:dw s (q' :: l)=dw (cV s q' y) l:=by
   show l.foldl sx (sx s q')=_;unfold sx;rw [hy];rfl
  rw [hu];exact h
theorem makes:∀(l:List (Yb×ab)) {s:aV} {R:List (Nat×Yb×Bool)},gq N s R->(∀x∈l,x.2.data.size<=2000)->bg l<=(aE s.u).length->gq N (bQ s l) (refs (ez s l) l++R)
 | [],s,R,I,_,_=>I
 | x :: l,s,R,I,hs,hn=>by
  have hn':bg (x :: l)=bk x.2.data.size+bg l:=(by simp [bg]);have h1:=I.make x.2.exec (hs x (jy ..)) (by omega)
  have h2:=makes l h1 (fun y hy=>hs y (jw _ hy)) (by
   show bg l<=(aE (aY s.u true (fW s x.2.data))).length;unfold fW;rw [sY]
   omega)
  refine h2.perm ?_;show (refs (ez (zf s x.2.data x.2.exec) l) l++(ci s.tab,x.2.data,x.2.exec) :: R).Perm _;exact List.perm_middle
end gq
end
end Go.Proofs.YtaaimbpnogkngaaGreatDoor
