/-
  Dx Dy Dz ShelfK ImO ShelfN, joined.
  Conditions: those that each states.
-/
import Derived.Test.YtpiebpiljhlneaaGreatDoorZ19
import Derived.Maps.RangeWalk
import Derived.Shelf.SlIterI.Nil
import Derived.Shelf.SortM.Plain
import Derived.Shelf.SortM.SortNone
import Derived.Ground.GgzProg
import Derived.Ground.SlgmProg
namespace Go.Proofs.YtpiebpiljhlneaaGreatDoor
section
open Go.RowKit Go.Maps

def unl1 (s:TSt) (i:Nat):TSt:=match slotT s.tab i with
 | some y=>unlS s i y
 | none=>s
def unlL (s:TSt) (l:List Nat):TSt:=l.foldl unl1 s
def CntOk (s:TSt) (L:List Nat):Prop:=∀i,i∈L->∃y,slotT s.tab i=some y/\L.count i<=y.links/\y.links<=1000000
theorem CntOk.perm {s:TSt} {L M:List Nat} (h:CntOk s L) (p:L.Perm M):CntOk s M:=fun i hi=>by
 obtain ⟨y,a,b,c⟩:=h i (p.mem_iff.2 hi)
 exact ⟨y,a,by rw [<-p.count_eq i];exact b,c⟩
theorem unl_slot {s:TSt} {i:Nat} {y:Ino} (hy:slotT s.tab i=some y) (j:Nat):slotT (unlS s i y).tab j=if j=i then (if y.links=1 then none else some { y with links:=y.links-1 }) else slotT s.tab j:=by
 unfold unlS
 split
 ·show slotT (s.tab.set i none) j=_
  rw [slotT_set (slotT_lt hy)]
 ·show slotT (s.tab.set i _) j=_
  rw [slotT_set (slotT_lt hy)]
theorem CntOk.step {s:TSt} {i:Nat} {y:Ino} {L:List Nat} (h:CntOk s (i :: L)) (hy:slotT s.tab i=some y):CntOk (unlS s i y) L:=fun j hj=>by
 obtain ⟨z,a,b,c⟩:=h j (List.mem_cons_of_mem _ hj)
 rw [unl_slot hy]
 by_cases e:j=i
 ·subst e
  rw [hy] at a
  cases a
  rw [List.count_cons_self] at b
  have h0:0<L.count j:=List.count_pos_iff.2 hj
  rw [if_pos rfl,if_neg (by omega)]
  exact ⟨_,rfl,by show _<=y.links-1;omega,by show y.links-1<=_;omega⟩
 ·rw [if_neg e]
  rw [List.count_cons_of_ne (fun h=>e h.symm)] at b
  exact ⟨z,a,b,c⟩
theorem unlL_snoc (s:TSt) (l:List Nat) (i:Nat) {y:Ino} (hy:slotT (unlL s l).tab i=some y):unlL s (l ++ [i])=unlS (unlL s l) i y:=by
 have h:unlL s (l ++ [i])=unl1 (unlL s l) i:=by simp [unlL]
 rw [h]
 unfold unl1
 rw [hy]
def keyL (x:ByteArray×Nat):Lit:=.string x.1.data.toList
theorem findF_mem {p:ByteArray} {i:Nat} (fs:List (ByteArray×Nat)):findF fs p=some i->(p,i)∈fs:=snoc_ind (P:=fun fs=>findF fs p=some i->(p,i)∈fs) (fun h=>by cases h) (fun l x ih h=>by
 rw [findF_snoc] at h
 split at h
 ·rename_i e
  cases h
  rw [<-e]
  simp
 ·exact List.mem_append_left _ (ih h)) _ fs rfl
theorem key_self (x:ByteArray×Nat):(keyL x).sameKey (keyL x)=true:=WideAt.sameKey_self (by trivial)
theorem key_ne {x y:ByteArray×Nat} (h:¬x.1=y.1):(keyL x).sameKey (keyL y)=false:=Maps.sameKey_ne (fun e=>h (bytes_eq (by simpa [keyL] using e)))
theorem rem_step {left:Lit->Bool} {z:ByteArray×Nat} (hl:left (keyL z)=true):∀ {fs:List (ByteArray×Nat)},(fs.map (·.1)).Nodup->z∈fs->(fs.filter (fun x=>left (keyL x))).Perm (z :: fs.filter (fun x=>left (keyL x) && !(keyL x).sameKey (keyL z)))
 | [],_,h=>by cases h
 | x :: fs,hn,h=>by
  rw [List.map_cons,List.nodup_cons] at hn
  rcases List.mem_cons.1 h with e|hm
  ·subst e
   rw [List.filter_cons_of_pos (by simp [hl]),List.filter_cons_of_neg (by simp [key_self])]
   refine List.Perm.cons _ (List.Perm.of_eq (List.filter_congr fun y hy=>?_))
   rw [key_ne (fun e=>hn.1 (by rw [<-e];exact List.mem_map_of_mem (f:=(·.1)) hy))]
   simp
  ·have hx:(keyL x).sameKey (keyL z)=false:=key_ne (fun e=>hn.1 (by rw [e];exact List.mem_map_of_mem (f:=(·.1)) hm))
   have ih:=rem_step hl hn.2 hm
   cases hxl:left (keyL x) with
   | false=>rw [List.filter_cons_of_neg (by simp [hxl]),List.filter_cons_of_neg (by simp [hxl])];exact ih
   | true =>
    rw [List.filter_cons_of_pos (by simp [hxl]),List.filter_cons_of_pos (by simp [hxl,hx])]
    exact (List.Perm.cons x ih).trans (List.Perm.swap _ _ _)
theorem keyStr_inv {key:Value} {kl:Lit} (h:keyOf Tryz.prog 9 key=some kl):∃p:ByteArray,key = .string p/\kl = .string p.data.toList:=by
 have hu:=Tryz.underlying9
 cases key <;> simp [keyOf,hu,mapKey] at h
 exact ⟨_,rfl,h.2.symm⟩
theorem ranges_keep {w w':World} {kt b r n cnt:Nat} {D:DataW Value} {left:Lit->Bool} (h:w.ranges Tryz.prog kt heldR b r n D left cnt) (hb:∀o,w.heap[b]? = some o->w'.heap[b]? = some o) (hr:∀o,w.heap[r]? = some o->w'.heap[r]? = some o):w'.ranges Tryz.prog kt heldR b r n D left cnt:=by
 obtain ⟨es,clock,since,seen,c0,h1,F,hs,hD,h2,rest⟩:=h
 exact ⟨es,clock,since,seen,c0,hb _ h1,F,hs,hD,hr _ h2,rest⟩
theorem ranges_objs {w:World} {kt b r n cnt:Nat} {D:DataW Value} {left:Lit->Bool} (h:w.ranges Tryz.prog kt heldR b r n D left cnt):(∃es cl,w.heap[b]? = some (.map es cl))/\∃m s v c,w.heap[r]? = some (.mapIter m s v c):=by
 obtain ⟨es,clock,since,seen,c0,h1,F,hs,hD,h2,rest⟩:=h
 exact ⟨⟨_,_,h1⟩,⟨_,_,_,_,h2⟩⟩
def itTy:Obj->Bool
 | .mapIter _ _ _ _=>true
 | _=>false
section
variable {w w' : World} {T0 dp tb mb m1 m2 n1 d bb sp sb cap n N : Nat} {tr : List (Option NTree)} {fb : Nat → Nat} {s : TSt} {F : Nat → Prop} {bl : List (List UInt8)} {u : List Bool} {tab : List (Option Ino)}
theorem TbAt.iter (T:TbAt w F T0 tb bb sp sb cap mb n bl u tab) (ht:Turn itTy w w'):TbAt w' F T0 tb bb sp sb cap mb n bl u tab:=by
 obtain ⟨f,Nd⟩:=T.nodes
 refine ⟨ht _ _ T.box rfl,T.disk.turn ht (fun _ _=>rfl) (fun _ _=>rfl) (fun _ _=>rfl),T.space.turn ht (fun _ _=>rfl) (fun _ _=>rfl),⟨f,?_,fun k x hx=>?_,Nd.none_,Nd.inj⟩,T.low⟩
 ·obtain ⟨es,cl,hb⟩:=Nd.map.obj
  exact Nd.map.keep (by rw [hb];exact ht _ _ hb rfl)
 ·obtain ⟨b,e,hb,S⟩:=Nd.some_ k x hx
  exact ⟨b,e,hb,S.turn ht (fun _ _=>rfl) (fun _ _=>rfl)⟩
theorem DirAt.iter (D:DirAt w T0 dp tb mb m1 m2 n1 d tr fb) (hs:w.heap.size<=w'.heap.size) (ht:Turn itTy w w'):DirAt w' T0 dp tb mb m1 m2 n1 d tr fb :=
 D.kept hs (fun k o hk hp _=>ht k o hk (by cases o <;> first|rfl|cases hp)) (fun _ hc=>ht _ _ hc rfl) (fun _ _ hc=>ht _ _ hc rfl)
theorem DirAt.dropped (D:DirAt w T0 dp tb mb m1 m2 n1 d tr fb) {k:Nat} {x:NTree} (hk:(Lit.int .i64 (k:Int)).wf=true) (hx:ntI tr (k:Int)=some x) (ty:TypeId) :
  ∃w1 w2,(Builtin.delete_ #[97,3] ty #[.map (some m1),.int .i64 (k:Int)]).run Tryz.prog w = .ok (.tuple #[]) w1/\(Builtin.delete_ #[98,3] ty #[.map (some m2),.int .i64 (k:Int)]).run Tryz.prog w1 = .ok (.tuple #[]) w2/\(∀(q:Nat) (o:Obj),w.heap[q]? = some o->q≠m1->w1.heap[q]? = some o)/\(∀(q:Nat) (o:Obj),w.heap[q]? = some o->q≠m1->q≠m2->w2.heap[q]? = some o)/\(w2.os=w.os/\w2.tape=w.tape/\w2.output=w.output/\w2.heap.size=w.heap.size)/\DirAt w2 T0 dp tb mb m1 m2 n1 d (tr.set k none) fb:=by
 obtain ⟨l1,l2,l3,l4,l5,l6,l7⟩:=D.low
 obtain ⟨f1,f2,M1,M2,h0,h1,h2⟩:=D.maps
 obtain ⟨w1,r1,M1',g1,z1⟩:=M1.del keyInt Tryz.underlying97 (keyOf_int_mk Tryz.underlying3 hk) ty
 obtain ⟨es1,cl1,hm1⟩:=M1.obj
 obtain ⟨es2,cl2,hm2⟩:=M2.obj
 have M2w:MapV w1 3 m2 n1 f2:=M2.keep (by rw [g1.block m2 (Array.getElem?_eq_some_iff.1 hm2).1 (fun e=>l4 (Option.some.inj e).symm)])
 obtain ⟨w2,r2,M2',g2,z2⟩:=M2w.del keyInt Tryz.underlying98 (keyOf_int_mk Tryz.underlying3 hk) ty
 have k1:∀(q:Nat) (o:Obj),w.heap[q]? = some o->q≠m1->w1.heap[q]? = some o:=fun q o hq hne=>by rw [g1.block q (Array.getElem?_eq_some_iff.1 hq).1 (fun e=>hne (Option.some.inj e))];exact hq
 have k2:∀(q:Nat) (o:Obj),w.heap[q]? = some o->q≠m1->q≠m2->w2.heap[q]? = some o:=fun q o hq hne hne2=>by
  have hq1:=k1 q o hq hne
  rw [g2.block q (Array.getElem?_eq_some_iff.1 hq1).1 (fun e=>hne2 (Option.some.inj e))];exact hq1
 have kc:∀(q:Nat) cs ty,w.heap[q]? = some (Obj.cells cs ty (0,0))->w2.heap[q]? = some (Obj.cells cs ty (0,0)):=fun q cs ty hq=>k2 q _ hq (fun e=>by rw [e,hm1] at hq;cases hq) (fun e=>by rw [e,hm2] at hq;cases hq)
 have mk:∀ {kt mm q:Nat} {f:Lit->Option Value},MapV w kt mm q f->mm≠m1->mm≠m2->MapV w2 kt mm q f:=fun M a b=>by
  obtain ⟨es,cl,h⟩:=M.obj
  exact M.keep ((k2 _ _ h a b).trans h.symm)
 have M1'':MapV w2 3 m1 n1 (updK f1 (.int .i64 (k:Int)) none):=by
  obtain ⟨es,cl,h⟩:=M1'.obj
  exact M1'.keep (by rw [g2.block m1 (Array.getElem?_eq_some_iff.1 h).1 (fun e=>l4 (Option.some.inj e))])
 refine ⟨w1,w2,r1,r2,k1,k2,⟨g2.os.trans g1.os,g2.tape.trans g1.tape,g2.output.trans g1.output,by rw [z2,z1]⟩,⟨by rw [List.length_set];exact kc _ _ _ D.box,⟨_,_,M1'',M2',fun j hj=>?_,fun j y hy=>?_,fun i j y z hy hz e=>?_⟩,D.low⟩⟩
 ·rw [ntI_set hx] at hj
  by_cases e:j=(k:Int)
  ·rw [e,updK_same,updK_same];exact ⟨rfl,rfl⟩
  ·rw [if_neg e] at hj
   rw [updK_other _ _ (fun h=>e (by simpa using h)),updK_other _ _ (fun h=>e (by simpa using h))]
   exact h0 j hj
 ·rw [ntI_set hx] at hy
  split at hy
  ·cases hy
  ·rename_i e
   obtain ⟨⟨v,a1,a2⟩,a3,a4,a5,a6,a7⟩:=h1 j y hy
   refine ⟨⟨v,?_,a2.kept (by rw [z2,z1];exact Nat.le_refl _) (fun q c h=>kc q c _ h)⟩,?_,mk a4 a5 a6,a5,a6,a7⟩
   ·rw [updK_other _ _ (fun h=>e (by simpa using h))];exact a1
   ·rw [updK_other _ _ (fun h=>e (by simpa using h))];exact a3
 ·have key:∀(i:Nat) (y:NTree),ntI (tr.set k none) (i:Int)=some y->ntI tr (i:Int)=some y:=fun i y hy=>by
   rw [ntI_set hx] at hy
   split at hy
   ·cases hy
   ·exact hy
  exact h2 i j y z (key i y hy) (key j z hz) e
end
end
section
open Go.RowKit Go.Maps

theorem findF_some {y:ByteArray×Nat} (fs:List (ByteArray×Nat)):y∈fs->(findF fs y.1).isSome=true:=snoc_ind (P:=fun fs=>y∈fs->(findF fs y.1).isSome=true) (fun h=>by cases h) (fun l x ih h=>by
 rw [findF_snoc]
 split
 ·rfl
 ·rename_i e
  rcases List.mem_append.1 h with h|h
  ·exact ih h
  ·rw [List.mem_singleton.1 h] at e
   exact absurd rfl e) _ fs rfl
structure DrpJ (T0 dp tb mb m1 m2 n1 d bb sp sb cap n N:Nat) (tr:List (Option NTree)) (fb:Nat->Nat) (s:TSt) (k:Nat) (x:NTree) (eb en:Value) (D:DataW Value) (r:Nat) (w0 wr:World) (left:Lit->Bool) (cnt:Nat) (done:List (ByteArray×Nat)):Prop where
 rg:wr.ranges Tryz.prog 9 heldR (fb k) r 1000000 D left cnt
 val:∀kl,WideAt.IsKeyLit kl->(∀z,D.atKey kl z=heldD (fmap x.fs kl) z)/\Maps.has D kl=(fmap x.fs kl).isSome
 keys:(x.fs.map (·.1)).Nodup
 ne:fb k≠mb
 low:w0.heap.size<=r
 perm:(done++x.fs.filter (fun y=>left (keyL y))).Perm x.fs
 ok:CntOk (unlL s (done.map (·.2))) ((x.fs.filter (fun y=>left (keyL y))).map (·.2))
 inv:SInv N (unlL s (done.map (·.2))).bl (unlL s (done.map (·.2))).u (unlL s (done.map (·.2))).tab
 dir:DirAt wr T0 dp tb mb m1 m2 n1 d tr fb
 tab:TbAt wr (fun _=>False) T0 tb bb sp sb cap mb n (unlL s (done.map (·.2))).bl (unlL s (done.map (·.2))).u (unlL s (done.map (·.2))).tab
 but:PBut T0 dp w0 wr
 eb:wr.cell? ⟨7,0,none⟩=some eb
 en:wr.cell? ⟨0,0,none⟩=some en
 gT:7<T0/\0<T0
def DrpE (T0 dp tb mb m1 m2 n1 d bb sp sb cap n N:Nat) (tr:List (Option NTree)) (fb:Nat->Nat) (s:TSt) (x:NTree) (w0 wr:World):Prop :=
 ∃l,l.Perm (x.fs.map (·.2))/\DirAt wr T0 dp tb mb m1 m2 n1 d tr fb/\TbAt wr (fun _=>False) T0 tb bb sp sb cap mb n (unlL s l).bl (unlL s l).u (unlL s l).tab/\SInv N (unlL s l).bl (unlL s l).u (unlL s l).tab/\PBut T0 dp w0 wr
section
variable {T0 dp tb mb m1 m2 n1 d bb sp sb cap n N k r cnt : Nat} {tr : List (Option NTree)} {fb : Nat → Nat} {s : TSt} {x : NTree} {eb en : Value} {D : DataW Value} {w0 wr : World} {left : Lit → Bool} {done : List (ByteArray × Nat)}
theorem DrpJ.ends (J:DrpJ T0 dp tb mb m1 m2 n1 d bb sp sb cap n N tr fb s k x eb en D r w0 wr left cnt done) (h:∀kl,left kl=false):DrpE T0 dp tb mb m1 m2 n1 d bb sp sb cap n N tr fb s x w0 wr:=by
 have hp:=J.perm
 rw [List.filter_eq_nil_iff.2 (fun y _=>by simp [h]),List.append_nil] at hp
 exact ⟨_,hp.map _,J.dir,J.tab,J.inv,J.but⟩
theorem DrpJ.more {w1:World} {cnt1:Nat} {p:ByteArray} {c:Value} {kl:Lit} {y:DataW Value×List MemPlace} (J:DrpJ T0 dp tb mb m1 m2 n1 d bb sp sb cap n N tr fb s k x eb en D r w0 wr left cnt done) (hkey:keyOf Tryz.prog 9 (.string p)=some kl) (hl:left kl=true) (hv:heldR c=some y) (hat:∀zd,D.atKey kl zd=y.1) (hrg:w1.ranges Tryz.prog 9 heldR (fb k) r 1000000 D (fun z=>left z && !z.sameKey kl) cnt1) (hlt:cnt1<cnt) (hg:wr.grownBy w1 (some r)) (hs:w1.heap.size=wr.heap.size) :
  ∃i:Nat,c = .int .i64 (i:Int)/\w1.cell? ⟨dp,0,none⟩=some (.pointer (some ⟨tb,0,none⟩))/\Calls Tryz.prog 68 #[.pointer (some ⟨tb,0,none⟩),.int .i64 (i:Int)] w1 fun e w2=>e = .returned .nilIface/\(∃left' cnt' done',DrpJ T0 dp tb mb m1 m2 n1 d bb sp sb cap n N tr fb s k x eb en D r w0 w2 left' cnt' done')/\w2.rangeLeft (fb k) r<wr.rangeLeft (fb k) r:=by
 obtain ⟨p',ep,rfl⟩:=keyStr_inv hkey
 cases ep
 have hy:y.1 = .held c:=by simp only [heldR,Option.some.injEq] at hv;rw [<-hv]
 have hf:fmap x.fs (.string p.data.toList)=some c:=by
  cases h:fmap x.fs (.string p.data.toList) with
  | none =>
   have h1:=(J.val (.string p.data.toList) trivial).1 (.lit (.int .i64 0))
   rw [hat,hy,h] at h1
   cases h1
  | some v =>
   have h1:=(J.val (.string p.data.toList) trivial).1 (.lit (.int .i64 0))
   rw [hat,hy,h] at h1
   simp only [heldD,DataW.held.injEq] at h1
   rw [h1]
 rw [fmap_find p _ _ rfl] at hf
 obtain ⟨i,hi,rfl⟩:=Option.map_eq_some_iff.1 hf
 have hm:=findF_mem _ hi
 have hp:=rem_step (left:=left) (z:=(p,i)) hl J.keys hm
 have hok:=J.ok.perm (hp.map (·.2))
 rw [List.map_cons] at hok
 obtain ⟨z,hz,_,hz2⟩:=hok i (List.mem_cons_self ..)
 have hst:=hok.step hz
 have hun:=unlL_snoc s (done.map (·.2)) i hz
 rw [<-hun] at hst
 obtain ⟨⟨es,cl,ob⟩,⟨m,sv,vv,cv,oi⟩⟩:=ranges_objs J.rg
 have ht:Turn itTy wr w1:=fun q o hq hp'=>by
  rw [hg.block q (Array.getElem?_eq_some_iff.1 hq).1 (fun e=>?_)]
  ·exact hq
  ·rw [Option.some.inj e,oi] at hq;cases hq;cases hp'
 have D1:=J.dir.iter (by rw [hs];exact Nat.le_refl _) ht
 have T1:=J.tab.iter ht
 have P1:PBut T0 dp w0 w1:=⟨hg.os.trans J.but.os,hg.tape.trans J.but.tape,hg.output.trans J.but.output,by rw [hs];exact J.but.size,fun q o hq hp' hne=>by
  have h1:=J.but.block q o hq hp' hne
  have h2:=(Array.getElem?_eq_some_iff.1 hq).1
  have h3:=J.low
  rw [hg.block q (Array.getElem?_eq_some_iff.1 h1).1 (fun e=>by cases e;omega)]
  exact h1⟩
 have cE:∀(g:Nat) (v:Value),wr.cell? ⟨g,0,none⟩=some v->w1.cell? ⟨g,0,none⟩=some v:=fun g v hv=>by
  have hne:g≠r:=fun e=>by rw [e] at hv;simp [World.cell?,oi] at hv
  rw [World.cell?_of_block (a:=⟨g,0,none⟩) (hg.block g (World.block_lt_of_cell? wr _ hv) (fun e=>hne (Option.some.inj e)))];exact hv
 refine ⟨i,rfl,D1.cells.1,(unlink_any i z eb en hz hz2 T1 J.inv (cE _ _ J.eb) (cE _ _ J.en) J.gT).mono fun e w2 ⟨he,T2,B2⟩=>⟨he,⟨(fun z=>left z && !z.sameKey (.string p.data.toList)),cnt1,done ++ [(p,i)],?_⟩,?_⟩⟩
 ·have rg2:=ranges_keep hrg (fun o ho=>B2.maps _ o ho (by
   obtain ⟨⟨es1,cl1,ob1⟩,_⟩:=ranges_objs hrg
   rw [ob1] at ho;cases ho;rfl) J.ne) (fun o ho=>B2.block _ o ho (.inr (by
   obtain ⟨_,⟨m1,sv1,vv1,cv1,oi1⟩⟩:=ranges_objs hrg
   rw [oi1] at ho;cases ho;rfl)))
  have em:(done ++ [(p,i)]).map (·.2)=done.map (·.2) ++ [i]:=by simp
  refine ⟨rg2,J.val,J.keys,J.ne,J.low,?_,?_,?_,D1.but B2,?_,P1.trans (PBut.of_tb B2),B2.cellE J.gT.1 (cE _ _ J.eb),B2.cellE J.gT.2 (cE _ _ J.en),J.gT⟩
  ·rw [List.append_assoc]
   exact (List.Perm.append_left done hp.symm).trans J.perm
  ·rw [em];exact hst
  ·rw [em,hun];exact unl_inv J.inv hz
  ·rw [em,hun];exact T2
 ·have rg2:=ranges_keep hrg (fun o ho=>B2.maps _ o ho (by
   obtain ⟨⟨es1,cl1,ob1⟩,_⟩:=ranges_objs hrg
   rw [ob1] at ho;cases ho;rfl) J.ne) (fun o ho=>B2.block _ o ho (.inr (by
   obtain ⟨_,⟨m1,sv1,vv1,cv1,oi1⟩⟩:=ranges_objs hrg
   rw [oi1] at ho;cases ho;rfl)))
  rw [rg2.left_eq,J.rg.left_eq]
  exact hlt
theorem next_drop {ops:Array Oper} {rest:List Oper} {o:Oper} {a:Act} {Q:Exit->Act->World->Prop} (J:DrpJ T0 dp tb mb m1 m2 n1 d bb sp sb cap n N tr fb s k x eb en D r w0 wr left cnt done) (hgd:o.guard=none) (it:Operand) (hop:o.op=Op.next it false) (hit:a.eval it = .pointer (some ⟨r,0,none⟩))
  (hDone:Hid (DrpE T0 dp tb mb m1 m2 n1 d bb sp sb cap n N tr fb s x w0 wr)->wpList Tryz.prog ops Q rest (a.put o.dst (.tuple #[.bool false])) wr)
  (hMore:∀(p:ByteArray) (i:Nat) (w1:World),w1.cell? ⟨dp,0,none⟩=some (.pointer (some ⟨tb,0,none⟩))->Hid (Calls Tryz.prog 68 #[.pointer (some ⟨tb,0,none⟩),.int .i64 (i:Int)] w1 fun e w2=>e = .returned .nilIface/\(∃left' cnt' done',DrpJ T0 dp tb mb m1 m2 n1 d bb sp sb cap n N tr fb s k x eb en D r w0 w2 left' cnt' done')/\w2.rangeLeft (fb k) r<wr.rangeLeft (fb k) r)->(Instr.entry (.pointer (some ⟨r,0,none⟩))).run Tryz.prog w1 = .ok (.tuple #[.string p,.int .i64 (i:Int)]) w1->wpList Tryz.prog ops Q rest (a.put o.dst (.tuple #[.bool true,.string p,.int .i64 (i:Int)])) w1) :
  wpList Tryz.prog ops Q (o :: rest) a wr :=
 wpList_next_ranges wr hgd it hop 9 keyStr heldR Value.string (fun v:Value=>v) (fun key kl h=>by obtain ⟨p,e,_⟩:=keyStr_inv h;exact ⟨p,e⟩) (fun v y _=>⟨v,rfl⟩) (fb k) r 1000000 D left cnt hit J.rg (fun _ hl=>hDone (J.ends hl)) (fun p c kl y w1 cnt1 hkey hl hv hat hrg hlt hg hs hen=>by
  obtain ⟨i,rfl,h1,h2⟩:=J.more hkey hl hv hat hrg hlt hg hs
  exact hMore p i w1 h1 h2 hen)
end
end
section
set_option maxHeartbeats 2000000
set_option maxRecDepth 100000
open Go.RowKit Go.Maps

section
variable {w : World} {T0 dp tb mb m1 m2 n1 d bb sp sb cap n N : Nat} {tr : List (Option NTree)} {fb : Nat → Nat} {s : TSt} {eb en : Value}
theorem ddrop_start {k:Nat} {x:NTree} (hk:(Lit.int .i64 (k:Int)).wf=true) (D:DirAt w T0 dp tb mb m1 m2 n1 d tr fb) (T:TbAt w (fun _=>False) T0 tb bb sp sb cap mb n s.bl s.u s.tab) (S:SInv N s.bl s.u s.tab) (hx:ntI tr (k:Int)=some x) (hn:(x.fs.map (·.1)).Nodup) (hc:CntOk s (x.fs.map (·.2))) (hEb:w.cell? ⟨7,0,none⟩=some eb) (hEn:w.cell? ⟨0,0,none⟩=some en) (hgT:7<T0/\0<T0) (W:World) (hW:Below w.heap.size w W) :
  W.cell? ⟨dp,2,none⟩=some (.map (some m2))/\(Instr.lookup 98 (.map (some m2)) (.int .i64 (k:Int)) false).run Tryz.prog W = .ok (.map (some (fb k))) W/\∃DD:DataW Value,W.ownsMap Tryz.prog 9 heldR (fb k) 1000000 DD/\∀w0,w0.ranges Tryz.prog 9 heldR (fb k) W.heap.size 1000000 DD (Maps.has DD) (Maps.size DD)->W.grownBy w0 none->w0.heap.size=W.heap.size+1->∃left cnt done,DrpJ T0 dp tb mb m1 m2 n1 d bb sp sb cap n N tr fb s k x eb en DD W.heap.size w w0 left cnt done:=by
 have DW:=D.below hW
 obtain ⟨_,_,_,_,_,e3,Mk,q1,q2,q3,q4⟩:=DW.yes hk hx
 refine ⟨DW.cells.2.2.1,e3,?_⟩
 obtain ⟨DD,hown,hD⟩:=Mk
 refine ⟨DD,hown,fun w0 hrg hg hs=>⟨Maps.has DD,Maps.size DD,[],?_⟩⟩
 have hb:Below W.heap.size W w0:=⟨hg.os,hg.tape,hg.output,hg.size,fun q hq=>hg.block q hq (by simp)⟩
 have hb0:Below w.heap.size w w0:=hW.trans (hb.mono hW.size)
 have hfil:x.fs.filter (fun y=>Maps.has DD (keyL y))=x.fs:=List.filter_eq_self.2 fun y hy=>by
  rw [(hD (keyL y) trivial).2]
  show (fmap x.fs (.string y.1.data.toList)).isSome=true
  rw [fmap_find y.1 _ _ rfl,Option.isSome_map]
  exact findF_some _ hy
 refine ⟨hrg,hD,hn,q3,hW.size,by rw [hfil];exact List.Perm.refl _,by rw [hfil];exact hc,S,D.below hb0,T.below hb0,PBut.of_below hb0,?_,?_,hgT⟩
 ·rw [hb0.cell (p:=⟨7,0,none⟩) (World.block_lt_of_cell? w _ hEb)];exact hEb
 ·rw [hb0.cell (p:=⟨0,0,none⟩) (World.block_lt_of_cell? w _ hEn)];exact hEn
theorem ddrop_end {k:Nat} {x:NTree} {w0:World} (hk:(Lit.int .i64 (k:Int)).wf=true) (hx:ntI tr (k:Int)=some x) (W:World) (h:DrpE T0 dp tb mb m1 m2 n1 d bb sp sb cap n N tr fb s x w0 W) :
  W.cell? ⟨dp,1,none⟩=some (.map (some m1))/\∃W1 W2,(Builtin.delete_ #[97,3] 0 #[.map (some m1),.int .i64 (k:Int)]).run Tryz.prog W = .ok (.tuple #[]) W1/\W1.cell? ⟨dp,2,none⟩=some (.map (some m2))/\(Builtin.delete_ #[98,3] 0 #[.map (some m2),.int .i64 (k:Int)]).run Tryz.prog W1 = .ok (.tuple #[]) W2/\Hid (DrpE T0 dp tb mb m1 m2 n1 d bb sp sb cap n N (tr.set k none) fb s x w0 W2):=by
 obtain ⟨l,hl,D,T,S,P⟩:=h
 obtain ⟨W1,W2,r1,r2,k1,k2,⟨o1,o2,o3,o4⟩,D2⟩:=D.dropped hk hx 0
 obtain ⟨f1,f2,M1,M2,_⟩:=D.maps
 obtain ⟨es1,cl1,hm1⟩:=M1.obj
 obtain ⟨es2,cl2,hm2⟩:=M2.obj
 obtain ⟨l1,l2,l3,l4,l5,l6,l7⟩:=D.low
 have b1:=k1 _ _ D.box (fun e=>by have:=D.box;rw [e,hm1] at this;cases this)
 refine ⟨D.cells.2.1,W1,W2,r1,?_,r2,l,hl,D2,?_,S,P.trans ⟨o1,o2,o3,by rw [o4];exact Nat.le_refl _,fun q o hq hp _=>k2 q o hq (fun e=>?_) (fun e=>?_)⟩⟩
 ·rw [World.cell?_of_block (a:=⟨dp,2,none⟩) (b1.trans D.box.symm)];exact D.cells.2.2.1
 ·obtain ⟨f,Nd⟩:=T.nodes
  have ht:Turn mpTy W W2:=fun q o hq hp=>k2 q o hq (fun e=>by rw [e,hm1] at hq;cases hq;cases hp) (fun e=>by rw [e,hm2] at hq;cases hq;cases hp)
  refine ⟨ht _ _ T.box rfl,T.disk.turn ht (fun _ _=>rfl) (fun _ _=>rfl) (fun _ _=>rfl),T.space.turn ht (fun _ _=>rfl) (fun _ _=>rfl),⟨f,?_,fun k x hx=>?_,Nd.none_,Nd.inj⟩,T.low⟩
  ·obtain ⟨es,cl,hb⟩:=Nd.map.obj
   exact Nd.map.keep (by rw [hb];exact k2 _ _ hb l5.symm l6.symm)
  ·obtain ⟨b,e,hb,S⟩:=Nd.some_ k x hx
   exact ⟨b,e,hb,S.turn ht (fun _ _=>rfl) (fun _ _=>rfl)⟩
 ·rcases hp with h|h
  ·omega
  ·rw [e,hm1] at hq;cases hq;cases h
 ·rcases hp with h|h
  ·omega
  ·rw [e,hm2] at hq;cases hq;cases h
theorem ddrop_none (k:Int) (hk:(Lit.int .i64 k).wf=true) (D:DirAt w T0 dp tb mb m1 m2 n1 d tr fb) (hx:ntI tr k=none) (hEn:w.cell? ⟨0,0,none⟩=some en) :
  Calls Tryz.prog 39 #[.pointer (some ⟨dp,0,none⟩),.int .i64 k] w fun e w'=>e = .returned en/\Below w.heap.size w w':=by
 have HH:=dhas_any k hk D
 rw [hx] at HH
 have HE:Hid (∀W,Below w.heap.size w W->W.cell? ⟨0,0,none⟩=some en):=fun W hW=>by rw [hW.cell (p:=⟨0,0,none⟩) (World.block_lt_of_cell? w _ hEn)];exact hEn
 clear D hx hEn
 go_enter Tryz.func39,Tryz.ntmps39
 go_wp2_with (go_at_call 44;refine HH.mono ?_;rintro e w1 ⟨rfl,b1⟩;have c1:=HE.out w1 b1;clear HH HE)
 go_ret
 exact ⟨rfl,b1⟩
theorem ddrop_any (k:Nat) (x:NTree) (hk:(Lit.int .i64 (k:Int)).wf=true) (D:DirAt w T0 dp tb mb m1 m2 n1 d tr fb) (T:TbAt w (fun _=>False) T0 tb bb sp sb cap mb n s.bl s.u s.tab) (S:SInv N s.bl s.u s.tab) (hx:ntI tr (k:Int)=some x) (hn:(x.fs.map (·.1)).Nodup) (hc:CntOk s (x.fs.map (·.2))) (hEb:w.cell? ⟨7,0,none⟩=some eb) (hEn:w.cell? ⟨0,0,none⟩=some en) (hgT:7<T0/\0<T0) :
  Calls Tryz.prog 39 #[.pointer (some ⟨dp,0,none⟩),.int .i64 (k:Int)] w fun e w'=>e = .returned .nilIface/\DrpE T0 dp tb mb m1 m2 n1 d bb sp sb cap n N (tr.set k none) fb s x w w':=by
 have HH:=dhas_any (k:Int) hk D
 rw [hx] at HH
 have HS:Hid (∀W,Below w.heap.size w W->W.cell? ⟨dp,2,none⟩=some (.map (some m2))/\(Instr.lookup 98 (.map (some m2)) (.int .i64 (k:Int)) false).run Tryz.prog W = .ok (.map (some (fb k))) W/\∃DD:DataW Value,W.ownsMap Tryz.prog 9 heldR (fb k) 1000000 DD/\∀w0,w0.ranges Tryz.prog 9 heldR (fb k) W.heap.size 1000000 DD (Maps.has DD) (Maps.size DD)->W.grownBy w0 none->w0.heap.size=W.heap.size+1->∃left cnt done,DrpJ T0 dp tb mb m1 m2 n1 d bb sp sb cap n N tr fb s k x eb en DD W.heap.size w w0 left cnt done):=ddrop_start hk D T S hx hn hc hEb hEn hgT
 have HD:Hid (∀W,DrpE T0 dp tb mb m1 m2 n1 d bb sp sb cap n N tr fb s x w W->W.cell? ⟨dp,1,none⟩=some (.map (some m1))/\∃W1 W2,(Builtin.delete_ #[97,3] 0 #[.map (some m1),.int .i64 (k:Int)]).run Tryz.prog W = .ok (.tuple #[]) W1/\W1.cell? ⟨dp,2,none⟩=some (.map (some m2))/\(Builtin.delete_ #[98,3] 0 #[.map (some m2),.int .i64 (k:Int)]).run Tryz.prog W1 = .ok (.tuple #[]) W2/\Hid (DrpE T0 dp tb mb m1 m2 n1 d bb sp sb cap n N (tr.set k none) fb s x w W2)):=ddrop_end hk hx
 clear D T S hx hn hc hEb hEn
 go_enter Tryz.func39,Tryz.ntmps39
 go_wp2_with (first
  | (go_at_call 44;refine HH.mono ?_;rintro e w1 ⟨rfl,b1⟩;(obtain ⟨c2,hlk,DD,hown,HJ⟩:=HS.out w1 b1);clear HH HS b1)
  | (at_range;refine wpList_range_own _ rfl _ 96 rfl 9 3 keyStr Tryz.underlying96 heldR (fb k) 1000000 DD rfl hown ?_;intro w0 hrg0 hg0 hs0;(have HJ0:Hid (∃left cnt done,DrpJ T0 dp tb mb m1 m2 n1 d bb sp sb cap n N tr fb s k x eb en DD w1.heap.size w w0 left cnt done):=HJ w0 hrg0 hg0 hs0);clear HJ hown hlk c2 hrg0 hg0 hs0))
 go_frame
 go_loopw [] (fun wr=>∃left cnt done,DrpJ T0 dp tb mb m1 m2 n1 d bb sp sb cap n N tr fb s k x eb en DD w1.heap.size w wr left cnt done) (fun wr=>wr.rangeLeft (fb k) w1.heap.size)
 case atStart=>exact HJ0.out
 case round =>
  obtain ⟨left,cnt,done,J⟩:=hrel
  go_wp2_with (first
   | (at_next;refine next_drop J rfl _ rfl rfl (fun HE=>?_) (fun p i w2 c0 HM hen=>?_);any_goals (try (obtain ⟨c1,W1,W2,d1,c2,d2,HE2⟩:=HD.out _ HE.out;clear HE)))
   | (go_at_call 68;refine HM.out.mono ?_;rintro e w3 ⟨rfl,hJ3,hlt3⟩;clear HM))
  ·go_ret
   exact ⟨rfl,HE2.out⟩
  ·exact ⟨hJ3,hlt3⟩
end
end
end Go.Proofs.YtpiebpiljhlneaaGreatDoor
namespace Go.Proofs
open Go.Shelf
def Tryz.keysA_ren : Go.Shelf.Ren := ⟨fun | 7 => 126 | 10 => 162 | n => n, fun | 23 => 182 | 26 => 3 | 3 => 188 | 28 => 178 | 0 => 0 | 27 => 177 | 33 => 92 | 4 => 4 | n => n, fun | n => n⟩
theorem Tryz.keysA : Go.Proofs.SlLaysZI.n7 Tryz.prog Tryz.keysA_ren := {
  mixed := by kernel_rfl
  f7 := ⟨Tryz.f126.name, by decide, Tryz.func126.trans (congrArg some (by kernel_rfl))⟩
  f10 := ⟨Tryz.f162.name, by decide, Tryz.func162.trans (congrArg some (by kernel_rfl))⟩
  t0 := Tryz.underlying0
  a0 := Tryz.isAgg0
  z0 := Tryz.sizeOf0
  v0 := Tryz.zeroValue0
  t4 := Tryz.underlying4
  a4 := Tryz.isAgg4
  z4 := Tryz.sizeOf4
  v4 := Tryz.zeroValue4
  t23 := Tryz.underlying182
  a23 := Tryz.isAgg182
  z23 := Tryz.sizeOf182
  v23 := Tryz.zeroValue182
  t26 := Tryz.underlying3
  a26 := Tryz.isAgg3
  z26 := Tryz.sizeOf3
  v26 := Tryz.zeroValue3
  t27 := Tryz.underlying177
  a27 := Tryz.isAgg177
  z27 := Tryz.sizeOf177
  v27 := Tryz.zeroValue177
  t28 := Tryz.underlying178
  a28 := Tryz.isAgg178
  z28 := Tryz.sizeOf178
  v28 := Tryz.zeroValue178
  t33 := Tryz.underlying92
  a33 := Tryz.isAgg92
  z33 := Tryz.sizeOf92
  v33 := Tryz.zeroValue92 }
def Tryz.sortedA_ren : Go.Shelf.Ren := ⟨fun | 6 => 100 | 8 => 150 | 9 => 151 | 11 => 177 | 13 => 179 | 12 => 178 | 23 => 206 | 24 => 207 | 14 => 197 | 15 => 198 | 16 => 199 | 17 => 200 | 18 => 201 | 19 => 202 | 20 => 203 | 21 => 204 | 22 => 205 | 25 => 220 | 26 => 221 | 27 => 222 | 28 => 223 | 29 => 224 | 30 => 225 | 31 => 231 | n => n, fun | 26 => 3 | 28 => 178 | 24 => 64 | 0 => 0 | 3 => 3 | 37 => 216 | 48 => 115 | 50 => 288 | 4 => 4 | 40 => 298 | 39 => 297 | 45 => 95 | 5 => 5 | 9 => 9 | 51 => 313 | 55 => 317 | 57 => 326 | 58 => 39 | 33 => 92 | n => n, fun | n => n⟩
theorem Tryz.sortedA : Go.Proofs.SlLaysZI.n6 Tryz.prog Tryz.sortedA_ren := {
  mixed := by kernel_rfl
  f6 := ⟨Tryz.f100.name, by decide, Tryz.func100.trans (congrArg some (by kernel_rfl))⟩
  f8 := ⟨Tryz.f150.name, by decide, Tryz.func150.trans (congrArg some (by kernel_rfl))⟩
  f11 := ⟨Tryz.f177.name, by decide, Tryz.func177.trans (congrArg some (by kernel_rfl))⟩
  t0 := Tryz.underlying0
  a0 := Tryz.isAgg0
  z0 := Tryz.sizeOf0
  v0 := Tryz.zeroValue0
  t24 := Tryz.underlying64
  a24 := Tryz.isAgg64
  z24 := Tryz.sizeOf64
  v24 := Tryz.zeroValue64
  t26 := Tryz.underlying3
  a26 := Tryz.isAgg3
  z26 := Tryz.sizeOf3
  v26 := Tryz.zeroValue3
  t28 := Tryz.underlying178
  a28 := Tryz.isAgg178
  z28 := Tryz.sizeOf178
  v28 := Tryz.zeroValue178
  i26 := by kernel_rfl }
def Tryz.sortA_ren : Go.Shelf.Ren := ⟨fun | 5 => 151 | 8 => 179 | 7 => 178 | 19 => 206 | 20 => 207 | 10 => 197 | 11 => 198 | 12 => 199 | 13 => 200 | 14 => 201 | 15 => 202 | 16 => 203 | 17 => 204 | 18 => 205 | 30 => 220 | 31 => 221 | 32 => 222 | 33 => 223 | 34 => 224 | 35 => 225 | 40 => 231 | n => n, fun | 23 => 64 | 25 => 3 | 3 => 3 | 32 => 216 | 22 => 64 | 0 => 0 | 44 => 115 | 46 => 288 | 4 => 4 | 36 => 298 | 35 => 297 | 41 => 95 | 5 => 5 | 9 => 9 | 53 => 313 | 57 => 317 | 63 => 326 | 64 => 39 | n => n, fun | n => n⟩
theorem Tryz.sortA : Go.Proofs.SlLaysM.n5 Tryz.prog Tryz.sortA_ren := {
  mixed := by kernel_rfl
  f5 := ⟨Tryz.f151.name, by decide, Tryz.func151.trans (congrArg some (by kernel_rfl))⟩
  f7 := ⟨Tryz.f178.name, by decide, Tryz.func178.trans (congrArg some (by kernel_rfl))⟩
  f8 := Tryz.func179.trans (congrArg some (by kernel_rfl))
  f10 := ⟨Tryz.f197.name, by decide, Tryz.func197.trans (congrArg some (by kernel_rfl))⟩
  f11 := ⟨Tryz.f198.name, by decide, Tryz.func198.trans (congrArg some (by kernel_rfl))⟩
  f12 := ⟨Tryz.f199.name, by decide, Tryz.func199.trans (congrArg some (by kernel_rfl))⟩
  f13 := ⟨Tryz.f200.name, by decide, Tryz.func200.trans (congrArg some (by kernel_rfl))⟩
  f14 := ⟨Tryz.f201.name, by decide, Tryz.func201.trans (congrArg some (by kernel_rfl))⟩
  f15 := ⟨Tryz.f202.name, by decide, Tryz.func202.trans (congrArg some (by kernel_rfl))⟩
  f16 := ⟨Tryz.f203.name, by decide, Tryz.func203.trans (congrArg some (by kernel_rfl))⟩
  f17 := ⟨Tryz.f204.name, by decide, Tryz.func204.trans (congrArg some (by kernel_rfl))⟩
  f18 := ⟨Tryz.f205.name, by decide, Tryz.func205.trans (congrArg some (by kernel_rfl))⟩
  f19 := Tryz.func206.trans (congrArg some (by kernel_rfl))
  f20 := Tryz.func207.trans (congrArg some (by kernel_rfl))
  f30 := ⟨Tryz.f220.name, by decide, Tryz.func220.trans (congrArg some (by kernel_rfl))⟩
  f31 := Tryz.func221.trans (congrArg some (by kernel_rfl))
  f32 := Tryz.func222.trans (congrArg some (by kernel_rfl))
  f33 := ⟨Tryz.f223.name, by decide, Tryz.func223.trans (congrArg some (by kernel_rfl))⟩
  f34 := ⟨Tryz.f224.name, by decide, Tryz.func224.trans (congrArg some (by kernel_rfl))⟩
  f35 := ⟨Tryz.f225.name, by decide, Tryz.func225.trans (congrArg some (by kernel_rfl))⟩
  f40 := ⟨Tryz.f231.name, by decide, Tryz.func231.trans (congrArg some (by kernel_rfl))⟩
  t0 := Tryz.underlying0
  a0 := Tryz.isAgg0
  z0 := Tryz.sizeOf0
  v0 := Tryz.zeroValue0
  t3 := Tryz.underlying3
  a3 := Tryz.isAgg3
  z3 := Tryz.sizeOf3
  v3 := Tryz.zeroValue3
  t4 := Tryz.underlying4
  a4 := Tryz.isAgg4
  z4 := Tryz.sizeOf4
  v4 := Tryz.zeroValue4
  t5 := Tryz.underlying5
  a5 := Tryz.isAgg5
  z5 := Tryz.sizeOf5
  v5 := Tryz.zeroValue5
  t9 := Tryz.underlying9
  a9 := Tryz.isAgg9
  z9 := Tryz.sizeOf9
  v9 := Tryz.zeroValue9
  t22 := Tryz.underlying64
  a22 := Tryz.isAgg64
  z22 := Tryz.sizeOf64
  v22 := Tryz.zeroValue64
  t23 := Tryz.underlying64
  a23 := Tryz.isAgg64
  z23 := Tryz.sizeOf64
  v23 := Tryz.zeroValue64
  t25 := Tryz.underlying3
  a25 := Tryz.isAgg3
  z25 := Tryz.sizeOf3
  v25 := Tryz.zeroValue3
  t32 := Tryz.underlying216
  a32 := Tryz.isAgg216
  z32 := Tryz.sizeOf216
  v32 := Tryz.zeroValue216
  t35 := Tryz.underlying297
  a35 := Tryz.isAgg297
  z35 := Tryz.sizeOf297
  v35 := Tryz.zeroValue297
  t36 := Tryz.underlying298
  a36 := Tryz.isAgg298
  z36 := Tryz.sizeOf298
  v36 := Tryz.zeroValue298
  t41 := Tryz.underlying95
  a41 := Tryz.isAgg95
  z41 := Tryz.sizeOf95
  v41 := Tryz.zeroValue95
  t44 := Tryz.underlying115
  a44 := Tryz.isAgg115
  z44 := Tryz.sizeOf115
  v44 := Tryz.zeroValue115
  t46 := Tryz.underlying288
  a46 := Tryz.isAgg288
  z46 := Tryz.sizeOf288
  v46 := Tryz.zeroValue288
  t53 := Tryz.underlying313
  a53 := Tryz.isAgg313
  z53 := Tryz.sizeOf313
  v53 := Tryz.zeroValue313
  t57 := Tryz.underlying317
  a57 := Tryz.isAgg317
  z57 := Tryz.sizeOf317
  v57 := Tryz.zeroValue317
  t63 := Tryz.underlying326
  a63 := Tryz.isAgg326
  z63 := Tryz.sizeOf326
  v63 := Tryz.zeroValue326
  t64 := Tryz.underlying39
  a64 := Tryz.isAgg39
  z64 := Tryz.sizeOf39
  v64 := Tryz.zeroValue39 }
end Go.Proofs
namespace Go.Proofs.YtpiebpiljhlneaaGreatDoor
section
set_option maxHeartbeats 1000000
open Go.RowKit Go.Maps Go.Shelf

def allT (tab:List (Option Ino)):List Nat:=(List.range tab.length).filter fun k=>(slotT tab k).isSome
theorem allT_mem {tab:List (Option Ino)} {k:Nat}:k∈allT tab↔∃x,slotT tab k=some x:=by
 unfold allT
 rw [List.mem_filter,List.mem_range,Option.isSome_iff_exists]
 exact ⟨fun h=>h.2,fun ⟨x,h⟩=>⟨slotT_lt h,x,h⟩⟩
theorem allT_rises (tab:List (Option Ino)):(allT tab).Pairwise (· < ·):=List.pairwise_lt_range.filter _
theorem allT_len (tab:List (Option Ino)):(allT tab).length<=tab.length:=by
 unfold allT
 exact Nat.le_trans (List.length_filter_le _ _) (by simp)
theorem ints_mem {l:List Nat} {x:Int}:x∈ints l↔∃k∈l,x=(k:Int):=by
 unfold ints
 rw [List.mem_map]
 exact ⟨fun ⟨k,h,e⟩=>⟨k,h,e.symm⟩,fun ⟨k,h,e⟩=>⟨k,h,e.symm⟩⟩
theorem ints_nodup {l:List Nat} (h:l.Nodup):(ints l).Nodup:=by
 unfold ints
 exact List.pairwise_map.2 (h.imp fun hne e=>hne (Int.ofNat.inj e))
theorem ints_sorted {l:List Nat} (h:l.Pairwise (· < ·)):(ints l).mergeSort leI=ints l:=by
 apply List.mergeSort_of_pairwise
 unfold ints
 refine List.pairwise_map.2 (h.imp fun {a b} hlt=>?_)
 simp only [leI,decide_eq_true_eq]
 exact Int.ofNat_le.2 (Nat.le_of_lt hlt)
theorem keys_sorted {H:Type} {R:Value->Option (DataW H×List MemPlace)} {w:World} {b n:Nat} {D:DataW H} {f:Nat->Option Nat} {L:List Nat} {ss:List Int} (hown:w.ownsMap Tryz.prog 3 R b n D) (hD:∀k:Int,Maps.has D (.int .i64 k)=(atI f k).isSome) (hL:∀k,k∈L↔(f k).isSome=true) (hs:L.Pairwise (· < ·)) (hp:ss.Perm (intKeys D)):ss.mergeSort (fun x y=>decide (x<=y))=ints L/\ss.length=L.length:=by
 have hnd:L.Nodup:=hs.imp fun h=>Nat.ne_of_lt h
 have hc:CollectedI D (fun _=>false) (ints L):=⟨ints_nodup hnd,fun x=>by
  rw [hD x,ints_mem]
  constructor
  ·rintro ⟨k,hk,rfl⟩
   rw [atI_nat]
   exact ⟨(hL k).1 hk,rfl⟩
  ·rintro ⟨h,_⟩
   unfold atI at h
   split at h
   ·exact ⟨x.toNat,(hL _).2 h,by omega⟩
   ·cases h⟩
 have hp2:ss.Perm (ints L):=hp.trans (hc.perm hown keyed Tryz.underlying3 (fun _=>rfl)).symm
 refine ⟨(mergeSort_of_perm_i hp2).trans (ints_sorted hs),?_⟩
 rw [hp2.length_eq];unfold ints;simp
theorem sortsA (m:Nat):AnyZI.SortsIn Tryz.prog Tryz.sortedA_ren Fence.wide m :=
  ⟨fun blk off cap ss W hH hblk hsz=>callsIn_wide.2 (AnyM.slices_Sort_int Tryz.sortA blk off cap ss W hH hblk hsz),
   fun p cap W=>callsIn_wide.2 (AnyM.slices_Sort_int_none Tryz.sortA p cap W)⟩
section
variable {F : Nat → Prop} {T0 tb bb sp sb cap mb n : Nat} {bl : List (List UInt8)} {u : List Bool} {tab : List (Option Ino)}
theorem im_all (w:World) (T:TbAt w F T0 tb bb sp sb cap mb n bl u tab) :
  Calls Tryz.prog 77 #[.pointer (some ⟨tb,0,none⟩)] w fun e w'=>∃v,e = .returned v/\OwnI w' w.heap.size v (allT tab)/\Below w.heap.size w w':=by
 obtain ⟨f,N⟩:=T.nodes
 obtain ⟨D0,hown,hD⟩:=N.map
 have hsz:=hown.size_le
 have hn:=T.low.2.2.2.2.2.2
 have hmax:Maps.size D0<=maxLen:=by unfold maxLen;omega
 have hbytes:Maps.size D0*8<=140737488355328:=by omega
 have HKS:Hid (∀ss:List Int,ss.Perm (intKeys D0)->ss.mergeSort (fun x y=>decide (x<=y))=ints (allT tab)/\ss.length=(allT tab).length):=fun ss hp=>keys_sorted (f:=f) hown (fun k=>(hD k).2) (fun k=>by
  rw [allT_mem]
  constructor
  ·rintro ⟨x,hx⟩
   obtain ⟨b,e,_⟩:=N.some_ k x hx
   rw [e];rfl
  ·intro h
   cases hx:slotT tab k with
   | some x=>exact ⟨x,rfl⟩
   | none=>rw [N.none_ k hx] at h;cases h) (allT_rises tab) hp
 obtain ⟨_,_,c2⟩:=T.cells
 clear N hD T
 refine (callsIn_wide (n:=6)).1 ?_
 have hbl:=hown.lt
 have hseq:SeqGives Fence.wide 2 Tryz.prog 162 #[.pointer (some ⟨w.heap.size,0,none⟩)] encZ (fun ss=>ss.Perm (intKeys D0)) (Maps.size D0) (w.alloc (.cells #[.map (some mb)] 182)) :=
  AnyZI.keys_gives (ρ:=Tryz.keysA_ren) { Tryz.keysA with } Fence.wide _ trivial rfl (by omega) w.heap.size mb n D0 _ (by simp) (by simp) (by
   obtain ⟨es,clock,hb,Ft,hs,hD⟩:=hown
   exact ⟨es,clock,(Below.heap_alloc _ _ mb hbl).trans hb,Ft,hs,hD⟩)
 have cK:∀mb W,CallsIn Fence.wide 5 Tryz.prog 126 #[.map mb] W fun e w'=>e = .returned (.func (.func 162) #[] #[.pointer (some ⟨W.heap.size,0,none⟩)])/\w'=W.alloc (.cells #[.map mb] 182):=fun mb W=>AnyZI.keys_in Tryz.keysA Fence.wide 5 trivial rfl mb W
 have cS:=AnyZI.sorted_in Tryz.sortedA Fence.wide 5 trivial trivial trivial trivial rfl (by omega) (sortsA _) (enters_of Tryz.func151 (by kernel_rfl) rfl) 162 #[.pointer (some ⟨w.heap.size,0,none⟩)] trivial (enters_of Tryz.func162 (by kernel_rfl) rfl) _ _ hmax hbytes _ hseq
 change CallsIn _ _ Tryz.prog 100 _ _ _ at cS
 have hfK:Fence.wide.fn 126:=trivial
 have hfS:Fence.wide.fn 100:=trivial
 refine callsIn_of_wp Tryz.func77 rfl trivial ?_ rfl
 simp only [Tryz.ntmps77,List.size_toArray,List.length_cons,List.length_nil,Nat.reduceAdd,Nat.reduceSub,Array.replicate_succ,Array.replicate_zero,List.push_toArray,List.append_toArray,List.nil_append,List.cons_append]
 gi_wp2_with (first
  | (gi_at_call 126;refine (cK _ _).mono ?_;rintro e w' ⟨rfl,rfl⟩)
  | (gi_at_call 100;refine cS.mono ?_;rintro e w' ⟨v,ss,rfl,hS,hrow,hnil,hb⟩))
 go_ret
 obtain ⟨e1,e2⟩:=HKS.out ss hS
 rw [e1,e2] at hrow
 exact ⟨v,rfl,ownsRow_base_a hrow (by simp),((Below.refl _ w).alloc (Nat.le_refl _) _).trans (hb.mono (by simp))⟩
end
end
end Go.Proofs.YtpiebpiljhlneaaGreatDoor
namespace Go.Proofs
open Go.Shelf
def Tryz.keysN_ren : Go.Shelf.Ren := ⟨fun | 7 => 101 | 10 => 152 | n => n, fun | 23 => 97 | 26 => 3 | 3 => 31 | 28 => 178 | 0 => 0 | 27 => 177 | 33 => 92 | 4 => 4 | n => n, fun | n => n⟩
theorem Tryz.keysN : Go.Proofs.SlLaysZI.n7 Tryz.prog Tryz.keysN_ren := {
  mixed := by kernel_rfl
  f7 := ⟨Tryz.f101.name, by decide, Tryz.func101.trans (congrArg some (by kernel_rfl))⟩
  f10 := ⟨Tryz.f152.name, by decide, Tryz.func152.trans (congrArg some (by kernel_rfl))⟩
  t0 := Tryz.underlying0
  a0 := Tryz.isAgg0
  z0 := Tryz.sizeOf0
  v0 := Tryz.zeroValue0
  t4 := Tryz.underlying4
  a4 := Tryz.isAgg4
  z4 := Tryz.sizeOf4
  v4 := Tryz.zeroValue4
  t23 := Tryz.underlying97
  a23 := Tryz.isAgg97
  z23 := Tryz.sizeOf97
  v23 := Tryz.zeroValue97
  t26 := Tryz.underlying3
  a26 := Tryz.isAgg3
  z26 := Tryz.sizeOf3
  v26 := Tryz.zeroValue3
  t27 := Tryz.underlying177
  a27 := Tryz.isAgg177
  z27 := Tryz.sizeOf177
  v27 := Tryz.zeroValue177
  t28 := Tryz.underlying178
  a28 := Tryz.isAgg178
  z28 := Tryz.sizeOf178
  v28 := Tryz.zeroValue178
  t33 := Tryz.underlying92
  a33 := Tryz.isAgg92
  z33 := Tryz.sizeOf92
  v33 := Tryz.zeroValue92 }
end Go.Proofs
