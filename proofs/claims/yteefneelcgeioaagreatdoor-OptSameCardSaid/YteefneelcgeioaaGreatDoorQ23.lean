/-
  The contract of dirs' Share.
  The contract of dirs' Share, where a file becomes another inode.
  A tree of dirs goes: pure facts, and what stays.
  The contract of dirs' Drop.
  The contract of dirs' Drop: the walk.
  The library's contracts of maps.Keys, slices.Sorted and slices.Sort, at this program's numbers.
  The contracts of a table's All and Disk.
  Conditions: those that each states.
-/
import Derived.Test.YteefneelcgeioaaGreatDoorQ22
import Derived.Maps.RangeWalk
import Derived.Shelf.SlIterI.Nil
import Derived.Shelf.SortM.Plain
import Derived.Shelf.SortM.SortNone
import Derived.Ground.GgzProg
import Derived.Ground.SlgmProg
import Derived.Test.YteefneelcgeioaaGreatDoorProg
import Derived.Test.YteefneelcgeioaaGreatDoorQ07
namespace Go.Proofs.YteefneelcgeioaaGreatDoor
open Go.RowKit Go.Maps

section
variable {w : World} {T0 dp tb mb m1 m2 n1 d bb sp sb cap n N : Nat} {tr : List (Option NTree)} {fb : Nat → Nat} {s : TSt} {a : Nat → Addr}
theorem share_ino (k:Int) (p:ByteArray) (was:Nat) (hk:(Lit.int .i64 k).wf=true) (hp:p.size<=1000000) (P:PSen a w) (D:DirAt w T0 dp tb mb m1 m2 n1 d tr fb) (hi:inoR tr k p = .ok was) :
  Calls Tryz.prog 18 #[.pointer (some ⟨dp,0,none⟩),.int .i64 k,.string p] w fun e w'=>e = .returned (.tuple #[.int .i64 (was:Int),.nilIface])/\Below w.heap.size w w':=by
 have HIN:=dinode_any a k p hk hp P D
 rw [hi] at HIN
 exact HIN
theorem share_stat (j:Nat) (z:Ino) (D:DirAt w T0 dp tb mb m1 m2 n1 d tr fb) (T:TbAt w (fun _=>False) T0 tb bb sp sb cap mb n s.bl s.u s.tab) (S:SInv N s.bl s.u s.tab) (hz:slotT s.tab j=some z) :
  ∀W,Below w.heap.size w W->W.cell? ⟨dp,0,none⟩=some (.pointer (some ⟨tb,0,none⟩))/\Calls Tryz.prog 20 #[.pointer (some ⟨tb,0,none⟩),.int .i64 (j:Int)] W fun e w'=>∃ax cx,e = .returned (.tuple #[.agg #[.int .i64 (z.bytes:Int),.int .i64 (z.links:Int),.bool z.exec,.slice ax z.blocks.length cx,.int .u32 (z.sum:Int)],.bool true])/\Below W.heap.size W w':=fun W hW=>by
 obtain ⟨_,_,_,s4,s5⟩:=S.own j z hz
 refine ⟨(D.below hW).cells.1,(im_stat j z hz (by rw [s5];unfold needN;omega) W (T.below hW)).mono fun e w' ⟨v,he,hv,hb⟩=>?_⟩
 obtain ⟨ax,cx,rfl,_⟩:=hv
 rw [ints_len] at he
 exact ⟨ax,cx,he,hb⟩
end
end Go.Proofs.YteefneelcgeioaaGreatDoor
namespace Go.Proofs.YteefneelcgeioaaGreatDoor
open Go.RowKit Go.Maps

def lnkS (s:TSt) (j:Nat) (z:Ino):TSt:=⟨s.bl,s.u,s.tab.set j (some { z with links:=z.links+1 })⟩
def unlS (s:TSt) (i:Nat) (y:Ino):TSt:=if y.links=1 then ⟨s.bl,markR s.u false y.blocks,s.tab.set i none⟩ else ⟨s.bl,s.u,s.tab.set i (some { y with links:=y.links-1 })⟩
theorem lnk_inv {N:Nat} {s:TSt} {j:Nat} {z:Ino} (S:SInv N s.bl s.u s.tab) (hz:slotT s.tab j=some z):SInv N (lnkS s j z).bl (lnkS s j z).u (lnkS s j z).tab:=S.links hz (by omega)
theorem unl_inv {N:Nat} {s:TSt} {i:Nat} {y:Ino} (S:SInv N s.bl s.u s.tab) (hy:slotT s.tab i=some y):SInv N (unlS s i y).bl (unlS s i y).u (unlS s i y).tab:=by
 unfold unlS
 have h1:=(S.own i y hy).2.2.1
 split
 ·exact S.drop hy
 ·exact S.links hy (by omega)
theorem PBut.of_tb {T0 mb dp:Nat} {w w':World} (h:TbBut T0 mb w w'):PBut T0 dp w w':=⟨h.os,h.tape,h.output,h.size,fun k o hk hp _=>h.block k o hk hp⟩
theorem PBut.of_below {T0 dp:Nat} {w w':World} (h:Below w.heap.size w w'):PBut T0 dp w w':=⟨h.os,h.tape,h.output,h.size,fun k o hk _ _=>by rw [h.block k (Array.getElem?_eq_some_iff.1 hk).1];exact hk⟩
theorem PBut.trans {T0 dp:Nat} {w w1 w2:World} (h:PBut T0 dp w w1) (h':PBut T0 dp w1 w2):PBut T0 dp w w2:=⟨h'.os.trans h.os,h'.tape.trans h.tape,h'.output.trans h.output,Nat.le_trans h.size h'.size,fun k o hk hp hd=>h'.block k o (h.block k o hk hp hd) hp hd⟩
section
variable {w : World} {T0 dp tb mb m1 m2 n1 d bb sp sb cap n N : Nat} {tr : List (Option NTree)} {fb : Nat → Nat} {s : TSt} {a : Nat → Addr}
theorem unlink_any (i:Nat) (y:Ino) (eb en:Value) (hy:slotT s.tab i=some y) (hlk:y.links<=1000000) (T:TbAt w (fun _=>False) T0 tb bb sp sb cap mb n s.bl s.u s.tab) (S:SInv N s.bl s.u s.tab) (hEb:w.cell? ⟨6,0,none⟩=some eb) (hEn:w.cell? ⟨1,0,none⟩=some en) (hgT:6<T0/\1<T0) :
  Calls Tryz.prog 36 #[.pointer (some ⟨tb,0,none⟩),.int .i64 (i:Int)] w fun e w'=>e = .returned .nilIface/\TbAt w' (fun _=>False) T0 tb bb sp sb cap mb n (unlS s i y).bl (unlS s i y).u (unlS s i y).tab/\TbBut T0 mb w w':=by
 obtain ⟨_,_,h1,h4,h5⟩:=S.own i y hy
 by_cases e:y.links=1
 ·have h:=im_unlink_last i y eb en hy e w T hEb hEn hgT (fun b hb=>by rw [S.lu];exact S.lt hy b hb) (S.gives hy) (by rw [h5];unfold needN;omega)
  unfold unlS;rw [if_pos e];exact h
 ·have h:=im_unlink i (y.links-1) y hy (by omega) (by omega) (by omega) w T
  unfold unlS;rw [if_neg e];exact h
end
end Go.Proofs.YteefneelcgeioaaGreatDoor
namespace Go.Proofs.YteefneelcgeioaaGreatDoor
open Go.RowKit Go.Maps

def unl1 (s:TSt) (i:Nat):TSt:=match slotT s.tab i with
 | some y=>unlS s i y
 | none=>s
def unlL (s:TSt) (l:List Nat):TSt:=l.foldl unl1 s
def CntOk (s:TSt) (L:List Nat):Prop:=∀i,i∈L->∃y,slotT s.tab i=some y/\L.count i<=y.links/\y.links<=1000000
theorem CntOk.perm {s:TSt} {L M:List Nat} (h:CntOk s L) (p:L.Perm M):CntOk s M:=fun i hi=>by
 obtain ⟨y,a,b,c⟩:=h i (p.mem_iff.2 hi)
 exact ⟨y,a,by rw [<-p.count_eq i];exact b,c⟩
theorem unl_slot {s:TSt} {i:Nat} {y:Ino} (hy:slotT s.tab i=some y) (j:Nat):slotT (unlS s i y).tab j=if j=i then (if y.links=1 then none else some { y with links:=y.links-1 }) else slotT s.tab j:=by
 unfold unlS
 split
 ·show slotT (s.tab.set i none) j=_
  rw [slotT_set (slotT_lt hy)]
 ·show slotT (s.tab.set i _) j=_
  rw [slotT_set (slotT_lt hy)]
theorem CntOk.step {s:TSt} {i:Nat} {y:Ino} {L:List Nat} (h:CntOk s (i :: L)) (hy:slotT s.tab i=some y):CntOk (unlS s i y) L:=fun j hj=>by
 obtain ⟨z,a,b,c⟩:=h j (List.mem_cons_of_mem _ hj)
 rw [unl_slot hy]
 by_cases e:j=i
 ·subst e
  rw [hy] at a
  cases a
  rw [List.count_cons_self] at b
  have h0:0<L.count j:=List.count_pos_iff.2 hj
  rw [if_pos rfl,if_neg (by omega)]
  exact ⟨_,rfl,by show _<=y.links-1;omega,by show y.links-1<=_;omega⟩
 ·rw [if_neg e]
  rw [List.count_cons_of_ne (fun h=>e h.symm)] at b
  exact ⟨z,a,b,c⟩
theorem unlL_snoc (s:TSt) (l:List Nat) (i:Nat) {y:Ino} (hy:slotT (unlL s l).tab i=some y):unlL s (l ++ [i])=unlS (unlL s l) i y:=by
 have h:unlL s (l ++ [i])=unl1 (unlL s l) i:=by simp [unlL]
 rw [h]
 unfold unl1
 rw [hy]
def keyL (x:ByteArray×Nat):Lit:=.string x.1.data.toList
theorem findF_mem {p:ByteArray} {i:Nat} (fs:List (ByteArray×Nat)):findF fs p=some i->(p,i)∈fs:=snoc_ind (P:=fun fs=>findF fs p=some i->(p,i)∈fs) (fun h=>by cases h) (fun l x ih h=>by
 rw [findF_snoc] at h
 split at h
 ·rename_i e
  cases h
  rw [<-e]
  simp
 ·exact List.mem_append_left _ (ih h)) _ fs rfl
theorem key_self (x:ByteArray×Nat):(keyL x).sameKey (keyL x)=true:=WideAt.sameKey_self (by trivial)
theorem key_ne {x y:ByteArray×Nat} (h:¬x.1=y.1):(keyL x).sameKey (keyL y)=false:=Maps.sameKey_ne (fun e=>h (bytes_eq (by simpa [keyL] using e)))
theorem rem_step {left:Lit->Bool} {z:ByteArray×Nat} (hl:left (keyL z)=true):∀ {fs:List (ByteArray×Nat)},(fs.map (·.1)).Nodup->z∈fs->(fs.filter (fun x=>left (keyL x))).Perm (z :: fs.filter (fun x=>left (keyL x) && !(keyL x).sameKey (keyL z)))
 | [],_,h=>by cases h
 | x :: fs,hn,h=>by
  rw [List.map_cons,List.nodup_cons] at hn
  rcases List.mem_cons.1 h with e|hm
  ·subst e
   rw [List.filter_cons_of_pos (by simp [hl]),List.filter_cons_of_neg (by simp [key_self])]
   refine List.Perm.cons _ (List.Perm.of_eq (List.filter_congr fun y hy=>?_))
   rw [key_ne (fun e=>hn.1 (by rw [<-e];exact List.mem_map_of_mem (f:=(·.1)) hy))]
   simp
  ·have hx:(keyL x).sameKey (keyL z)=false:=key_ne (fun e=>hn.1 (by rw [e];exact List.mem_map_of_mem (f:=(·.1)) hm))
   have ih:=rem_step hl hn.2 hm
   cases hxl:left (keyL x) with
   | false=>rw [List.filter_cons_of_neg (by simp [hxl]),List.filter_cons_of_neg (by simp [hxl])];exact ih
   | true =>
    rw [List.filter_cons_of_pos (by simp [hxl]),List.filter_cons_of_pos (by simp [hxl,hx])]
    exact (List.Perm.cons x ih).trans (List.Perm.swap _ _ _)
theorem keyStr_inv {key:Value} {kl:Lit} (h:keyOf Tryz.prog 9 key=some kl):∃p:ByteArray,key = .string p/\kl = .string p.data.toList:=by
 have hu:=Tryz.underlying9
 cases key <;> simp [keyOf,hu,mapKey] at h
 exact ⟨_,rfl,h.2.symm⟩
theorem ranges_keep {w w':World} {kt b r n cnt:Nat} {D:DataW Value} {left:Lit->Bool} (h:w.ranges Tryz.prog kt heldR b r n D left cnt) (hb:∀o,w.heap[b]? = some o->w'.heap[b]? = some o) (hr:∀o,w.heap[r]? = some o->w'.heap[r]? = some o):w'.ranges Tryz.prog kt heldR b r n D left cnt:=by
 obtain ⟨es,clock,since,seen,c0,h1,F,hs,hD,h2,rest⟩:=h
 exact ⟨es,clock,since,seen,c0,hb _ h1,F,hs,hD,hr _ h2,rest⟩
theorem ranges_objs {w:World} {kt b r n cnt:Nat} {D:DataW Value} {left:Lit->Bool} (h:w.ranges Tryz.prog kt heldR b r n D left cnt):(∃es cl,w.heap[b]? = some (.map es cl))/\∃m s v c,w.heap[r]? = some (.mapIter m s v c):=by
 obtain ⟨es,clock,since,seen,c0,h1,F,hs,hD,h2,rest⟩:=h
 exact ⟨⟨_,_,h1⟩,⟨_,_,_,_,h2⟩⟩
def itTy:Obj->Bool
 | .mapIter _ _ _ _=>true
 | _=>false
section
variable {w w' : World} {T0 dp tb mb m1 m2 n1 d bb sp sb cap n N : Nat} {tr : List (Option NTree)} {fb : Nat → Nat} {s : TSt} {F : Nat → Prop} {bl : List (List UInt8)} {u : List Bool} {tab : List (Option Ino)}
theorem TbAt.iter (T:TbAt w F T0 tb bb sp sb cap mb n bl u tab) (ht:Turn itTy w w'):TbAt w' F T0 tb bb sp sb cap mb n bl u tab:=by
 obtain ⟨f,Nd⟩:=T.nodes
 refine ⟨ht _ _ T.box rfl,T.disk.turn ht (fun _ _=>rfl) (fun _ _=>rfl) (fun _ _=>rfl),T.space.turn ht (fun _ _=>rfl) (fun _ _=>rfl),⟨f,?_,fun k x hx=>?_,Nd.none_,Nd.inj⟩,T.low⟩
 ·obtain ⟨es,cl,hb⟩:=Nd.map.obj
  exact Nd.map.keep (by rw [hb];exact ht _ _ hb rfl)
 ·obtain ⟨b,e,hb,S⟩:=Nd.some_ k x hx
  exact ⟨b,e,hb,S.turn ht (fun _ _=>rfl) (fun _ _=>rfl)⟩
theorem DirAt.iter (D:DirAt w T0 dp tb mb m1 m2 n1 d tr fb) (hs:w.heap.size<=w'.heap.size) (ht:Turn itTy w w'):DirAt w' T0 dp tb mb m1 m2 n1 d tr fb :=
 D.kept hs (fun k o hk hp _=>ht k o hk (by cases o <;> first|rfl|cases hp)) (fun _ hc=>ht _ _ hc rfl) (fun _ _ hc=>ht _ _ hc rfl)
theorem DirAt.dropped (D:DirAt w T0 dp tb mb m1 m2 n1 d tr fb) {k:Nat} {x:NTree} (hk:(Lit.int .i64 (k:Int)).wf=true) (hx:ntI tr (k:Int)=some x) (ty:TypeId) :
  ∃w1 w2,(Builtin.delete_ #[76,3] ty #[.map (some m1),.int .i64 (k:Int)]).run Tryz.prog w = .ok (.tuple #[]) w1/\(Builtin.delete_ #[77,3] ty #[.map (some m2),.int .i64 (k:Int)]).run Tryz.prog w1 = .ok (.tuple #[]) w2/\(∀(q:Nat) (o:Obj),w.heap[q]? = some o->q≠m1->w1.heap[q]? = some o)/\(∀(q:Nat) (o:Obj),w.heap[q]? = some o->q≠m1->q≠m2->w2.heap[q]? = some o)/\(w2.os=w.os/\w2.tape=w.tape/\w2.output=w.output/\w2.heap.size=w.heap.size)/\DirAt w2 T0 dp tb mb m1 m2 n1 d (tr.set k none) fb:=by
 obtain ⟨l1,l2,l3,l4,l5,l6,l7⟩:=D.low
 obtain ⟨f1,f2,M1,M2,h0,h1,h2⟩:=D.maps
 obtain ⟨w1,r1,M1',g1,z1⟩:=M1.del keyInt Tryz.underlying76 (keyOf_int_mk Tryz.underlying3 hk) ty
 obtain ⟨es1,cl1,hm1⟩:=M1.obj
 obtain ⟨es2,cl2,hm2⟩:=M2.obj
 have M2w:MapV w1 3 m2 n1 f2:=M2.keep (by rw [g1.block m2 (Array.getElem?_eq_some_iff.1 hm2).1 (fun e=>l4 (Option.some.inj e).symm)])
 obtain ⟨w2,r2,M2',g2,z2⟩:=M2w.del keyInt Tryz.underlying77 (keyOf_int_mk Tryz.underlying3 hk) ty
 have k1:∀(q:Nat) (o:Obj),w.heap[q]? = some o->q≠m1->w1.heap[q]? = some o:=fun q o hq hne=>by rw [g1.block q (Array.getElem?_eq_some_iff.1 hq).1 (fun e=>hne (Option.some.inj e))];exact hq
 have k2:∀(q:Nat) (o:Obj),w.heap[q]? = some o->q≠m1->q≠m2->w2.heap[q]? = some o:=fun q o hq hne hne2=>by
  have hq1:=k1 q o hq hne
  rw [g2.block q (Array.getElem?_eq_some_iff.1 hq1).1 (fun e=>hne2 (Option.some.inj e))];exact hq1
 have kc:∀(q:Nat) cs ty,w.heap[q]? = some (Obj.cells cs ty (0,0))->w2.heap[q]? = some (Obj.cells cs ty (0,0)):=fun q cs ty hq=>k2 q _ hq (fun e=>by rw [e,hm1] at hq;cases hq) (fun e=>by rw [e,hm2] at hq;cases hq)
 have mk:∀ {kt mm q:Nat} {f:Lit->Option Value},MapV w kt mm q f->mm≠m1->mm≠m2->MapV w2 kt mm q f:=fun M a b=>by
  obtain ⟨es,cl,h⟩:=M.obj
  exact M.keep ((k2 _ _ h a b).trans h.symm)
 have M1'':MapV w2 3 m1 n1 (updK f1 (.int .i64 (k:Int)) none):=by
  obtain ⟨es,cl,h⟩:=M1'.obj
  exact M1'.keep (by rw [g2.block m1 (Array.getElem?_eq_some_iff.1 h).1 (fun e=>l4 (Option.some.inj e))])
 refine ⟨w1,w2,r1,r2,k1,k2,⟨g2.os.trans g1.os,g2.tape.trans g1.tape,g2.output.trans g1.output,by rw [z2,z1]⟩,⟨by rw [List.length_set];exact kc _ _ _ D.box,⟨_,_,M1'',M2',fun j hj=>?_,fun j y hy=>?_,fun i j y z hy hz e=>?_⟩,D.low⟩⟩
 ·rw [ntI_set hx] at hj
  by_cases e:j=(k:Int)
  ·rw [e,updK_same,updK_same];exact ⟨rfl,rfl⟩
  ·rw [if_neg e] at hj
   rw [updK_other _ _ (fun h=>e (by simpa using h)),updK_other _ _ (fun h=>e (by simpa using h))]
   exact h0 j hj
 ·rw [ntI_set hx] at hy
  split at hy
  ·cases hy
  ·rename_i e
   obtain ⟨⟨v,a1,a2⟩,a3,a4,a5,a6,a7⟩:=h1 j y hy
   refine ⟨⟨v,?_,a2.kept (by rw [z2,z1];exact Nat.le_refl _) (fun q c h=>kc q c _ h)⟩,?_,mk a4 a5 a6,a5,a6,a7⟩
   ·rw [updK_other _ _ (fun h=>e (by simpa using h))];exact a1
   ·rw [updK_other _ _ (fun h=>e (by simpa using h))];exact a3
 ·have key:∀(i:Nat) (y:NTree),ntI (tr.set k none) (i:Int)=some y->ntI tr (i:Int)=some y:=fun i y hy=>by
   rw [ntI_set hx] at hy
   split at hy
   ·cases hy
   ·exact hy
  exact h2 i j y z (key i y hy) (key j z hz) e
end
end Go.Proofs.YteefneelcgeioaaGreatDoor
namespace Go.Proofs.YteefneelcgeioaaGreatDoor
open Go.RowKit Go.Maps

theorem findF_some {y:ByteArray×Nat} (fs:List (ByteArray×Nat)):y∈fs->(findF fs y.1).isSome=true:=snoc_ind (P:=fun fs=>y∈fs->(findF fs y.1).isSome=true) (fun h=>by cases h) (fun l x ih h=>by
 rw [findF_snoc]
 split
 ·rfl
 ·rename_i e
  rcases List.mem_append.1 h with h|h
  ·exact ih h
  ·rw [List.mem_singleton.1 h] at e
   exact absurd rfl e) _ fs rfl
structure DrpJ (T0 dp tb mb m1 m2 n1 d bb sp sb cap n N:Nat) (tr:List (Option NTree)) (fb:Nat->Nat) (s:TSt) (k:Nat) (x:NTree) (eb en:Value) (D:DataW Value) (r:Nat) (w0 wr:World) (left:Lit->Bool) (cnt:Nat) (done:List (ByteArray×Nat)):Prop where
 rg:wr.ranges Tryz.prog 9 heldR (fb k) r 1000000 D left cnt
 val:∀kl,WideAt.IsKeyLit kl->(∀z,D.atKey kl z=heldD (fmap x.fs kl) z)/\Maps.has D kl=(fmap x.fs kl).isSome
 keys:(x.fs.map (·.1)).Nodup
 ne:fb k≠mb
 low:w0.heap.size<=r
 perm:(done++x.fs.filter (fun y=>left (keyL y))).Perm x.fs
 ok:CntOk (unlL s (done.map (·.2))) ((x.fs.filter (fun y=>left (keyL y))).map (·.2))
 inv:SInv N (unlL s (done.map (·.2))).bl (unlL s (done.map (·.2))).u (unlL s (done.map (·.2))).tab
 dir:DirAt wr T0 dp tb mb m1 m2 n1 d tr fb
 tab:TbAt wr (fun _=>False) T0 tb bb sp sb cap mb n (unlL s (done.map (·.2))).bl (unlL s (done.map (·.2))).u (unlL s (done.map (·.2))).tab
 but:PBut T0 dp w0 wr
 eb:wr.cell? ⟨6,0,none⟩=some eb
 en:wr.cell? ⟨1,0,none⟩=some en
 gT:6<T0/\1<T0
def DrpE (T0 dp tb mb m1 m2 n1 d bb sp sb cap n N:Nat) (tr:List (Option NTree)) (fb:Nat->Nat) (s:TSt) (x:NTree) (w0 wr:World):Prop :=
 ∃l,l.Perm (x.fs.map (·.2))/\DirAt wr T0 dp tb mb m1 m2 n1 d tr fb/\TbAt wr (fun _=>False) T0 tb bb sp sb cap mb n (unlL s l).bl (unlL s l).u (unlL s l).tab/\SInv N (unlL s l).bl (unlL s l).u (unlL s l).tab/\PBut T0 dp w0 wr
section
variable {T0 dp tb mb m1 m2 n1 d bb sp sb cap n N k r cnt : Nat} {tr : List (Option NTree)} {fb : Nat → Nat} {s : TSt} {x : NTree} {eb en : Value} {D : DataW Value} {w0 wr : World} {left : Lit → Bool} {done : List (ByteArray × Nat)}
theorem DrpJ.ends (J:DrpJ T0 dp tb mb m1 m2 n1 d bb sp sb cap n N tr fb s k x eb en D r w0 wr left cnt done) (h:∀kl,left kl=false):DrpE T0 dp tb mb m1 m2 n1 d bb sp sb cap n N tr fb s x w0 wr:=by
 have hp:=J.perm
 rw [List.filter_eq_nil_iff.2 (fun y _=>by simp [h]),List.append_nil] at hp
 exact ⟨_,hp.map _,J.dir,J.tab,J.inv,J.but⟩
theorem DrpJ.more {w1:World} {cnt1:Nat} {p:ByteArray} {c:Value} {kl:Lit} {y:DataW Value×List MemPlace} (J:DrpJ T0 dp tb mb m1 m2 n1 d bb sp sb cap n N tr fb s k x eb en D r w0 wr left cnt done) (hkey:keyOf Tryz.prog 9 (.string p)=some kl) (hl:left kl=true) (hv:heldR c=some y) (hat:∀zd,D.atKey kl zd=y.1) (hrg:w1.ranges Tryz.prog 9 heldR (fb k) r 1000000 D (fun z=>left z && !z.sameKey kl) cnt1) (hlt:cnt1<cnt) (hg:wr.grownBy w1 (some r)) (hs:w1.heap.size=wr.heap.size) :
  ∃i:Nat,c = .int .i64 (i:Int)/\w1.cell? ⟨dp,0,none⟩=some (.pointer (some ⟨tb,0,none⟩))/\Calls Tryz.prog 36 #[.pointer (some ⟨tb,0,none⟩),.int .i64 (i:Int)] w1 fun e w2=>e = .returned .nilIface/\(∃left' cnt' done',DrpJ T0 dp tb mb m1 m2 n1 d bb sp sb cap n N tr fb s k x eb en D r w0 w2 left' cnt' done')/\w2.rangeLeft (fb k) r<wr.rangeLeft (fb k) r:=by
 obtain ⟨p',ep,rfl⟩:=keyStr_inv hkey
 cases ep
 have hy:y.1 = .held c:=by simp only [heldR,Option.some.injEq] at hv;rw [<-hv]
 have hf:fmap x.fs (.string p.data.toList)=some c:=by
  cases h:fmap x.fs (.string p.data.toList) with
  | none =>
   have h1:=(J.val (.string p.data.toList) trivial).1 (.lit (.int .i64 0))
   rw [hat,hy,h] at h1
   cases h1
  | some v =>
   have h1:=(J.val (.string p.data.toList) trivial).1 (.lit (.int .i64 0))
   rw [hat,hy,h] at h1
   simp only [heldD,DataW.held.injEq] at h1
   rw [h1]
 rw [fmap_find p _ _ rfl] at hf
 obtain ⟨i,hi,rfl⟩:=Option.map_eq_some_iff.1 hf
 have hm:=findF_mem _ hi
 have hp:=rem_step (left:=left) (z:=(p,i)) hl J.keys hm
 have hok:=J.ok.perm (hp.map (·.2))
 rw [List.map_cons] at hok
 obtain ⟨z,hz,_,hz2⟩:=hok i (List.mem_cons_self ..)
 have hst:=hok.step hz
 have hun:=unlL_snoc s (done.map (·.2)) i hz
 rw [<-hun] at hst
 obtain ⟨⟨es,cl,ob⟩,⟨m,sv,vv,cv,oi⟩⟩:=ranges_objs J.rg
 have ht:Turn itTy wr w1:=fun q o hq hp'=>by
  rw [hg.block q (Array.getElem?_eq_some_iff.1 hq).1 (fun e=>?_)]
  ·exact hq
  ·rw [Option.some.inj e,oi] at hq;cases hq;cases hp'
 have D1:=J.dir.iter (by rw [hs];exact Nat.le_refl _) ht
 have T1:=J.tab.iter ht
 have P1:PBut T0 dp w0 w1:=⟨hg.os.trans J.but.os,hg.tape.trans J.but.tape,hg.output.trans J.but.output,by rw [hs];exact J.but.size,fun q o hq hp' hne=>by
  have h1:=J.but.block q o hq hp' hne
  have h2:=(Array.getElem?_eq_some_iff.1 hq).1
  have h3:=J.low
  rw [hg.block q (Array.getElem?_eq_some_iff.1 h1).1 (fun e=>by cases e;omega)]
  exact h1⟩
 have cE:∀(g:Nat) (v:Value),wr.cell? ⟨g,0,none⟩=some v->w1.cell? ⟨g,0,none⟩=some v:=fun g v hv=>by
  have hne:g≠r:=fun e=>by rw [e] at hv;simp [World.cell?,oi] at hv
  rw [World.cell?_of_block (a:=⟨g,0,none⟩) (hg.block g (World.block_lt_of_cell? wr _ hv) (fun e=>hne (Option.some.inj e)))];exact hv
 refine ⟨i,rfl,D1.cells.1,(unlink_any i z eb en hz hz2 T1 J.inv (cE _ _ J.eb) (cE _ _ J.en) J.gT).mono fun e w2 ⟨he,T2,B2⟩=>⟨he,⟨(fun z=>left z && !z.sameKey (.string p.data.toList)),cnt1,done ++ [(p,i)],?_⟩,?_⟩⟩
 ·have rg2:=ranges_keep hrg (fun o ho=>B2.maps _ o ho (by
   obtain ⟨⟨es1,cl1,ob1⟩,_⟩:=ranges_objs hrg
   rw [ob1] at ho;cases ho;rfl) J.ne) (fun o ho=>B2.block _ o ho (.inr (by
   obtain ⟨_,⟨m1,sv1,vv1,cv1,oi1⟩⟩:=ranges_objs hrg
   rw [oi1] at ho;cases ho;rfl)))
  have em:(done ++ [(p,i)]).map (·.2)=done.map (·.2) ++ [i]:=by simp
  refine ⟨rg2,J.val,J.keys,J.ne,J.low,?_,?_,?_,D1.but B2,?_,P1.trans (PBut.of_tb B2),B2.cellE J.gT.1 (cE _ _ J.eb),B2.cellE J.gT.2 (cE _ _ J.en),J.gT⟩
  ·rw [List.append_assoc]
   exact (List.Perm.append_left done hp.symm).trans J.perm
  ·rw [em];exact hst
  ·rw [em,hun];exact unl_inv J.inv hz
  ·rw [em,hun];exact T2
 ·have rg2:=ranges_keep hrg (fun o ho=>B2.maps _ o ho (by
   obtain ⟨⟨es1,cl1,ob1⟩,_⟩:=ranges_objs hrg
   rw [ob1] at ho;cases ho;rfl) J.ne) (fun o ho=>B2.block _ o ho (.inr (by
   obtain ⟨_,⟨m1,sv1,vv1,cv1,oi1⟩⟩:=ranges_objs hrg
   rw [oi1] at ho;cases ho;rfl)))
  rw [rg2.left_eq,J.rg.left_eq]
  exact hlt
theorem next_drop {ops:Array Oper} {rest:List Oper} {o:Oper} {a:Act} {Q:Exit->Act->World->Prop} (J:DrpJ T0 dp tb mb m1 m2 n1 d bb sp sb cap n N tr fb s k x eb en D r w0 wr left cnt done) (hgd:o.guard=none) (it:Operand) (hop:o.op=Op.next it false) (hit:a.eval it = .pointer (some ⟨r,0,none⟩))
  (hDone:Hid (DrpE T0 dp tb mb m1 m2 n1 d bb sp sb cap n N tr fb s x w0 wr)->wpList Tryz.prog ops Q rest (a.put o.dst (.tuple #[.bool false])) wr)
  (hMore:∀(p:ByteArray) (i:Nat) (w1:World),w1.cell? ⟨dp,0,none⟩=some (.pointer (some ⟨tb,0,none⟩))->Hid (Calls Tryz.prog 36 #[.pointer (some ⟨tb,0,none⟩),.int .i64 (i:Int)] w1 fun e w2=>e = .returned .nilIface/\(∃left' cnt' done',DrpJ T0 dp tb mb m1 m2 n1 d bb sp sb cap n N tr fb s k x eb en D r w0 w2 left' cnt' done')/\w2.rangeLeft (fb k) r<wr.rangeLeft (fb k) r)->(Instr.entry (.pointer (some ⟨r,0,none⟩))).run Tryz.prog w1 = .ok (.tuple #[.string p,.int .i64 (i:Int)]) w1->wpList Tryz.prog ops Q rest (a.put o.dst (.tuple #[.bool true,.string p,.int .i64 (i:Int)])) w1) :
  wpList Tryz.prog ops Q (o :: rest) a wr :=
 wpList_next_ranges wr hgd it hop 9 keyStr heldR Value.string (fun v:Value=>v) (fun key kl h=>by obtain ⟨p,e,_⟩:=keyStr_inv h;exact ⟨p,e⟩) (fun v y _=>⟨v,rfl⟩) (fb k) r 1000000 D left cnt hit J.rg (fun _ hl=>hDone (J.ends hl)) (fun p c kl y w1 cnt1 hkey hl hv hat hrg hlt hg hs hen=>by
  obtain ⟨i,rfl,h1,h2⟩:=J.more hkey hl hv hat hrg hlt hg hs
  exact hMore p i w1 h1 h2 hen)
end
end Go.Proofs.YteefneelcgeioaaGreatDoor
namespace Go.Proofs.YteefneelcgeioaaGreatDoor
set_option maxHeartbeats 2000000
set_option maxRecDepth 100000
open Go.RowKit Go.Maps

section
variable {w : World} {T0 dp tb mb m1 m2 n1 d bb sp sb cap n N : Nat} {tr : List (Option NTree)} {fb : Nat → Nat} {s : TSt} {eb en : Value}
theorem ddrop_start {k:Nat} {x:NTree} (hk:(Lit.int .i64 (k:Int)).wf=true) (D:DirAt w T0 dp tb mb m1 m2 n1 d tr fb) (T:TbAt w (fun _=>False) T0 tb bb sp sb cap mb n s.bl s.u s.tab) (S:SInv N s.bl s.u s.tab) (hx:ntI tr (k:Int)=some x) (hn:(x.fs.map (·.1)).Nodup) (hc:CntOk s (x.fs.map (·.2))) (hEb:w.cell? ⟨6,0,none⟩=some eb) (hEn:w.cell? ⟨1,0,none⟩=some en) (hgT:6<T0/\1<T0) (W:World) (hW:Below w.heap.size w W) :
  W.cell? ⟨dp,2,none⟩=some (.map (some m2))/\(Instr.lookup 77 (.map (some m2)) (.int .i64 (k:Int)) false).run Tryz.prog W = .ok (.map (some (fb k))) W/\∃DD:DataW Value,W.ownsMap Tryz.prog 9 heldR (fb k) 1000000 DD/\∀w0,w0.ranges Tryz.prog 9 heldR (fb k) W.heap.size 1000000 DD (Maps.has DD) (Maps.size DD)->W.grownBy w0 none->w0.heap.size=W.heap.size+1->∃left cnt done,DrpJ T0 dp tb mb m1 m2 n1 d bb sp sb cap n N tr fb s k x eb en DD W.heap.size w w0 left cnt done:=by
 have DW:=D.below hW
 obtain ⟨_,_,_,_,_,e3,Mk,q1,q2,q3,q4⟩:=DW.yes hk hx
 refine ⟨DW.cells.2.2.1,e3,?_⟩
 obtain ⟨DD,hown,hD⟩:=Mk
 refine ⟨DD,hown,fun w0 hrg hg hs=>⟨Maps.has DD,Maps.size DD,[],?_⟩⟩
 have hb:Below W.heap.size W w0:=⟨hg.os,hg.tape,hg.output,hg.size,fun q hq=>hg.block q hq (by simp)⟩
 have hb0:Below w.heap.size w w0:=hW.trans (hb.mono hW.size)
 have hfil:x.fs.filter (fun y=>Maps.has DD (keyL y))=x.fs:=List.filter_eq_self.2 fun y hy=>by
  rw [(hD (keyL y) trivial).2]
  show (fmap x.fs (.string y.1.data.toList)).isSome=true
  rw [fmap_find y.1 _ _ rfl,Option.isSome_map]
  exact findF_some _ hy
 refine ⟨hrg,hD,hn,q3,hW.size,by rw [hfil];exact List.Perm.refl _,by rw [hfil];exact hc,S,D.below hb0,T.below hb0,PBut.of_below hb0,?_,?_,hgT⟩
 ·rw [hb0.cell (p:=⟨6,0,none⟩) (World.block_lt_of_cell? w _ hEb)];exact hEb
 ·rw [hb0.cell (p:=⟨1,0,none⟩) (World.block_lt_of_cell? w _ hEn)];exact hEn
theorem ddrop_end {k:Nat} {x:NTree} {w0:World} (hk:(Lit.int .i64 (k:Int)).wf=true) (hx:ntI tr (k:Int)=some x) (W:World) (h:DrpE T0 dp tb mb m1 m2 n1 d bb sp sb cap n N tr fb s x w0 W) :
  W.cell? ⟨dp,1,none⟩=some (.map (some m1))/\∃W1 W2,(Builtin.delete_ #[76,3] 0 #[.map (some m1),.int .i64 (k:Int)]).run Tryz.prog W = .ok (.tuple #[]) W1/\W1.cell? ⟨dp,2,none⟩=some (.map (some m2))/\(Builtin.delete_ #[77,3] 0 #[.map (some m2),.int .i64 (k:Int)]).run Tryz.prog W1 = .ok (.tuple #[]) W2/\Hid (DrpE T0 dp tb mb m1 m2 n1 d bb sp sb cap n N (tr.set k none) fb s x w0 W2):=by
 obtain ⟨l,hl,D,T,S,P⟩:=h
 obtain ⟨W1,W2,r1,r2,k1,k2,⟨o1,o2,o3,o4⟩,D2⟩:=D.dropped hk hx 0
 obtain ⟨f1,f2,M1,M2,_⟩:=D.maps
 obtain ⟨es1,cl1,hm1⟩:=M1.obj
 obtain ⟨es2,cl2,hm2⟩:=M2.obj
 obtain ⟨l1,l2,l3,l4,l5,l6,l7⟩:=D.low
 have b1:=k1 _ _ D.box (fun e=>by have:=D.box;rw [e,hm1] at this;cases this)
 refine ⟨D.cells.2.1,W1,W2,r1,?_,r2,l,hl,D2,?_,S,P.trans ⟨o1,o2,o3,by rw [o4];exact Nat.le_refl _,fun q o hq hp _=>k2 q o hq (fun e=>?_) (fun e=>?_)⟩⟩
 ·rw [World.cell?_of_block (a:=⟨dp,2,none⟩) (b1.trans D.box.symm)];exact D.cells.2.2.1
 ·obtain ⟨f,Nd⟩:=T.nodes
  have ht:Turn mpTy W W2:=fun q o hq hp=>k2 q o hq (fun e=>by rw [e,hm1] at hq;cases hq;cases hp) (fun e=>by rw [e,hm2] at hq;cases hq;cases hp)
  refine ⟨ht _ _ T.box rfl,T.disk.turn ht (fun _ _=>rfl) (fun _ _=>rfl) (fun _ _=>rfl),T.space.turn ht (fun _ _=>rfl) (fun _ _=>rfl),⟨f,?_,fun k x hx=>?_,Nd.none_,Nd.inj⟩,T.low⟩
  ·obtain ⟨es,cl,hb⟩:=Nd.map.obj
   exact Nd.map.keep (by rw [hb];exact k2 _ _ hb l5.symm l6.symm)
  ·obtain ⟨b,e,hb,S⟩:=Nd.some_ k x hx
   exact ⟨b,e,hb,S.turn ht (fun _ _=>rfl) (fun _ _=>rfl)⟩
 ·rcases hp with h|h
  ·omega
  ·rw [e,hm1] at hq;cases hq;cases h
 ·rcases hp with h|h
  ·omega
  ·rw [e,hm2] at hq;cases hq;cases h
theorem ddrop_none (k:Int) (hk:(Lit.int .i64 k).wf=true) (D:DirAt w T0 dp tb mb m1 m2 n1 d tr fb) (hx:ntI tr k=none) (hEn:w.cell? ⟨1,0,none⟩=some en) :
  Calls Tryz.prog 11 #[.pointer (some ⟨dp,0,none⟩),.int .i64 k] w fun e w'=>e = .returned en/\Below w.heap.size w w':=by
 have HH:=dhas_any k hk D
 rw [hx] at HH
 have HE:Hid (∀W,Below w.heap.size w W->W.cell? ⟨1,0,none⟩=some en):=fun W hW=>by rw [hW.cell (p:=⟨1,0,none⟩) (World.block_lt_of_cell? w _ hEn)];exact hEn
 clear D hx hEn
 go_enter Tryz.func11,Tryz.ntmps11
 go_wp2_with (go_at_call 35;refine HH.mono ?_;rintro e w1 ⟨rfl,b1⟩;have c1:=HE.out w1 b1;clear HH HE)
 go_ret
 exact ⟨rfl,b1⟩
theorem ddrop_any (k:Nat) (x:NTree) (hk:(Lit.int .i64 (k:Int)).wf=true) (D:DirAt w T0 dp tb mb m1 m2 n1 d tr fb) (T:TbAt w (fun _=>False) T0 tb bb sp sb cap mb n s.bl s.u s.tab) (S:SInv N s.bl s.u s.tab) (hx:ntI tr (k:Int)=some x) (hn:(x.fs.map (·.1)).Nodup) (hc:CntOk s (x.fs.map (·.2))) (hEb:w.cell? ⟨6,0,none⟩=some eb) (hEn:w.cell? ⟨1,0,none⟩=some en) (hgT:6<T0/\1<T0) :
  Calls Tryz.prog 11 #[.pointer (some ⟨dp,0,none⟩),.int .i64 (k:Int)] w fun e w'=>e = .returned .nilIface/\DrpE T0 dp tb mb m1 m2 n1 d bb sp sb cap n N (tr.set k none) fb s x w w':=by
 have HH:=dhas_any (k:Int) hk D
 rw [hx] at HH
 have HS:Hid (∀W,Below w.heap.size w W->W.cell? ⟨dp,2,none⟩=some (.map (some m2))/\(Instr.lookup 77 (.map (some m2)) (.int .i64 (k:Int)) false).run Tryz.prog W = .ok (.map (some (fb k))) W/\∃DD:DataW Value,W.ownsMap Tryz.prog 9 heldR (fb k) 1000000 DD/\∀w0,w0.ranges Tryz.prog 9 heldR (fb k) W.heap.size 1000000 DD (Maps.has DD) (Maps.size DD)->W.grownBy w0 none->w0.heap.size=W.heap.size+1->∃left cnt done,DrpJ T0 dp tb mb m1 m2 n1 d bb sp sb cap n N tr fb s k x eb en DD W.heap.size w w0 left cnt done):=ddrop_start hk D T S hx hn hc hEb hEn hgT
 have HD:Hid (∀W,DrpE T0 dp tb mb m1 m2 n1 d bb sp sb cap n N tr fb s x w W->W.cell? ⟨dp,1,none⟩=some (.map (some m1))/\∃W1 W2,(Builtin.delete_ #[76,3] 0 #[.map (some m1),.int .i64 (k:Int)]).run Tryz.prog W = .ok (.tuple #[]) W1/\W1.cell? ⟨dp,2,none⟩=some (.map (some m2))/\(Builtin.delete_ #[77,3] 0 #[.map (some m2),.int .i64 (k:Int)]).run Tryz.prog W1 = .ok (.tuple #[]) W2/\Hid (DrpE T0 dp tb mb m1 m2 n1 d bb sp sb cap n N (tr.set k none) fb s x w W2)):=ddrop_end hk hx
 clear D T S hx hn hc hEb hEn
 go_enter Tryz.func11,Tryz.ntmps11
 go_wp2_with (first
  | (go_at_call 35;refine HH.mono ?_;rintro e w1 ⟨rfl,b1⟩;(obtain ⟨c2,hlk,DD,hown,HJ⟩:=HS.out w1 b1);clear HH HS b1)
  | (at_range;refine wpList_range_own _ rfl _ 81 rfl 9 3 keyStr Tryz.underlying81 heldR (fb k) 1000000 DD rfl hown ?_;intro w0 hrg0 hg0 hs0;(have HJ0:Hid (∃left cnt done,DrpJ T0 dp tb mb m1 m2 n1 d bb sp sb cap n N tr fb s k x eb en DD w1.heap.size w w0 left cnt done):=HJ w0 hrg0 hg0 hs0);clear HJ hown hlk c2 hrg0 hg0 hs0))
 go_frame
 go_loopw [] (fun wr=>∃left cnt done,DrpJ T0 dp tb mb m1 m2 n1 d bb sp sb cap n N tr fb s k x eb en DD w1.heap.size w wr left cnt done) (fun wr=>wr.rangeLeft (fb k) w1.heap.size)
 case atStart=>exact HJ0.out
 case round =>
  obtain ⟨left,cnt,done,J⟩:=hrel
  go_wp2_with (first
   | (at_next;refine next_drop J rfl _ rfl rfl (fun HE=>?_) (fun p i w2 c0 HM hen=>?_);any_goals (try (obtain ⟨c1,W1,W2,d1,c2,d2,HE2⟩:=HD.out _ HE.out;clear HE)))
   | (go_at_call 36;refine HM.out.mono ?_;rintro e w3 ⟨rfl,hJ3,hlt3⟩;clear HM))
  ·go_ret
   exact ⟨rfl,HE2.out⟩
  ·exact ⟨hJ3,hlt3⟩
end
end Go.Proofs.YteefneelcgeioaaGreatDoor
namespace Go.Proofs
open Go.Shelf
def Tryz.keysA_ren : Go.Shelf.Ren := ⟨fun | 7 => 45 | 10 => 75 | n => n, fun | 23 => 100 | 26 => 3 | 3 => 101 | 28 => 91 | 0 => 0 | 27 => 90 | 33 => 87 | 4 => 4 | n => n, fun | n => n⟩
theorem Tryz.keysA : Go.Proofs.SlLaysZI.n7 Tryz.prog Tryz.keysA_ren := {
  mixed := by kernel_rfl
  f7 := ⟨Tryz.f45.name, by decide, Tryz.func45.trans (congrArg some (by kernel_rfl))⟩
  f10 := ⟨Tryz.f75.name, by decide, Tryz.func75.trans (congrArg some (by kernel_rfl))⟩
  t0 := Tryz.underlying0
  a0 := Tryz.isAgg0
  z0 := Tryz.sizeOf0
  v0 := Tryz.zeroValue0
  t4 := Tryz.underlying4
  a4 := Tryz.isAgg4
  z4 := Tryz.sizeOf4
  v4 := Tryz.zeroValue4
  t23 := Tryz.underlying100
  a23 := Tryz.isAgg100
  z23 := Tryz.sizeOf100
  v23 := Tryz.zeroValue100
  t26 := Tryz.underlying3
  a26 := Tryz.isAgg3
  z26 := Tryz.sizeOf3
  v26 := Tryz.zeroValue3
  t27 := Tryz.underlying90
  a27 := Tryz.isAgg90
  z27 := Tryz.sizeOf90
  v27 := Tryz.zeroValue90
  t28 := Tryz.underlying91
  a28 := Tryz.isAgg91
  z28 := Tryz.sizeOf91
  v28 := Tryz.zeroValue91
  t33 := Tryz.underlying87
  a33 := Tryz.isAgg87
  z33 := Tryz.sizeOf87
  v33 := Tryz.zeroValue87 }
def Tryz.sortedA_ren : Go.Shelf.Ren := ⟨fun | 6 => 39 | 8 => 67 | 9 => 68 | 11 => 94 | 13 => 96 | 12 => 95 | 23 => 121 | 24 => 122 | 14 => 112 | 15 => 113 | 16 => 114 | 17 => 115 | 18 => 116 | 19 => 117 | 20 => 118 | 21 => 119 | 22 => 120 | 25 => 133 | 26 => 134 | 27 => 135 | 28 => 136 | 29 => 137 | 30 => 138 | 31 => 144 | n => n, fun | 26 => 3 | 28 => 91 | 24 => 44 | 0 => 0 | 3 => 3 | 37 => 170 | 48 => 52 | 50 => 202 | 4 => 4 | 40 => 194 | 39 => 193 | 45 => 98 | 5 => 5 | 9 => 9 | 51 => 215 | 55 => 219 | 57 => 226 | 58 => 227 | 33 => 87 | n => n, fun | n => n⟩
theorem Tryz.sortedA : Go.Proofs.SlLaysZI.n6 Tryz.prog Tryz.sortedA_ren := {
  mixed := by kernel_rfl
  f6 := ⟨Tryz.f39.name, by decide, Tryz.func39.trans (congrArg some (by kernel_rfl))⟩
  f8 := ⟨Tryz.f67.name, by decide, Tryz.func67.trans (congrArg some (by kernel_rfl))⟩
  f11 := ⟨Tryz.f94.name, by decide, Tryz.func94.trans (congrArg some (by kernel_rfl))⟩
  t0 := Tryz.underlying0
  a0 := Tryz.isAgg0
  z0 := Tryz.sizeOf0
  v0 := Tryz.zeroValue0
  t24 := Tryz.underlying44
  a24 := Tryz.isAgg44
  z24 := Tryz.sizeOf44
  v24 := Tryz.zeroValue44
  t26 := Tryz.underlying3
  a26 := Tryz.isAgg3
  z26 := Tryz.sizeOf3
  v26 := Tryz.zeroValue3
  t28 := Tryz.underlying91
  a28 := Tryz.isAgg91
  z28 := Tryz.sizeOf91
  v28 := Tryz.zeroValue91
  i26 := by kernel_rfl }
def Tryz.sortA_ren : Go.Shelf.Ren := ⟨fun | 5 => 68 | 8 => 96 | 7 => 95 | 19 => 121 | 20 => 122 | 10 => 112 | 11 => 113 | 12 => 114 | 13 => 115 | 14 => 116 | 15 => 117 | 16 => 118 | 17 => 119 | 18 => 120 | 30 => 133 | 31 => 134 | 32 => 135 | 33 => 136 | 34 => 137 | 35 => 138 | 40 => 144 | n => n, fun | 23 => 44 | 25 => 3 | 3 => 3 | 32 => 170 | 22 => 44 | 0 => 0 | 44 => 52 | 46 => 202 | 4 => 4 | 36 => 194 | 35 => 193 | 41 => 98 | 5 => 5 | 9 => 9 | 53 => 215 | 57 => 219 | 63 => 226 | 64 => 227 | n => n, fun | n => n⟩
theorem Tryz.sortA : Go.Proofs.SlLaysM.n5 Tryz.prog Tryz.sortA_ren := {
  mixed := by kernel_rfl
  f5 := ⟨Tryz.f68.name, by decide, Tryz.func68.trans (congrArg some (by kernel_rfl))⟩
  f7 := ⟨Tryz.f95.name, by decide, Tryz.func95.trans (congrArg some (by kernel_rfl))⟩
  f8 := Tryz.func96.trans (congrArg some (by kernel_rfl))
  f10 := ⟨Tryz.f112.name, by decide, Tryz.func112.trans (congrArg some (by kernel_rfl))⟩
  f11 := ⟨Tryz.f113.name, by decide, Tryz.func113.trans (congrArg some (by kernel_rfl))⟩
  f12 := ⟨Tryz.f114.name, by decide, Tryz.func114.trans (congrArg some (by kernel_rfl))⟩
  f13 := ⟨Tryz.f115.name, by decide, Tryz.func115.trans (congrArg some (by kernel_rfl))⟩
  f14 := ⟨Tryz.f116.name, by decide, Tryz.func116.trans (congrArg some (by kernel_rfl))⟩
  f15 := ⟨Tryz.f117.name, by decide, Tryz.func117.trans (congrArg some (by kernel_rfl))⟩
  f16 := ⟨Tryz.f118.name, by decide, Tryz.func118.trans (congrArg some (by kernel_rfl))⟩
  f17 := ⟨Tryz.f119.name, by decide, Tryz.func119.trans (congrArg some (by kernel_rfl))⟩
  f18 := ⟨Tryz.f120.name, by decide, Tryz.func120.trans (congrArg some (by kernel_rfl))⟩
  f19 := Tryz.func121.trans (congrArg some (by kernel_rfl))
  f20 := Tryz.func122.trans (congrArg some (by kernel_rfl))
  f30 := ⟨Tryz.f133.name, by decide, Tryz.func133.trans (congrArg some (by kernel_rfl))⟩
  f31 := Tryz.func134.trans (congrArg some (by kernel_rfl))
  f32 := Tryz.func135.trans (congrArg some (by kernel_rfl))
  f33 := ⟨Tryz.f136.name, by decide, Tryz.func136.trans (congrArg some (by kernel_rfl))⟩
  f34 := ⟨Tryz.f137.name, by decide, Tryz.func137.trans (congrArg some (by kernel_rfl))⟩
  f35 := ⟨Tryz.f138.name, by decide, Tryz.func138.trans (congrArg some (by kernel_rfl))⟩
  f40 := ⟨Tryz.f144.name, by decide, Tryz.func144.trans (congrArg some (by kernel_rfl))⟩
  t0 := Tryz.underlying0
  a0 := Tryz.isAgg0
  z0 := Tryz.sizeOf0
  v0 := Tryz.zeroValue0
  t3 := Tryz.underlying3
  a3 := Tryz.isAgg3
  z3 := Tryz.sizeOf3
  v3 := Tryz.zeroValue3
  t4 := Tryz.underlying4
  a4 := Tryz.isAgg4
  z4 := Tryz.sizeOf4
  v4 := Tryz.zeroValue4
  t5 := Tryz.underlying5
  a5 := Tryz.isAgg5
  z5 := Tryz.sizeOf5
  v5 := Tryz.zeroValue5
  t9 := Tryz.underlying9
  a9 := Tryz.isAgg9
  z9 := Tryz.sizeOf9
  v9 := Tryz.zeroValue9
  t22 := Tryz.underlying44
  a22 := Tryz.isAgg44
  z22 := Tryz.sizeOf44
  v22 := Tryz.zeroValue44
  t23 := Tryz.underlying44
  a23 := Tryz.isAgg44
  z23 := Tryz.sizeOf44
  v23 := Tryz.zeroValue44
  t25 := Tryz.underlying3
  a25 := Tryz.isAgg3
  z25 := Tryz.sizeOf3
  v25 := Tryz.zeroValue3
  t32 := Tryz.underlying170
  a32 := Tryz.isAgg170
  z32 := Tryz.sizeOf170
  v32 := Tryz.zeroValue170
  t35 := Tryz.underlying193
  a35 := Tryz.isAgg193
  z35 := Tryz.sizeOf193
  v35 := Tryz.zeroValue193
  t36 := Tryz.underlying194
  a36 := Tryz.isAgg194
  z36 := Tryz.sizeOf194
  v36 := Tryz.zeroValue194
  t41 := Tryz.underlying98
  a41 := Tryz.isAgg98
  z41 := Tryz.sizeOf98
  v41 := Tryz.zeroValue98
  t44 := Tryz.underlying52
  a44 := Tryz.isAgg52
  z44 := Tryz.sizeOf52
  v44 := Tryz.zeroValue52
  t46 := Tryz.underlying202
  a46 := Tryz.isAgg202
  z46 := Tryz.sizeOf202
  v46 := Tryz.zeroValue202
  t53 := Tryz.underlying215
  a53 := Tryz.isAgg215
  z53 := Tryz.sizeOf215
  v53 := Tryz.zeroValue215
  t57 := Tryz.underlying219
  a57 := Tryz.isAgg219
  z57 := Tryz.sizeOf219
  v57 := Tryz.zeroValue219
  t63 := Tryz.underlying226
  a63 := Tryz.isAgg226
  z63 := Tryz.sizeOf226
  v63 := Tryz.zeroValue226
  t64 := Tryz.underlying227
  a64 := Tryz.isAgg227
  z64 := Tryz.sizeOf227
  v64 := Tryz.zeroValue227 }
end Go.Proofs
namespace Go.Proofs.YteefneelcgeioaaGreatDoor
set_option maxHeartbeats 1000000
open Go.RowKit Go.Maps Go.Shelf

def allT (tab:List (Option Ino)):List Nat:=(List.range tab.length).filter fun k=>(slotT tab k).isSome
theorem allT_mem {tab:List (Option Ino)} {k:Nat}:k∈allT tab↔∃x,slotT tab k=some x:=by
 unfold allT
 rw [List.mem_filter,List.mem_range,Option.isSome_iff_exists]
 exact ⟨fun h=>h.2,fun ⟨x,h⟩=>⟨slotT_lt h,x,h⟩⟩
theorem allT_nodup (tab:List (Option Ino)):(allT tab).Nodup:=List.nodup_range.filter _
theorem allT_rises (tab:List (Option Ino)):(allT tab).Pairwise (· < ·):=List.pairwise_lt_range.filter _
theorem ints_mem {l:List Nat} {x:Int}:x∈ints l↔∃k∈l,x=(k:Int):=by
 unfold ints
 rw [List.mem_map]
 exact ⟨fun ⟨k,h,e⟩=>⟨k,h,e.symm⟩,fun ⟨k,h,e⟩=>⟨k,h,e.symm⟩⟩
theorem ints_nodup {l:List Nat} (h:l.Nodup):(ints l).Nodup:=by
 unfold ints
 exact List.pairwise_map.2 (h.imp fun hne e=>hne (Int.ofNat.inj e))
theorem ints_sorted {l:List Nat} (h:l.Pairwise (· < ·)):(ints l).mergeSort leI=ints l:=by
 apply List.mergeSort_of_pairwise
 unfold ints
 refine List.pairwise_map.2 (h.imp fun {a b} hlt=>?_)
 simp only [leI,decide_eq_true_eq]
 exact Int.ofNat_le.2 (Nat.le_of_lt hlt)
theorem keys_sorted {H:Type} {R:Value->Option (DataW H×List MemPlace)} {w:World} {b n:Nat} {D:DataW H} {f:Nat->Option Nat} {L:List Nat} {ss:List Int} (hown:w.ownsMap Tryz.prog 3 R b n D) (hD:∀k:Int,Maps.has D (.int .i64 k)=(atI f k).isSome) (hL:∀k,k∈L↔(f k).isSome=true) (hs:L.Pairwise (· < ·)) (hp:ss.Perm (intKeys D)):ss.mergeSort (fun x y=>decide (x<=y))=ints L/\ss.length=L.length:=by
 have hnd:L.Nodup:=hs.imp fun h=>Nat.ne_of_lt h
 have hc:CollectedI D (fun _=>false) (ints L):=⟨ints_nodup hnd,fun x=>by
  rw [hD x,ints_mem]
  constructor
  ·rintro ⟨k,hk,rfl⟩
   rw [atI_nat]
   exact ⟨(hL k).1 hk,rfl⟩
  ·rintro ⟨h,_⟩
   unfold atI at h
   split at h
   ·exact ⟨x.toNat,(hL _).2 h,by omega⟩
   ·cases h⟩
 have hp2:ss.Perm (ints L):=hp.trans (hc.perm hown keyed Tryz.underlying3 (fun _=>rfl)).symm
 refine ⟨(mergeSort_of_perm_i hp2).trans (ints_sorted hs),?_⟩
 rw [hp2.length_eq];unfold ints;simp
theorem sortsA (m:Nat):AnyZI.SortsIn Tryz.prog Tryz.sortedA_ren Fence.wide m :=
  ⟨fun blk off cap ss W hH hblk hsz=>callsIn_wide.2 (AnyM.slices_Sort_int Tryz.sortA blk off cap ss W hH hblk hsz),
   fun p cap W=>callsIn_wide.2 (AnyM.slices_Sort_int_none Tryz.sortA p cap W)⟩
section
variable {F : Nat → Prop} {T0 tb bb sp sb cap mb n : Nat} {bl : List (List UInt8)} {u : List Bool} {tab : List (Option Ino)}
theorem im_all (w:World) (T:TbAt w F T0 tb bb sp sb cap mb n bl u tab) :
  Calls Tryz.prog 19 #[.pointer (some ⟨tb,0,none⟩)] w fun e w'=>∃v,e = .returned v/\OwnI w' w.heap.size v (allT tab)/\Below w.heap.size w w':=by
 obtain ⟨f,N⟩:=T.nodes
 obtain ⟨D0,hown,hD⟩:=N.map
 have hsz:=hown.size_le
 have hn:=T.low.2.2.2.2.2.2
 have hmax:Maps.size D0<=maxLen:=by unfold maxLen;omega
 have hbytes:Maps.size D0*8<=140737488355328:=by omega
 have HKS:Hid (∀ss:List Int,ss.Perm (intKeys D0)->ss.mergeSort (fun x y=>decide (x<=y))=ints (allT tab)/\ss.length=(allT tab).length):=fun ss hp=>keys_sorted (f:=f) hown (fun k=>(hD k).2) (fun k=>by
  rw [allT_mem]
  constructor
  ·rintro ⟨x,hx⟩
   obtain ⟨b,e,_⟩:=N.some_ k x hx
   rw [e];rfl
  ·intro h
   cases hx:slotT tab k with
   | some x=>exact ⟨x,rfl⟩
   | none=>rw [N.none_ k hx] at h;cases h) (allT_rises tab) hp
 obtain ⟨_,_,c2⟩:=T.cells
 clear N hD T
 refine (callsIn_wide (n:=6)).1 ?_
 have hbl:=hown.lt
 have hseq:SeqGives Fence.wide 2 Tryz.prog 75 #[.pointer (some ⟨w.heap.size,0,none⟩)] encZ (fun ss=>ss.Perm (intKeys D0)) (Maps.size D0) (w.alloc (.cells #[.map (some mb)] 100)) :=
  AnyZI.keys_gives (ρ:=Tryz.keysA_ren) { Tryz.keysA with } Fence.wide _ trivial rfl (by omega) w.heap.size mb n D0 _ (by simp) (by simp) (by
   obtain ⟨es,clock,hb,Ft,hs,hD⟩:=hown
   exact ⟨es,clock,(Below.heap_alloc _ _ mb hbl).trans hb,Ft,hs,hD⟩)
 have cK:∀mb W,CallsIn Fence.wide 5 Tryz.prog 45 #[.map mb] W fun e w'=>e = .returned (.func (.func 75) #[] #[.pointer (some ⟨W.heap.size,0,none⟩)])/\w'=W.alloc (.cells #[.map mb] 100):=fun mb W=>AnyZI.keys_in Tryz.keysA Fence.wide 5 trivial rfl mb W
 have cS:=AnyZI.sorted_in Tryz.sortedA Fence.wide 5 trivial trivial trivial trivial rfl (by omega) (sortsA _) (enters_of Tryz.func68 (by kernel_rfl) rfl) 75 #[.pointer (some ⟨w.heap.size,0,none⟩)] trivial (enters_of Tryz.func75 (by kernel_rfl) rfl) _ _ hmax hbytes _ hseq
 change CallsIn _ _ Tryz.prog 39 _ _ _ at cS
 have hfK:Fence.wide.fn 45:=trivial
 have hfS:Fence.wide.fn 39:=trivial
 refine callsIn_of_wp Tryz.func19 rfl trivial ?_ rfl
 simp only [Tryz.ntmps19,List.size_toArray,List.length_cons,List.length_nil,Nat.reduceAdd,Nat.reduceSub,Array.replicate_succ,Array.replicate_zero,List.push_toArray,List.append_toArray,List.nil_append,List.cons_append]
 gi_wp2_with (first
  | (gi_at_call 45;refine (cK _ _).mono ?_;rintro e w' ⟨rfl,rfl⟩)
  | (gi_at_call 39;refine cS.mono ?_;rintro e w' ⟨v,ss,rfl,hS,hrow,hnil,hb⟩))
 go_ret
 obtain ⟨e1,e2⟩:=HKS.out ss hS
 rw [e1,e2] at hrow
 exact ⟨v,rfl,ownsRow_base_a hrow (by simp),((Below.refl _ w).alloc (Nat.le_refl _) _).trans (hb.mono (by simp))⟩
end
end Go.Proofs.YteefneelcgeioaaGreatDoor
