/-
  Ed Gm, joined.
  Conditions: those that each states.
-/
import Derived.Test.YtpiebpiljhlneaaGreatDoorZ23
namespace Go.Proofs.YtpiebpiljhlneaaGreatDoor
section
open Go.RowKit Go.Maps

def refsO (D:Nat) (o:Option NTree) (t:Tree):List (Nat×ByteArray×Bool):=match o with
 | none=>[]
 | some x=>refs x.fs (filesT D t)
def refsA (D:Nat) (tr:List (Option NTree)) (pt:List Tree):List (Nat×ByteArray×Bool):=(List.zipWith (refsO D) tr pt).flatten
structure LInv (N D:Nat) (s:TSt) (tr:List (Option NTree)) (pt:List Tree):Prop where
 rf:RInv N s (refsA D tr pt)
 len:tr.length=pt.length
 tree:∀(k:Nat) (x:NTree),ntI tr (k:Int)=some x->∃t,pt[k]? = some t/\treeErr D t=none/\Fit D t/\x.t=bareT D t/\x.fs.map (·.1)=(filesT D t).map (·.1)
theorem perm_flat_at {α:Type}:∀ {L:List (List α)} {k:Nat} {a:List α},L[k]? = some a->L.flatten.Perm (a++(L.set k []).flatten)
 | [],_,_,h=>by simp at h
 | b :: L,0,a,h=>by
  have e:b=a:=by simpa using h
  rw [e]
  exact List.Perm.refl _
 | b :: L,k+1,a,h=>by
  have ih:=perm_flat_at (L:=L) (k:=k) (a:=a) (by simpa using h)
  rw [List.set_cons_succ,List.flatten_cons,List.flatten_cons]
  exact (List.Perm.append_left b ih).trans (by
   rw [<-List.append_assoc,<-List.append_assoc]
   exact List.Perm.append_right _ List.perm_append_comm)
theorem zip_set {D:Nat} {tr:List (Option NTree)} {pt:List Tree} {k:Nat} {t:Tree} (o:Option NTree) (ht:pt[k]? = some t) (hl:tr.length=pt.length):List.zipWith (refsO D) (tr.set k o) pt=(List.zipWith (refsO D) tr pt).set k (refsO D o t):=by
 apply List.ext_getElem?
 intro i
 have hk:=(List.getElem?_eq_some_iff.1 ht).1
 by_cases e:i=k
 ·subst e
  rw [List.getElem?_zipWith,List.getElem?_set_self (by omega),ht,List.getElem?_set_self (by rw [List.length_zipWith];omega)]
 ·rw [List.getElem?_zipWith,List.getElem?_set_ne (fun h=>e h.symm),List.getElem?_set_ne (fun h=>e h.symm),List.getElem?_zipWith]
theorem ntI_at {tr:List (Option NTree)} {k:Nat} {x:NTree} (h:ntI tr (k:Int)=some x):tr[k]? = some (some x):=by
 rw [ntI_nat] at h
 cases h':tr[k]? with
 | none=>rw [h'] at h;cases h
 | some z=>rw [h'] at h;cases z with
  | none=>cases h
  | some y=>cases h;rfl
theorem refsA_set {D:Nat} {tr:List (Option NTree)} {pt:List Tree} {k:Nat} {t:Tree} {x:NTree} (o:Option NTree) (hx:ntI tr (k:Int)=some x) (ht:pt[k]? = some t) (hl:tr.length=pt.length):∃R,(refsA D tr pt).Perm (refs x.fs (filesT D t)++R)/\(refsA D (tr.set k o) pt).Perm (refsO D o t++R):=by
 have hz:(List.zipWith (refsO D) tr pt)[k]? = some (refs x.fs (filesT D t)):=by
  rw [List.getElem?_zipWith,ntI_at hx,ht];rfl
 refine ⟨((List.zipWith (refsO D) tr pt).set k []).flatten,perm_flat_at hz,?_⟩
 unfold refsA
 rw [zip_set o ht hl]
 have h2:=perm_flat_at (L:=(List.zipWith (refsO D) tr pt).set k (refsO D o t)) (k:=k) (a:=refsO D o t) (List.getElem?_set_self (List.getElem?_eq_some_iff.1 hz).1)
 rw [List.set_set] at h2
 exact h2
theorem refs_fst:∀ {fs:List (ByteArray×Nat)} {l:List (ByteArray×Tree)},fs.length=l.length->(refs fs l).map (·.1)=fs.map (·.2)
 | [],_,_=>rfl
 | _ :: _,[],h=>by simp at h
 | f :: fs,y :: l,h=>by
  have ih:=refs_fst (fs:=fs) (l:=l) (by simpa using h)
  unfold refs at ih ⊢
  rw [List.zipWith_cons_cons,List.map_cons,List.map_cons,ih]
theorem inoL_fst:∀(l:List (ByteArray×Tree)) (s:TSt),(inoL s l).map (·.1)=l.map (·.1)
 | [],_=>rfl
 | x :: l,s=>by rw [inoL,List.map_cons,List.map_cons,inoL_fst l]
theorem refs_set {p:ByteArray} {j:Nat}:∀ {fs:List (ByteArray×Nat)} {l:List (ByteArray×Tree)} {q:Nat},fs.map (·.1)=l.map (·.1)->(fs.map (·.1)).Nodup->(p,q)∈fs->∃y R,(p,y)∈l/\(refs fs l).Perm ((q,y.data,y.exec) :: R)/\(refs (setF fs p j) l).Perm ((j,y.data,y.exec) :: R)
 | [],_,_,_,_,h=>by cases h
 | _ :: _,[],_,h,_,_=>by simp at h
 | f :: fs,y :: l,q,h,hn,hm=>by
  rw [List.map_cons,List.map_cons,List.cons.injEq] at h
  rw [List.map_cons,List.nodup_cons] at hn
  have hset:setF (f :: fs) p j=(if f.1=p then (p,j) else f) :: setF fs p j:=rfl
  have hr:refs (f :: fs) (y :: l)=(f.2,y.2.data,y.2.exec) :: refs fs l:=rfl
  rw [hr,hset]
  by_cases e:f.1=p
  ·have hno:setF fs p j=fs:=by
    unfold setF
    have h2:(fs.map fun x=>if x.1=p then (p,j) else x)=fs.map id:=List.map_congr_left fun x hx=>by
     rw [if_neg (fun e2=>hn.1 (by rw [e,<-e2];exact List.mem_map_of_mem (f:=(·.1)) hx))]
     rfl
    rw [h2,List.map_id]
   rcases List.mem_cons.1 hm with e2|hm2
   ·rw [if_pos e,hno,<-e2]
    refine ⟨y.2,refs fs l,?_,List.Perm.refl _,List.Perm.refl _⟩
    have:y=(p,y.2):=by rw [<-e,h.1]
    rw [<-this];exact List.mem_cons_self ..
   ·exact absurd (List.mem_map_of_mem (f:=(·.1)) hm2) (by rw [<-e];exact hn.1)
  ·rcases List.mem_cons.1 hm with e2|hm2
   ·exact absurd (by rw [<-e2]) e
   ·obtain ⟨z,R,h1,h2,h3⟩:=refs_set h.2 hn.2 hm2
    rw [if_neg e]
    refine ⟨z,(f.2,y.2.data,y.2.exec) :: R,List.mem_cons_of_mem _ h1,(List.Perm.cons _ h2).trans (List.Perm.swap _ _ _),?_⟩
    show (((f.2,y.2.data,y.2.exec) :: refs (setF fs p j) l).Perm _)
    exact (List.Perm.cons _ h3).trans (List.Perm.swap _ _ _)
theorem setF_fst (fs:List (ByteArray×Nat)) (p:ByteArray) (j:Nat):(setF fs p j).map (·.1)=fs.map (·.1):=by
 unfold setF
 rw [List.map_map]
 refine List.map_congr_left fun x _=>?_
 show (if x.1=p then (p,j) else x).1=x.1
 split
 ·rename_i e;exact e.symm
 ·rfl
theorem nodup_snd {l:List (ByteArray×Tree)} (h:(l.map (·.1)).Nodup) {p:ByteArray} {a b:Tree}:(p,a)∈l->(p,b)∈l->a=b:=by
 induction l with
 | nil=>intro h;cases h
 | cons x l ih =>
  rw [List.map_cons,List.nodup_cons] at h
  intro ha hb
  rcases List.mem_cons.1 ha with e1|h1
  ·rcases List.mem_cons.1 hb with e2|h2
   ·rw [<-e1] at e2
    exact (congrArg Prod.snd e2).symm
   ·exact absurd (List.mem_map_of_mem (f:=(·.1)) h2) (by rw [<-e1] at h;exact h.1)
  ·rcases List.mem_cons.1 hb with e2|h2
   ·exact absurd (List.mem_map_of_mem (f:=(·.1)) h1) (by rw [<-e2] at h;exact h.1)
   ·exact ih h.2 h1 h2
def inoAt (s:TSt) (fs:List (ByteArray×Nat)) (p:ByteArray):Ino:=((findF fs p).bind (slotT s.tab)).getD ⟨0,0,false,[],0⟩
namespace LInv
variable {N D : Nat} {s : TSt} {tr : List (Option NTree)} {pt : List Tree}
theorem put (I:LInv N D s tr pt) {t:Tree} (hw:treeErr D t=none) (hf:Fit D t) (hn:needL (filesT D t)<=(freeR s.u).length):LInv N D (mkL s (filesT D t)) (tr ++ [some ⟨bareT D t,inoL s (filesT D t)⟩]) (pt ++ [t]):=by
 have hall:=fun x hx=>((treeErr_none.1 hw).2 x hx).2
 have hrf:=I.rf.makes (filesT D t) (fun x hx=>(files_small hall x hx).1) hn
 have he:refsA D (tr ++ [some ⟨bareT D t,inoL s (filesT D t)⟩]) (pt ++ [t])=refsA D tr pt++refs (inoL s (filesT D t)) (filesT D t):=by
  unfold refsA
  rw [List.zipWith_append I.len,List.flatten_append]
  simp [refsO]
 refine ⟨by rw [he];exact hrf.perm List.perm_append_comm,by simp [I.len],fun k x hx=>?_⟩
 rw [ntI_snoc] at hx
 split at hx
 ·rename_i e
  cases hx
  have e':k=pt.length:=by rw [<-I.len];omega
  exact ⟨t,by rw [e'];simp,hw,hf,rfl,inoL_fst _ _⟩
 ·obtain ⟨t',h1,h2⟩:=I.tree k x hx
  exact ⟨t',by rw [List.getElem?_append_left (List.getElem?_eq_some_iff.1 h1).1];exact h1,h2⟩
theorem drop (I:LInv N D s tr pt) {k:Nat} {x:NTree} (hx:ntI tr (k:Int)=some x) {l:List Nat} (hl:l.Perm (x.fs.map (·.2))):LInv N D (unlL s l) (tr.set k none) pt:=by
 obtain ⟨t,ht,hw,hf,e1,e2⟩:=I.tree k x hx
 obtain ⟨R,p1,p2⟩:=refsA_set (D:=D) none hx ht I.len
 have hlen:x.fs.length=(filesT D t).length:=by have:=congrArg List.length e2;simpa using this
 refine ⟨((I.rf.perm p1).unlinks l (by rw [refs_fst hlen];exact hl)).perm p2.symm,by simp [I.len],fun j y hy=>?_⟩
 rw [ntI_set hx] at hy
 split at hy
 ·cases hy
 ·exact I.tree j y hy
theorem cnt (I:LInv N D s tr pt) {k:Nat} {x:NTree} (hx:ntI tr (k:Int)=some x) (hb:(refsA D tr pt).length<=1000000):CntOk s (x.fs.map (·.2))/\(x.fs.map (·.1)).Nodup:=by
 obtain ⟨t,ht,hw,hf,e1,e2⟩:=I.tree k x hx
 obtain ⟨R,p1,p2⟩:=refsA_set (D:=D) none hx ht I.len
 have hlen:x.fs.length=(filesT D t).length:=by have:=congrArg List.length e2;simpa using this
 have hG:=good_of fun y hy=>((treeErr_none.1 hw).2 y hy).2
 refine ⟨?_,by rw [e2];exact filesT_nodup hf hG hw⟩
 have h:=(I.rf.perm p1).cnt (by rw [<-p1.length_eq];exact hb)
 rw [refs_fst hlen] at h
 exact h
theorem share (I:LInv N D s tr pt) {k:Nat} {x:NTree} {p:ByteArray} {was j:Nat} {y z:Ino} (hx:ntI tr (k:Int)=some x) (hp:findF x.fs p=some was) (hy:slotT s.tab was=some y) (hz:slotT s.tab j=some z) (hne:¬j=was) (hc:crcR (readD s.bl z.blocks z.bytes)=z.sum) (hl:likeI s.bl y z=true):LInv N D (unlS (lnkS s j z) was y) (tr.set k (some { x with fs:=setF x.fs p j })) pt:=by
 obtain ⟨t,ht,hw,hf,e1,e2⟩:=I.tree k x hx
 have hG:=good_of fun y hy=>((treeErr_none.1 hw).2 y hy).2
 obtain ⟨R,p1,p2⟩:=refsA_set (D:=D) (some { x with fs:=setF x.fs p j }) hx ht I.len
 obtain ⟨f,R2,hm,q1,q2⟩:=refs_set (j:=j) e2 (by rw [e2];exact filesT_nodup hf hG hw) (findF_mem _ hp)
 have I1:=I.rf.perm (p1.trans (q1.append_right R))
 obtain ⟨y',hy',h1,h2,h3⟩:=I1.held _ (List.mem_cons_self ..)
 simp only at hy' h1 h2
 rw [hy] at hy'
 cases hy'
 obtain ⟨k1,k2⟩:=(likeI_iff _ _ _).1 hl
 have I2:=I1.link hz hc
 have hy1:slotT (lnkS s j z).tab was=some y:=by
  show slotT (s.tab.set j _) was=_
  rw [slotT_set (slotT_lt hz),if_neg (fun e=>hne e.symm)];exact hy
 have I3:=(I2.perm (List.Perm.swap _ _ _)).unlink hy1
 rw [<-k1,h1,<-k2,h2] at I3
 refine ⟨I3.perm ((p2.trans (q2.append_right R)).symm),by simp [I.len],fun i v hv=>?_⟩
 rw [ntI_set hx] at hv
 split at hv
 ·rename_i e
  cases hv
  have e':i=k:=by omega
  subst e'
  exact ⟨t,ht,hw,hf,e1,by rw [setF_fst];exact e2⟩
 ·exact I.tree i v hv
theorem files (I:LInv N D s tr pt) {k:Nat} {x:NTree} {t:Tree} (hx:ntI tr (k:Int)=some x) (ht:pt[k]? = some t):∀y∈filesT D t,∃q,findF x.fs y.1=some q/\slotT s.tab q=some (inoAt s x.fs y.1)/\readD s.bl (inoAt s x.fs y.1).blocks (inoAt s x.fs y.1).bytes=y.2.data/\(inoAt s x.fs y.1).exec=y.2.exec/\(inoAt s x.fs y.1).sum=crcR y.2.data:=by
 obtain ⟨t',ht',hw,hf,e1,e2⟩:=I.tree k x hx
 rw [ht] at ht'
 cases ht'
 have hG:=good_of fun y hy=>((treeErr_none.1 hw).2 y hy).2
 have hnd:=filesT_nodup hf hG hw
 obtain ⟨R,p1,p2⟩:=refsA_set (D:=D) none hx ht I.len
 intro y hy
 obtain ⟨f,hfm,ef⟩:=List.mem_map.1 (show y.1∈x.fs.map (·.1) by rw [e2];exact List.mem_map_of_mem (f:=(·.1)) hy)
 obtain ⟨q,hq⟩:=Option.isSome_iff_exists.1 (findF_some x.fs hfm)
 rw [ef] at hq
 obtain ⟨z,R2,hz,q1,_⟩:=refs_set (j:=0) e2 (by rw [e2];exact hnd) (findF_mem _ hq)
 have hzy:z=y.2:=nodup_snd hnd hz (show (y.1,y.2)∈_ from hy)
 subst hzy
 obtain ⟨i,hi,h1,h2,h3⟩:=(I.rf.perm (p1.trans (q1.append_right R))).held _ (List.mem_cons_self ..)
 simp only at hi h1 h2 h3
 have hι:inoAt s x.fs y.1=i:=by
  unfold inoAt
  rw [hq]
  show (slotT s.tab q).getD _=i
  rw [hi]
  rfl
 rw [hι]
 exact ⟨q,hq,hi,h1,h2,h3⟩
end LInv
end
section
open Go.RowKit Go.Maps

structure VInv (N:Nat) (s:TSt) (R:List (Nat×ByteArray×Bool)):Prop where
 sp:SInv N s.bl s.u s.tab
 held:∀r∈R,∃y,slotT s.tab r.1=some y/\y.exec=r.2.2
 links:∀q y,slotT s.tab q=some y->y.links=(R.map (·.1)).count q
 sm:∀q y,slotT s.tab q=some y->y.sum<4294967296
namespace VInv
variable {N : Nat} {s : TSt} {R R' : List (Nat × ByteArray × Bool)}
theorem perm (I:VInv N s R) (p:R.Perm R'):VInv N s R':=⟨I.sp,fun r hr=>I.held r (p.mem_iff.2 hr),fun q y hy=>by rw [I.links q y hy];exact (p.map _).count_eq q,I.sm⟩
theorem disk {bl:List (List UInt8)} (I:VInv N s R) (h:bl.length=s.bl.length):VInv N ⟨bl,s.u,s.tab⟩ R:=⟨⟨by rw [h];exact I.sp.lbl,I.sp.lu,I.sp.own,I.sp.one,I.sp.all⟩,I.held,I.links,I.sm⟩
theorem make (I:VInv N s R) {d:ByteArray} (ex:Bool) (hd:d.size<=2000) (hf:needN d.size<=(freeR s.u).length):VInv N (mk1 s d ex) ((nextR s.tab,d,ex) :: R):=by
 have hslot:∀j,slotT (mk1 s d ex).tab j=if j=nextR s.tab then some ⟨d.size,1,ex,bksOf s d,crcR d⟩ else slotT s.tab j:=fun j=>putN_slot _ _ _
 have hne:∀r∈R,¬r.1=nextR s.tab:=fun r hr e=>by
  obtain ⟨y,hy,_⟩:=I.held r hr
  rw [e,next_none] at hy;cases hy
 refine ⟨I.sp.make hd rfl hf,fun r hr=>?_,fun q y hy=>?_,fun q y hy=>?_⟩
 ·rw [hslot]
  rcases List.mem_cons.1 hr with e|hr
  ·subst e
   rw [if_pos rfl]
   exact ⟨_,rfl,rfl⟩
  ·rw [if_neg (hne r hr)]
   exact I.held r hr
 ·rw [hslot] at hy
  rw [List.map_cons]
  split at hy
  ·rename_i e
   cases hy
   rw [e,List.count_cons_self,List.count_eq_zero.2 (fun h=>by
    obtain ⟨r,hr,e1⟩:=List.mem_map.1 h
    exact hne r hr e1)]
  ·rename_i e
   rw [List.count_cons_of_ne (fun h=>e h.symm)]
   exact I.links q y hy
 ·rw [hslot] at hy
  split at hy
  ·cases hy;exact crcR_lt d
  ·exact I.sm q y hy
theorem unlink {q:Nat} {d:ByteArray} {e:Bool} {y:Ino} (I:VInv N s ((q,d,e) :: R)) (hy:slotT s.tab q=some y):VInv N (unlS s q y) R:=by
 have hl:=I.links q y hy
 rw [List.map_cons,List.count_cons_self] at hl
 refine ⟨unl_inv I.sp hy,fun r hr=>?_,fun j z hz=>?_,fun j z hz=>?_⟩
 ·obtain ⟨z,hz,h1⟩:=I.held r (List.mem_cons_of_mem _ hr)
  rw [unl_slot hy]
  by_cases er:r.1=q
  ·have h0:0<(R.map (·.1)).count q:=List.count_pos_iff.2 (by rw [<-er];exact List.mem_map_of_mem (f:=(·.1)) hr)
   rw [er,hy] at hz
   cases hz
   rw [if_pos er,if_neg (by omega)]
   exact ⟨_,rfl,h1⟩
  ·rw [if_neg er]
   exact ⟨z,hz,h1⟩
 ·rw [unl_slot hy] at hz
  split at hz
  ·rename_i ej
   split at hz
   ·cases hz
   ·cases hz
    rw [ej]
    show y.links-1=_
    omega
  ·rename_i ej
   have:=I.links j z hz
   rw [List.map_cons,List.count_cons_of_ne (fun h=>ej h.symm)] at this
   exact this
 ·rw [unl_slot hy] at hz
  split at hz
  ·split at hz
   ·cases hz
   ·cases hz;exact I.sm q y hy
  ·exact I.sm j z hz
theorem link {j:Nat} {z:Ino} (I:VInv N s R) (hz:slotT s.tab j=some z) (d:ByteArray):VInv N (lnkS s j z) ((j,d,z.exec) :: R):=by
 have hslot:∀i,slotT (lnkS s j z).tab i=if i=j then some { z with links:=z.links+1 } else slotT s.tab i:=fun i=>slotT_set (slotT_lt hz) _ _
 refine ⟨lnk_inv I.sp hz,fun r hr=>?_,fun i y hy=>?_,fun i y hy=>?_⟩
 ·rw [hslot]
  rcases List.mem_cons.1 hr with e|hr
  ·subst e
   rw [if_pos rfl]
   exact ⟨_,rfl,rfl⟩
  ·obtain ⟨y,hy,h1⟩:=I.held r hr
   by_cases e:r.1=j
   ·rw [e,hz] at hy
    cases hy
    rw [if_pos e]
    exact ⟨_,rfl,h1⟩
   ·rw [if_neg e]
    exact ⟨y,hy,h1⟩
 ·rw [hslot] at hy
  rw [List.map_cons]
  split at hy
  ·rename_i e
   cases hy
   rw [e,List.count_cons_self,<-I.links j z hz]
  ·rename_i e
   rw [List.count_cons_of_ne (fun h=>e h.symm)]
   exact I.links i y hy
 ·rw [hslot] at hy
  split at hy
  ·cases hy;exact I.sm j z hz
  ·exact I.sm i y hy
theorem cnt {A:List (Nat×ByteArray×Bool)} (I:VInv N s (A++R)) (hl:(A++R).length<=1000000):CntOk s (A.map (·.1)):=fun i hi=>by
 obtain ⟨r,hr,e⟩:=List.mem_map.1 hi
 obtain ⟨y,hy,_⟩:=I.held r (List.mem_append_left _ hr)
 rw [e] at hy
 have h1:=I.links i y hy
 refine ⟨y,hy,?_,?_⟩
 ·rw [h1,List.map_append,List.count_append];omega
 ·rw [h1]
  exact Nat.le_trans List.count_le_length (by rw [List.length_map];exact hl)
theorem unlinks:∀(l:List Nat) {s:TSt} {A:List (Nat×ByteArray×Bool)},VInv N s (A++R)->l.Perm (A.map (·.1))->VInv N (unlL s l) R
 | [],s,A,I,p=>by
  have h:A = []:=List.map_eq_nil_iff.1 (List.nil_perm.1 p)
  rw [h] at I
  exact I
 | q :: l,s,A,I,p=>by
  obtain ⟨r,hr,e⟩:=List.mem_map.1 (p.mem_iff.1 (List.mem_cons_self ..))
  obtain ⟨A1,A2,rfl⟩:=List.append_of_mem hr
  have pA:(A1++r :: A2).Perm (r :: (A1++A2)):=List.perm_middle
  have p':l.Perm ((A1++A2).map (·.1)):=by
   have h:=p.trans (pA.map (·.1))
   rw [List.map_cons,e] at h
   exact h.cons_inv
  have I':=I.perm (pA.append_right R)
  obtain ⟨y,hy,_⟩:=I'.held r (by simp)
  obtain ⟨q',d,b⟩:=r
  simp only at e
  subst e
  have h:=unlinks l (I'.unlink hy) p'
  have hu:unlL s (q' :: l)=unlL (unlS s q' y) l:=by
   show l.foldl unl1 (unl1 s q')=_
   unfold unl1
   rw [hy]
   rfl
  rw [hu]
  exact h
theorem makes:∀(l:List (ByteArray×Tree)) {s:TSt} {R:List (Nat×ByteArray×Bool)},VInv N s R->(∀x∈l,x.2.data.size<=2000)->needL l<=(freeR s.u).length->VInv N (mkL s l) (refs (inoL s l) l++R)
 | [],s,R,I,_,_=>I
 | x :: l,s,R,I,hs,hn=>by
  have hn':needL (x :: l)=needN x.2.data.size+needL l:=by simp [needL]
  have h1:=I.make x.2.exec (hs x (List.mem_cons_self ..)) (by omega)
  have h2:=makes l h1 (fun y hy=>hs y (List.mem_cons_of_mem _ hy)) (by
   show needL l<=(freeR (markR s.u true (bksOf s x.2.data))).length
   unfold bksOf
   rw [free_mark]
   omega)
  refine h2.perm ?_
  show (refs (inoL (mk1 s x.2.data x.2.exec) l) l++(nextR s.tab,x.2.data,x.2.exec) :: R).Perm _
  exact List.perm_middle
end VInv
structure WInv (N D:Nat) (s:TSt) (tr:List (Option NTree)) (pt:List Tree):Prop where
 rf:VInv N s (refsA D tr pt)
 len:tr.length=pt.length
 tree:∀(k:Nat) (x:NTree),ntI tr (k:Int)=some x->∃t,pt[k]? = some t/\treeErr D t=none/\Fit D t/\x.t=bareT D t/\x.fs.map (·.1)=(filesT D t).map (·.1)
namespace WInv
variable {N D : Nat} {s : TSt} {tr : List (Option NTree)} {pt : List Tree}
theorem start (N D:Nat):WInv N D ⟨List.replicate N zb,List.replicate N false,[]⟩ [] [] :=
 ⟨⟨SInv.start N,fun r hr=>by simp [refsA] at hr,fun q y hy=>by simp [slotT] at hy,fun q y hy=>by simp [slotT] at hy⟩,rfl,fun k x hx=>by simp [ntI] at hx⟩
theorem disk {bl:List (List UInt8)} (I:WInv N D s tr pt) (h:bl.length=s.bl.length):WInv N D ⟨bl,s.u,s.tab⟩ tr pt:=⟨I.rf.disk h,I.len,I.tree⟩
theorem put (I:WInv N D s tr pt) {t:Tree} (hw:treeErr D t=none) (hf:Fit D t) (hn:needL (filesT D t)<=(freeR s.u).length):WInv N D (mkL s (filesT D t)) (tr ++ [some ⟨bareT D t,inoL s (filesT D t)⟩]) (pt ++ [t]):=by
 have hall:=fun x hx=>((treeErr_none.1 hw).2 x hx).2
 have hrf:=I.rf.makes (filesT D t) (fun x hx=>(files_small hall x hx).1) hn
 have he:refsA D (tr ++ [some ⟨bareT D t,inoL s (filesT D t)⟩]) (pt ++ [t])=refsA D tr pt++refs (inoL s (filesT D t)) (filesT D t):=by
  unfold refsA
  rw [List.zipWith_append I.len,List.flatten_append]
  simp [refsO]
 refine ⟨by rw [he];exact hrf.perm List.perm_append_comm,by simp [I.len],fun k x hx=>?_⟩
 rw [ntI_snoc] at hx
 split at hx
 ·rename_i e
  cases hx
  have e':k=pt.length:=by rw [<-I.len];omega
  exact ⟨t,by rw [e'];simp,hw,hf,rfl,inoL_fst _ _⟩
 ·obtain ⟨t',h1,h2⟩:=I.tree k x hx
  exact ⟨t',by rw [List.getElem?_append_left (List.getElem?_eq_some_iff.1 h1).1];exact h1,h2⟩
theorem drop (I:WInv N D s tr pt) {k:Nat} {x:NTree} (hx:ntI tr (k:Int)=some x) {l:List Nat} (hl:l.Perm (x.fs.map (·.2))):WInv N D (unlL s l) (tr.set k none) pt:=by
 obtain ⟨t,ht,hw,hf,e1,e2⟩:=I.tree k x hx
 obtain ⟨R,p1,p2⟩:=refsA_set (D:=D) none hx ht I.len
 have hlen:x.fs.length=(filesT D t).length:=by have:=congrArg List.length e2;simpa using this
 refine ⟨((I.rf.perm p1).unlinks l (by rw [refs_fst hlen];exact hl)).perm p2.symm,by simp [I.len],fun j y hy=>?_⟩
 rw [ntI_set hx] at hy
 split at hy
 ·cases hy
 ·exact I.tree j y hy
theorem cnt (I:WInv N D s tr pt) {k:Nat} {x:NTree} (hx:ntI tr (k:Int)=some x) (hb:(refsA D tr pt).length<=1000000):CntOk s (x.fs.map (·.2))/\(x.fs.map (·.1)).Nodup:=by
 obtain ⟨t,ht,hw,hf,e1,e2⟩:=I.tree k x hx
 obtain ⟨R,p1,p2⟩:=refsA_set (D:=D) none hx ht I.len
 have hlen:x.fs.length=(filesT D t).length:=by have:=congrArg List.length e2;simpa using this
 have hG:=good_of fun y hy=>((treeErr_none.1 hw).2 y hy).2
 refine ⟨?_,by rw [e2];exact filesT_nodup hf hG hw⟩
 have h:=(I.rf.perm p1).cnt (by rw [<-p1.length_eq];exact hb)
 rw [refs_fst hlen] at h
 exact h
theorem share (I:WInv N D s tr pt) {k:Nat} {x:NTree} {p:ByteArray} {was j:Nat} {y z:Ino} (hx:ntI tr (k:Int)=some x) (hp:findF x.fs p=some was) (hy:slotT s.tab was=some y) (hz:slotT s.tab j=some z) (hne:¬j=was) (hl:y.exec=z.exec):WInv N D (unlS (lnkS s j z) was y) (tr.set k (some { x with fs:=setF x.fs p j })) pt:=by
 obtain ⟨t,ht,hw,hf,e1,e2⟩:=I.tree k x hx
 have hG:=good_of fun y hy=>((treeErr_none.1 hw).2 y hy).2
 obtain ⟨R,p1,p2⟩:=refsA_set (D:=D) (some { x with fs:=setF x.fs p j }) hx ht I.len
 obtain ⟨f,R2,hm,q1,q2⟩:=refs_set (j:=j) e2 (by rw [e2];exact filesT_nodup hf hG hw) (findF_mem _ hp)
 have I1:=I.rf.perm (p1.trans (q1.append_right R))
 obtain ⟨y',hy',h2⟩:=I1.held _ (List.mem_cons_self ..)
 simp only at hy' h2
 rw [hy] at hy'
 cases hy'
 have I2:=I1.link hz f.data
 have hy1:slotT (lnkS s j z).tab was=some y:=by
  show slotT (s.tab.set j _) was=_
  rw [slotT_set (slotT_lt hz),if_neg (fun e=>hne e.symm)];exact hy
 have I3:=(I2.perm (List.Perm.swap _ _ _)).unlink hy1
 rw [<-hl,h2] at I3
 refine ⟨I3.perm ((p2.trans (q2.append_right R)).symm),by simp [I.len],fun i v hv=>?_⟩
 rw [ntI_set hx] at hv
 split at hv
 ·rename_i e
  cases hv
  have e':i=k:=by omega
  subst e'
  exact ⟨t,ht,hw,hf,e1,by rw [setF_fst];exact e2⟩
 ·exact I.tree i v hv
theorem files (I:WInv N D s tr pt) {k:Nat} {x:NTree} {t:Tree} (hx:ntI tr (k:Int)=some x) (ht:pt[k]? = some t):∀y∈filesT D t,∃q,findF x.fs y.1=some q/\slotT s.tab q=some (inoAt s x.fs y.1)/\(inoAt s x.fs y.1).exec=y.2.exec:=by
 obtain ⟨t',ht',hw,hf,e1,e2⟩:=I.tree k x hx
 rw [ht] at ht'
 cases ht'
 have hG:=good_of fun y hy=>((treeErr_none.1 hw).2 y hy).2
 have hnd:=filesT_nodup hf hG hw
 obtain ⟨R,p1,p2⟩:=refsA_set (D:=D) none hx ht I.len
 intro y hy
 obtain ⟨f,hfm,ef⟩:=List.mem_map.1 (show y.1∈x.fs.map (·.1) by rw [e2];exact List.mem_map_of_mem (f:=(·.1)) hy)
 obtain ⟨q,hq⟩:=Option.isSome_iff_exists.1 (findF_some x.fs hfm)
 rw [ef] at hq
 obtain ⟨z,R2,hz,q1,_⟩:=refs_set (j:=0) e2 (by rw [e2];exact hnd) (findF_mem _ hq)
 have hzy:z=y.2:=nodup_snd hnd hz (show (y.1,y.2)∈_ from hy)
 subst hzy
 obtain ⟨i,hi,h2⟩:=(I.rf.perm (p1.trans (q1.append_right R))).held _ (List.mem_cons_self ..)
 simp only at hi h2
 have hι:inoAt s x.fs y.1=i:=by
  unfold inoAt
  rw [hq]
  show (slotT s.tab q).getD _=i
  rw [hi]
  rfl
 rw [hι]
 exact ⟨q,hq,hi,h2⟩
theorem there (I:WInv N D s tr pt) {k:Nat} {x:NTree} {p:ByteArray} {was:Nat} (hx:ntI tr (k:Int)=some x) (hp:findF x.fs p=some was):∃y,slotT s.tab was=some y:=by
 obtain ⟨t,ht,hw,hf,e1,e2⟩:=I.tree k x hx
 obtain ⟨R,p1,p2⟩:=refsA_set (D:=D) none hx ht I.len
 have hlen:x.fs.length=(filesT D t).length:=by have:=congrArg List.length e2;simpa using this
 have hm:was∈(refs x.fs (filesT D t)).map (·.1):=by
  rw [refs_fst hlen]
  exact List.mem_map.2 ⟨_,findF_mem x.fs hp,rfl⟩
 obtain ⟨r,hr,rfl⟩:=List.mem_map.1 hm
 obtain ⟨y,e1,_⟩:=I.rf.held r (p1.mem_iff.2 (List.mem_append_left _ hr))
 exact ⟨y,e1⟩
theorem lk (I:WInv N D s tr pt) {q:Nat} {y:Ino} (hy:slotT s.tab q=some y):y.links<=(refsA D tr pt).length:=by
 rw [I.rf.links q y hy]
 exact Nat.le_trans List.count_le_length (by rw [List.length_map];exact Nat.le_refl _)
end WInv
theorem unlS_tab (s:TSt) (i:Nat) (y:Ino):(unlS s i y).tab=s.tab.set i (if y.links=1 then none else some { y with links:=y.links-1 }):=by
 unfold unlS
 split <;> rfl
theorem unl_comm {s:TSt} {i j:Nat} {y z:Ino} (hne:¬i=j):(unlS (unlS s i y) j z).tab=(unlS (unlS s j z) i y).tab:=by
 rw [unlS_tab,unlS_tab,unlS_tab,unlS_tab]
 exact List.set_comm _ _ hne
theorem unl1_tab {s t:TSt} (h:s.tab=t.tab) (i:Nat):(unl1 s i).tab=(unl1 t i).tab:=by
 unfold unl1
 rw [h]
 split
 ·rw [unlS_tab,unlS_tab,h]
 ·exact h
theorem unlL_tab:∀(l:List Nat) {s t:TSt},s.tab=t.tab->(unlL s l).tab=(unlL t l).tab
 | [],_,_,h=>h
 | i :: l,_,_,h=>unlL_tab l (unl1_tab h i)
theorem unl1_comm (s:TSt) (i j:Nat):(unl1 (unl1 s i) j).tab=(unl1 (unl1 s j) i).tab:=by
 by_cases e:i=j
 ·rw [e]
 ·have key:∀(a b:Nat),¬b=a->slotT (unl1 s a).tab b=slotT s.tab b:=by
   intro a b hne
   unfold unl1
   split
   ·rename_i y hy
    rw [unl_slot hy,if_neg hne]
   ·rfl
  have hj:=key i j (fun h=>e h.symm)
  have hi:=key j i e
  cases hy:slotT s.tab i with
  | none =>
   have e1:unl1 s i=s:=by unfold unl1;rw [hy]
   rw [e1]
   have e2:unl1 (unl1 s j) i=unl1 s j:=by
    rw [hy] at hi
    generalize unl1 s j=t at hi ⊢
    unfold unl1;rw [hi]
   rw [e2]
  | some y =>
   cases hz:slotT s.tab j with
   | none =>
    have e1:unl1 s j=s:=by unfold unl1;rw [hz]
    rw [e1]
    have e2:unl1 (unl1 s i) j=unl1 s i:=by
     rw [hz] at hj
     generalize unl1 s i=t at hj ⊢
     unfold unl1;rw [hj]
    rw [e2]
   | some z =>
    have e1:unl1 s i=unlS s i y:=by unfold unl1;rw [hy]
    have e2:unl1 s j=unlS s j z:=by unfold unl1;rw [hz]
    rw [hz,e1] at hj
    rw [hy,e2] at hi
    have e3:unl1 (unlS s i y) j=unlS (unlS s i y) j z:=by unfold unl1;rw [hj]
    have e4:unl1 (unlS s j z) i=unlS (unlS s j z) i y:=by unfold unl1;rw [hi]
    rw [e1,e2,e3,e4]
    exact unl_comm e
theorem unlL_perm {l l':List Nat} (p:l.Perm l'):∀s:TSt,(unlL s l).tab=(unlL s l').tab:=by
 induction p with
 | nil=>intro s;rfl
 | cons i _ ih=>intro s;exact ih (unl1 s i)
 | swap i j l=>intro s;exact unlL_tab l (unl1_comm s j i)
 | trans _ _ h1 h2=>intro s;exact (h1 s).trans (h2 s)
end
end Go.Proofs.YtpiebpiljhlneaaGreatDoor
