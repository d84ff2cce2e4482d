/-
  Trees by numbers, and the inodes that their files are: what holds between acts. Plain mathematics.
  The contracts of the document's SameInts (for the same numbers) and NeedOf, and of the law's closed fact of a space.
  The contract of package disk's Rot.
  Acts on a disk in memory; what blocks may be.
  The document's disk in memory: texts, and writes that wait.
  The contracts of the document's zeros, CRC, has and turned.
  The contracts of the document's disk: Read, Put, Crash.
  Conditions: those that each states.
-/
import Derived.Test.YteefneelcgeioaaGreatDoorQ27
import Derived.Test.YteefneelcgeioaaGreatDoorQ06
import Derived.Test.YteefneelcgeioaaGreatDoorQ07
import Derived.Test.YteefneelcgeioaaGreatDoorQ10
import Derived.Laws.BitsAllLaws
import Derived.Laws.Bits64
import Derived.Deep.RegionHeld3
import Derived.Deep.AppendLies
namespace Go.Proofs.YteefneelcgeioaaGreatDoor
open Go.RowKit Go.Maps

def refsO (D:Nat) (o:Option NTree) (t:Tree):List (Nat×ByteArray×Bool):=match o with
 | none=>[]
 | some x=>refs x.fs (filesT D t)
def refsA (D:Nat) (tr:List (Option NTree)) (pt:List Tree):List (Nat×ByteArray×Bool):=(List.zipWith (refsO D) tr pt).flatten
structure LInv (N D:Nat) (s:TSt) (tr:List (Option NTree)) (pt:List Tree):Prop where
 rf:RInv N s (refsA D tr pt)
 len:tr.length=pt.length
 tree:∀(k:Nat) (x:NTree),ntI tr (k:Int)=some x->∃t,pt[k]? = some t/\treeErr D t=none/\Fit D t/\x.t=bareT D t/\x.fs.map (·.1)=(filesT D t).map (·.1)
theorem perm_flat_at {α:Type}:∀ {L:List (List α)} {k:Nat} {a:List α},L[k]? = some a->L.flatten.Perm (a++(L.set k []).flatten)
 | [],_,_,h=>by simp at h
 | b :: L,0,a,h=>by
  have e:b=a:=by simpa using h
  rw [e]
  exact List.Perm.refl _
 | b :: L,k+1,a,h=>by
  have ih:=perm_flat_at (L:=L) (k:=k) (a:=a) (by simpa using h)
  rw [List.set_cons_succ,List.flatten_cons,List.flatten_cons]
  exact (List.Perm.append_left b ih).trans (by
   rw [<-List.append_assoc,<-List.append_assoc]
   exact List.Perm.append_right _ List.perm_append_comm)
theorem zip_set {D:Nat} {tr:List (Option NTree)} {pt:List Tree} {k:Nat} {t:Tree} (o:Option NTree) (ht:pt[k]? = some t) (hl:tr.length=pt.length):List.zipWith (refsO D) (tr.set k o) pt=(List.zipWith (refsO D) tr pt).set k (refsO D o t):=by
 apply List.ext_getElem?
 intro i
 have hk:=(List.getElem?_eq_some_iff.1 ht).1
 by_cases e:i=k
 ·subst e
  rw [List.getElem?_zipWith,List.getElem?_set_self (by omega),ht,List.getElem?_set_self (by rw [List.length_zipWith];omega)]
 ·rw [List.getElem?_zipWith,List.getElem?_set_ne (fun h=>e h.symm),List.getElem?_set_ne (fun h=>e h.symm),List.getElem?_zipWith]
theorem ntI_at {tr:List (Option NTree)} {k:Nat} {x:NTree} (h:ntI tr (k:Int)=some x):tr[k]? = some (some x):=by
 rw [ntI_nat] at h
 cases h':tr[k]? with
 | none=>rw [h'] at h;cases h
 | some z=>rw [h'] at h;cases z with
  | none=>cases h
  | some y=>cases h;rfl
theorem refsA_set {D:Nat} {tr:List (Option NTree)} {pt:List Tree} {k:Nat} {t:Tree} {x:NTree} (o:Option NTree) (hx:ntI tr (k:Int)=some x) (ht:pt[k]? = some t) (hl:tr.length=pt.length):∃R,(refsA D tr pt).Perm (refs x.fs (filesT D t)++R)/\(refsA D (tr.set k o) pt).Perm (refsO D o t++R):=by
 have hz:(List.zipWith (refsO D) tr pt)[k]? = some (refs x.fs (filesT D t)):=by
  rw [List.getElem?_zipWith,ntI_at hx,ht];rfl
 refine ⟨((List.zipWith (refsO D) tr pt).set k []).flatten,perm_flat_at hz,?_⟩
 unfold refsA
 rw [zip_set o ht hl]
 have h2:=perm_flat_at (L:=(List.zipWith (refsO D) tr pt).set k (refsO D o t)) (k:=k) (a:=refsO D o t) (List.getElem?_set_self (List.getElem?_eq_some_iff.1 hz).1)
 rw [List.set_set] at h2
 exact h2
theorem refs_fst:∀ {fs:List (ByteArray×Nat)} {l:List (ByteArray×Tree)},fs.length=l.length->(refs fs l).map (·.1)=fs.map (·.2)
 | [],_,_=>rfl
 | _ :: _,[],h=>by simp at h
 | f :: fs,y :: l,h=>by
  have ih:=refs_fst (fs:=fs) (l:=l) (by simpa using h)
  unfold refs at ih ⊢
  rw [List.zipWith_cons_cons,List.map_cons,List.map_cons,ih]
theorem inoL_fst:∀(l:List (ByteArray×Tree)) (s:TSt),(inoL s l).map (·.1)=l.map (·.1)
 | [],_=>rfl
 | x :: l,s=>by rw [inoL,List.map_cons,List.map_cons,inoL_fst l]
theorem refs_set {p:ByteArray} {j:Nat}:∀ {fs:List (ByteArray×Nat)} {l:List (ByteArray×Tree)} {q:Nat},fs.map (·.1)=l.map (·.1)->(fs.map (·.1)).Nodup->(p,q)∈fs->∃y R,(p,y)∈l/\(refs fs l).Perm ((q,y.data,y.exec) :: R)/\(refs (setF fs p j) l).Perm ((j,y.data,y.exec) :: R)
 | [],_,_,_,_,h=>by cases h
 | _ :: _,[],_,h,_,_=>by simp at h
 | f :: fs,y :: l,q,h,hn,hm=>by
  rw [List.map_cons,List.map_cons,List.cons.injEq] at h
  rw [List.map_cons,List.nodup_cons] at hn
  have hset:setF (f :: fs) p j=(if f.1=p then (p,j) else f) :: setF fs p j:=rfl
  have hr:refs (f :: fs) (y :: l)=(f.2,y.2.data,y.2.exec) :: refs fs l:=rfl
  rw [hr,hset]
  by_cases e:f.1=p
  ·have hno:setF fs p j=fs:=by
    unfold setF
    have h2:(fs.map fun x=>if x.1=p then (p,j) else x)=fs.map id:=List.map_congr_left fun x hx=>by
     rw [if_neg (fun e2=>hn.1 (by rw [e,<-e2];exact List.mem_map_of_mem (f:=(·.1)) hx))]
     rfl
    rw [h2,List.map_id]
   rcases List.mem_cons.1 hm with e2|hm2
   ·rw [if_pos e,hno,<-e2]
    refine ⟨y.2,refs fs l,?_,List.Perm.refl _,List.Perm.refl _⟩
    have:y=(p,y.2):=by rw [<-e,h.1]
    rw [<-this];exact List.mem_cons_self ..
   ·exact absurd (List.mem_map_of_mem (f:=(·.1)) hm2) (by rw [<-e];exact hn.1)
  ·rcases List.mem_cons.1 hm with e2|hm2
   ·exact absurd (by rw [<-e2]) e
   ·obtain ⟨z,R,h1,h2,h3⟩:=refs_set h.2 hn.2 hm2
    rw [if_neg e]
    refine ⟨z,(f.2,y.2.data,y.2.exec) :: R,List.mem_cons_of_mem _ h1,(List.Perm.cons _ h2).trans (List.Perm.swap _ _ _),?_⟩
    show (((f.2,y.2.data,y.2.exec) :: refs (setF fs p j) l).Perm _)
    exact (List.Perm.cons _ h3).trans (List.Perm.swap _ _ _)
theorem setF_fst (fs:List (ByteArray×Nat)) (p:ByteArray) (j:Nat):(setF fs p j).map (·.1)=fs.map (·.1):=by
 unfold setF
 rw [List.map_map]
 refine List.map_congr_left fun x _=>?_
 show (if x.1=p then (p,j) else x).1=x.1
 split
 ·rename_i e;exact e.symm
 ·rfl
theorem nodup_snd {l:List (ByteArray×Tree)} (h:(l.map (·.1)).Nodup) {p:ByteArray} {a b:Tree}:(p,a)∈l->(p,b)∈l->a=b:=by
 induction l with
 | nil=>intro h;cases h
 | cons x l ih =>
  rw [List.map_cons,List.nodup_cons] at h
  intro ha hb
  rcases List.mem_cons.1 ha with e1|h1
  ·rcases List.mem_cons.1 hb with e2|h2
   ·rw [<-e1] at e2
    exact (congrArg Prod.snd e2).symm
   ·exact absurd (List.mem_map_of_mem (f:=(·.1)) h2) (by rw [<-e1] at h;exact h.1)
  ·rcases List.mem_cons.1 hb with e2|h2
   ·exact absurd (List.mem_map_of_mem (f:=(·.1)) h1) (by rw [<-e2] at h;exact h.1)
   ·exact ih h.2 h1 h2
def inoAt (s:TSt) (fs:List (ByteArray×Nat)) (p:ByteArray):Ino:=((findF fs p).bind (slotT s.tab)).getD ⟨0,0,false,[],0⟩
namespace LInv
variable {N D : Nat} {s : TSt} {tr : List (Option NTree)} {pt : List Tree}
theorem put (I:LInv N D s tr pt) {t:Tree} (hw:treeErr D t=none) (hf:Fit D t) (hn:needL (filesT D t)<=(freeR s.u).length):LInv N D (mkL s (filesT D t)) (tr ++ [some ⟨bareT D t,inoL s (filesT D t)⟩]) (pt ++ [t]):=by
 have hall:=fun x hx=>((treeErr_none.1 hw).2 x hx).2
 have hrf:=I.rf.makes (filesT D t) (fun x hx=>(files_small hall x hx).1) hn
 have he:refsA D (tr ++ [some ⟨bareT D t,inoL s (filesT D t)⟩]) (pt ++ [t])=refsA D tr pt++refs (inoL s (filesT D t)) (filesT D t):=by
  unfold refsA
  rw [List.zipWith_append I.len,List.flatten_append]
  simp [refsO]
 refine ⟨by rw [he];exact hrf.perm List.perm_append_comm,by simp [I.len],fun k x hx=>?_⟩
 rw [ntI_snoc] at hx
 split at hx
 ·rename_i e
  cases hx
  have e':k=pt.length:=by rw [<-I.len];omega
  exact ⟨t,by rw [e'];simp,hw,hf,rfl,inoL_fst _ _⟩
 ·obtain ⟨t',h1,h2⟩:=I.tree k x hx
  exact ⟨t',by rw [List.getElem?_append_left (List.getElem?_eq_some_iff.1 h1).1];exact h1,h2⟩
theorem drop (I:LInv N D s tr pt) {k:Nat} {x:NTree} (hx:ntI tr (k:Int)=some x) {l:List Nat} (hl:l.Perm (x.fs.map (·.2))):LInv N D (unlL s l) (tr.set k none) pt:=by
 obtain ⟨t,ht,hw,hf,e1,e2⟩:=I.tree k x hx
 obtain ⟨R,p1,p2⟩:=refsA_set (D:=D) none hx ht I.len
 have hlen:x.fs.length=(filesT D t).length:=by have:=congrArg List.length e2;simpa using this
 refine ⟨((I.rf.perm p1).unlinks l (by rw [refs_fst hlen];exact hl)).perm p2.symm,by simp [I.len],fun j y hy=>?_⟩
 rw [ntI_set hx] at hy
 split at hy
 ·cases hy
 ·exact I.tree j y hy
theorem cnt (I:LInv N D s tr pt) {k:Nat} {x:NTree} (hx:ntI tr (k:Int)=some x) (hb:(refsA D tr pt).length<=1000000):CntOk s (x.fs.map (·.2))/\(x.fs.map (·.1)).Nodup:=by
 obtain ⟨t,ht,hw,hf,e1,e2⟩:=I.tree k x hx
 obtain ⟨R,p1,p2⟩:=refsA_set (D:=D) none hx ht I.len
 have hlen:x.fs.length=(filesT D t).length:=by have:=congrArg List.length e2;simpa using this
 have hG:=good_of fun y hy=>((treeErr_none.1 hw).2 y hy).2
 refine ⟨?_,by rw [e2];exact filesT_nodup hf hG hw⟩
 have h:=(I.rf.perm p1).cnt (by rw [<-p1.length_eq];exact hb)
 rw [refs_fst hlen] at h
 exact h
theorem share (I:LInv N D s tr pt) {k:Nat} {x:NTree} {p:ByteArray} {was j:Nat} {y z:Ino} (hx:ntI tr (k:Int)=some x) (hp:findF x.fs p=some was) (hy:slotT s.tab was=some y) (hz:slotT s.tab j=some z) (hne:¬j=was) (hc:crcR (readD s.bl z.blocks z.bytes)=z.sum) (hl:likeI s.bl y z=true):LInv N D (unlS (lnkS s j z) was y) (tr.set k (some { x with fs:=setF x.fs p j })) pt:=by
 obtain ⟨t,ht,hw,hf,e1,e2⟩:=I.tree k x hx
 have hG:=good_of fun y hy=>((treeErr_none.1 hw).2 y hy).2
 obtain ⟨R,p1,p2⟩:=refsA_set (D:=D) (some { x with fs:=setF x.fs p j }) hx ht I.len
 obtain ⟨f,R2,hm,q1,q2⟩:=refs_set (j:=j) e2 (by rw [e2];exact filesT_nodup hf hG hw) (findF_mem _ hp)
 have I1:=I.rf.perm (p1.trans (q1.append_right R))
 obtain ⟨y',hy',h1,h2,h3⟩:=I1.held _ (List.mem_cons_self ..)
 simp only at hy' h1 h2
 rw [hy] at hy'
 cases hy'
 obtain ⟨k1,k2⟩:=(likeI_iff _ _ _).1 hl
 have I2:=I1.link hz hc
 have hy1:slotT (lnkS s j z).tab was=some y:=by
  show slotT (s.tab.set j _) was=_
  rw [slotT_set (slotT_lt hz),if_neg (fun e=>hne e.symm)];exact hy
 have I3:=(I2.perm (List.Perm.swap _ _ _)).unlink hy1
 rw [<-k1,h1,<-k2,h2] at I3
 refine ⟨I3.perm ((p2.trans (q2.append_right R)).symm),by simp [I.len],fun i v hv=>?_⟩
 rw [ntI_set hx] at hv
 split at hv
 ·rename_i e
  cases hv
  have e':i=k:=by omega
  subst e'
  exact ⟨t,ht,hw,hf,e1,by rw [setF_fst];exact e2⟩
 ·exact I.tree i v hv
theorem files (I:LInv N D s tr pt) {k:Nat} {x:NTree} {t:Tree} (hx:ntI tr (k:Int)=some x) (ht:pt[k]? = some t):∀y∈filesT D t,∃q,findF x.fs y.1=some q/\slotT s.tab q=some (inoAt s x.fs y.1)/\readD s.bl (inoAt s x.fs y.1).blocks (inoAt s x.fs y.1).bytes=y.2.data/\(inoAt s x.fs y.1).exec=y.2.exec/\(inoAt s x.fs y.1).sum=crcR y.2.data:=by
 obtain ⟨t',ht',hw,hf,e1,e2⟩:=I.tree k x hx
 rw [ht] at ht'
 cases ht'
 have hG:=good_of fun y hy=>((treeErr_none.1 hw).2 y hy).2
 have hnd:=filesT_nodup hf hG hw
 obtain ⟨R,p1,p2⟩:=refsA_set (D:=D) none hx ht I.len
 intro y hy
 obtain ⟨f,hfm,ef⟩:=List.mem_map.1 (show y.1∈x.fs.map (·.1) by rw [e2];exact List.mem_map_of_mem (f:=(·.1)) hy)
 obtain ⟨q,hq⟩:=Option.isSome_iff_exists.1 (findF_some x.fs hfm)
 rw [ef] at hq
 obtain ⟨z,R2,hz,q1,_⟩:=refs_set (j:=0) e2 (by rw [e2];exact hnd) (findF_mem _ hq)
 have hzy:z=y.2:=nodup_snd hnd hz (show (y.1,y.2)∈_ from hy)
 subst hzy
 obtain ⟨i,hi,h1,h2,h3⟩:=(I.rf.perm (p1.trans (q1.append_right R))).held _ (List.mem_cons_self ..)
 simp only at hi h1 h2 h3
 have hι:inoAt s x.fs y.1=i:=by
  unfold inoAt
  rw [hq]
  show (slotT s.tab q).getD _=i
  rw [hi]
  rfl
 rw [hι]
 exact ⟨q,hq,hi,h1,h2,h3⟩
end LInv
end Go.Proofs.YteefneelcgeioaaGreatDoor
namespace Go.Proofs.YteefneelcgeioaaGreatDoor
open Go.RowKit

end Go.Proofs.YteefneelcgeioaaGreatDoor
namespace Go.Proofs.YteefneelcgeioaaGreatDoor
open Go.RowKit

theorem DkBut.of_heap {bb:Nat} {va:Option Addr} {w w1 w':World} (h:DkBut bb va w w1) (e:w'.heap=w1.heap) (e1:w'.os=w1.os) (e2:w'.tape=w1.tape) (e3:w'.output=w1.output):DkBut bb va w w' :=
 ⟨e1.trans h.os,e2.trans h.tape,e3.trans h.output,by rw [e];exact h.size,fun k a b c d=>by rw [e];exact h.block k a b c d⟩
def rotX (k bit:Nat) (x:Nat×List UInt8):Nat×List UInt8:=if x.1=k then (x.1,turnL x.2 bit) else x
def rotJ (wt:List (Nat×List UInt8)) (k bit j:Nat):List (Nat×List UInt8):=(wt.take j).map (rotX k bit)++wt.drop j
end Go.Proofs.YteefneelcgeioaaGreatDoor
namespace Go.Proofs.YteefneelcgeioaaGreatDoor
open Go.RowKit

structure DAct where
 kind:ByteArray
 s:ByteArray
 k:Int
 bit:Int
 keep:List Int
def ActsAt (w:World) (v:Value) (l:List DAct):Prop:=∃ad cap,v = .slice ad l.length cap/\∀i a,l[i]? = some a->∃b off kv,ad=some ⟨b,off,none⟩/\w.cell? ⟨b,off+i*5,none⟩=some (.string a.kind)/\w.cell? ⟨b,off+i*5+1,none⟩=some (.string a.s)/\w.cell? ⟨b,off+i*5+2,none⟩=some (.int .i64 a.k)/\w.cell? ⟨b,off+i*5+3,none⟩=some (.int .i64 a.bit)/\w.cell? ⟨b,off+i*5+4,none⟩=some kv/\IntsAt w kv a.keep
def barL:List UInt8:=[98,97,114,114,105,101,114]
def Wrote (l:List DAct) (j:Nat) (b:List UInt8):Prop:=∃(i:Nat) (a:DAct),l[i]? = some a/\(a.kind.toList==barL)=false/\a.k=(j:Int)/\a.s=⟨b.toArray⟩
structure Good (l:List DAct) (bl:List (List UInt8)) (wt:List (Nat×List UInt8)):Prop where
 bl:∀j b,bl[j]? = some b->b=zb∨Wrote l j b
 wt:∀x∈wt,Wrote l x.1 x.2
theorem Good.start (l:List DAct) (n:Nat):Good l (List.replicate n zb) []:=⟨fun j b h=>.inl (by rw [List.getElem?_replicate] at h;split at h <;> simp_all),fun x hx=>by cases hx⟩
theorem Good.write {l:List DAct} {bl:List (List UInt8)} {wt:List (Nat×List UInt8)} (G:Good l bl wt) {x:Nat×List UInt8} (h:Wrote l x.1 x.2):Good l bl (wt ++ [x]):=⟨G.bl,fun y hy=>by
 rcases List.mem_append.1 hy with h'|h'
 ·exact G.wt y h'
 ·rw [List.mem_singleton.1 h'];exact h⟩
theorem Good.settle {l:List DAct} {bl:List (List UInt8)} {wt:List (Nat×List UInt8)} (G:Good l bl wt) (keep:Nat->Bool):∀i,Good l (setl keep wt bl i) []
 | 0=>⟨G.bl,fun x hx=>by cases hx⟩
 | i+1=>by
  have IH:=G.settle keep i
  refine ⟨?_,fun x hx=>by cases hx⟩
  unfold setl
  cases h:wt[i]? with
  | none=>exact IH.bl
  | some x =>
   by_cases hk:keep i
   ·simp only [hk,if_true]
    intro j b hj
    rw [List.getElem?_set] at hj
    split at hj
    ·next e =>
     split at hj
     ·cases hj
      right
      rw [<-e];exact G.wt x (List.mem_of_getElem? h)
     ·cases hj
    ·exact IH.bl j b hj
   ·simp only [hk]
    exact IH.bl
theorem Good.rd {l:List DAct} {bl:List (List UInt8)} {wt:List (Nat×List UInt8)} (G:Good l bl wt) {k:Nat} {b:List UInt8} (hk:bl[k]? = some b):rdR bl wt k=zb∨Wrote l k (rdR bl wt k):=by
 rcases rdR_mem (wt:=wt) hk with h|h
 ·rw [h];exact G.bl k b hk
 ·exact .inr (G.wt _ h)
end Go.Proofs.YteefneelcgeioaaGreatDoor
namespace Go.Proofs.YteefneelcgeioaaGreatDoor
open Go.RowKit

def sB (b:List UInt8):ByteArray:=⟨b.toArray⟩
def sV (b:List UInt8):Value:=.string (sB b)
def mw (x:Nat×List UInt8):List Value:=[.int .i64 (x.1:Int),sV x.2]
structure MkAt (w:World) (mb:Nat) (la:Option Addr) (lc:Nat) (wa:Option Addr) (wcp:Nat) (bl:List (List UInt8)) (wt:List (Nat×List UInt8)):Prop where
 disk:w.heap[mb]? = some (.cells #[.slice la bl.length lc,.slice wa wt.length wcp] 155 (0,0))
 lrow:w.ownsRow (mb+1) 9 1 (.slice la bl.length lc) bl.length (bl.map sV)
 wrow:w.ownsRow (mb+1) 255 2 (.slice wa wt.length wcp) wt.length (wt.flatMap mw)
structure MkBut (mb:Nat) (la wa:Option Addr) (w w':World):Prop where
 os:w'.os=w.os
 tape:w'.tape=w.tape
 output:w'.output=w.output
 size:w.heap.size<=w'.heap.size
 block:∀k,k<w.heap.size->k≠mb->(∀a,la=some a->k≠a.block)->(∀a,wa=some a->k≠a.block)->w'.heap[k]? = w.heap[k]?
theorem MkBut.of_below {mb:Nat} {la wa:Option Addr} {w w':World} (h:Below w.heap.size w w'):MkBut mb la wa w w':=⟨h.os,h.tape,h.output,h.size,fun k hk _ _ _=>h.block k hk⟩
theorem MkBut.trans {mb:Nat} {la wa:Option Addr} {w w' w'':World} (h:MkBut mb la wa w w') (h':MkBut mb la wa w' w''):MkBut mb la wa w w'' :=
 ⟨h'.os.trans h.os,h'.tape.trans h.tape,h'.output.trans h.output,Nat.le_trans h.size h'.size,fun k hk a b c=>(h'.block k (Nat.lt_of_lt_of_le hk h.size) a b c).trans (h.block k hk a b c)⟩
theorem own_row {w:World} {base:Nat} {e:TypeId} {size:Nat} {sa:Option Addr} {n c:Nat} {xs:List Value} (h:w.ownsRow base e size (.slice sa n c) n xs) {a:Addr} (ha:sa=some a):a=⟨a.block,0,none⟩/\base<=a.block/\∃cur,w.heap[a.block]? = some (.cells cur e (0,0))/\cur.toList.take (n*size)=xs/\n*size<=cur.size:=by
 rcases h.2 with ⟨e1,_⟩|⟨g,cap,cur,e1,h1,h2,h3,h4,h5,h6⟩
 ·subst ha;simp at e1
 ·simp only [Value.slice.injEq] at e1
  have e2:a=⟨g,0,none⟩:=by rw [ha] at e1;exact Option.some.inj e1.1
  subst e2
  exact ⟨rfl,h1,cur,h2,h6,by rw [h5];exact Nat.mul_le_mul_right _ h3⟩
theorem own_ext {w w':World} {base:Nat} {e:TypeId} {size:Nat} {v:Value} {n:Nat} {xs:List Value} (h:w.ownsRow base e size v n xs) (hb:∀k,v.ownBlock=some k->w'.heap[k]? = w.heap[k]?):w'.ownsRow base e size v n xs:=by
 refine ⟨h.1,?_⟩
 rcases h.2 with h2|⟨g,cap,cur,e1,e2,e3,e4⟩
 ·exact .inl h2
 ·exact .inr ⟨g,cap,cur,e1,e2,by rw [hb g (by rw [e1];rfl)];exact e3,e4⟩
def tyOf:Option Obj->Nat
 | some (.cells _ t _)=>t
 | _=>0
namespace MkAt
variable {w w' : World} {mb : Nat} {la : Option Addr} {lc : Nat} {wa : Option Addr} {wcp : Nat} {bl : List (List UInt8)} {wt : List (Nat × List UInt8)}
theorem lt (M:MkAt w mb la lc wa wcp bl wt):mb<w.heap.size:=(Array.getElem?_eq_some_iff.1 M.disk).1
theorem lowL (M:MkAt w mb la lc wa wcp bl wt) {a:Addr} (ha:la=some a):mb+1<=a.block/\a.block<w.heap.size/\a=⟨a.block,0,none⟩:=by
 obtain ⟨e,h,cur,h2,_⟩:=own_row M.lrow ha
 exact ⟨h,(Array.getElem?_eq_some_iff.1 h2).1,e⟩
theorem lowW (M:MkAt w mb la lc wa wcp bl wt) {a:Addr} (ha:wa=some a):mb+1<=a.block/\a.block<w.heap.size/\a=⟨a.block,0,none⟩:=by
 obtain ⟨e,h,cur,h2,_⟩:=own_row M.wrow ha
 exact ⟨h,(Array.getElem?_eq_some_iff.1 h2).1,e⟩
theorem ne (M:MkAt w mb la lc wa wcp bl wt) {a b:Addr} (ha:la=some a) (hb:wa=some b):a.block≠b.block:=fun e=>by
 obtain ⟨_,_,c1,h1,_⟩:=own_row M.lrow ha
 obtain ⟨_,_,c2,h2,_⟩:=own_row M.wrow hb
 rw [e,h2] at h1
 exact absurd (show 255=9 from congrArg tyOf h1) (by decide)
theorem ext (M : MkAt w mb la lc wa wcp bl wt) (h : ∀ k, k = mb ∨ (∃ a, la = some a ∧ k = a.block) ∨ (∃ a, wa = some a ∧ k = a.block) → w'.heap[k]? = w.heap[k]?) : MkAt w' mb la lc wa wcp bl wt :=
  ⟨(h _ (.inl rfl)).trans M.disk, own_ext M.lrow fun k hk => h k (.inr (.inl (by
    cases la with
    | none => simp [Value.ownBlock] at hk
    | some a => exact ⟨a, rfl, by simpa [Value.ownBlock] using hk.symm⟩))), own_ext M.wrow fun k hk => h k (.inr (.inr (by
    cases wa with
    | none => simp [Value.ownBlock] at hk
    | some a => exact ⟨a, rfl, by simpa [Value.ownBlock] using hk.symm⟩)))⟩
theorem below (M:MkAt w mb la lc wa wcp bl wt) {B:Nat} (hB:w.heap.size<=B) (hb:Below B w w'):MkAt w' mb la lc wa wcp bl wt:=M.ext fun k hk=>hb.block k (by
 rcases hk with rfl|⟨a,ha,rfl⟩|⟨a,ha,rfl⟩
 ·have:=M.lt;omega
 ·have:=(M.lowL ha).2.1;omega
 ·have:=(M.lowW ha).2.1;omega)
theorem up (M:MkAt w mb la lc wa wcp bl wt) {B:Nat} {w0:World} (hB:B<=mb) (h0:Below B w0 w) (h:MkBut mb la wa w w'):Below B w0 w' :=
 ⟨h.os.trans h0.os,h.tape.trans h0.tape,h.output.trans h0.output,Nat.le_trans h0.size h.size,fun k hk=>by
  have:=M.lt
  exact (h.block k (by omega) (by omega) (fun a ha=>by have:=(M.lowL ha).1;omega) (fun a ha=>by have:=(M.lowW ha).1;omega)).trans (h0.block k hk)⟩
theorem cells (M:MkAt w mb la lc wa wcp bl wt):w.cell? ⟨mb,0,none⟩=some (.slice la bl.length lc)/\w.cell? ⟨mb,1,none⟩=some (.slice wa wt.length wcp)/\(∀i,w.frozen? ⟨mb,i,none⟩=false):=by
 refine ⟨?_,?_,fun i=>by simp [World.frozen?,M.disk]⟩
 ·rw [cell_of_row w _ _ _ _ _ M.disk];rfl
 ·rw [cell_of_row w _ _ _ _ _ M.disk];rfl
theorem forget (M:MkAt w mb la lc wa wcp bl wt):MkAt (w.setCell ⟨mb,1,none⟩ (.slice none 0 0)) mb la lc none 0 bl []:=by
 refine ⟨?_,own_ext M.lrow fun q hq=>Below.heap_setCell _ _ _ _ (show q≠mb from ?_),⟨rfl,.inl ⟨rfl,rfl⟩⟩⟩
 ·rw [row_setCell M.disk];rfl
 ·cases la with
  | none=>simp [Value.ownBlock] at hq
  | some b=>have:=(M.lowL rfl).1;simp [Value.ownBlock] at hq;omega
theorem but_forget (i:Nat) (v:Value):MkBut mb la wa w (w.setCell ⟨mb,i,none⟩ v) :=
 ⟨rfl,rfl,rfl,by simp [World.setCell],fun j _ hj _ _=>Below.heap_setCell _ _ _ _ hj⟩
end MkAt
theorem MkBut.of_heap {mb:Nat} {la wa:Option Addr} {w w1 w':World} (h:MkBut mb la wa w w1) (e:w'.heap=w1.heap) (e1:w'.os=w1.os) (e2:w'.tape=w1.tape) (e3:w'.output=w1.output):MkBut mb la wa w w' :=
 ⟨e1.trans h.os,e2.trans h.tape,e3.trans h.output,by rw [e];exact h.size,fun k a b c d=>by rw [e];exact h.block k a b c d⟩

section
variable {w w' : World} {mb : Nat} {la : Option Addr} {lc : Nat} {wa : Option Addr} {wcp : Nat} {bl bl' : List (List UInt8)} {wt wt' : List (Nat × List UInt8)} {bb : Nat} {va : Option Addr} {vc : Nat}
theorem MkAt.keep (M:MkAt w mb la lc wa wcp bl wt) (D:DkAt w bb va vc bl' wt') (h:DkBut bb va w w'):MkAt w' mb la lc wa wcp bl wt:=by
 have tD:∀k,(k=bb∨k=bb+1∨∃a,va=some a/\k=a.block)->tyOf w.heap[k]? = 179∨tyOf w.heap[k]? = 159∨tyOf w.heap[k]? = 210:=fun k hk=>by
  rcases hk with rfl|rfl|⟨a,ha,rfl⟩
  ·left;rw [D.blocks];rfl
  ·right;left;rw [D.disk];rfl
  ·right;right
   obtain ⟨_,_,cur,h2,_⟩:=own_row D.waits ha
   rw [h2];rfl
 refine M.ext fun k hk=>?_
 have tM:k<w.heap.size/\(tyOf w.heap[k]? = 155∨tyOf w.heap[k]? = 9∨tyOf w.heap[k]? = 255):=by
  rcases hk with rfl|⟨a,ha,rfl⟩|⟨a,ha,rfl⟩
  ·exact ⟨M.lt,.inl (by rw [M.disk];rfl)⟩
  ·obtain ⟨_,_,cur,h2,_⟩:=own_row M.lrow ha
   exact ⟨(M.lowL ha).2.1,.inr (.inl (by rw [h2];rfl))⟩
  ·obtain ⟨_,_,cur,h2,_⟩:=own_row M.wrow ha
   exact ⟨(M.lowW ha).2.1,.inr (.inr (by rw [h2];rfl))⟩
 have no:¬(k=bb∨k=bb+1∨∃a,va=some a/\k=a.block):=fun hk'=>by
  have h1:=tD k hk'
  have h2:=tM.2
  omega
 exact h.block k tM.1 (fun e=>no (.inl e)) (fun e=>no (.inr (.inl e))) (fun a ha e=>no (.inr (.inr ⟨a,ha,e⟩)))
theorem DkAt.keep (D:DkAt w bb va vc bl' wt') (M:MkAt w mb la lc wa wcp bl wt) (h:MkBut mb la wa w w'):DkAt w' bb va vc bl' wt':=by
 have tM:∀k,(k=mb∨(∃a,la=some a/\k=a.block)∨(∃a,wa=some a/\k=a.block))->tyOf w.heap[k]? = 155∨tyOf w.heap[k]? = 9∨tyOf w.heap[k]? = 255:=fun k hk=>by
  rcases hk with rfl|⟨a,ha,rfl⟩|⟨a,ha,rfl⟩
  ·left;rw [M.disk];rfl
  ·right;left
   obtain ⟨_,_,cur,h2,_⟩:=own_row M.lrow ha
   rw [h2];rfl
  ·right;right
   obtain ⟨_,_,cur,h2,_⟩:=own_row M.wrow ha
   rw [h2];rfl
 refine D.ext fun k hk=>?_
 have tD:k<w.heap.size/\(tyOf w.heap[k]? = 179∨tyOf w.heap[k]? = 159∨tyOf w.heap[k]? = 210):=by
  rcases hk with rfl|rfl|⟨a,ha,rfl⟩
  ·exact ⟨by have:=D.lt;omega,.inl (by rw [D.blocks];rfl)⟩
  ·exact ⟨D.lt,.inr (.inl (by rw [D.disk];rfl))⟩
  ·obtain ⟨_,_,cur,h2,_⟩:=own_row D.waits ha
   exact ⟨(D.low a ha).2.1,.inr (.inr (by rw [h2];rfl))⟩
 have no:¬(k=mb∨(∃a,la=some a/\k=a.block)∨(∃a,wa=some a/\k=a.block)):=fun hk'=>by
  have h1:=tM k hk'
  have h2:=tD.2
  omega
 exact h.block k tD.1 (fun e=>no (.inl e)) (fun a ha e=>no (.inr (.inl ⟨a,ha,e⟩))) (fun a ha e=>no (.inr (.inr ⟨a,ha,e⟩)))
end
end Go.Proofs.YteefneelcgeioaaGreatDoor
namespace Go.Proofs.YteefneelcgeioaaGreatDoor
set_option maxHeartbeats 1000000
set_option maxRecDepth 100000
open Go.RowKit

theorem zeros2_any (w:World):Calls Tryz.prog 83 #[] w fun e w'=>e = .returned (.string (zerosB 16))/\w'=w:=by
 go_enter Tryz.func83,Tryz.ntmps83
 go_wp2_with fail
 go_loopw [1,2] (fun p i wr=>∃(k:Nat) (s:ByteArray),k<=16/\i = .int .i64 k/\p = .string s/\Hid (s=zerosB k)/\wr=w) (fun _ i _=>16-(intOf i).toNat)
 case atStart=>exact ⟨0,_,Nat.zero_le _,rfl,rfl,rfl,rfl⟩
 case round =>
  obtain ⟨k,s,hk,rfl,rfl,HX,rfl⟩:=hrel
  have hsz:s.size<=1000000:=by rw [HX.out];show (List.replicate k (0:UInt8)).toArray.size<=_;simp;omega
  by_cases hkn:k<16
  ·go_wp2_with fail
   refine ⟨⟨k+1,_,by omega,by simp,rfl,?_,trivial⟩,by simp [intOf];omega⟩
   show _=_
   rw [zerosB_succ,HX.out]
  ·obtain rfl:k=16:=by omega
   go_wp2_with fail
   go_ret
   exact ⟨by rw [HX.out];rfl,rfl⟩

def hasTo (l:List Int) (x:Int) (j:Nat):Bool:=(l.take j).any (· == x)
end Go.Proofs.YteefneelcgeioaaGreatDoor
namespace Go.Proofs.YteefneelcgeioaaGreatDoor
open Go.RowKit

end Go.Proofs.YteefneelcgeioaaGreatDoor
