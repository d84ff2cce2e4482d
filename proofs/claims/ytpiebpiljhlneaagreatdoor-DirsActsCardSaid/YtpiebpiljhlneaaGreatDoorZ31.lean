/-
  Gb Gq Gn Gp, joined.
  Conditions: those that each states.
-/
import Derived.Test.YtpiebpiljhlneaaGreatDoorZ28
import Derived.Test.YtpiebpiljhlneaaGreatDoorZ30
namespace Go.Proofs.YtpiebpiljhlneaaGreatDoor
section
set_option maxHeartbeats 1000000
set_option maxRecDepth 100000
open Go.RowKit Go.Maps

theorem fmCells_at:∀ {fs:List (ByteArray×Nat)} {i:Nat} {f:ByteArray×Nat},fs[i]? = some f->(fs.flatMap fmC)[i*2]? = some (.string f.1)/\(fs.flatMap fmC)[i*2+1]? = some (.int .i64 (f.2:Int))
 | [],_,_,h=>by simp at h
 | x :: fs,0,f,h=>by
  simp only [List.getElem?_cons_zero,Option.some.injEq] at h
  subst h
  simp [fmC]
 | x :: fs,i+1,f,h=>by
  have ih:=fmCells_at (fs:=fs) (i:=i) (f:=f) (by simpa using h)
  have g:∀o,((x :: fs).flatMap fmC)[(i+1)*2+o]? = (fs.flatMap fmC)[i*2+o]? := fun o=>by
   rw [List.flatMap_cons,List.getElem?_append_right (by simp [fmC];omega)]
   congr 1
   simp [fmC];omega
  have g0:=g 0
  rw [Nat.add_zero,Nat.add_zero] at g0
  exact ⟨g0.trans ih.1,(g 1).trans ih.2⟩
theorem fmRow_at {w:World} {B:Nat} {v:Value} {fs:List (ByteArray×Nat)} (h:w.ownsRow B 77 2 v fs.length (fs.flatMap fmC)) {i:Nat} {f:ByteArray×Nat} (hf:fs[i]? = some f):∃g cp,v = .slice (some ⟨g,0,none⟩) fs.length cp/\g<w.heap.size/\w.cell? ⟨g,i*2,none⟩=some (.string f.1)/\w.cell? ⟨g,i*2+1,none⟩=some (.int .i64 (f.2:Int)):=by
 have hi:=(List.getElem?_eq_some_iff.1 hf).1
 rcases h.2 with ⟨_,e0⟩|⟨g,cp,cur,e,_⟩
 ·omega
 ·have hcs:=h.cells (g:=g) (by rw [e];rfl)
  have hadd:∀j,(⟨g,0,none⟩:Addr).add j=⟨g,j,none⟩:=fun j=>by unfold Addr.add;split <;> simp_all
  obtain ⟨k0,k1⟩:=fmCells_at hf
  have c0:=hcs _ _ k0
  have c1:=hcs _ _ k1
  rw [hadd] at c0 c1
  exact ⟨g,cp,e,(h.lt g (by rw [e];rfl)).2,c0,c1⟩
def pathM (fs:List (ByteArray×Nat)) (s:ByteArray):Option Nat:=(fs.find? fun f=>decide (f.1=s)).map (·.2)
def inoM (L:List MTree) (k:Int) (s:ByteArray):Nat×Int:=match findM L k with
 | none=>(0,6)
 | some i=>if splitR s=none then (0,5) else match (L[i]?).bind fun x=>pathM x.fs s with
  | some n=>(n,0)
  | none=>(0,6)
theorem baSame {x y:ByteArray} (h:x=y):(x.toList==y.toList)=true:=by rw [h];simp
theorem baDiff {x y:ByteArray} (h:¬x=y):(x.toList==y.toList)=false:=by
 cases e:(x.toList==y.toList) with
 | false=>rfl
 | true =>
  exfalso
  refine h (bytes_eq ?_)
  have:=eq_of_beq e
  simpa [ba_toList] using this
section
variable {w : World} {B D mw mt next lc : Nat} {la : Option Addr} {L : List MTree} {us vs : List Value}
theorem md_inode (M:MdAt w B D mw mt la lc L us vs next) (hl:L.length<=1000000) (hfl:∀x∈L,x.fs.length<=1000000) (k:Int) (s:ByteArray) (hs:s.size<=1000000) :
  Calls Tryz.prog 11 #[.pointer (some ⟨mw,0,none⟩),.int .i64 k,.string s] w fun e w'=>e = .returned (.tuple #[.int .i64 ((inoM L k s).1:Int),.int .i64 (inoM L k s).2])/\Below w.heap.size w w':=by
 have HF:=md_find M hl k
 have HSP:=splitOf_any s w hs
 cases hfi:findM L k with
 | none =>
  have er:inoM L k s=(0,6):=by unfold inoM;rw [hfi]
  rw [er]
  rw [hfi] at HF
  clear M HSP
  go_enter Tryz.func11,Tryz.ntmps11
  go_wp2_with (go_at_call 46;refine HF.mono ?_;rintro e w1 ⟨rfl,hw⟩;rw [hw];clear hw w1 HF)
  go_ret2
  exact ⟨rfl,Below.refl _ _⟩
 | some i =>
  rw [hfi] at HF
  have hiL:i<L.length:=by
   unfold findM at hfi
   exact (List.findIdx?_eq_some_iff_getElem.1 hfi).1
  obtain ⟨x,hx⟩:∃x,L[i]? = some x:=⟨_,List.getElem?_eq_getElem hiL⟩
  have hxl:=hfl x (List.mem_of_getElem? hx)
  have HM:Hid (∀W,Below w.heap.size w W->MdAt W B D mw mt la lc L us vs next):=fun W h=>M.below h
  cases hsp:splitR s with
  | none =>
   have er:inoM L k s=(0,5):=by unfold inoM;rw [hfi,hsp];rfl
   rw [er]
   clear M er
   go_enter Tryz.func11,Tryz.ntmps11
   go_wp2_with (go_at_call 46;refine HF.mono ?_;rintro e w1 ⟨rfl,hw⟩;rw [hw];clear hw w1 HF)
   refine Calls.mono HSP ?_
   rintro e w2 ⟨b2,h2⟩
   rcases h2 with ⟨_,rfl⟩|⟨l,v,h3,_⟩
   ·go_wp2_with fail
    go_ret2
    exact ⟨rfl,b2⟩
   ·rw [hsp] at h3;cases h3
  | some l0 =>
   have HER:Hid (inoM L k s=match pathM x.fs s with|some n=>(n,0)|none=>(0,6)):=by
    show _=_
    unfold inoM;rw [hfi,hsp]
    simp only
    rw [if_neg (by simp),hx]
    rfl
   obtain ⟨R,HR⟩:∃R,Hid (R=inoM L k s):=⟨_,(rfl:_=_)⟩
   rw [<-HR.out] at HER ⊢
   clear M hfi HR
   go_enter Tryz.func11,Tryz.ntmps11
   go_wp2_with (go_at_call 46;refine HF.mono ?_;rintro e w1 ⟨rfl,hw⟩;rw [hw];clear hw w1 HF)
   refine Calls.mono HSP ?_
   rintro e w2 ⟨b2,h2⟩
   rcases h2 with ⟨h3,_⟩|⟨l,v,_,rfl,ht,_⟩
   ·rw [hsp] at h3;cases h3
   ·have M2:=HM.out w2 b2
    obtain ⟨_,d1,_⟩:=M2.cells
    obtain ⟨g,ua,uc,va,vc,rfl,_,hv,_,_,_,_,_,c5⟩:=M2.at hx
    have HFR:Hid (w2.ownsRow B 77 2 (.slice va x.fs.length vc) x.fs.length (x.fs.flatMap fmC)):=M2.files i x _ hx hv
    have HB2:Hid (Below w.heap.size w w2):=b2
    obtain ⟨tl,tc,rfl,_⟩:=ht
    clear M2 HM hx hv hsp b2 HSP
    generalize x.fs=fs at *
    go_wp2_with fail
    go_loopw [12] (fun iv wl=>∃j:Nat,j<=fs.length/\iv = .int .i64 j/\wl=w2/\∀f∈fs.take j,¬f.1=s) (fun iv _=>fs.length-(intOf iv).toNat)
    case atStart=>exact ⟨0,Nat.zero_le _,rfl,rfl,fun f hf=>by simp at hf⟩
    case round =>
     obtain ⟨j,hj,rfl,rfl,hno⟩:=hrel
     have HNO:Hid (∀f∈fs.take j,¬f.1=s):=hno
     clear hno
     by_cases hlt:j<fs.length
     ·obtain ⟨f,hf⟩:∃f,fs[j]? = some f:=⟨_,List.getElem?_eq_getElem hlt⟩
      obtain ⟨fg,fcp,ef,_,f0,f1⟩:=fmRow_at HFR.out hf
      simp only [Value.slice.injEq] at ef
      obtain ⟨rfl,_,rfl⟩:=ef
      by_cases he:f.1=s
      ·have heb:=baSame he
       have HRR:Hid (R=(f.2,0)):=by
        have hp:pathM fs s=some f.2:=by
         unfold pathM
         have:fs.find? (fun f=>decide (f.1=s))=some f:=by
          rw [List.find?_eq_some_iff_getElem]
          obtain ⟨hjl,e⟩:=List.getElem?_eq_some_iff.1 hf
          refine ⟨by simpa using he,j,hjl,e,fun m hm=>?_⟩
          have:=HNO.out fs[m] (List.mem_take_iff_getElem.2 ⟨m,by omega,rfl⟩)
          simpa using this
         rw [this];rfl
        have h:=HER.out
        rw [hp] at h
        exact h
       clear he hf HER HFR
       go_wp2_with fail
       go_ret2
       exact ⟨by rw [HRR.out];rfl,HB2.out⟩
      ·have heb:=baDiff he
       have HN2:Hid (∀y∈fs.take (j+1),¬y.1=s):=fun y hy=>by
        rw [take_next hf,List.mem_append,List.mem_singleton] at hy
        rcases hy with h|rfl
        ·exact HNO.out y h
        ·exact he
       clear he hf
       go_wp2_with fail
       exact ⟨⟨j+1,by omega,by simp,by first|rfl|trivial,HN2.out⟩,by simp [intOf];omega⟩
     ·obtain rfl:j=fs.length:=by omega
      have HRR:Hid (R=(0,6)):=by
       have hp:pathM fs s=none:=by
        unfold pathM
        have:fs.find? (fun f=>decide (f.1=s))=none:=by
         rw [List.find?_eq_none]
         intro y hy
         have:=HNO.out y (by rw [List.take_length];exact hy)
         simpa using this
        rw [this];rfl
       have h:=HER.out
       rw [hp] at h
       exact h
      go_wp2_with fail
      go_ret2
      exact ⟨by rw [HRR.out];rfl,HB2.out⟩
end
end
section
open Go.RowKit Go.Maps

def mts (D:Nat):Nat->List (Option NTree)->List Tree->List MTree
 | k,some x :: tr,t :: pt=>⟨k,bareX D t,x.fs⟩ :: mts D (k+1) tr pt
 | k,none :: tr,_ :: pt=>mts D (k+1) tr pt
 | _,_,_=>[]
theorem mts_app {D:Nat}:∀(A:List (Option NTree)) (P:List Tree) (k:Nat) {B:List (Option NTree)} {Q:List Tree},A.length=P.length->mts D k (A++B) (P++Q)=mts D k A P++mts D (k+A.length) B Q
 | [],[],k,B,Q,_=>by simp [mts]
 | some x :: A,t :: P,k,B,Q,h=>by
  have ih:=mts_app (D:=D) A P (k+1) (B:=B) (Q:=Q) (by simpa using h)
  simp only [List.cons_append,mts,ih,List.length_cons]
  rw [show k+1+A.length=k+(A.length+1) by omega]
 | none :: A,t :: P,k,B,Q,h=>by
  have ih:=mts_app (D:=D) A P (k+1) (B:=B) (Q:=Q) (by simpa using h)
  simp only [List.cons_append,mts,ih,List.length_cons]
  rw [show k+1+A.length=k+(A.length+1) by omega]
 | [],_ :: _,_,_,_,h=>by simp at h
 | _ :: _,[],_,_,_,h=>by simp at h
theorem mts_mem {D:Nat}:∀(tr:List (Option NTree)) (pt:List Tree) (k:Nat) (y:MTree),y∈mts D k tr pt->∃j x t,tr[j]? = some (some x)/\pt[j]? = some t/\y=⟨k+j,bareX D t,x.fs⟩
 | some x :: tr,t :: pt,k,y,h=>by
  simp only [mts,List.mem_cons] at h
  rcases h with rfl|h
  ·exact ⟨0,x,t,rfl,rfl,rfl⟩
  ·obtain ⟨j,x',t',h1,h2,h3⟩:=mts_mem tr pt (k+1) y h
   exact ⟨j+1,x',t',by simpa using h1,by simpa using h2,by rw [h3];congr 1;omega⟩
 | none :: tr,t :: pt,k,y,h=>by
  simp only [mts] at h
  obtain ⟨j,x',t',h1,h2,h3⟩:=mts_mem tr pt (k+1) y h
  exact ⟨j+1,x',t',by simpa using h1,by simpa using h2,by rw [h3];congr 1;omega⟩
 | [],_,_,_,h=>by simp [mts] at h
 | none :: _,[],_,_,h=>by simp [mts] at h
 | some _ :: _,[],_,_,h=>by simp [mts] at h
theorem mts_len {D:Nat}:∀(tr:List (Option NTree)) (pt:List Tree) (k:Nat),(mts D k tr pt).length<=tr.length
 | some x :: tr,t :: pt,k=>by simp only [mts,List.length_cons];have:=mts_len (D:=D) tr pt (k+1);omega
 | none :: tr,t :: pt,k=>by simp only [mts,List.length_cons];have:=mts_len (D:=D) tr pt (k+1);omega
 | [],_,_=>by simp [mts]
 | none :: _,[],_=>by simp [mts]
 | some _ :: _,[],_=>by simp [mts]
def optM (D j:Nat) (t:Tree):Option NTree->List MTree
 | some v=>[⟨j,bareX D t,v.fs⟩]
 | none=>[]
theorem mts_at {D:Nat} {tr:List (Option NTree)} {pt:List Tree} {j:Nat} {x:NTree} {t:Tree} (hx:ntI tr (j:Int)=some x) (ht:pt[j]? = some t) (hl:tr.length=pt.length) :
  ∃A B,mts D 0 tr pt=A++⟨j,bareX D t,x.fs⟩ :: B/\(∀y∈A,y.k<j)/\∀o,mts D 0 (tr.set j o) pt=A++optM D j t o++B:=by
 rw [ntI_nat] at hx
 have hx':tr[j]? = some (some x):=by
  cases h:tr[j]? with
  | none=>rw [h] at hx;cases hx
  | some o=>rw [h] at hx;simp only [Option.join_some] at hx;rw [hx]
 have hj:=(List.getElem?_eq_some_iff.1 hx').1
 have hjp:=(List.getElem?_eq_some_iff.1 ht).1
 have e1:tr=tr.take j++some x :: tr.drop (j+1):=by
  rw [<-(List.getElem?_eq_some_iff.1 hx').2,List.getElem_cons_drop,List.take_append_drop]
 have e2:pt=pt.take j++t :: pt.drop (j+1):=by
  rw [<-(List.getElem?_eq_some_iff.1 ht).2,List.getElem_cons_drop,List.take_append_drop]
 have lA:(tr.take j).length=j:=by simp;omega
 have lP:(pt.take j).length=j:=by simp;omega
 have key:∀o,mts D 0 (tr.take j++o :: tr.drop (j+1)) (pt.take j++t :: pt.drop (j+1))=mts D 0 (tr.take j) (pt.take j)++optM D j t o++mts D (j+1) (tr.drop (j+1)) (pt.drop (j+1)):=fun o=>by
  rw [mts_app _ _ 0 (lA.trans lP.symm),lA,Nat.zero_add,List.append_assoc]
  congr 1
  cases o <;> simp [mts,optM]
 refine ⟨mts D 0 (tr.take j) (pt.take j),mts D (j+1) (tr.drop (j+1)) (pt.drop (j+1)),?_,fun y hy=>?_,fun o=>?_⟩
 ·have h:=key (some x)
  rw [<-e1,<-e2] at h
  rw [h]
  simp [optM]
 ·obtain ⟨i,_,_,h1,_,h3⟩:=mts_mem _ _ _ _ hy
  have:=(List.getElem?_eq_some_iff.1 h1).1
  rw [lA] at this
  rw [h3]
  show 0+i<j
  omega
 ·have e3:tr.set j o=tr.take j++o :: tr.drop (j+1):=by rw [List.set_eq_take_append_cons_drop,if_pos hj]
  rw [e3]
  have h:=key o
  rw [<-e2] at h
  exact h
theorem mts_find {D:Nat} {tr:List (Option NTree)} {pt:List Tree} {j:Nat} {x:NTree} {t:Tree} (hx:ntI tr (j:Int)=some x) (ht:pt[j]? = some t) (hl:tr.length=pt.length) :
  ∃i,findM (mts D 0 tr pt) (j:Int)=some i/\(mts D 0 tr pt)[i]? = some ⟨j,bareX D t,x.fs⟩/\(mts D 0 tr pt).eraseIdx i=mts D 0 (tr.set j none) pt/\∀fs,(mts D 0 tr pt).set i ⟨j,bareX D t,fs⟩=mts D 0 (tr.set j (some { x with fs:=fs })) pt:=by
 obtain ⟨A,B,h1,h2,h3⟩:=mts_at (D:=D) hx ht hl
 refine ⟨A.length,?_,?_,?_,fun fs=>?_⟩
 ·unfold findM
  rw [h1,List.findIdx?_append]
  have hn:A.findIdx? (fun x=>decide ((x.k:Int)=(j:Int)))=none:=by
   rw [List.findIdx?_eq_none_iff]
   intro y hy
   have:=h2 y hy
   exact decide_eq_false (by omega)
  rw [hn]
  simp [List.findIdx?_cons]
 ·rw [h1];simp
 ·rw [h1,h3 none,List.eraseIdx_append_of_length_le (Nat.le_refl _)]
  simp [optM]
 ·rw [h1,h3,List.set_append_right _ _ (Nat.le_refl _)]
  simp [optM]
theorem mts_none {D:Nat} {tr:List (Option NTree)} {pt:List Tree} {k:Int} (hx:ntI tr k=none):findM (mts D 0 tr pt) k=none:=by
 unfold findM
 rw [List.findIdx?_eq_none_iff]
 intro y hy
 obtain ⟨i,x,t,h1,_,h3⟩:=mts_mem _ _ _ _ hy
 refine decide_eq_false fun e=>?_
 rw [h3] at e
 simp only [Nat.zero_add] at e
 rw [<-e,ntI_nat,h1] at hx
 cases hx
theorem nodup_val {α β:Type} {l:List (α×β)} (h:(l.map (·.1)).Nodup) {p:α} {a b:β}:(p,a)∈l->(p,b)∈l->a=b:=by
 induction l with
 | nil=>intro h;cases h
 | cons x l ih =>
  rw [List.map_cons,List.nodup_cons] at h
  intro h1 h2
  rcases List.mem_cons.1 h1 with e1|h1 <;> rcases List.mem_cons.1 h2 with e2|h2
  ·rw [<-e1] at e2;cases e2;rfl
  ·exact absurd (List.mem_map_of_mem (f:=(·.1)) h2) (by rw [<-e1] at h;exact h.1)
  ·exact absurd (List.mem_map_of_mem (f:=(·.1)) h1) (by rw [<-e2] at h;exact h.1)
  ·exact ih h.2 h1 h2
theorem path_find {fs:List (ByteArray×Nat)} (hn:(fs.map (·.1)).Nodup) (s:ByteArray):pathM fs s=findF fs s:=by
 unfold pathM
 cases hf:findF fs s with
 | none =>
  have h:fs.find? (fun f=>decide (f.1=s))=none:=by
   rw [List.find?_eq_none]
   intro f hm
   simp only [decide_eq_true_eq]
   intro e
   have:=findF_some fs hm
   rw [e,hf] at this
   cases this
  rw [h];rfl
 | some q =>
  have hm:=findF_mem fs hf
  cases h:fs.find? (fun f=>decide (f.1=s)) with
  | none =>
   rw [List.find?_eq_none] at h
   exact absurd (h _ hm) (by simp)
  | some f =>
   have h1:=List.find?_some h
   have h2:=List.mem_of_find?_eq_some h
   simp only [decide_eq_true_eq] at h1
   obtain ⟨p,n⟩:=f
   simp only at h1
   subst h1
   rw [nodup_val hn h2 hm]
   rfl
theorem ino_both {N D:Nat} {s:TSt} {tr:List (Option NTree)} {pt:List Tree} (I:WInv N D s tr pt) (hb:(refsA D tr pt).length<=1000000) (k:Int) (p:ByteArray):inoM (mts D 0 tr pt) k p=match inoR tr k p with | .ok n=>(n,0) | .error c=>(0,(c:Int)+1):=by
 unfold inoM inoR
 cases hx:ntI tr k with
 | none=>rw [mts_none hx];rfl
 | some x =>
  obtain ⟨j,rfl,hx⟩:=ntI_some hx
  obtain ⟨t,ht,_⟩:=I.tree j x hx
  obtain ⟨i,h1,h2,_⟩:=mts_find (D:=D) hx ht I.len
  rw [h1]
  simp only
  by_cases hs:splitR p=none
  ·rw [if_pos hs,if_pos hs];rfl
  ·rw [if_neg hs,if_neg hs,h2]
   simp only [Option.bind_some]
   rw [path_find (I.cnt hx hb).2]
   cases findF x.fs p <;> rfl
theorem mts_keys {D:Nat}:∀(n:Nat) (tr:List (Option NTree)) (pt:List Tree),tr.length=n->tr.length=pt.length->(mts D 0 tr pt).map (·.k)=allN tr
 | 0,tr,pt,h,_=>by
  have:tr = []:=List.eq_nil_of_length_eq_zero h
  subst this
  simp [mts,allN]
 | n+1,tr,pt,h,hl=>by
  obtain ⟨A,o,rfl⟩:∃A o,tr=A ++ [o]:=by
   refine ⟨tr.dropLast,tr.getLast (fun e=>by rw [e] at h;simp at h),?_⟩
   exact (List.dropLast_concat_getLast _).symm
  obtain ⟨P,t,rfl⟩:∃P t,pt=P ++ [t]:=by
   refine ⟨pt.dropLast,pt.getLast (fun e=>by rw [e] at hl;simp at hl),?_⟩
   exact (List.dropLast_concat_getLast _).symm
  simp only [List.length_append,List.length_singleton] at h hl
  have ih:=mts_keys (D:=D) n A P (by omega) (by omega)
  rw [mts_app _ _ 0 (by omega),List.map_append,ih,allN_snoc]
  cases o <;> simp [mts]
end
section
set_option maxHeartbeats 1000000
set_option maxRecDepth 100000
open Go.RowKit Go.Maps

section
variable {w : World} {F : Nat → Prop} {T0 tb bb sp sb cap mb n N dp m1 m2 : Nat} {nx : Int} {bl : List (List UInt8)} {u : List Bool} {tab : List (Option Ino)}
theorem dfile_bad (k:Nat) (x:Ino) (ae:Addr) (hx:slotT tab k=some x) (hcrc:crcR (readD bl x.blocks x.bytes)≠x.sum) (T:TbAt w F T0 tb bb sp sb cap mb n bl u tab) (S:SInv N bl u tab)
  (bd:w.heap[dp]? = some (.cells #[.pointer (some ⟨tb,0,none⟩),.map (some m1),.map (some m2),.int .i64 nx] 100 (0,0))) (eg:w.cell? ⟨2,0,none⟩=some (.iface 330 (.pointer (some ae)))) :
  Calls Tryz.prog 137 #[.pointer (some ⟨dp,0,none⟩),.int .i64 (k:Int)] w fun e w'=>e = .returned (.tuple #[.agg #[.string { data:=#[] },.string { data:=#[] },.bool false,.slice none 0 0],.iface 330 (.pointer (some ae))])/\Below w.heap.size w w':=by
 obtain ⟨_,s2,_,s4,s5⟩:=S.own k x hx
 have hb1:x.blocks.length<=1000:=by rw [s5];unfold needN;omega
 have hin:∀q∈x.blocks,q<bl.length:=fun q hq=>by rw [S.lbl];exact S.lt hx q hq
 have hgl:2<w.heap.size:=World.block_lt_of_cell? w _ eg
 have HRD:Hid (∀W,Below w.heap.size w W->Calls Tryz.prog 79 #[.pointer (some ⟨tb,0,none⟩),.int .i64 (k:Int)] W fun e w'=>e = .returned (.tuple #[.string { data:=#[] },.iface 330 (.pointer (some ae))])/\Below W.heap.size W w'):=fun W hW=>im_read_bad k x _ hx hcrc W (T.below hW) hin hb1 (by omega) (by rw [hW.cell (p:=⟨2,0,none⟩) hgl];exact eg)
 have hdl:=(Array.getElem?_eq_some_iff.1 bd).1
 have HDP:Hid (∀W,Below w.heap.size w W->W.cell? ⟨dp,0,none⟩=some (.pointer (some ⟨tb,0,none⟩))):=fun W hW=>by
  rw [World.cell?_of_block (a:=⟨dp,0,none⟩) (hW.block dp hdl),cell_of_row _ _ _ _ _ _ bd];rfl
 obtain ⟨W1,hW1⟩:∃W1,W1=w.alloc (.cells #[.string { data:=#[] },.string { data:=#[] },.bool false,.slice none 0 0] 31):=⟨_,rfl⟩
 have HB1:Hid (Below w.heap.size w W1):=by rw [hW1];exact (Below.refl _ w).alloc (Nat.le_refl _) _
 have HR1:Hid (W1.heap[w.heap.size]? = some (.cells #[.string { data:=#[] },.string { data:=#[] },.bool false,.slice none 0 0] 31 (0,0))):=by rw [hW1];exact heap_alloc_last w _
 have hz1:w.heap.size<W1.heap.size:=by rw [hW1];simp
 have c1:=HDP.out W1 HB1.out
 clear T S bd eg hx hcrc s2 s4 s5 hb1 hin hgl hdl
 subst hW1
 go_enter Tryz.func137,Tryz.ntmps137
 go_wp2_with (first
  | (go_at_call 79;refine (HRD.out _ HB1.out).mono ?_;rintro e w1 ⟨rfl,b1⟩;(have HB2:Hid (Below w.heap.size w w1):=HB1.out.trans (b1.mono HB1.out.size));(have hr2:w1.heap[w.heap.size]? = some (.cells #[.string { data:=#[] },.string { data:=#[] },.bool false,.slice none 0 0] 31 (0,0)):=(b1.block _ hz1).trans HR1.out);(have hst:=node_store (o:=0) hr2 (by simp) ⟨{ data:=#[] },{ data:=#[] },false,[]⟩ (.slice none 0 0) (fun _=>False));(have hth:=there_row (o:=0) (n:=4) hr2 (by simp));clear b1)
  | refine wpList_store_mid (by rfl) 31 _ _ (by rfl) w.heap.size 0 #[.string { data:=#[] },.string { data:=#[] },.bool false,.slice none 0 0] (by rfl) (by rfl) hth (by kernel_rfl) (by simp [Value.oneCell']) ?_)
 have q0:=hst.1.kind
 have q1:=hst.1.data
 have q2:=hst.1.exec
 have q3:=hst.1.kids
 have hgr:=hst.2.2
 simp only [Nat.zero_add] at q1 q2 q3
 refine bodyPost_ret (v:=.tuple #[.agg #[.string { data:=#[] },.string { data:=#[] },.bool false,.slice none 0 0],.iface 330 (.pointer (some ae))]) (by simp [results,Tryz.results137,go_sem,q0,q1,q2,q3]) rfl ⟨rfl,HB2.out.grown hgr HB2.out.size (fun q hq=>by cases hq;exact Nat.le_refl _)⟩
theorem alike_bad (p q:Nat) (x y:Ino) (ae:Addr) (hx:slotT tab p=some x) (hy:slotT tab q=some y) (hc:¬(crcR (readD bl x.blocks x.bytes)=x.sum/\crcR (readD bl y.blocks y.bytes)=y.sum)) (T:TbAt w F T0 tb bb sp sb cap mb n bl u tab) (S:SInv N bl u tab)
  (bd:w.heap[dp]? = some (.cells #[.pointer (some ⟨tb,0,none⟩),.map (some m1),.map (some m2),.int .i64 nx] 100 (0,0))) (eg:w.cell? ⟨2,0,none⟩=some (.iface 330 (.pointer (some ae)))) :
  Calls Tryz.prog 92 #[.pointer (some ⟨dp,0,none⟩),.int .i64 (p:Int),.int .i64 (q:Int)] w fun e w'=>e = .returned (.iface 330 (.pointer (some ae)))/\Below w.heap.size w w':=by
 have hdl:=(Array.getElem?_eq_some_iff.1 bd).1
 have HB:Hid (∀W (k:Nat) (z:Ino),Below w.heap.size w W->slotT tab k=some z->crcR (readD bl z.blocks z.bytes)≠z.sum->Calls Tryz.prog 137 #[.pointer (some ⟨dp,0,none⟩),.int .i64 (k:Int)] W fun e w'=>e = .returned (.tuple #[.agg #[.string { data:=#[] },.string { data:=#[] },.bool false,.slice none 0 0],.iface 330 (.pointer (some ae))])/\Below W.heap.size W w'):=fun W k z hW hz hc=>dfile_bad k z ae hz hc (T.below hW) S (by rw [hW.block dp hdl];exact bd) (by rw [hW.cell (p:=⟨2,0,none⟩) (World.block_lt_of_cell? w _ eg)];exact eg)
 by_cases h1:crcR (readD bl x.blocks x.bytes)=x.sum
 ·have HF1:=dfile_any (N:=N) p x _ hx h1 T S bd eg
  have HF2:Hid (∀W,Below w.heap.size w W->Calls Tryz.prog 137 #[.pointer (some ⟨dp,0,none⟩),.int .i64 (q:Int)] W fun e w'=>e = .returned (.tuple #[.agg #[.string { data:=#[] },.string { data:=#[] },.bool false,.slice none 0 0],.iface 330 (.pointer (some ae))])/\Below W.heap.size W w'):=fun W hW=>HB.out W q y hW hy (fun e=>hc ⟨h1,e⟩)
  generalize readD bl x.blocks x.bytes=X at *
  clear T S bd eg hx hy hc h1 HB hdl
  go_enter Tryz.func92,Tryz.ntmps92
  go_wp2_with (first
   | (go_at_call 137;refine HF1.mono ?_;rintro e w1 ⟨rfl,b1⟩;clear HF1;(have HB1:Hid (Below w.heap.size w (w1.alloc (.cells #[.string { data:=#[102,105,108,101] },.string X,.bool x.exec,.slice none 0 0] 31))):=b1.alloc b1.size _);(have HG2:=HF2.out _ HB1.out);clear HF2)
   | (go_at_call 137;refine HG2.mono ?_;rintro e w2 ⟨rfl,b2⟩;clear HG2;(have HB2:Hid (Below w.heap.size w (w2.alloc (.cells #[.string { data:=#[] },.string { data:=#[] },.bool false,.slice none 0 0] 31))):=(HB1.out.trans (b2.mono HB1.out.size)).alloc (HB1.out.trans (b2.mono HB1.out.size)).size _);clear b2))
  go_ret
  exact ⟨rfl,HB2.out⟩
 ·have HF1:=HB.out w p x (Below.refl _ _) hx h1
  clear T S bd eg hx hy hc h1 HB hdl
  go_enter Tryz.func92,Tryz.ntmps92
  go_wp2_with (go_at_call 137;refine HF1.mono ?_;rintro e w1 ⟨rfl,b1⟩;clear HF1;(have HB1:Hid (Below w.heap.size w (w1.alloc (.cells #[.string { data:=#[] },.string { data:=#[] },.bool false,.slice none 0 0] 31))):=b1.alloc b1.size _))
  go_ret
  exact ⟨rfl,HB1.out⟩
end
end
section
set_option maxHeartbeats 2000000
set_option maxRecDepth 100000
open Go.RowKit Go.Maps

section
variable {w : World} {T0 dp tb mb m1 m2 n1 d bb sp sb cap n N : Nat} {tr : List (Option NTree)} {fb : Nat → Nat} {s : TSt} {a : Nat → Addr}
theorem dshare_bad (k:Int) (p:ByteArray) (was j:Nat) (y z:Ino) (ae:Addr) (hk:(Lit.int .i64 k).wf=true) (hp:p.size<=1000000) (P:PSen a w) (D:DirAt w T0 dp tb mb m1 m2 n1 d tr fb) (T:TbAt w (fun _=>False) T0 tb bb sp sb cap mb n s.bl s.u s.tab) (S:SInv N s.bl s.u s.tab) (hi:inoR tr k p = .ok was) (hy:slotT s.tab was=some y) (hz:slotT s.tab j=some z) (hne:¬j=was) (hc:¬(crcR (readD s.bl y.blocks y.bytes)=y.sum/\crcR (readD s.bl z.blocks z.bytes)=z.sum)) (eg:w.cell? ⟨2,0,none⟩=some (.iface 330 (.pointer (some ae)))) :
  Calls Tryz.prog 41 #[.pointer (some ⟨dp,0,none⟩),.int .i64 k,.string p,.int .i64 (j:Int)] w fun e w'=>e = .returned (.iface 330 (.pointer (some ae)))/\Below w.heap.size w w':=by
 have HIN:=share_ino k p was hk hp P D hi
 have HST:Hid _:=share_stat j z D T S hz
 have HAL:Hid (∀W,Below w.heap.size w W->Calls Tryz.prog 92 #[.pointer (some ⟨dp,0,none⟩),.int .i64 (was:Int),.int .i64 (j:Int)] W fun e w'=>e = .returned (.iface 330 (.pointer (some ae)))/\Below W.heap.size W w'):=fun W hW =>
  alike_bad was j y z ae hy hz hc (T.below hW) S (D.below hW).box (by rw [hW.cell (p:=⟨2,0,none⟩) (World.block_lt_of_cell? w _ eg)];exact eg)
 have hneI:((j:Int)==(was:Int))=false:=beq_eq_false_iff_ne.2 (by omega)
 clear D P T hi S hz hy hc eg hne
 go_enter Tryz.func41,Tryz.ntmps41
 go_wp2_with (first
  | (go_at_call 10;refine HIN.mono ?_;rintro e w1 ⟨rfl,b1⟩;(obtain ⟨c0,HS1⟩:=HST.out w1 b1);clear HIN HST)
  | (go_at_call 57;refine HS1.mono ?_;rintro e w2 ⟨ax,cx,rfl,b2⟩;(have HB2:Hid (Below w.heap.size w (w2.alloc (.cells #[.int .i64 (z.bytes:Int),.int .i64 (z.links:Int),.bool z.exec,.slice ax z.blocks.length cx,.int .u32 (z.sum:Int)] 117))):=(b1.trans (b2.mono b1.size)).alloc (b1.trans (b2.mono b1.size)).size _);(have HA2:=HAL.out _ HB2.out);clear HAL b1 b2)
  | (go_at_call 92;refine HA2.mono ?_;rintro e w3 ⟨rfl,b3⟩))
 go_ret
 exact ⟨rfl,HB2.out.trans (b3.mono HB2.out.size)⟩
theorem dget_none (k:Int) (hk:(Lit.int .i64 k).wf=true) (hx:ntI tr k=none) (P:PSen a w) (D:DirAt w T0 dp tb mb m1 m2 n1 d tr fb) :
  Calls Tryz.prog 35 #[.pointer (some ⟨dp,0,none⟩),.int .i64 k] w fun e w'=>e = .returned (.tuple #[.agg #[.string { data:=#[] },.string { data:=#[] },.bool false,.slice none 0 0],.iface 330 (.pointer (some (a 5)))])/\Below w.heap.size w w':=by
 obtain ⟨W0,hW0⟩:∃W0,W0=w.alloc (.cells #[.string { data:=#[] },.string { data:=#[] },.bool false,.slice none 0 0] 31):=⟨_,rfl⟩
 have hbW:Below w.heap.size w W0:=by rw [hW0];exact (Below.refl _ w).alloc (Nat.le_refl _) _
 have HRW:Hid (W0.heap[w.heap.size]? = some (.cells #[.string { data:=#[] },.string { data:=#[] },.bool false,.slice none 0 0] 31 (0,0))):=by rw [hW0];exact heap_alloc_last w _
 have hzW:w.heap.size<W0.heap.size:=by rw [hW0];simp
 have HH:Hid (Calls Tryz.prog 44 #[.pointer (some ⟨dp,0,none⟩),.int .i64 k] W0 fun e w'=>e = .returned (.bool false)/\Below W0.heap.size W0 w'):=(dhas_any k hk (D.below hbW)).mono fun e w' ⟨he,hb⟩=>⟨by rw [he,hx];rfl,hb⟩
 have HP:Hid (PSen a w):=P
 have HBW:Hid (Below w.heap.size w W0):=hbW
 clear D P hx hbW
 subst hW0
 go_enter Tryz.func35,Tryz.ntmps35
 go_wp2_with (go_at_call 44;refine HH.out.mono ?_;rintro e w1 ⟨rfl,b1⟩)
 have HB1:Hid (Below w.heap.size w w1):=HBW.out.trans (b1.mono HBW.out.size)
 obtain ⟨⟨q0,q1,q2,q3⟩,g0,g1,g2,g3⟩:=row4b ((b1.block _ hzW).trans HRW.out)
 have c5:=(HP.out.below HB1.out).no
 have z5:0<w.heap.size:=World.block_lt_of_cell? w _ HP.out.no
 have hne5:0≠w.heap.size:=by omega
 clear b1
 go_region
 go_wp2_with fail
 refine bodyPost_ret (v:=.tuple #[.agg #[.string { data:=#[] },.string { data:=#[] },.bool false,.slice none 0 0],.iface 330 (.pointer (some (a 5)))]) (by simp [results,Tryz.results35,go_sem,q0,q1,q2,q3]) rfl ?_
 have hS:=((((But1.refl w.heap.size w1).set 0 (.string { data:=#[] })).set 1 (.string { data:=#[] })).set 2 (.bool false)).set 3 (.slice none 0 0)
 exact ⟨rfl,(hS.below HB1.out (by omega)).drew⟩
end
def FilK (C:FilC) (all:List (ByteArray×Tree)) (ok:ByteArray->Prop) (w0:World) (r:List (ByteArray×Tree)) (w:World):Prop :=
 FilJ C all w0 r w/\∃dn,dn++r=all/\∀y∈dn,ok y.1
theorem fill_rot (C:FilC) (all:List (ByteArray×Tree)) (N:Nat) (S:SInv N C.s.bl C.s.u C.s.tab) (ι:ByteArray->Ino) (hall:∀x∈all,x.1.size<=maxLen/\∃k:Nat,fmap C.fs (.string x.1.data.toList)=some (.int .i64 (k:Int))/\slotT C.s.tab k=some (ι x.1)) (ae:Addr) (he:C.er = .iface 330 (.pointer (some ae))) (w0:World) :
  EVisit Tryz.prog 136 #[.pointer (some ⟨C.c1,0,none⟩),.pointer (some ⟨C.c2,0,none⟩)] 330 (fun p _=>nodeI C.s.bl (ι p)) (FilK C all (fun p=>crcR (readD C.s.bl (ι p).blocks (ι p).bytes)=(ι p).sum) w0) (fun v w=>v=C.er/\Below w0.heap.size w0 w) w0.heap.size:=by
 refine ⟨fun r w ⟨J,e⟩=>⟨⟨J.ex,J.t.below (Below.refl _ w).drew,J.m,J.bel.drew,J.b1,J.b2,J.bd,J.eg,J.egr⟩,e⟩,fun p t r w b o ad cap cur ⟨J,dn,e0,hdn⟩ hn hR hRs hf hk hb0=>?_⟩
 have hin:(p,t)∈all:=by rw [<-e0];simp
 obtain ⟨hps,k,hk1,hk2⟩:=hall (p,t) hin
 simp only at hps hk1 hk2
 by_cases hc:crcR (readD C.s.bl (ι p).blocks (ι p).bytes)=(ι p).sum
 ·have V:=fill_visit C [(p,t)] N S ι (fun x hx=>by
   rw [List.mem_singleton] at hx
   subst hx
   exact ⟨hps,k,hk1,hk2,hc⟩) w0
  refine (V.call p t [] w b o ad cap cur ⟨⟨[],rfl⟩,J.t,J.m,J.bel,J.b1,J.b2,J.bd,J.eg,J.egr⟩ hn hR hRs hf hk hb0).mono fun e w' h=>?_
  rcases h with ⟨h1,J',h3⟩|⟨_,_,h⟩
  ·have e1:(dn ++ [(p,t)])++r=all:=by rw [<-e0];simp
   refine .inl ⟨h1,⟨⟨⟨_,e1⟩,J'.t,J'.m,J'.bel,J'.b1,J'.b2,J'.bd,J'.eg,J'.egr⟩,_,e1,fun y hy=>?_⟩,h3⟩
   rcases List.mem_append.1 hy with h|h
   ·exact hdn y h
   ·rw [List.mem_singleton] at h
    subst h
    exact hc
  ·exact h.elim
 ·obtain ⟨T0,tb,bb,sp,sb,capT,mb,n,s,dp,m1,m2,nxt,c1,c2,fb,nf,fs,er⟩:=C
  simp only at *
  subst he
  have HFL:Hid (Calls Tryz.prog 137 #[.pointer (some ⟨dp,0,none⟩),.int .i64 (k:Int)] w fun e w'=>e = .returned (.tuple #[.agg #[.string { data:=#[] },.string { data:=#[] },.bool false,.slice none 0 0],.iface 330 (.pointer (some ae))])/\Below w.heap.size w w'):=dfile_bad k (ι p) ae hk2 hc J.t S J.bd J.eg
  have hlk:(Instr.lookup 96 (.map (some fb)) (.string p) false).run Tryz.prog w = .ok (.int .i64 (k:Int)) w:=by
   have h:=J.m.look keyStr Tryz.underlying96 (zeroInt w) (WideMaps.keyOf_string_mk Tryz.underlying9 hps) trivial
   rw [hk1] at h;exact h
  have q1:w.cell? ⟨c1,0,none⟩=some (.pointer (some ⟨dp,0,none⟩)):=by rw [cell_of_row _ _ _ _ _ _ J.b1];rfl
  have q2:w.cell? ⟨c2,0,none⟩=some (.map (some fb)):=by rw [cell_of_row _ _ _ _ _ _ J.b2];rfl
  have HBE:Hid (Below w0.heap.size w0 w):=J.bel
  clear J hn hR hRs hf hk hb0 e0 hdn hin hall hps hk1 hk2 hc S
  show Calls Tryz.prog 136 #[.string p,.pointer (some ⟨b,o,none⟩),.pointer (some ⟨c1,0,none⟩),.pointer (some ⟨c2,0,none⟩)] w _
  go_enter Tryz.func136,Tryz.ntmps136
  go_wp2_with (go_at_call 137;refine HFL.out.mono ?_;rintro e w1 ⟨rfl,hb1⟩)
  go_ret
  have h1:=HBE.out.trans (hb1.mono HBE.out.size)
  exact .inr ⟨_,rfl,rfl,h1.alloc h1.size _⟩
section
variable {w0 w : World} {T0 tb bb sp sb cap mb n N dp m1 m2 fb nf : Nat} {nx : Int} {s : TSt} {d b : Nat} {t : Tree} {Q : Nat → Prop} {fs : List (ByteArray × Nat)}
theorem fill_bad (T:TbAt w (fun _=>False) T0 tb bb sp sb cap mb n s.bl s.u s.tab) (S:SInv N s.bl s.u s.tab) (M:MapV w 9 fb nf (fmap fs)) (ι:ByteArray->Ino) (ae:Addr)
  (hall:∀x∈filesT d t,x.1.size<=maxLen/\∃k:Nat,fmap fs (.string x.1.data.toList)=some (.int .i64 (k:Int))/\slotT s.tab k=some (ι x.1))
  (hbad:∃x∈filesT d t,¬crcR (readD s.bl (ι x.1).blocks (ι x.1).bytes)=(ι x.1).sum)
  (bd:w.heap[dp]? = some (.cells #[.pointer (some ⟨tb,0,none⟩),.map (some m1),.map (some m2),.int .i64 nx] 100 (0,0)))
  (hT:TreeIn w Q d b 0 t) (hr:∃cur,w.heap[b]? = some (.cells cur 31 (0,0))/\4<=cur.size) (hQb:¬Q b) (hQ:∀q,Q q->w0.heap.size<=q) (hb0:w0.heap.size<=b) (hG:GoodT d t) (hd:d*20<=100000)
  (bel:Below w0.heap.size w0 w) (eg:w.cell? ⟨2,0,none⟩=some (.iface 330 (.pointer (some ae)))) (hgr:∃cs ty,w.heap[2]? = some (.cells cs ty (0,0))/\trTy (.cells cs ty (0,0))=false) :
  Calls Tryz.prog 86 #[.pointer (some ⟨dp,0,none⟩),.pointer (some ⟨b,0,none⟩),.map (some fb)] w fun e w'=>e = .returned (.iface 330 (.pointer (some ae)))/\Below w0.heap.size w0 w':=by
 obtain ⟨cur,hr,hrs⟩:=hr
 obtain ⟨csg,tyg,hgg,htg⟩:=hgr
 obtain ⟨W1,hW1⟩:∃W1,W1=(w.alloc (.cells #[.pointer (some ⟨dp,0,none⟩)] 25)).alloc (.cells #[.map (some fb)] 96):=⟨_,rfl⟩
 have hbel:Below w.heap.size w W1:=by rw [hW1];exact ((Below.refl _ w).alloc (Nat.le_refl _) _).alloc (by simp) _
 have hblk:∀k o,w.heap[k]? = some o->W1.heap[k]? = some o:=fun k o hk=>by rw [hbel.block k (Array.getElem?_eq_some_iff.1 hk).1];exact hk
 have r1:W1.heap[w.heap.size]? = some (.cells #[.pointer (some ⟨dp,0,none⟩)] 25 (0,0)):=by
  rw [hW1,Below.heap_alloc _ _ _ (by simp)];exact heap_alloc_last w _
 have r2:W1.heap[w.heap.size+1]? = some (.cells #[.map (some fb)] 96 (0,0)):=by
  rw [hW1]
  have h:=heap_alloc_last (w.alloc (.cells #[.pointer (some ⟨dp,0,none⟩)] 25)) (.cells #[.map (some fb)] 96)
  rw [World.size_alloc] at h;exact h
 have HEA:Hid (Calls Tryz.prog 133 #[.pointer (some ⟨b,0,none⟩),.string { data:=#[] },.func (.func 136) #[] #[.pointer (some ⟨w.heap.size,0,none⟩),.pointer (some ⟨w.heap.size+1,0,none⟩)]] W1 fun e w'=>e = .returned (.iface 330 (.pointer (some ae)))/\Below w0.heap.size w0 w'):=by
  refine (each_gen (enters_of Tryz.func136 (by kernel_rfl) rfl) _ (fill_rot ⟨T0,tb,bb,sp,sb,cap,mb,n,s,dp,m1,m2,nx,w.heap.size,w.heap.size+1,fb,nf,fs,.iface 330 (.pointer (some ae))⟩ (filesT d t) N S ι hall ae rfl w0) d t { data:=#[] } b 0 Q [] W1 cur ?_ (hT.kept (fun k c _ h=>hblk k _ h) (fun j _ _=>World.cell?_of_block ((hblk b _ hr).trans hr.symm)) (fun _ h=>h)) (.inl (hblk _ _ hr)) (by omega) hQb hG (by rw [show ({ data:=#[] }:ByteArray).size=0 from rfl];omega) hQ hb0).mono ?_
  ·rw [List.append_nil]
   refine ⟨⟨⟨[],rfl⟩,T.below hbel,?_,bel.trans (hbel.mono bel.size),r1,r2,hblk _ _ bd,?_,csg,tyg,hblk _ _ hgg,htg⟩,[],rfl,fun _ h=>absurd h (List.not_mem_nil)⟩
   ·obtain ⟨es,cl,hm⟩:=M.obj
    exact M.keep ((hblk _ _ hm).trans hm.symm)
   ·show W1.cell? _=_
    rw [World.cell?_of_block (a:=⟨2,0,none⟩) ((hblk _ _ hgg).trans hgg.symm)];exact eg
  ·rintro e w' (⟨he,⟨_,dn,h1,h2⟩,_⟩|⟨er,he,h1,h2⟩)
   ·obtain ⟨x,hx,hb⟩:=hbad
    rw [List.append_nil] at h1
    rw [<-h1] at hx
    exact absurd (h2 x hx) hb
   ·exact ⟨by rw [he,h1],h2⟩
 clear T S M hall bd hT hr hQb hQ hb0 hG bel eg hgg htg hbel hblk r1 r2 hbad
 subst hW1
 go_enter Tryz.func86,Tryz.ntmps86
 go_wp2_with fail
 refine Calls.mono HEA.out ?_
 rintro e w2 ⟨rfl,hb2⟩
 go_wp2_with fail
 go_ret
 exact ⟨rfl,hb2⟩
end
section
variable {w : World} {T0 dp tb mb m1 m2 n1 d bb sp sb cap n N : Nat} {tr : List (Option NTree)} {fb : Nat → Nat} {s : TSt}
theorem dget_bad (k:Nat) (x:NTree) (ι:ByteArray->Ino) (ae:Addr) (hk:(Lit.int .i64 (k:Int)).wf=true) (hx:ntI tr (k:Int)=some x) (D:DirAt w T0 dp tb mb m1 m2 n1 d tr fb) (T:TbAt w (fun _=>False) T0 tb bb sp sb cap mb n s.bl s.u s.tab) (S:SInv N s.bl s.u s.tab)
  (hall:∀y∈filesT (d+1) x.t,y.1.size<=maxLen/\∃q:Nat,findF x.fs y.1=some q/\slotT s.tab q=some (ι y.1)) (hbad:∃y∈filesT (d+1) x.t,¬crcR (readD s.bl (ι y.1).blocks (ι y.1).bytes)=(ι y.1).sum) (hG:GoodT (d+1) x.t) (hd:(d+1)*20<=100000)
  (eg:w.cell? ⟨2,0,none⟩=some (.iface 330 (.pointer (some ae)))) (hgr:∃cs ty,w.heap[2]? = some (.cells cs ty (0,0))/\trTy (.cells cs ty (0,0))=false) :
  Calls Tryz.prog 35 #[.pointer (some ⟨dp,0,none⟩),.int .i64 (k:Int)] w fun e w'=>e = .returned (.tuple #[.agg #[.string { data:=#[] },.string { data:=#[] },.bool false,.slice none 0 0],.iface 330 (.pointer (some ae))])/\Below w.heap.size w w':=by
 obtain ⟨W0,hW0⟩:∃W0,W0=w.alloc (.cells #[.string { data:=#[] },.string { data:=#[] },.bool false,.slice none 0 0] 31):=⟨_,rfl⟩
 have hbW:Below w.heap.size w W0:=by rw [hW0];exact (Below.refl _ w).alloc (Nat.le_refl _) _
 have hrW:W0.heap[w.heap.size]? = some (.cells #[.string { data:=#[] },.string { data:=#[] },.bool false,.slice none 0 0] 31 (0,0)):=by rw [hW0];exact heap_alloc_last w _
 have D0:=D.below hbW
 have T1:=T.below hbW
 have eg0:W0.cell? ⟨2,0,none⟩=some (.iface 330 (.pointer (some ae))):=by rw [hbW.cell (p:=⟨2,0,none⟩) (World.block_lt_of_cell? w _ eg)];exact eg
 have hgr0:∃cs ty,W0.heap[2]? = some (.cells cs ty (0,0))/\trTy (.cells cs ty (0,0))=false:=by
  obtain ⟨cs,ty,h1,h2⟩:=hgr
  exact ⟨cs,ty,by rw [hbW.block _ (Array.getElem?_eq_some_iff.1 h1).1];exact h1,h2⟩
 clear D T eg hgr
 have HH:Hid (∀W,Below W0.heap.size W0 W->Calls Tryz.prog 44 #[.pointer (some ⟨dp,0,none⟩),.int .i64 (k:Int)] W fun e w'=>e = .returned (.bool true)/\Below W.heap.size W w'):=fun W hW=>(dhas_any (k:Int) hk (D0.below hW)).mono fun e w' ⟨he,hb⟩=>⟨by rw [he,hx];rfl,hb⟩
 have HC:Hid (∀W,Below W0.heap.size W0 W->W.cell? ⟨dp,1,none⟩=some (.map (some m1))/\W.cell? ⟨dp,2,none⟩=some (.map (some m2))):=fun W hW=>⟨(D0.below hW).cells.2.1,(D0.below hW).cells.2.2.1⟩
 have HY:Hid (∀W,Below W0.heap.size W0 W->∃ad cap,(Instr.lookup 97 (.map (some m1)) (.int .i64 (k:Int)) false).run Tryz.prog W = .ok (.agg #[.string x.t.kind,.string x.t.data,.bool x.t.exec,.slice ad x.t.kids.length cap]) W/\Calls Tryz.prog 84 #[.agg #[.string x.t.kind,.string x.t.data,.bool x.t.exec,.slice ad x.t.kids.length cap]] W fun e w'=>∃ad' cap',e = .returned (.agg #[.string x.t.kind,.string x.t.data,.bool x.t.exec,.slice ad' x.t.kids.length cap'])/\OwnT w' (fun b=>W.heap.size<=b/\b<w'.heap.size) (d+1) x.t.kids (.slice ad' x.t.kids.length cap')/\Below W.heap.size W w'):=fun W hW=>by
  obtain ⟨ad,cap,K,_,e2,_⟩:=(D0.below hW).yes hk hx
  refine ⟨ad,cap,e2,(copy_own W.heap.size (d+1) x.t _ W (Nat.le_refl _) K.lies).mono fun e w' ⟨u',he,ho,hb⟩=>?_⟩
  obtain ⟨ad',cap',rfl⟩:=ho.form
  exact ⟨ad',cap',he,ho,hb⟩
 have HF:Hid (∀W1 b ad' cap',Below W0.heap.size W0 W1->OwnT W1 (fun q=>W0.heap.size<=q/\q<b) (d+1) x.t.kids (.slice ad' x.t.kids.length cap')->W0.heap.size<=b->W1.heap[b]? = some (.cells #[.string x.t.kind,.string x.t.data,.bool x.t.exec,.slice ad' x.t.kids.length cap'] 31 (0,0))->∃fb,(Instr.lookup 98 (.map (some m2)) (.int .i64 (k:Int)) false).run Tryz.prog W1 = .ok (.map (some fb)) W1/\Calls Tryz.prog 86 #[.pointer (some ⟨dp,0,none⟩),.pointer (some ⟨b,0,none⟩),.map (some fb)] W1 fun e w'=>e = .returned (.iface 330 (.pointer (some ae)))/\Below W0.heap.size W0 w'):=fun W1 b ad' cap' hW hO hb hr=>by
  obtain ⟨_,_,_,_,_,e3,M,_⟩:=(D0.below hW).yes hk hx
  refine ⟨fb k,e3,?_⟩
  have hn:NodeC W1 b 0 x.t (.slice ad' x.t.kids.length cap'):=by constructor <;> rw [cell_of_row _ _ _ _ _ _ hr] <;> rfl
  obtain ⟨csg,tyg,hgg,htg⟩:=hgr0
  have hgg1:W1.heap[2]? = some (.cells csg tyg (0,0)):=by rw [hW.block _ (Array.getElem?_eq_some_iff.1 hgg).1];exact hgg
  refine fill_bad (w0:=W0) (T1.below hW) S M ι ae (fun y hy=>?_) hbad (D0.below hW).box (TreeIn.of_own hO hn) ⟨_,hr,by simp⟩ (fun h=>Nat.lt_irrefl _ h.2) (fun q h=>h.1) hb hG hd hW (by rw [hW.cell (p:=⟨2,0,none⟩) (World.block_lt_of_cell? W0 _ eg0)];exact eg0) ⟨csg,tyg,hgg1,htg⟩
  obtain ⟨h1,q,h2,h3⟩:=hall y hy
  exact ⟨h1,q,by rw [fmap_find _ _ _ rfl,h2];rfl,h3⟩
 have HBW:Hid (Below w.heap.size w W0):=hbW
 have HRW:Hid (W0.heap[w.heap.size]? = some (.cells #[.string { data:=#[] },.string { data:=#[] },.bool false,.slice none 0 0] 31 (0,0))):=hrW
 have hzW:w.heap.size<W0.heap.size:=(Array.getElem?_eq_some_iff.1 hrW).1
 clear D0 T1 S hall hG hd eg0 hgr0 hx hbW hrW hbad
 have HH0:=HH.out W0 (Below.refl _ _)
 have HC0:=(HC.out W0 (Below.refl _ _)).1
 subst hW0
 go_enter Tryz.func35,Tryz.ntmps35
 go_wp2_with (first
  | (go_at_call 44;refine HH0.mono ?_;rintro e w1 ⟨rfl,b1⟩;(obtain ⟨ad1,cap1,hl1,HCP⟩:=HY.out w1 b1);(have c1:=(HC.out w1 b1).1);(have HB1:Hid _:=b1);clear b1 HH0 HY)
  | (go_at_call 84;refine HCP.mono ?_;rintro e w2 ⟨ad2,cap2,rfl,ho2,b2⟩;(have HB2:Hid (Below (w.alloc (.cells #[.string { data:=#[] },.string { data:=#[] },.bool false,.slice none 0 0] 31)).heap.size (w.alloc (.cells #[.string { data:=#[] },.string { data:=#[] },.bool false,.slice none 0 0] 31)) (w2.alloc (.cells #[.string x.t.kind,.string x.t.data,.bool x.t.exec,.slice ad2 x.t.kids.length cap2] 31))):=((HB1.out.trans (b2.mono HB1.out.size)).alloc (HB1.out.trans (b2.mono HB1.out.size)).size _));(obtain ⟨fbk,hl2,HFC⟩:=HF.out (w2.alloc (.cells #[.string x.t.kind,.string x.t.data,.bool x.t.exec,.slice ad2 x.t.kids.length cap2] 31)) w2.heap.size ad2 cap2 HB2.out (ho2.kept (fun q hq=>Below.heap_alloc _ _ _ hq.2) (fun q hq=>⟨Nat.le_trans HB1.out.size hq.1,hq.2⟩)) (Nat.le_trans HB1.out.size b2.size) (heap_alloc_last w2 _));(have c2:=(HC.out (w2.alloc (.cells #[.string x.t.kind,.string x.t.data,.bool x.t.exec,.slice ad2 x.t.kids.length cap2] 31)) HB2.out).2);clear ho2 b2 HF HCP hl1 c1)
  | (go_at_call 86;refine HFC.mono ?_;rintro e w3 ⟨rfl,b3⟩;(have hr3:=(b3.block w.heap.size hzW).trans HRW.out);(have hst:=node_store (o:=0) hr3 (by simp) ⟨{ data:=#[] },{ data:=#[] },false,[]⟩ (.slice none 0 0) (fun _=>False));(have hth:=there_row (o:=0) (n:=4) hr3 (by simp));clear HFC)
  | refine wpList_store_mid (by rfl) 31 _ _ (by rfl) w.heap.size 0 #[.string { data:=#[] },.string { data:=#[] },.bool false,.slice none 0 0] (by rfl) (by rfl) hth (by kernel_rfl) (by simp [Value.oneCell']) ?_)
 have q0:=hst.1.kind
 have q1:=hst.1.data
 have q2:=hst.1.exec
 have q3:=hst.1.kids
 have hgr:=hst.2.2
 simp only [Nat.zero_add] at q1 q2 q3
 refine bodyPost_ret (v:=.tuple #[.agg #[.string { data:=#[] },.string { data:=#[] },.bool false,.slice none 0 0],.iface 330 (.pointer (some ae))]) (by simp [results,Tryz.results35,go_sem,q0,q1,q2,q3]) rfl ⟨rfl,?_⟩
 exact (HBW.out.trans (b3.mono HBW.out.size)).grown hgr (Nat.le_trans HBW.out.size b3.size) (fun q hq=>by cases hq;exact Nat.le_refl _)
end
end
end Go.Proofs.YtpiebpiljhlneaaGreatDoor
