/-
  Sums Boxes PGet Joins PathT Named WalkE, joined.
  Conditions: those that each states.
-/
import Derived.Test.YtcflefeedcihjaaGreatDoorQ18
import Derived.Test.YtcflefeedcihjaaGreatDoorQ14
import Derived.Test.YtcflefeedcihjaaGreatDoorQ13
namespace Go.Proofs.YtcflefeedcihjaaGreatDoor
set_option maxRecDepth 100000
open Go.RowKit

def Fit:Nat->ab->Prop
 | 0,_=>False
 | d+1,t=>∀x∈t.kids,Fit d x.2
theorem aA.fit {w:World} {B:Nat}:∀ {d:Nat} {t:ab} {v:Value},aA w B d t.kids v->Fit d t
 | 0,_,_,h=>absurd h (by simp [aA])
 | d+1,t,v,⟨ad,cap,_,_,hk⟩=>fun x hx=>by
  obtain ⟨i,hi,he⟩:=yt hx;obtain ⟨_,_,u,_,_,_,_,_,_,_,_,h⟩:=hk i x (by rw [jc hi,he]);exact aA.fit h

theorem rX:∀ {d:Nat} {t:ab},Fit d t->dR d t t=true
 | 0,_,h=>h.elim
 | d+1,t,h=>by
  rw [dm];have h1:dr t t=true:=(by simp [dr]);rw [h1,Bool.true_and];unfold dl;rw [qy];intro i hi;have hi':=qR.1 hi;rw [jc hi'];simp only [beq_self_eq_true,Bool.true_and];exact rX (h _ (List.getElem_mem hi'))

/-! ### The list is the order of the walk -/
def dU (d:Nat) (x:ByteArray×Nat×ab):List (ByteArray×Nat×ab):=pre (d-x.2.1) x.1 x.2.1 x.2.2
theorem xw {most deep : Nat} {l : List (ByteArray × Nat × ab)} {i : Nat} : ∀ n, i ≤ n → (aJ most deep l n).take i = (aJ most deep l i).take i := by
  intro n hn
  induction n with
  | zero => have : i = 0 := by omega
            subst this; rfl
  | succ n ih =>
    rcases qO n i with hlt | hge
    · have : i = n + 1 := by omega
      subst this; rfl
    · rw [← ih hge]
      show (dO most deep (aJ most deep l n) n).take i = _;unfold dO
      split
      · rfl
      · rename_i x hx
        split
        · rfl
        · have hn' : n < (aJ most deep l n).length := (jb.1 hx).1
          rw [jK, yd (by rw [js]; omega), List.take_take, yu (by omega)]
theorem xx {most deep:Nat} {l:List (ByteArray×Nat×ab)} (i:Nat):(aJ most deep l i).length<=(aJ most deep l (i+1)).length:=by
 show _<=(dO most deep (aJ most deep l i) i).length;unfold dO
 split
 ·exact jd _
 ·split
  ·exact jd _
  ·simp only [jt,js,qi];omega
theorem oV {most deep : Nat} {l : List (ByteArray × Nat × ab)} (i : Nat) : ∀ n, i ≤ n → (aJ most deep l i).length ≤ (aJ most deep l n).length := by
  intro n hn
  induction n with
  | zero => have : i = 0 := by omega
            subst this; exact jd _
  | succ n ih =>
    rcases qO n i with hlt | hge
    · have : i = n + 1 := by omega
      subst this; exact jd _
    · exact jm (ih hge) (xx n)

theorem uf {most deep d:Nat} {t:ab} (hd:Fit d t) (hlen:(cZ most deep t).length<=most) (hdp:∀x∈cZ most deep t,x.2.1<=deep) :
  ∀i,i<=most+1->(∀x∈aJ most deep [(ByteArray.empty,0,t)] i,Fit (d-x.2.1) x.2.2) /\
   (aJ most deep [(ByteArray.empty,0,t)] i).take i++((aJ most deep [(ByteArray.empty,0,t)] i).drop i).flatMap (dU d)=pre d ByteArray.empty 0 t:=by
 intro i
 induction i with
 | zero =>
  intro _;refine ⟨fun x hx=>?_,?_⟩
  ·simp only [aJ,jF] at hx
   subst hx;exact hd
  ·simp [aJ,dU]
 | succ i ih =>
  intro hi;obtain ⟨h1,h2⟩:=ih (by omega);have hgr:aJ most deep [(ByteArray.empty,0,t)] (i+1)=dO most deep (aJ most deep [(ByteArray.empty,0,t)] i) i:=rfl;have hml:(aJ most deep [(ByteArray.empty,0,t)] (i+1)).length<=most:=jm (oV (i+1) (most+1) hi) hlen;generalize hl:aJ most deep [(ByteArray.empty,0,t)] i=l at *
  cases hx:l[i]? with
  | none =>
   have hle:l.length<=i:=by
    rcases qO i l.length with h|h
    ·rw [jc h] at hx;cases hx
    ·exact h
   have e:dO most deep l i=l:=(by unfold dO;rw [hx]);rw [hgr,e];refine ⟨h1,?_⟩;rw [jr (by omega),qk (by omega)];rw [jr hle,qk hle] at h2;exact h2
  | some x =>
   have hil:i<l.length:=(jb.1 hx).1;have hge:l[i]=x:=(jb.1 hx).2;have hxm:x∈l:=jg hx
   have hxd:x.2.1<=deep:=by
    have ht:=xw (most:=most) (deep:=deep) (l:=[(ByteArray.empty,0,t)]) (i:=i+1) (most+1) hi
    have hin:x∈(aJ most deep [(ByteArray.empty,0,t)] (i+1)).take (i+1):=by
     have eg:dO most deep l i=if deep<x.2.1 then l else l.take (i+1)++ch most x++l.drop (i+1):=by unfold dO;rw [hx]
     rw [hgr,eg]
     split
     ·exact jg (i:=i) (by rw [List.getElem?_take,zj (by omega)];exact hx)
     ·rw [jK,yd (by rw [js];omega),List.take_take,Nat.min_self]
      exact jg (i:=i) (by rw [List.getElem?_take,zj (by omega)];exact hx)
    rw [<-ht] at hin;exact hdp x (jU hin)
   have e:dO most deep l i=l.take (i+1)++ch most x++l.drop (i+1):=by
    unfold dO;rw [hx];exact zi (by omega)
   rw [hgr,e] at hml
   have hkl:(ch most x).length<=most:=by
    simp only [jt,js,qi] at hml;omega
   have hka:x.2.2.kids.take (most+1)=x.2.2.kids:=by
    refine jr ?_;unfold ch at hkl;simp only [jB,js] at hkl;omega
   have hfx:=h1 x hxm
   obtain ⟨m,hm⟩:∃m,d-x.2.1=m+1:=by
    cases hdm:d-x.2.1 with
    | zero=>rw [hdm] at hfx;exact hfx.elim
    | succ m=>exact ⟨m,rfl⟩
   have hdk:d-(x.2.1+1)=m:=(by omega);rw [hgr,e];refine ⟨fun y hy=>?_,?_⟩
   ·rcases jT.1 hy with h|h
    ·rcases jT.1 h with h|h
     ·exact h1 y (jU h)
     ·unfold ch at h
      rw [hka] at h;obtain ⟨z,hz,rfl⟩:=jv.1 h
      simp only
      rw [hdk];rw [hm] at hfx;exact hfx z hz
    ·exact h1 y (qI h)
   ·have e1:(l.take (i+1)++ch most x++l.drop (i+1)).take (i+1)=l.take (i+1):=by
     rw [jK,yd (by rw [js];omega),List.take_take,Nat.min_self]
    have e2:(l.take (i+1)++ch most x++l.drop (i+1)).drop (i+1)=ch most x++l.drop (i+1):=by
     rw [jK];have hl1:(l.take (i+1)).length=i+1:=by rw [js];omega
     exact List.drop_left' hl1
    rw [e1,e2,qp]
    have e3:dU d x=x :: (ch most x).flatMap (dU d):=by
     unfold dU;rw [hm];simp only [pre]
     congr 1
     unfold ch;rw [hka,List.flatMap_map];simp only [hdk]
    have e4:l.drop i=x :: l.drop (i+1):=(by rw [ql hil,hge]);have e5:l.take (i+1)=l.take i ++ [x]:=(by rw [ju hil,hge]);rw [e4,jZ,e3] at h2;rw [e5,<-h2]
    simp
theorem BM {most d:Nat} {t:ab} (hd:Fit d t) (h:dD most t=false):pre d ByteArray.empty 0 t=cZ most 12 t:=by
 unfold dD at h;simp only [qh,zw] at h;have hlen:(cZ most 12 t).length<=most:=by omega
 have hdp:∀x∈cZ most 12 t,x.2.1<=12:=fun x hx=>by
  have:=List.any_eq_false.1 h.2 x hx
  unfold dN at this;simp at this;omega
 have:=(uf hd hlen hdp (most+1) (jd _)).2
 have hl:(aJ most 12 [(ByteArray.empty,0,t)] (most+1)).length<=most+1:=by
  show (cZ most 12 t).length<=_;omega
 rw [jr hl,qk hl] at this;simp only [List.flatMap_nil,qz] at this;exact this.symm
end Go.Proofs.YtcflefeedcihjaaGreatDoor
namespace Go.Proofs.YtcflefeedcihjaaGreatDoor
open Go.RowKit

def S (g:ab->Nat) (l:List (ByteArray×Nat×ab)):Nat:=(l.map fun x=>g x.2.2).sum
def one (_:ab):Nat:=1
def I8 (t:ab):Nat:=if au t=true then t.data.size else 0
def Js (t:ab):Nat:=if au t=true then 1 else 0
def mQ (l:List (ByteArray×Nat×ab)):Prop:=∀x∈l,x.1.size<=maxLen/\x.2.1<=4611686018427387904/\x.2.2.data.size<=2001
theorem vV:∀(l:List (ByteArray×Nat×ab)) (n:Nat),n<=200->mQ l->dH ck lG n l
 | [],_,_,_=>trivial
 | x :: l,n,hn,h=>by
  have hx:=h x jy;refine ⟨⟨hn,hx.1,hx.2.1,by have:=hx.2.2;unfold maxLen;omega⟩,fun he=>?_⟩;refine vV l (n+1) ?_ (fun y hy=>h y (jw _ hy));unfold ck at he
  simp only at he
  split at he
  ·cases he
  ·split at he
   ·cases he
   ·omega
def tF (l:List (ByteArray×Nat×ab)):Prop:=∀x∈l,x.2.1<=8/\aF x.2.2=none
theorem mR:∀(l:List (ByteArray×Nat×ab)) (n:Nat),n<=200->((bk ck n l).2=none↔n+l.length<=200/\tF l)
 | [],n,hn=>by simp [bk,tF,hn]
 | x :: l,n,hn=>by
  by_cases h8:8<x.2.1
  ·have e:ck n x=(n+1,some 8):=by unfold ck;rw [zj h8]
   have hr:(bk ck n (x :: l)).2=some 8:=(by simp only [bk,e]);rw [hr];refine ⟨fun h=>by simp at h,fun h=>?_⟩
   have:=(h.2 x jy).1
   omega
  ·by_cases h2:200<n+1
   ·have e:ck n x=(n+1,some 7):=by unfold ck;rw [zi h8,zj h2]
    have hr:(bk ck n (x :: l)).2=some 7:=(by simp only [bk,e]);rw [hr];refine ⟨fun h=>by simp at h,fun h=>?_⟩
    have:=h.1
    simp only [jz] at this;omega
   ·have e:ck n x=(n+1,aF x.2.2):=by unfold ck;rw [zi h8,zi h2]
    cases hne:aF x.2.2 with
    | some er =>
     have hr:(bk ck n (x :: l)).2=some er:=(by simp only [bk,e,hne]);rw [hr];refine ⟨fun h=>by simp at h,fun h=>?_⟩
     have:=(h.2 x jy).2
     rw [hne] at this;cases this
    | none =>
     have hr:(bk ck n (x :: l)).2=(bk ck (n+1) l).2:=(by simp only [bk,e,hne]);rw [hr,mR l (n+1) (by omega)];simp only [jz];refine ⟨fun h=>⟨by omega,fun y hy=>?_⟩,fun h=>⟨by omega,fun y hy=>h.2 y (jw _ hy)⟩⟩
     rcases jN.1 hy with rfl|hy
     ·exact ⟨by omega,hne⟩
     ·exact h.2 y hy
theorem co {d:Nat} {t:ab}:aM d t=none↔(pre d ByteArray.empty 0 t).length<=200/\tF (pre d ByteArray.empty 0 t):=by
 unfold aM;rw [mR _ 0 (by omega),j6]

end Go.Proofs.YtcflefeedcihjaaGreatDoor
namespace Go.Proofs.YtcflefeedcihjaaGreatDoor
section
set_option maxRecDepth 100000
open Go.RowKit

structure oW (h:Nat) (w w':World):Prop where
 os:w'.os=w.os
 tape:w'.tape=w.tape
 output:w'.output=w.output
 size:w'.heap.size=w.heap.size
 block:∀k,k≠h->w'.heap[k]? = w.heap[k]?
theorem oW.refl (h:Nat) (w:World):oW h w w:=⟨rfl,rfl,rfl,rfl,fun _ _=>rfl⟩
theorem oW.set {h:Nat} {w w':World} (S:oW h w w') (i:Nat) (v:Value):oW h w (w'.setCell ⟨h,i,none⟩ v) :=
 ⟨S.os,S.tape,S.output,by rw [<-S.size];simp [World.setCell],fun k hk=>by rw [jf _ _ _ _ hk];exact S.block k hk⟩
theorem oW.below {B h:Nat} {w wr w':World} (S:oW h wr w') (hb:Below B w wr) (hB:B<=h):Below B w w' :=
 ⟨S.os.trans hb.os,S.tape.trans hb.tape,S.output.trans hb.output,by rw [S.size];exact hb.size,fun k hk=>by rw [S.block k (by omega)];exact hb.block k hk⟩
theorem It {w:World} {h:Nat} {x0 x1 x2 x3:Value} {t:TypeId} (hr:w.heap[h]? = some (.cells #[x0,x1,x2,x3] t (0,0))) :
  (w.cell? ⟨h,0,none⟩=some x0/\w.cell? ⟨h,1,none⟩=some x1/\w.cell? ⟨h,2,none⟩=some x2/\w.cell? ⟨h,3,none⟩=some x3)/\w.frozen? ⟨h,0,none⟩=false/\w.frozen? ⟨h,1,none⟩=false/\w.frozen? ⟨h,2,none⟩=false/\w.frozen? ⟨h,3,none⟩=false:=by
 refine ⟨⟨?_,?_,?_,?_⟩,ar hr 0,ar hr 1,ar hr 2,ar hr 3⟩
 all_goals (rw [ze w _ _ _ _ _ hr];rfl)
structure Jt (b:Nat) (w w':World):Prop where
 os:w'.os=w.os
 tape:w'.tape=w.tape
 output:w'.output=w.output
 size:w.heap.size<=w'.heap.size
 block:∀k,k<w.heap.size->k≠b->w'.heap[k]? = w.heap[k]?
end
section
set_option maxRecDepth 100000
open Go.RowKit
attribute [local go_sem ↓] Go.wp_at_zero Go.wp_at_succ

theorem BN {t:ab} (h:aF t=none):nP t.kids:=by
 obtain ⟨kd,da,ex,ki⟩:=t;unfold aF at h
 have nil:ki.length=0->nP ki:=fun e=>by
  rw [qf e];intro i j x y _ hx;simp at hx
 split at h
 ·unfold dw at h
  split at h
  ·cases h
  ·rename_i h1
   exact nil (by simp only at h1;omega)
 ·split at h
  ·unfold dA at h
   split at h
   ·cases h
   ·split at h
    ·split at h
     ·rename_i h3
      exact DQ h3
     ·cases h
    ·cases h
  ·split at h
   ·unfold dz at h
    split at h
    ·cases h
    ·rename_i h1
     simp only [not_or] at h1;exact nil (by have:=h1.2;omega)
   ·cases h
theorem rY:∀ {d:Nat} {p:ByteArray} {k:Nat} {t:ab},Fit d t->(∀x∈pre d p k t,aF x.2.2=none)->lI d t
 | 0,_,_,_,h,_=>h
 | d+1,p,k,t,h,ho=>by
  simp only [pre] at ho;exact ⟨BN (ho (p,k,t) jy),fun y hy=>rY (p:=p++ak++y.1) (k:=k+1) (h y hy) fun x hx=>ho x (jw _ (jY.2 ⟨y,hy,hx⟩))⟩
theorem rZ {d:Nat} {t:ab} (hf:Fit d t) (h:aM d t=none):lI d t:=rY (p:=ByteArray.empty) (k:=0) hf fun x hx=>((co.1 h).2 x hx).2
def vW (d:Nat) (t:ab) (s:ByteArray):Except Nat ab:=match aM d t with
 | some e=>.error e
 | none=>match bQ s with
  | none=>.error 4
  | some l=>match rW l t with
   | none=>.error 5
   | some k=>.ok k
def IV (a : Nat → Addr) (d : Nat) (t : ab) (s : ByteArray) (w : World) (e : Ending) (w' : World) : Prop := Bl w w' ∧
  ((∃ er, aM d t = some er ∧ e = .returned (.tuple #[.slice none 0 0, .iface 329 (.pointer (some (a er)))])) ∨
   (aM d t = none ∧ bQ s = none ∧ e = .returned (.tuple #[.slice none 0 0, .iface 329 (.pointer (some (a 4)))])) ∨
   (∃ l v, aM d t = none ∧ bQ s = some l ∧ e = .returned (.tuple #[v, .nilIface]) ∧ ma w' v l ∧ vh v l.length))


def I9 (a : Nat → Addr) (d : Nat) (t : ab) (s : ByteArray) (w : World) (e : Ending) (w' : World) : Prop := Bl w w' ∧
  ((∃ er, vW d t s = .error er ∧ e = .returned (.tuple #[.agg #[.string { data := #[] }, .string { data := #[] }, .bool false, .slice none 0 0], .iface 329 (.pointer (some (a er)))])) ∨
   (∃ k u d', vW d t s = .ok k ∧ d' ≤ d ∧ e = .returned (.tuple #[.agg #[.string k.kind, .string k.data, .bool k.exec, u], .nilIface]) ∧ dh w' (fun b => w.heap.size ≤ b ∧ b < w'.heap.size) d' k.kids u))
theorem BO {d:Nat} {t k:ab} {s:ByteArray} {l:List ByteArray} (h:aM d t=none) (h2:bQ s=some l) (h3:rW l t=some k):vW d t s = .ok k:=by unfold vW;rw [h];simp only [h2,h3]
end
section
set_option maxRecDepth 100000
open Go.RowKit

theorem pH {s t:ByteArray} (h:s.data.toList=t.data.toList):s=t:=by
 obtain ⟨⟨a⟩⟩:=s;obtain ⟨⟨b⟩⟩:=t
 simp only at h
 subst h;rfl
def lg (l:List ByteArray):List UInt8:=l.flatMap fun x=>47 :: x.data.toList
def eO (l:List ByteArray):ByteArray:=⟨(lg l).toArray⟩
theorem lh (l:List ByteArray):(eO l).data.toList=lg l:=rfl
def rk (x:ByteArray):Prop:=∀c∈x.data.toList,c≠47
theorem r6:∀ {x:List UInt8},(∀c∈x,c≠47)->∀(r:List UInt8),aP (x++47 :: r)=x :: aP r
 | [],_,r=>ft r
 | c :: x,h,r=>by
  rw [jX,eZ (h c (by simp)) (r6 (fun d hd=>h d (by simp [hd])) r)]
theorem ug:∀ {x:List UInt8},(∀c∈x,c≠47)->aP x = [x]
 | [],_=>rfl
 | c :: x,h=>by rw [eZ (h c (by simp)) (ug (fun d hd=>h d (by simp [hd])))]
theorem vX:∀(x:ByteArray) (l:List ByteArray),(∀y∈x :: l,rk y)->aP (x.data.toList++lg l)=(x :: l).map (·.data.toList)
 | x,[],h=>by
  show aP (x.data.toList ++ [])=_;rw [qz,ug (h x (by simp))];rfl
 | x,y :: l,h=>by
  have ih:=vX y l fun z hz=>h z (by simp [hz]);show aP (x.data.toList++(47 :: y.data.toList++lg l))=_;rw [jX,r6 (h x (by simp)),ih];rfl
theorem DU (l:List ByteArray):(l.map (·.data.toList)).map (fun x=>(⟨x.toArray⟩:ByteArray))=l:=by
 rw [qC]
 have:(fun x:List UInt8=>(⟨x.toArray⟩:ByteArray)) ∘ (fun x:ByteArray=>x.data.toList)=id:=by
  funext x
  rfl
 rw [this,List.map_id]
theorem DV {x:ByteArray} {l:List ByteArray} (h:¬(l = []/\x=ByteArray.empty)):eO (x :: l)≠cN:=by
 intro e;have e2:=congrArg (fun s:ByteArray=>s.data.toList) e;simp only [lh] at e2;have e3:lg (x :: l)=47 :: (x.data.toList++lg l):=rfl;rw [e3] at e2;have e4:cN.data.toList = [47]:=rfl;rw [e4] at e2;simp only [qD,true_and,List.append_eq_nil_iff] at e2
 apply h
 refine ⟨?_,?_⟩
 ·cases l with
  | nil=>rfl
  | cons y l=>have:=e2.2;simp [lg] at this
 ·have h1:=e2.1
  obtain ⟨⟨k⟩⟩:=x
  simp only at h1
  subst h1;rfl
theorem Ag {x:ByteArray} {l:List ByteArray} (hn:∀y∈x :: l,rk y) (h:¬(l = []/\x=ByteArray.empty)) :
  bQ (eO (x :: l))=if decide ((x :: l).length<=8)&&(x :: l).all aL then some (x :: l) else none:=by
 have e:(eO (x :: l)).data.toList=47 :: (x.data.toList++lg l):=rfl;rw [mo (DV h) e,vX x l hn,all_map,DU,jB]
 simp
theorem Ah {l:List ByteArray} {j:Nat} {x:ByteArray} (hx:l[j]? = some x):eO (l.take (j+1))=eO (l.take j)++cN++x:=by
 have hj:j<l.length:=(jb.1 hx).1;have e:l.take (j+1)=l.take j ++ [x]:=by rw [ju hj,(jb.1 hx).2]
 apply pH
 rw [qG,yg,qG,yg,lh,lh,e];unfold lg;rw [qp]
 simp [cN]
end
section
set_option maxRecDepth 100000
open Go.RowKit

def kx (m:List ByteArray):ByteArray:=if (eO m).toList.isEmpty=true then ak else eO m
theorem uY (m:List ByteArray):(eO m).toList.isEmpty=m.isEmpty:=by
 rw [iA,lh];cases m <;> rfl
theorem uZ {x:ByteArray} (h:aL x=true):rk x:=fun c hc e=>by
 unfold aL at h;simp only [qS,qy] at h
 have:=h.2 c hc
 subst e
 simp [nb] at this
theorem FJ {x:ByteArray} (h:aL x=true):x≠ByteArray.empty:=fun e=>by
 unfold aL at h;simp only [qS,zm] at h;rw [e] at h
 have:=h.1.1.1.1
 simp at this
theorem lj {m:List ByteArray} (h8:m.length<=8) (hn:m.all aL=true):bQ (kx m)=some m:=by
 unfold kx;rw [uY]
 cases m with
 | nil=>exact ny
 | cons x r =>
  have hx:∀y∈x :: r,aL y=true:=fun y hy=>qy.1 hn y hy;rw [zi (by simp),Ag (fun y hy=>uZ (hx y hy)) (fun h=>FJ (hx x (by simp)) h.2),zj (by simp only [qS,zm];exact ⟨h8,hn⟩)]
end
section
set_option maxRecDepth 100000
open Go.RowKit

def gH:Nat->List ByteArray->ab->List (List ByteArray×ab)
 | 0,_,_=>[]
 | d+1,ns,t=>(ns,t) :: t.kids.flatMap fun x=>gH d (ns ++ [x.1]) x.2
theorem uh (l:List ByteArray) (x:ByteArray):eO (l ++ [x])=eO l++ak++x:=by
 have h:=Ah (l:=l ++ [x]) (j:=l.length) (x:=x) (by simp);rw [jr (by simp),List.take_left] at h;exact h
theorem oX:∀(d:Nat) (ns:List ByteArray) (t:ab),pre d (eO ns) ns.length t=(gH d ns t).map fun x=>(eO x.1,x.1.length,x.2)
 | 0,_,_=>rfl
 | d+1,ns,t=>by
  simp only [pre,gH,jH,yC]
  congr 1
  rw [qr,qr]
  congr 1
  apply jQ
  intro x _;have h:=oX d (ns ++ [x.1]) x.2;rw [uh,jt] at h;exact h
def d6:Nat->ab->Prop
 | 0,_=>False
 | d+1,t=>∀x∈t.kids,aL x.1=true/\d6 d x.2
theorem oY {t:ab} (h:aF t=none):∀x∈t.kids,aL x.1=true:=by
 obtain ⟨kd,da,ex,ki⟩:=t;unfold aF at h
 have nil:ki.length=0->∀x∈ki,aL x.1=true:=fun e x hx=>by
  rw [qf e] at hx;simp at hx
 split at h
 ·unfold dw at h
  split at h
  ·cases h
  ·rename_i h1
   exact nil (by simp only at h1;omega)
 ·split at h
  ·unfold dA at h
   split at h
   ·cases h
   ·split at h
    ·rename_i h2
     exact fun x hx=>qy.1 h2 x hx
    ·cases h
  ·split at h
   ·unfold dz at h
    split at h
    ·cases h
    ·rename_i h1
     simp only [not_or] at h1;exact nil (by have:=h1.2;omega)
   ·cases h
theorem nR:∀ {d:Nat} {p:ByteArray} {k:Nat} {t:ab},Fit d t->(∀x∈pre d p k t,aF x.2.2=none)->d6 d t
 | 0,_,_,_,h,_=>h
 | d+1,p,k,t,h,ho=>by
  simp only [pre] at ho;exact fun y hy=>⟨oY (ho (p,k,t) jy) y hy,nR (p:=p++ak++y.1) (k:=k+1) (h y hy) fun x hx=>ho x (jw _ (jY.2 ⟨y,hy,hx⟩))⟩
theorem yT:∀ {d:Nat} {ns:List ByteArray} {t:ab},lI d t->d6 d t->∀x∈gH d ns t,∃m,x.1=ns++m/\rW m t=some x.2/\m.all aL=true
 | 0,_,_,h,_,_,_=>h.elim
 | d+1,ns,t,hr,hn,x,hx=>by
  simp only [gH,jN,jY] at hx
  rcases hx with rfl|⟨y,hy,hx⟩
  ·exact ⟨[],by simp,rfl,rfl⟩
  ·obtain ⟨m,e,ha,hall⟩:=yT (hr.2 y hy) (hn y hy).2 x hx
   obtain ⟨i,hi,hiy⟩:=yt hy;have hyi:t.kids[i]? = some y:=(by rw [jc hi,hiy]);refine ⟨y.1 :: m,by rw [e];simp,?_,by rw [List.all_cons,(hn y hy).1,hall];rfl⟩
   have hk:vi t y.1=some y.2:=by
    unfold vi;rw [zj (DR hr.1 hyi),vS hr.1 hyi,hyi];rfl
   simp only [rW,hk];exact ha
theorem r7:∀ {d:Nat} {ns:List ByteArray} {t:ab},lI d t->((gH d ns t).map (·.1)).Nodup
 | 0,_,_,h=>h.elim
 | d+1,ns,t,hr=>by
  have pref:∀(y:ByteArray×ab),lI d y.2->∀z∈(gH d (ns ++ [y.1]) y.2).map (·.1),∃m,z=ns++y.1 :: m:=fun y _ z hz=>by
   have key:∀(d:Nat) (ms:List ByteArray) (t:ab),∀z∈(gH d ms t).map (·.1),∃m,z=ms++m:=by
    intro d
    induction d with
    | zero=>intro ms t z hz;simp [gH] at hz
    | succ d ih =>
     intro ms t z hz;simp only [gH,jH,yC,jN,jY] at hz
     rcases hz with rfl|⟨x,_,hz⟩
     ·exact ⟨[],by simp⟩
     ·obtain ⟨m,e⟩:=ih _ _ z hz
      exact ⟨x.1 :: m,by rw [e];simp⟩
   obtain ⟨m,e⟩:=key d _ _ z hz;exact ⟨m,by rw [e];simp⟩
  simp only [gH,jH,yC];rw [yj];refine ⟨fun h=>?_,?_⟩
  ·obtain ⟨y,hy,hz⟩:=jY.1 h
   obtain ⟨m,e⟩:=pref y (hr.2 y hy) ns hz
   have:=congrArg List.length e
   simp at this
  ·have dist:∀(l:List (ByteArray×ab)),nP l->(∀x∈l,lI d x.2)->(l.flatMap fun x=>(gH d (ns ++ [x.1]) x.2).map (·.1)).Nodup:=by
    intro l
    induction l with
    | nil=>intro _ _;simp
    | cons y l ih =>
     intro h1 h2;rw [jZ,List.nodup_append];refine ⟨r7 (h2 y (by simp)),ih (fun i j x z hij hx hz=>h1 (i+1) (j+1) x z (by omega) (by simpa using hx) (by simpa using hz)) (fun x hx=>h2 x (by simp [hx])),fun z hz z' hz' e=>?_⟩;subst e;obtain ⟨m,e1⟩:=pref y (h2 y (by simp)) z hz;obtain ⟨x,hx,hzx⟩:=jY.1 hz';obtain ⟨m',e2⟩:=pref x (h2 x (by simp [hx])) z hzx;rw [e1] at e2;have e3:=List.append_cancel_left e2
     injection e3 with e4 _
     obtain ⟨i,hi,hix⟩:=yt hx
     have:=h1 0 (i+1) y x (by omega) rfl (by rw [qo,jc hi,hix])
     rw [e4,mp] at this;cases this
   exact dist t.kids hr.1 hr.2
end
section
set_option maxRecDepth 100000
set_option maxHeartbeats 1000000
open Go.RowKit

theorem Ai {σ:Type} {step:σ->ByteArray×Nat×ab->σ×Option Nat} {ok:σ->ByteArray×Nat×ab->Prop} {J:σ->(Nat->Prop)->World->Prop} (a:Nat->Addr) (c:Addr) (B:Nat) (V:pE a 167 (.pointer (some c)) B step ok J) :
    ∀(d:Nat) (t:ab) (p:ByteArray) (k:Nat) (u:Value) (s:σ) (C:Nat->Prop) (w:World),J s C w->dI a B w->B<=w.heap.size->aA w B d t.kids u->dH step ok s (pre d p k t) ->
      Cl 117 #[.string p,.int .i64 (k:Int),.agg #[.string t.kind,.string t.data,.bool t.exec,u],.func (.func 167) #[] #[.pointer (some c)]] w fun e w' =>
        e = .returned (lF a (bk step s (pre d p k t)).2)/\∃C',J (bk step s (pre d p k t)).1 C' w'/\bU C w w'/\∀j,C' j->C j∨w.heap.size<=j:=by
  intro d
  induction d with
  | zero=>intro t p k u s C w _ _ _ hl;exact absurd hl (by simp [aA])
  | succ d ih =>
    intro t p k u s C w hJ S hB hl hal;obtain ⟨ad,cap,rfl⟩:=hl.form;have hW:∀o,Bl w (w.alloc o):=fun o=>(je _ _).alloc (jd _) o;have hv:=V.call s C (w.alloc (.cells #[.string t.kind,.string t.data,.bool t.exec,.slice ad t.kids.length cap] 32)) d p k t (.slice ad t.kids.length cap) (V.alloc hJ _) (S.below (hW _) hB) (by simp;omega) (hl.below (hW _) hB) hal.1;have hlow:=V.low s C w hJ
    cases hst:step s (p,k,t) with
    | mk s1 o =>
      rw [hst] at hv
      cases o with
      | some er =>
        have hr:bk step s (pre (d+1) p k t)=(s1,some er):=(by simp [pre,bk,hst]);rw [hr]
        have HV:Hid (Cl 167 #[.string p,.int .i64 (k:Int),.agg #[.string t.kind,.string t.data,.bool t.exec,.slice ad t.kids.length cap],.pointer (some c)] (w.alloc (.cells #[.string t.kind,.string t.data,.bool t.exec,.slice ad t.kids.length cap] 32)) fun e w' =>
          e = .returned (.iface 329 (.pointer (some (a er))))/\∃C',J s1 C' w'/\bU C (w.alloc (.cells #[.string t.kind,.string t.data,.bool t.exec,.slice ad t.kids.length cap] 32)) w'/\∀j,C' j->C j∨(w.alloc (.cells #[.string t.kind,.string t.data,.bool t.exec,.slice ad t.kids.length cap] 32)).heap.size<=j):=hv
        have HW:Hid _:=hW;clear hr hst hal ih hv hJ S hl hlow hW;go_enter Tryz.func117,Tryz.ntmps117;go_wp2_with fail
        refine jk HV.out ?_;rintro e w2 ⟨rfl,C2,hJ2,hK2,hC2⟩;go_wp2_with fail
        go_ret;refine ⟨rfl,C2,hJ2,(bU.of_below (HW.out _)).trans hK2 (fun j h=>.inl h),fun j hj=>?_⟩
        rcases hC2 j hj with h|h
        · exact .inl h
        · exact .inr (by simp at h;omega)
      | none =>
        have hr:bk step s (pre (d+1) p k t)=bk step s1 (t.kids.flatMap fun x=>pre d (p++ak++x.1) (k+1) x.2):=(by simp [pre,bk,hst]);rw [hr]
        have hal1:dH step ok s1 (t.kids.flatMap fun x=>pre d (p++ak++x.1) (k+1) x.2):=by
          have:=hal.2
          rw [hst] at this;exact this rfl
        have HV:Hid (Cl 167 #[.string p,.int .i64 (k:Int),.agg #[.string t.kind,.string t.data,.bool t.exec,.slice ad t.kids.length cap],.pointer (some c)] (w.alloc (.cells #[.string t.kind,.string t.data,.bool t.exec,.slice ad t.kids.length cap] 32)) fun e w' =>
          e = .returned .nilIface/\∃C',J s1 C' w'/\bU C (w.alloc (.cells #[.string t.kind,.string t.data,.bool t.exec,.slice ad t.kids.length cap] 32)) w'/\∀j,C' j->C j∨(w.alloc (.cells #[.string t.kind,.string t.data,.bool t.exec,.slice ad t.kids.length cap] 32)).heap.size<=j):=hv
        have q3:(w.alloc (.cells #[.string t.kind,.string t.data,.bool t.exec,.slice ad t.kids.length cap] 32)).cell? ⟨w.heap.size,3,none⟩=some (.slice ad t.kids.length cap):=(by rw [yE _ _ _ _ rfl];rfl);have HZ:Hid ((w.alloc (.cells #[.string t.kind,.string t.data,.bool t.exec,.slice ad t.kids.length cap] 32)).heap.size=w.heap.size+1):=show _=_ by simp
        have hW1:=hW (.cells #[.string t.kind,.string t.data,.bool t.exec,.slice ad t.kids.length cap] 32);have HJ:Hid _:=hJ;have HI:Hid _:=ih;clear hr hst hal hv hW hJ ih;go_enter Tryz.func117,Tryz.ntmps117;go_wp2_with fail
        refine jk HV.out ?_;rintro e w2 ⟨rfl,C2,hJ2,hK2,hC2⟩;generalize w.alloc (.cells #[.string t.kind,.string t.data,.bool t.exec,.slice ad t.kids.length cap] 32)=W1 at *
        have q3':w2.cell? ⟨w.heap.size,3,none⟩=some (.slice ad t.kids.length cap):=by
          rw [jl (w:=W1) (hK2.block w.heap.size (by rw [HZ.out];exact Nat.lt_succ_self _) (fun hc=>Nat.lt_irrefl _ (hlow _ hc).2))];exact q3
        have HK2:Hid _:=hK2;have HC2:Hid _:=hC2;clear HV q3 hK2 hC2;have HL:=hl.open;obtain ⟨hlen,HL⟩:=HL;have HL:Hid _:=HL;have HAL:Hid _:=hal1;clear hal1 hl;go_wp2_with fail
        go_loopw [24] (fun i wr=>∃(j:Nat) (s':σ) (C':Nat->Prop),j<=t.kids.length/\i = .int .i64 j/\bk step s1 ((t.kids.take j).flatMap fun x=>pre d (p++ak++x.1) (k+1) x.2)=(s',none)/\J s' C' wr/\bU C W1 wr/\(∀m,C' m->C m∨W1.heap.size<=m)) (fun i _=>t.kids.length-(intOf i).toNat)
        case atStart=>exact ⟨0,s1,C2,jq _,rfl,rfl,hJ2,HK2.out,HC2.out⟩
        case round =>
          obtain ⟨j,s',C',hj,rfl,hrun,hJ',hK',hC'⟩:=hrel;by_cases hlt:j<t.kids.length
          · obtain ⟨x,hx⟩:∃x,t.kids[j]? = some x:=⟨t.kids[j],jc hlt⟩
            obtain ⟨b,off,rfl,u,K0⟩:∃b off,ad=some ⟨b,off,none⟩/\∃u,eH w B d b off j x u:=by
              rcases HL.out with ⟨h0,_⟩|⟨b,off,cp,e,_,hk⟩
              · rw [h0] at hlt;exact absurd hlt (by simp)
              · simp only [jo] at e
                exact ⟨b,off,e.1,hk j x hx⟩
            have hbB:Below B w wr:=(hW1.mono hB).trans (hK'.below (fun m hm=>(hlow m hm).1) (by have:=HZ.out;omega));have hBr:B<=wr.heap.size:=by have:=hK'.size;have:=HZ.out;omega
            have K:=K0.below hbB (jd _);obtain ⟨ua,uc,rfl⟩:=K.lies.form;have ha1:=HAL.out;rw [nh hx] at ha1;have ha2:=ha1.append.2 (by rw [hrun]);rw [hrun] at ha2;have ha3:=ha2.append.1
            have hbd:(p++ak++x.1).size<=maxLen/\k+1<=4611686018427387904:=by
              have hl':=K.lies
              cases d with
              | zero=>exact absurd hl' (by simp [aA])
              | succ d=>exact V.bound _ _ ha3.1
            have hp2:p.size+1+x.1.size<=9223372036854775807:=by
              have:=hbd.1
              simp only [qe,maxLen] at this;have e:ak.size=1:=rfl;omega
            have hk2:=hbd.2
            have hcall:=HI.out x.2 (p++ak++x.1) (k+1) (.slice ua x.2.kids.length uc) s' C' (wr.alloc (.cells #[.string x.1,.string x.2.kind,.string x.2.data,.bool x.2.exec,.slice ua x.2.kids.length uc] 153)) (V.alloc hJ' _)
              ((S.below hbB (jd _)).below ((je _ _).alloc (jd _) _) hBr) (by simp;omega) (K.lies.below ((je _ _).alloc (jd _) _) hBr) ha3
            have ek:((k+1:Nat):Int)=(k:Int)+1:=(by omega);rw [ek] at hcall;have n0:=K.name;have n1:=K.kind;have n2:=K.data;have n3:=K.exec;have n4:=K.kids;have HX:Hid _:=hx;have HJ':Hid _:=hJ';have HK':Hid _:=hK';have HC':Hid _:=hC';have HR:Hid _:=hrun
            cases hr2:bk step s' (pre d (p++ak++x.1) (k+1) x.2) with
            | mk s2 o =>
              rw [hr2] at hcall
              cases o with
              | some er =>
                have HF:Hid _:=on HX.out HR.out hr2
                have HCALL:Hid (Cl 117 #[.string (p++ak++x.1),.int .i64 ((k:Int)+1),.agg #[.string x.2.kind,.string x.2.data,.bool x.2.exec,.slice ua x.2.kids.length uc],.func (.func 167) #[] #[.pointer (some c)]] (wr.alloc (.cells #[.string x.1,.string x.2.kind,.string x.2.data,.bool x.2.exec,.slice ua x.2.kids.length uc] 153)) fun e w' =>
                    e = .returned (.iface 329 (.pointer (some (a er))))/\∃C'',J s2 C'' w'/\bU C' (wr.alloc (.cells #[.string x.1,.string x.2.kind,.string x.2.data,.bool x.2.exec,.slice ua x.2.kids.length uc] 153)) w'/\∀m,C'' m->C' m∨(wr.alloc (.cells #[.string x.1,.string x.2.kind,.string x.2.data,.bool x.2.exec,.slice ua x.2.kids.length uc] 153)).heap.size<=m):=hcall
                clear hcall ek ha1 ha2 ha3 hbd hx hJ' hK' hC' hrun K K0 hbB S hlow hr2;go_wp2_with fail
                refine jk HCALL.out ?_;rintro e w4 ⟨rfl,C4,hJ4,hK4,hC4⟩;have HJ4:Hid _:=hJ4;have HK4:Hid _:=hK4;have HC4:Hid _:=hC4;clear hJ4 hK4 hC4;go_wp2_with fail
                go_ret;rw [HF.out];refine ⟨rfl,C4,HJ4.out,?_,fun m hm=>?_⟩
                · exact (bU.of_below hW1).trans (HK'.out.trans ((bU.of_below ((je _ _).alloc (jd _) _)).trans HK4.out (fun m h=>.inl h)) HC'.out) (fun m h=>.inl h)
                · rcases HC4.out m hm with h|h
                  · rcases HC'.out m h with h|h
                    · exact .inl h
                    · exact .inr (by have:=HZ.out;omega)
                  · exact .inr (by have:=HZ.out;have:=HK'.out.size;simp at h;omega)
              | none =>
                have HF:Hid _:=mJ HX.out HR.out hr2
                have HCALL:Hid (Cl 117 #[.string (p++ak++x.1),.int .i64 ((k:Int)+1),.agg #[.string x.2.kind,.string x.2.data,.bool x.2.exec,.slice ua x.2.kids.length uc],.func (.func 167) #[] #[.pointer (some c)]] (wr.alloc (.cells #[.string x.1,.string x.2.kind,.string x.2.data,.bool x.2.exec,.slice ua x.2.kids.length uc] 153)) fun e w' =>
                    e = .returned .nilIface/\∃C'',J s2 C'' w'/\bU C' (wr.alloc (.cells #[.string x.1,.string x.2.kind,.string x.2.data,.bool x.2.exec,.slice ua x.2.kids.length uc] 153)) w'/\∀m,C'' m->C' m∨(wr.alloc (.cells #[.string x.1,.string x.2.kind,.string x.2.data,.bool x.2.exec,.slice ua x.2.kids.length uc] 153)).heap.size<=m):=hcall
                clear hcall ek ha1 ha2 ha3 hbd hx hJ' hK' hC' hrun K K0 hbB S hlow hr2;go_wp2_with fail
                refine jk HCALL.out ?_;rintro e w4 ⟨rfl,C4,hJ4,hK4,hC4⟩;have HJ4:Hid _:=hJ4;have HK4:Hid _:=hK4;have HC4:Hid _:=hC4;clear hJ4 hK4 hC4;go_wp2_with fail
                go_roundw
                case rel =>
                  refine ⟨j+1,s2,C4,by omega,by go_num,HF.out,HJ4.out,?_,fun m hm=>?_⟩
                  · exact HK'.out.trans ((bU.of_below ((je _ _).alloc (jd _) _)).trans HK4.out (fun m h=>.inl h)) HC'.out
                  · rcases HC4.out m hm with h|h
                    · exact HC'.out m h
                    · exact .inr (by have:=HK'.out.size;simp at h;omega)
                case measure=>simp [intOf];omega
          · have et:t.kids.take j=t.kids:=jr (by omega)
            rw [et] at hrun;have HR:Hid _:=hrun;have HJ':Hid _:=hJ';have HK':Hid _:=hK';have HC':Hid _:=hC';clear et hrun hJ' hK' hC';go_wp2_with fail
            go_ret;rw [HR.out];refine ⟨rfl,C',HJ'.out,(bU.of_below hW1).trans HK'.out (fun j h=>.inl h),fun j hj=>?_⟩
            rcases HC'.out j hj with h|h
            · exact .inl h
            · exact .inr (by have:=HZ.out;omega)
end
end Go.Proofs.YtcflefeedcihjaaGreatDoor
