/-
  Sums Boxes PGet Joins PathT Named WalkE, joined.
  Conditions: those that each states.
-/
import Derived.Test.YthofhjnfkholoaaGreatDoorQ26
import Derived.Test.YthofhjnfkholoaaGreatDoorQ25
namespace Go.Proofs.YthofhjnfkholoaaGreatDoor
set_option maxRecDepth 100000
open Go.RowKit

def Fit:Nat->ab->Prop
 | 0,_=>False
 | d+1,t=>∀x∈t.kids,Fit d x.2
theorem aE.fit {w:World} {B:Nat}:∀ {d:Nat} {t:ab} {v:Value},aE w B d t.kids v->Fit d t
 | 0,_,_,h=>absurd h (by simp [aE])
 | d+1,t,v,⟨ad,cap,_,_,hk⟩=>fun x hx=>by
  obtain ⟨i,hi,he⟩:=yt hx;obtain ⟨_,_,u,_,_,_,_,_,_,_,_,h⟩:=hk i x (by rw [jc hi,he]);exact aE.fit h

/-! ### The list is the order of the walk -/
def dK (d:Nat) (x:ByteArray×Nat×ab):List (ByteArray×Nat×ab):=pre (d-x.2.1) x.1 x.2.1 x.2.2
theorem xt {most deep : Nat} {l : List (ByteArray × Nat × ab)} {i : Nat} : ∀ n, i ≤ n → (aK most deep l n).take i = (aK most deep l i).take i := by
  intro n hn
  induction n with
  | zero => have : i = 0 := by omega
            subst this; rfl
  | succ n ih =>
    rcases qO n i with hlt | hge
    · have : i = n + 1 := by omega
      subst this; rfl
    · rw [← ih hge]
      show (grow most deep (aK most deep l n) n).take i = _;unfold grow
      split
      · rfl
      · rename_i x hx
        split
        · rfl
        · have hn' : n < (aK most deep l n).length := (jb.1 hx).1
          rw [jK, yd (by rw [js]; omega), List.take_take, yu (by omega)]
theorem xu {most deep:Nat} {l:List (ByteArray×Nat×ab)} (i:Nat):(aK most deep l i).length<=(aK most deep l (i+1)).length:=by
 show _<=(grow most deep (aK most deep l i) i).length;unfold grow
 split
 ·exact jd _
 ·split
  ·exact jd _
  ·simp only [jt,js,qi];omega
theorem oR {most deep : Nat} {l : List (ByteArray × Nat × ab)} (i : Nat) : ∀ n, i ≤ n → (aK most deep l i).length ≤ (aK most deep l n).length := by
  intro n hn
  induction n with
  | zero => have : i = 0 := by omega
            subst this; exact jd _
  | succ n ih =>
    rcases qO n i with hlt | hge
    · have : i = n + 1 := by omega
      subst this; exact jd _
    · exact jm (ih hge) (xu n)

theorem tP {most deep d:Nat} {t:ab} (hd:Fit d t) (hlen:(cN most deep t).length<=most) (hdp:∀x∈cN most deep t,x.2.1<=deep) :
  ∀i,i<=most+1->(∀x∈aK most deep [(ByteArray.empty,0,t)] i,Fit (d-x.2.1) x.2.2) /\
   (aK most deep [(ByteArray.empty,0,t)] i).take i++((aK most deep [(ByteArray.empty,0,t)] i).drop i).flatMap (dK d)=pre d ByteArray.empty 0 t:=by
 intro i
 induction i with
 | zero =>
  intro _;refine ⟨fun x hx=>?_,?_⟩
  ·simp only [aK,jF] at hx
   subst hx;exact hd
  ·simp [aK,dK]
 | succ i ih =>
  intro hi;obtain ⟨h1,h2⟩:=ih (by omega);have hgr:aK most deep [(ByteArray.empty,0,t)] (i+1)=grow most deep (aK most deep [(ByteArray.empty,0,t)] i) i:=rfl;have hml:(aK most deep [(ByteArray.empty,0,t)] (i+1)).length<=most:=jm (oR (i+1) (most+1) hi) hlen;generalize hl:aK most deep [(ByteArray.empty,0,t)] i=l at *
  cases hx:l[i]? with
  | none =>
   have hle:l.length<=i:=by
    rcases qO i l.length with h|h
    ·rw [jc h] at hx;cases hx
    ·exact h
   have e:grow most deep l i=l:=(by unfold grow;rw [hx]);rw [hgr,e];refine ⟨h1,?_⟩;rw [jr (by omega),qk (by omega)];rw [jr hle,qk hle] at h2;exact h2
  | some x =>
   have hil:i<l.length:=(jb.1 hx).1;have hge:l[i]=x:=(jb.1 hx).2;have hxm:x∈l:=jg hx
   have hxd:x.2.1<=deep:=by
    have ht:=xt (most:=most) (deep:=deep) (l:=[(ByteArray.empty,0,t)]) (i:=i+1) (most+1) hi
    have hin:x∈(aK most deep [(ByteArray.empty,0,t)] (i+1)).take (i+1):=by
     have eg:grow most deep l i=if deep<x.2.1 then l else l.take (i+1)++bY most x++l.drop (i+1):=by unfold grow;rw [hx]
     rw [hgr,eg]
     split
     ·exact jg (i:=i) (by rw [List.getElem?_take,zj (by omega)];exact hx)
     ·rw [jK,yd (by rw [js];omega),List.take_take,Nat.min_self]
      exact jg (i:=i) (by rw [List.getElem?_take,zj (by omega)];exact hx)
    rw [<-ht] at hin;exact hdp x (jU hin)
   have e:grow most deep l i=l.take (i+1)++bY most x++l.drop (i+1):=by
    unfold grow;rw [hx];exact zi (by omega)
   rw [hgr,e] at hml
   have hkl:(bY most x).length<=most:=by
    simp only [jt,js,qi] at hml;omega
   have hka:x.2.2.kids.take (most+1)=x.2.2.kids:=by
    refine jr ?_;unfold bY at hkl;simp only [jB,js] at hkl;omega
   have hfx:=h1 x hxm
   obtain ⟨m,hm⟩:∃m,d-x.2.1=m+1:=by
    cases hdm:d-x.2.1 with
    | zero=>rw [hdm] at hfx;exact hfx.elim
    | succ m=>exact ⟨m,rfl⟩
   have hdk:d-(x.2.1+1)=m:=(by omega);rw [hgr,e];refine ⟨fun y hy=>?_,?_⟩
   ·rcases jT.1 hy with h|h
    ·rcases jT.1 h with h|h
     ·exact h1 y (jU h)
     ·unfold bY at h
      rw [hka] at h;obtain ⟨z,hz,rfl⟩:=jv.1 h
      simp only
      rw [hdk];rw [hm] at hfx;exact hfx z hz
    ·exact h1 y (qI h)
   ·have e1:(l.take (i+1)++bY most x++l.drop (i+1)).take (i+1)=l.take (i+1):=by
     rw [jK,yd (by rw [js];omega),List.take_take,Nat.min_self]
    have e2:(l.take (i+1)++bY most x++l.drop (i+1)).drop (i+1)=bY most x++l.drop (i+1):=by
     rw [jK];have hl1:(l.take (i+1)).length=i+1:=by rw [js];omega
     exact List.drop_left' hl1
    rw [e1,e2,qp]
    have e3:dK d x=x :: (bY most x).flatMap (dK d):=by
     unfold dK;rw [hm];simp only [pre]
     congr 1
     unfold bY;rw [hka,List.flatMap_map];simp only [hdk]
    have e4:l.drop i=x :: l.drop (i+1):=(by rw [ql hil,hge]);have e5:l.take (i+1)=l.take i ++ [x]:=(by rw [ju hil,hge]);rw [e4,jZ,e3] at h2;rw [e5,<-h2]
    simp
theorem Cf {most d:Nat} {t:ab} (hd:Fit d t) (h:dq most t=false):pre d ByteArray.empty 0 t=cN most 12 t:=by
 unfold dq at h;simp only [qh,zw] at h;have hlen:(cN most 12 t).length<=most:=by omega
 have hdp:∀x∈cN most 12 t,x.2.1<=12:=fun x hx=>by
  have:=List.any_eq_false.1 h.2 x hx
  unfold dB at this;simp at this;omega
 have:=(tP hd hlen hdp (most+1) (jd _)).2
 have hl:(aK most 12 [(ByteArray.empty,0,t)] (most+1)).length<=most+1:=by
  show (cN most 12 t).length<=_;omega
 rw [jr hl,qk hl] at this;simp only [List.flatMap_nil,qz] at this;exact this.symm
end Go.Proofs.YthofhjnfkholoaaGreatDoor
namespace Go.Proofs.YthofhjnfkholoaaGreatDoor
open Go.RowKit

def S (g:ab->Nat) (l:List (ByteArray×Nat×ab)):Nat:=(l.map fun x=>g x.2.2).sum
def one (_:ab):Nat:=1
def JU (t:ab):Nat:=if aI t=true then t.data.size else 0
def Kf (t:ab):Nat:=if aI t=true then 1 else 0
def mM (l:List (ByteArray×Nat×ab)):Prop:=∀x∈l,x.1.size<=maxLen/\x.2.1<=4611686018427387904/\x.2.2.data.size<=2001
theorem vM:∀(l:List (ByteArray×Nat×ab)) (n:Nat),n<=200->mM l->dw ck lB n l
 | [],_,_,_=>trivial
 | x :: l,n,hn,h=>by
  have hx:=h x jy;refine ⟨⟨hn,hx.1,hx.2.1,by have:=hx.2.2;unfold maxLen;omega⟩,fun he=>?_⟩;refine vM l (n+1) ?_ (fun y hy=>h y (jw _ hy));unfold ck at he
  simp only at he
  split at he
  ·cases he
  ·split at he
   ·cases he
   ·omega
def sT (l:List (ByteArray×Nat×ab)):Prop:=∀x∈l,x.2.1<=8/\aD x.2.2=none
theorem mN:∀(l:List (ByteArray×Nat×ab)) (n:Nat),n<=200->((bp ck n l).2=none↔n+l.length<=200/\sT l)
 | [],n,hn=>by simp [bp,sT,hn]
 | x :: l,n,hn=>by
  by_cases h8:8<x.2.1
  ·have e:ck n x=(n+1,some 8):=by unfold ck;rw [zj h8]
   have hr:(bp ck n (x :: l)).2=some 8:=(by simp only [bp,e]);rw [hr];refine ⟨fun h=>by simp at h,fun h=>?_⟩
   have:=(h.2 x jy).1
   omega
  ·by_cases h2:200<n+1
   ·have e:ck n x=(n+1,some 7):=by unfold ck;rw [zi h8,zj h2]
    have hr:(bp ck n (x :: l)).2=some 7:=(by simp only [bp,e]);rw [hr];refine ⟨fun h=>by simp at h,fun h=>?_⟩
    have:=h.1
    simp only [jz] at this;omega
   ·have e:ck n x=(n+1,aD x.2.2):=by unfold ck;rw [zi h8,zi h2]
    cases hne:aD x.2.2 with
    | some er =>
     have hr:(bp ck n (x :: l)).2=some er:=(by simp only [bp,e,hne]);rw [hr];refine ⟨fun h=>by simp at h,fun h=>?_⟩
     have:=(h.2 x jy).2
     rw [hne] at this;cases this
    | none =>
     have hr:(bp ck n (x :: l)).2=(bp ck (n+1) l).2:=(by simp only [bp,e,hne]);rw [hr,mN l (n+1) (by omega)];simp only [jz];refine ⟨fun h=>⟨by omega,fun y hy=>?_⟩,fun h=>⟨by omega,fun y hy=>h.2 y (jw _ hy)⟩⟩
     rcases jN.1 hy with rfl|hy
     ·exact ⟨by omega,hne⟩
     ·exact h.2 y hy
theorem cQ {d:Nat} {t:ab}:aR d t=none↔(pre d ByteArray.empty 0 t).length<=200/\sT (pre d ByteArray.empty 0 t):=by
 unfold aR;rw [mN _ 0 (by omega),j6]

end Go.Proofs.YthofhjnfkholoaaGreatDoor
namespace Go.Proofs.YthofhjnfkholoaaGreatDoor
section
set_option maxRecDepth 100000
open Go.RowKit

structure Kr (h:Nat) (w w':World):Prop where
 os:w'.os=w.os
 tape:w'.tape=w.tape
 output:w'.output=w.output
 size:w'.heap.size=w.heap.size
 block:∀k,k≠h->w'.heap[k]? = w.heap[k]?
structure Kg (b:Nat) (w w':World):Prop where
 os:w'.os=w.os
 tape:w'.tape=w.tape
 output:w'.output=w.output
 size:w.heap.size<=w'.heap.size
 block:∀k,k<w.heap.size->k≠b->w'.heap[k]? = w.heap[k]?
end
section
set_option maxRecDepth 100000
open Go.RowKit
attribute [local go_sem ↓] Go.wp_at_zero Go.wp_at_succ

theorem Cg {t:ab} (h:aD t=none):nR t.kids:=by
 obtain ⟨kd,da,ex,ki⟩:=t;unfold aD at h
 have nil:ki.length=0->nR ki:=fun e=>by
  rw [qf e];intro i j x y _ hx;simp at hx
 split at h
 ·unfold dk at h
  split at h
  ·cases h
  ·rename_i h1
   exact nil (by simp only at h1;omega)
 ·split at h
  ·unfold dm at h
   split at h
   ·cases h
   ·split at h
    ·split at h
     ·rename_i h3
      exact EJ h3
     ·cases h
    ·cases h
  ·split at h
   ·unfold dl at h
    split at h
    ·cases h
    ·rename_i h1
     simp only [not_or] at h1;exact nil (by have:=h1.2;omega)
   ·cases h
theorem rL:∀ {d:Nat} {p:ByteArray} {k:Nat} {t:ab},Fit d t->(∀x∈pre d p k t,aD x.2.2=none)->lD d t
 | 0,_,_,_,h,_=>h
 | d+1,p,k,t,h,ho=>by
  simp only [pre] at ho;exact ⟨Cg (ho (p,k,t) jy),fun y hy=>rL (p:=p++aB++y.1) (k:=k+1) (h y hy) fun x hx=>ho x (jw _ (jY.2 ⟨y,hy,hx⟩))⟩
theorem rM {d:Nat} {t:ab} (hf:Fit d t) (h:aR d t=none):lD d t:=rL (p:=ByteArray.empty) (k:=0) hf fun x hx=>((cQ.1 h).2 x hx).2
def vN (d:Nat) (t:ab) (s:ByteArray):Except Nat ab:=match aR d t with
 | some e=>.error e
 | none=>match bN s with
  | none=>.error 4
  | some l=>match rK l t with
   | none=>.error 5
   | some k=>.ok k
def JJ (a : Nat → Addr) (d : Nat) (t : ab) (s : ByteArray) (w : World) (e : Ending) (w' : World) : Prop := Bl w w' ∧
  ((∃ er, aR d t = some er ∧ e = .returned (.tuple #[.slice none 0 0, .iface 319 (.pointer (some (a er)))])) ∨
   (aR d t = none ∧ bN s = none ∧ e = .returned (.tuple #[.slice none 0 0, .iface 319 (.pointer (some (a 4)))])) ∨
   (∃ l v, aR d t = none ∧ bN s = some l ∧ e = .returned (.tuple #[v, .nilIface]) ∧ fL w' v l ∧ uM v l.length))


def JV (a : Nat → Addr) (d : Nat) (t : ab) (s : ByteArray) (w : World) (e : Ending) (w' : World) : Prop := Bl w w' ∧
  ((∃ er, vN d t s = .error er ∧ e = .returned (.tuple #[.agg #[.string { data := #[] }, .string { data := #[] }, .bool false, .slice none 0 0], .iface 319 (.pointer (some (a er)))])) ∨
   (∃ k u d', vN d t s = .ok k ∧ d' ≤ d ∧ e = .returned (.tuple #[.agg #[.string k.kind, .string k.data, .bool k.exec, u], .nilIface]) ∧ dY w' (fun b => w.heap.size ≤ b ∧ b < w'.heap.size) d' k.kids u))
theorem Ch {d:Nat} {t k:ab} {s:ByteArray} {l:List ByteArray} (h:aR d t=none) (h2:bN s=some l) (h3:rK l t=some k):vN d t s = .ok k:=by unfold vN;rw [h];simp only [h2,h3]
end
section
set_option maxRecDepth 100000
open Go.RowKit

theorem pv {s t:ByteArray} (h:s.data.toList=t.data.toList):s=t:=by
 obtain ⟨⟨a⟩⟩:=s;obtain ⟨⟨b⟩⟩:=t
 simp only at h
 subst h;rfl
def kQ (l:List ByteArray):List UInt8:=l.flatMap fun x=>47 :: x.data.toList
def eD (l:List ByteArray):ByteArray:=⟨(kQ l).toArray⟩
theorem kR (l:List ByteArray):(eD l).data.toList=kQ l:=rfl
def qn (x:ByteArray):Prop:=∀c∈x.data.toList,c≠47
theorem rN:∀ {x:List UInt8},(∀c∈x,c≠47)->∀(r:List UInt8),aS (x++47 :: r)=x :: aS r
 | [],_,r=>eR r
 | c :: x,h,r=>by
  rw [jX,eN (h c (by simp)) (rN (fun d hd=>h d (by simp [hd])) r)]
theorem tQ:∀ {x:List UInt8},(∀c∈x,c≠47)->aS x = [x]
 | [],_=>rfl
 | c :: x,h=>by rw [eN (h c (by simp)) (tQ (fun d hd=>h d (by simp [hd])))]
theorem vO:∀(x:ByteArray) (l:List ByteArray),(∀y∈x :: l,qn y)->aS (x.data.toList++kQ l)=(x :: l).map (·.data.toList)
 | x,[],h=>by
  show aS (x.data.toList ++ [])=_;rw [qz,tQ (h x (by simp))];rfl
 | x,y :: l,h=>by
  have ih:=vO y l fun z hz=>h z (by simp [hz]);show aS (x.data.toList++(47 :: y.data.toList++kQ l))=_;rw [jX,rN (h x (by simp)),ih];rfl
theorem EM (l:List ByteArray):(l.map (·.data.toList)).map (fun x=>(⟨x.toArray⟩:ByteArray))=l:=by
 rw [qC]
 have:(fun x:List UInt8=>(⟨x.toArray⟩:ByteArray)) ∘ (fun x:ByteArray=>x.data.toList)=id:=by
  funext x
  rfl
 rw [this,List.map_id]
theorem EN {x:ByteArray} {l:List ByteArray} (h:¬(l = []/\x=ByteArray.empty)):eD (x :: l)≠cH:=by
 intro e;have e2:=congrArg (fun s:ByteArray=>s.data.toList) e;simp only [kR] at e2;have e3:kQ (x :: l)=47 :: (x.data.toList++kQ l):=rfl;rw [e3] at e2;have e4:cH.data.toList = [47]:=rfl;rw [e4] at e2;simp only [qD,true_and,List.append_eq_nil_iff] at e2
 apply h
 refine ⟨?_,?_⟩
 ·cases l with
  | nil=>rfl
  | cons y l=>have:=e2.2;simp [kQ] at this
 ·have h1:=e2.1
  obtain ⟨⟨k⟩⟩:=x
  simp only at h1
  subst h1;rfl
theorem Ak {x:ByteArray} {l:List ByteArray} (hn:∀y∈x :: l,qn y) (h:¬(l = []/\x=ByteArray.empty)) :
  bN (eD (x :: l))=if decide ((x :: l).length<=8)&&(x :: l).all aM then some (x :: l) else none:=by
 have e:(eD (x :: l)).data.toList=47 :: (x.data.toList++kQ l):=rfl;rw [mh (EN h) e,vO x l hn,all_map,EM,jB]
 simp
theorem Al {l:List ByteArray} {j:Nat} {x:ByteArray} (hx:l[j]? = some x):eD (l.take (j+1))=eD (l.take j)++cH++x:=by
 have hj:j<l.length:=(jb.1 hx).1;have e:l.take (j+1)=l.take j ++ [x]:=by rw [ju hj,(jb.1 hx).2]
 apply pv
 rw [qG,yg,qG,yg,kR,kR,e];unfold kQ;rw [qp]
 simp [cH]
end
section
set_option maxRecDepth 100000
open Go.RowKit

def iX (m:List ByteArray):ByteArray:=if (eD m).toList.isEmpty=true then aB else eD m
theorem uo (m:List ByteArray):(eD m).toList.isEmpty=m.isEmpty:=by
 rw [tL,kR];cases m <;> rfl
theorem uq {x:ByteArray} (h:aM x=true):qn x:=fun c hc e=>by
 unfold aM at h;simp only [qS,qy] at h
 have:=h.2 c hc
 subst e
 simp [nb] at this
theorem GI {x:ByteArray} (h:aM x=true):x≠ByteArray.empty:=fun e=>by
 unfold aM at h;simp only [qS,zm] at h;rw [e] at h
 have:=h.1.1.1.1
 simp at this
theorem kS {m:List ByteArray} (h8:m.length<=8) (hn:m.all aM=true):bN (iX m)=some m:=by
 unfold iX;rw [uo]
 cases m with
 | nil=>exact nD
 | cons x r =>
  have hx:∀y∈x :: r,aM y=true:=fun y hy=>qy.1 hn y hy;rw [zi (by simp),Ak (fun y hy=>uq (hx y hy)) (fun h=>GI (hx x (by simp)) h.2),zj (by simp only [qS,zm];exact ⟨h8,hn⟩)]
end
section
set_option maxRecDepth 100000
open Go.RowKit

def f9:Nat->List ByteArray->ab->List (List ByteArray×ab)
 | 0,_,_=>[]
 | d+1,ns,t=>(ns,t) :: t.kids.flatMap fun x=>f9 d (ns ++ [x.1]) x.2
theorem tR (l:List ByteArray) (x:ByteArray):eD (l ++ [x])=eD l++aB++x:=by
 have h:=Al (l:=l ++ [x]) (j:=l.length) (x:=x) (by simp);rw [jr (by simp),List.take_left] at h;exact h
theorem oS:∀(d:Nat) (ns:List ByteArray) (t:ab),pre d (eD ns) ns.length t=(f9 d ns t).map fun x=>(eD x.1,x.1.length,x.2)
 | 0,_,_=>rfl
 | d+1,ns,t=>by
  simp only [pre,f9,jH,yC]
  congr 1
  rw [qr,qr]
  congr 1
  apply jQ
  intro x _;have h:=oS d (ns ++ [x.1]) x.2;rw [tR,jt] at h;exact h
def vP:Nat->ab->Prop
 | 0,_=>False
 | d+1,t=>∀x∈t.kids,aM x.1=true/\vP d x.2
theorem oT {t:ab} (h:aD t=none):∀x∈t.kids,aM x.1=true:=by
 obtain ⟨kd,da,ex,ki⟩:=t;unfold aD at h
 have nil:ki.length=0->∀x∈ki,aM x.1=true:=fun e x hx=>by
  rw [qf e] at hx;simp at hx
 split at h
 ·unfold dk at h
  split at h
  ·cases h
  ·rename_i h1
   exact nil (by simp only at h1;omega)
 ·split at h
  ·unfold dm at h
   split at h
   ·cases h
   ·split at h
    ·rename_i h2
     exact fun x hx=>qy.1 h2 x hx
    ·cases h
  ·split at h
   ·unfold dl at h
    split at h
    ·cases h
    ·rename_i h1
     simp only [not_or] at h1;exact nil (by have:=h1.2;omega)
   ·cases h
theorem rO:∀ {d:Nat} {p:ByteArray} {k:Nat} {t:ab},Fit d t->(∀x∈pre d p k t,aD x.2.2=none)->vP d t
 | 0,_,_,_,h,_=>h
 | d+1,p,k,t,h,ho=>by
  simp only [pre] at ho;exact fun y hy=>⟨oT (ho (p,k,t) jy) y hy,rO (p:=p++aB++y.1) (k:=k+1) (h y hy) fun x hx=>ho x (jw _ (jY.2 ⟨y,hy,hx⟩))⟩
theorem yM:∀ {d:Nat} {ns:List ByteArray} {t:ab},lD d t->vP d t->∀x∈f9 d ns t,∃m,x.1=ns++m/\rK m t=some x.2/\m.all aM=true
 | 0,_,_,h,_,_,_=>h.elim
 | d+1,ns,t,hr,hn,x,hx=>by
  simp only [f9,jN,jY] at hx
  rcases hx with rfl|⟨y,hy,hx⟩
  ·exact ⟨[],by simp,rfl,rfl⟩
  ·obtain ⟨m,e,ha,hall⟩:=yM (hr.2 y hy) (hn y hy).2 x hx
   obtain ⟨i,hi,hiy⟩:=yt hy;have hyi:t.kids[i]? = some y:=(by rw [jc hi,hiy]);refine ⟨y.1 :: m,by rw [e];simp,?_,by rw [List.all_cons,(hn y hy).1,hall];rfl⟩
   have hk:uN t y.1=some y.2:=by
    unfold uN;rw [zj (EK hr.1 hyi),vJ hr.1 hyi,hyi];rfl
   simp only [rK,hk];exact ha
theorem rP:∀ {d:Nat} {ns:List ByteArray} {t:ab},lD d t->((f9 d ns t).map (·.1)).Nodup
 | 0,_,_,h=>h.elim
 | d+1,ns,t,hr=>by
  have pref:∀(y:ByteArray×ab),lD d y.2->∀z∈(f9 d (ns ++ [y.1]) y.2).map (·.1),∃m,z=ns++y.1 :: m:=fun y _ z hz=>by
   have key:∀(d:Nat) (ms:List ByteArray) (t:ab),∀z∈(f9 d ms t).map (·.1),∃m,z=ms++m:=by
    intro d
    induction d with
    | zero=>intro ms t z hz;simp [f9] at hz
    | succ d ih =>
     intro ms t z hz;simp only [f9,jH,yC,jN,jY] at hz
     rcases hz with rfl|⟨x,_,hz⟩
     ·exact ⟨[],by simp⟩
     ·obtain ⟨m,e⟩:=ih _ _ z hz
      exact ⟨x.1 :: m,by rw [e];simp⟩
   obtain ⟨m,e⟩:=key d _ _ z hz;exact ⟨m,by rw [e];simp⟩
  simp only [f9,jH,yC];rw [yj];refine ⟨fun h=>?_,?_⟩
  ·obtain ⟨y,hy,hz⟩:=jY.1 h
   obtain ⟨m,e⟩:=pref y (hr.2 y hy) ns hz
   have:=congrArg List.length e
   simp at this
  ·have dist:∀(l:List (ByteArray×ab)),nR l->(∀x∈l,lD d x.2)->(l.flatMap fun x=>(f9 d (ns ++ [x.1]) x.2).map (·.1)).Nodup:=by
    intro l
    induction l with
    | nil=>intro _ _;simp
    | cons y l ih =>
     intro h1 h2;rw [jZ,List.nodup_append];refine ⟨rP (h2 y (by simp)),ih (fun i j x z hij hx hz=>h1 (i+1) (j+1) x z (by omega) (by simpa using hx) (by simpa using hz)) (fun x hx=>h2 x (by simp [hx])),fun z hz z' hz' e=>?_⟩;subst e;obtain ⟨m,e1⟩:=pref y (h2 y (by simp)) z hz;obtain ⟨x,hx,hzx⟩:=jY.1 hz';obtain ⟨m',e2⟩:=pref x (h2 x (by simp [hx])) z hzx;rw [e1] at e2;have e3:=List.append_cancel_left e2
     injection e3 with e4 _
     obtain ⟨i,hi,hix⟩:=yt hx
     have:=h1 0 (i+1) y x (by omega) rfl (by rw [qo,jc hi,hix])
     rw [e4,mi] at this;cases this
   exact dist t.kids hr.1 hr.2
end
section
set_option maxRecDepth 100000
set_option maxHeartbeats 1000000
open Go.RowKit

theorem Am {σ:Type} {step:σ->ByteArray×Nat×ab->σ×Option Nat} {ok:σ->ByteArray×Nat×ab->Prop} {J:σ->(Nat->Prop)->World->Prop} (a:Nat->Addr) (c:Addr) (B:Nat) (V:pq a 149 (.pointer (some c)) B step ok J) :
    ∀(d:Nat) (t:ab) (p:ByteArray) (k:Nat) (u:Value) (s:σ) (C:Nat->Prop) (w:World),J s C w->dJ a B w->B<=w.heap.size->aE w B d t.kids u->dw step ok s (pre d p k t) ->
      Cl 148 #[.string p,.int .i64 (k:Int),.agg #[.string t.kind,.string t.data,.bool t.exec,u],.func (.func 149) #[] #[.pointer (some c)]] w fun e w' =>
        e = .returned (lz a (bp step s (pre d p k t)).2)/\∃C',J (bp step s (pre d p k t)).1 C' w'/\bO C w w'/\∀j,C' j->C j∨w.heap.size<=j:=by
  intro d
  induction d with
  | zero=>intro t p k u s C w _ _ _ hl;exact absurd hl (by simp [aE])
  | succ d ih =>
    intro t p k u s C w hJ S hB hl hal;obtain ⟨ad,cap,rfl⟩:=hl.form;have hW:∀o,Bl w (w.alloc o):=fun o=>(je _ _).alloc (jd _) o;have hv:=V.call s C (w.alloc (.cells #[.string t.kind,.string t.data,.bool t.exec,.slice ad t.kids.length cap] 53)) d p k t (.slice ad t.kids.length cap) (V.alloc hJ _) (S.below (hW _) hB) (by simp;omega) (hl.below (hW _) hB) hal.1;have hlow:=V.low s C w hJ
    cases hst:step s (p,k,t) with
    | mk s1 o =>
      rw [hst] at hv
      cases o with
      | some er =>
        have hr:bp step s (pre (d+1) p k t)=(s1,some er):=(by simp [pre,bp,hst]);rw [hr]
        have HV:Hid (Cl 149 #[.string p,.int .i64 (k:Int),.agg #[.string t.kind,.string t.data,.bool t.exec,.slice ad t.kids.length cap],.pointer (some c)] (w.alloc (.cells #[.string t.kind,.string t.data,.bool t.exec,.slice ad t.kids.length cap] 53)) fun e w' =>
          e = .returned (.iface 319 (.pointer (some (a er))))/\∃C',J s1 C' w'/\bO C (w.alloc (.cells #[.string t.kind,.string t.data,.bool t.exec,.slice ad t.kids.length cap] 53)) w'/\∀j,C' j->C j∨(w.alloc (.cells #[.string t.kind,.string t.data,.bool t.exec,.slice ad t.kids.length cap] 53)).heap.size<=j):=hv
        have HW:Hid _:=hW;clear hr hst hal ih hv hJ S hl hlow hW;go_enter Tryz.func148,Tryz.ntmps148;go_wp2_with fail
        refine jk HV.out ?_;rintro e w2 ⟨rfl,C2,hJ2,hK2,hC2⟩;go_wp2_with fail
        go_ret;refine ⟨rfl,C2,hJ2,(bO.of_below (HW.out _)).trans hK2 (fun j h=>.inl h),fun j hj=>?_⟩
        rcases hC2 j hj with h|h
        · exact .inl h
        · exact .inr (by simp at h;omega)
      | none =>
        have hr:bp step s (pre (d+1) p k t)=bp step s1 (t.kids.flatMap fun x=>pre d (p++aB++x.1) (k+1) x.2):=(by simp [pre,bp,hst]);rw [hr]
        have hal1:dw step ok s1 (t.kids.flatMap fun x=>pre d (p++aB++x.1) (k+1) x.2):=by
          have:=hal.2
          rw [hst] at this;exact this rfl
        have HV:Hid (Cl 149 #[.string p,.int .i64 (k:Int),.agg #[.string t.kind,.string t.data,.bool t.exec,.slice ad t.kids.length cap],.pointer (some c)] (w.alloc (.cells #[.string t.kind,.string t.data,.bool t.exec,.slice ad t.kids.length cap] 53)) fun e w' =>
          e = .returned .nilIface/\∃C',J s1 C' w'/\bO C (w.alloc (.cells #[.string t.kind,.string t.data,.bool t.exec,.slice ad t.kids.length cap] 53)) w'/\∀j,C' j->C j∨(w.alloc (.cells #[.string t.kind,.string t.data,.bool t.exec,.slice ad t.kids.length cap] 53)).heap.size<=j):=hv
        have q3:(w.alloc (.cells #[.string t.kind,.string t.data,.bool t.exec,.slice ad t.kids.length cap] 53)).cell? ⟨w.heap.size,3,none⟩=some (.slice ad t.kids.length cap):=(by rw [yE _ _ _ _ rfl];rfl);have HZ:Hid ((w.alloc (.cells #[.string t.kind,.string t.data,.bool t.exec,.slice ad t.kids.length cap] 53)).heap.size=w.heap.size+1):=show _=_ by simp
        have hW1:=hW (.cells #[.string t.kind,.string t.data,.bool t.exec,.slice ad t.kids.length cap] 53);have HJ:Hid _:=hJ;have HI:Hid _:=ih;clear hr hst hal hv hW hJ ih;go_enter Tryz.func148,Tryz.ntmps148;go_wp2_with fail
        refine jk HV.out ?_;rintro e w2 ⟨rfl,C2,hJ2,hK2,hC2⟩;generalize w.alloc (.cells #[.string t.kind,.string t.data,.bool t.exec,.slice ad t.kids.length cap] 53)=W1 at *
        have q3':w2.cell? ⟨w.heap.size,3,none⟩=some (.slice ad t.kids.length cap):=by
          rw [jl (w:=W1) (hK2.block w.heap.size (by rw [HZ.out];exact Nat.lt_succ_self _) (fun hc=>Nat.lt_irrefl _ (hlow _ hc).2))];exact q3
        have HK2:Hid _:=hK2;have HC2:Hid _:=hC2;clear HV q3 hK2 hC2;have HL:=hl.open;obtain ⟨hlen,HL⟩:=HL;have HL:Hid _:=HL;have HAL:Hid _:=hal1;clear hal1 hl;go_wp2_with fail
        go_loopw [24] (fun i wr=>∃(j:Nat) (s':σ) (C':Nat->Prop),j<=t.kids.length/\i = .int .i64 j/\bp step s1 ((t.kids.take j).flatMap fun x=>pre d (p++aB++x.1) (k+1) x.2)=(s',none)/\J s' C' wr/\bO C W1 wr/\(∀m,C' m->C m∨W1.heap.size<=m)) (fun i _=>t.kids.length-(intOf i).toNat)
        case atStart=>exact ⟨0,s1,C2,jq _,rfl,rfl,hJ2,HK2.out,HC2.out⟩
        case round =>
          obtain ⟨j,s',C',hj,rfl,hrun,hJ',hK',hC'⟩:=hrel;by_cases hlt:j<t.kids.length
          · obtain ⟨x,hx⟩:∃x,t.kids[j]? = some x:=⟨t.kids[j],jc hlt⟩
            obtain ⟨b,off,rfl,u,K0⟩:∃b off,ad=some ⟨b,off,none⟩/\∃u,eV w B d b off j x u:=by
              rcases HL.out with ⟨h0,_⟩|⟨b,off,cp,e,_,hk⟩
              · rw [h0] at hlt;exact absurd hlt (by simp)
              · simp only [jo] at e
                exact ⟨b,off,e.1,hk j x hx⟩
            have hbB:Below B w wr:=(hW1.mono hB).trans (hK'.below (fun m hm=>(hlow m hm).1) (by have:=HZ.out;omega));have hBr:B<=wr.heap.size:=by have:=hK'.size;have:=HZ.out;omega
            have K:=K0.below hbB (jd _);obtain ⟨ua,uc,rfl⟩:=K.lies.form;have ha1:=HAL.out;rw [nw hx] at ha1;have ha2:=ha1.append.2 (by rw [hrun]);rw [hrun] at ha2;have ha3:=ha2.append.1
            have hbd:(p++aB++x.1).size<=maxLen/\k+1<=4611686018427387904:=by
              have hl':=K.lies
              cases d with
              | zero=>exact absurd hl' (by simp [aE])
              | succ d=>exact V.bound _ _ ha3.1
            have hp2:p.size+1+x.1.size<=9223372036854775807:=by
              have:=hbd.1
              simp only [qe,maxLen] at this;have e:aB.size=1:=rfl;omega
            have hk2:=hbd.2
            have hcall:=HI.out x.2 (p++aB++x.1) (k+1) (.slice ua x.2.kids.length uc) s' C' (wr.alloc (.cells #[.string x.1,.string x.2.kind,.string x.2.data,.bool x.2.exec,.slice ua x.2.kids.length uc] 141)) (V.alloc hJ' _)
              ((S.below hbB (jd _)).below ((je _ _).alloc (jd _) _) hBr) (by simp;omega) (K.lies.below ((je _ _).alloc (jd _) _) hBr) ha3
            have ek:((k+1:Nat):Int)=(k:Int)+1:=(by omega);rw [ek] at hcall;have n0:=K.name;have n1:=K.kind;have n2:=K.data;have n3:=K.exec;have n4:=K.kids;have HX:Hid _:=hx;have HJ':Hid _:=hJ';have HK':Hid _:=hK';have HC':Hid _:=hC';have HR:Hid _:=hrun
            cases hr2:bp step s' (pre d (p++aB++x.1) (k+1) x.2) with
            | mk s2 o =>
              rw [hr2] at hcall
              cases o with
              | some er =>
                have HF:Hid _:=oa HX.out HR.out hr2
                have HCALL:Hid (Cl 148 #[.string (p++aB++x.1),.int .i64 ((k:Int)+1),.agg #[.string x.2.kind,.string x.2.data,.bool x.2.exec,.slice ua x.2.kids.length uc],.func (.func 149) #[] #[.pointer (some c)]] (wr.alloc (.cells #[.string x.1,.string x.2.kind,.string x.2.data,.bool x.2.exec,.slice ua x.2.kids.length uc] 141)) fun e w' =>
                    e = .returned (.iface 319 (.pointer (some (a er))))/\∃C'',J s2 C'' w'/\bO C' (wr.alloc (.cells #[.string x.1,.string x.2.kind,.string x.2.data,.bool x.2.exec,.slice ua x.2.kids.length uc] 141)) w'/\∀m,C'' m->C' m∨(wr.alloc (.cells #[.string x.1,.string x.2.kind,.string x.2.data,.bool x.2.exec,.slice ua x.2.kids.length uc] 141)).heap.size<=m):=hcall
                clear hcall ek ha1 ha2 ha3 hbd hx hJ' hK' hC' hrun K K0 hbB S hlow hr2;go_wp2_with fail
                refine jk HCALL.out ?_;rintro e w4 ⟨rfl,C4,hJ4,hK4,hC4⟩;have HJ4:Hid _:=hJ4;have HK4:Hid _:=hK4;have HC4:Hid _:=hC4;clear hJ4 hK4 hC4;go_wp2_with fail
                go_ret;rw [HF.out];refine ⟨rfl,C4,HJ4.out,?_,fun m hm=>?_⟩
                · exact (bO.of_below hW1).trans (HK'.out.trans ((bO.of_below ((je _ _).alloc (jd _) _)).trans HK4.out (fun m h=>.inl h)) HC'.out) (fun m h=>.inl h)
                · rcases HC4.out m hm with h|h
                  · rcases HC'.out m h with h|h
                    · exact .inl h
                    · exact .inr (by have:=HZ.out;omega)
                  · exact .inr (by have:=HZ.out;have:=HK'.out.size;simp at h;omega)
              | none =>
                have HF:Hid _:=mK HX.out HR.out hr2
                have HCALL:Hid (Cl 148 #[.string (p++aB++x.1),.int .i64 ((k:Int)+1),.agg #[.string x.2.kind,.string x.2.data,.bool x.2.exec,.slice ua x.2.kids.length uc],.func (.func 149) #[] #[.pointer (some c)]] (wr.alloc (.cells #[.string x.1,.string x.2.kind,.string x.2.data,.bool x.2.exec,.slice ua x.2.kids.length uc] 141)) fun e w' =>
                    e = .returned .nilIface/\∃C'',J s2 C'' w'/\bO C' (wr.alloc (.cells #[.string x.1,.string x.2.kind,.string x.2.data,.bool x.2.exec,.slice ua x.2.kids.length uc] 141)) w'/\∀m,C'' m->C' m∨(wr.alloc (.cells #[.string x.1,.string x.2.kind,.string x.2.data,.bool x.2.exec,.slice ua x.2.kids.length uc] 141)).heap.size<=m):=hcall
                clear hcall ek ha1 ha2 ha3 hbd hx hJ' hK' hC' hrun K K0 hbB S hlow hr2;go_wp2_with fail
                refine jk HCALL.out ?_;rintro e w4 ⟨rfl,C4,hJ4,hK4,hC4⟩;have HJ4:Hid _:=hJ4;have HK4:Hid _:=hK4;have HC4:Hid _:=hC4;clear hJ4 hK4 hC4;go_wp2_with fail
                go_roundw
                case rel =>
                  refine ⟨j+1,s2,C4,by omega,by go_num,HF.out,HJ4.out,?_,fun m hm=>?_⟩
                  · exact HK'.out.trans ((bO.of_below ((je _ _).alloc (jd _) _)).trans HK4.out (fun m h=>.inl h)) HC'.out
                  · rcases HC4.out m hm with h|h
                    · exact HC'.out m h
                    · exact .inr (by have:=HK'.out.size;simp at h;omega)
                case measure=>simp [intOf];omega
          · have et:t.kids.take j=t.kids:=jr (by omega)
            rw [et] at hrun;have HR:Hid _:=hrun;have HJ':Hid _:=hJ';have HK':Hid _:=hK';have HC':Hid _:=hC';clear et hrun hJ' hK' hC';go_wp2_with fail
            go_ret;rw [HR.out];refine ⟨rfl,C',HJ'.out,(bO.of_below hW1).trans HK'.out (fun j h=>.inl h),fun j hj=>?_⟩
            rcases HC'.out j hj with h|h
            · exact .inl h
            · exact .inr (by have:=HZ.out;omega)
end
end Go.Proofs.YthofhjnfkholoaaGreatDoor
