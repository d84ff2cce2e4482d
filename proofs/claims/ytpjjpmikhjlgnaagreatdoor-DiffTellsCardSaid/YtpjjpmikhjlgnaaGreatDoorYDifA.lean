/-
  What Diff and Apply tell, in plain mathematics; one change more.
  Conditions: those that each states.
-/
import Derived.Test.YtpjjpmikhjlgnaaGreatDoorLeafs
import Derived.Test.YtpjjpmikhjlgnaaGreatDoorSen
import Derived.Deep.RegionHeld3
import Derived.Deep.DrawnRows
import Derived.WalkSmall
import Derived.BigQuiet
import Derived.Deep.QuietTactic
import Derived.Test.YtpjjpmikhjlgnaaGreatDoorYPut
import Derived.Test.YtpjjpmikhjlgnaaGreatDoorDropM
import Derived.Test.YtpjjpmikhjlgnaaGreatDoorOCopy
namespace Go.Proofs.YtpjjpmikhjlgnaaGreatDoor
set_option maxHeartbeats 2000000
open Go.RowKit
attribute [local go_sem ↓] Go.wp_at_zero Go.wp_at_succ

theorem same_any (B:Nat):∀(d:Nat) (s t:Tree) (us ut:Value) (w:World),B<=w.heap.size->Lies w B d s.kids us->Lies w B d t.kids ut ->
  Calls Tryz.prog 76 #[.agg #[.string s.kind,.string s.data,.bool s.exec,us],.agg #[.string t.kind,.string t.data,.bool t.exec,ut]] w fun e w'=>e = .returned (.bool (sameB d s t))/\Below w.heap.size w w':=by
 intro d
 induction d with
 | zero=>intro s t us ut w _ hl;exact absurd hl (by simp [Lies])
 | succ d ih =>
  intro s t us ut w hB hl hl'
  have hlo:=hl.open
  have hlo':=hl'.open
  obtain ⟨sa,sc,rfl⟩:=hl.form
  obtain ⟨ta,tc,rfl⟩:=hl'.form
  have HW:Hid (∀o o',Below w.heap.size w ((w.alloc o).alloc o')):=fun o o'=>((Below.refl _ _).alloc (Nat.le_refl _) o).alloc (by simp) o'
  cases hk:(s.kind.toList==t.kind.toList)
  ·have hk':(s.kind.toList != t.kind.toList)=true:=by simp only [bne,hk];rfl
   have HE:Hid (sameB (d+1) s t=false):=show _=_ by rw [sameB_succ];unfold headSame;rw [hk];simp
   clear hl hl' ih
   go_enter Tryz.func76,Tryz.ntmps76
   go_wp2_with fail
   go_ret
   exact ⟨ret_bool (by rw [HE.out]),HW.out _ _⟩
  cases hd:(s.data.toList==t.data.toList)
  ·have hk':(s.kind.toList != t.kind.toList)=false:=by simp only [bne,hk];rfl
   have hd':(s.data.toList != t.data.toList)=true:=by simp only [bne,hd];rfl
   have HE:Hid (sameB (d+1) s t=false):=show _=_ by rw [sameB_succ];unfold headSame;rw [hk,hd];simp
   clear hl hl' ih
   go_enter Tryz.func76,Tryz.ntmps76
   go_wp2_with fail
   go_ret
   exact ⟨ret_bool (by rw [HE.out]),HW.out _ _⟩
  cases hx:(s.exec==t.exec)
  ·have hk':(s.kind.toList != t.kind.toList)=false:=by simp only [bne,hk];rfl
   have hd':(s.data.toList != t.data.toList)=false:=by simp only [bne,hd];rfl
   have hx':(s.exec != t.exec)=true:=by simp only [bne,hx];rfl
   have HE:Hid (sameB (d+1) s t=false):=show _=_ by rw [sameB_succ];unfold headSame;rw [hk,hd,hx];simp
   clear hl hl' ih
   go_enter Tryz.func76,Tryz.ntmps76
   go_wp2_with fail
   go_ret
   exact ⟨ret_bool (by rw [HE.out]),HW.out _ _⟩
  cases hn:(s.kids.length==t.kids.length)
  ·have hk':(s.kind.toList != t.kind.toList)=false:=by simp only [bne,hk];rfl
   have hd':(s.data.toList != t.data.toList)=false:=by simp only [bne,hd];rfl
   have hx':(s.exec != t.exec)=false:=by simp only [bne,hx];rfl
   have hn':((s.kids.length:Int) != (t.kids.length:Int))=true:=by simp at hn ⊢;omega
   have HE:Hid (sameB (d+1) s t=false):=show _=_ by rw [sameB_succ];unfold headSame;rw [hk,hd,hx,hn];simp
   clear hl hl' ih
   go_enter Tryz.func76,Tryz.ntmps76
   go_wp2_with fail
   go_ret
   exact ⟨ret_bool (by rw [HE.out]),HW.out _ _⟩
  have HE:Hid (sameB (d+1) s t=sameTo d s t s.kids.length):=show _=_ by rw [sameB_succ];unfold headSame;rw [hk,hd,hx,hn];rfl
  have hk':(s.kind.toList != t.kind.toList)=false:=by simp only [bne,hk];rfl
  have hd':(s.data.toList != t.data.toList)=false:=by simp only [bne,hd];rfl
  have hx':(s.exec != t.exec)=false:=by simp only [bne,hx];rfl
  have hn':((s.kids.length:Int) != (t.kids.length:Int))=false:=by simp at hn ⊢;omega
  have HN:Hid (s.kids.length=t.kids.length):=show _=_ by simpa using hn
  have HL:Hid _:=hlo
  have HL':Hid _:=hlo'
  have HIH:Hid _:=ih
  have hlen:=hlo.1
  clear hlo hlo' ih hl hl' hn
  go_enter Tryz.func76,Tryz.ntmps76
  go_wp2_with fail
  clear hk hk' hd hd' hx hx' hn'
  go_loopw [38] (fun i wr=>∃j:Nat,j<=s.kids.length/\i = .int .i64 j/\Below w.heap.size w wr/\wr.cell? ⟨w.heap.size+1,3,none⟩=some (.slice ta t.kids.length tc)/\w.heap.size+1<wr.heap.size/\sameTo d s t j=true) (fun i _=>s.kids.length-(intOf i).toNat)
  case atStart=>exact ⟨0,Nat.zero_le _,rfl,HW.out _ _,by simp,by simp,rfl⟩
  case round =>
   obtain ⟨j,hj,rfl,hb,hbox,hsz,hall⟩:=hrel
   have HA:Hid (sameTo d s t j=true):=hall
   clear hall
   by_cases hlt:j<s.kids.length
   ·have hlt':j<t.kids.length:=by have:=HN.out;omega
    obtain ⟨x,hx⟩:∃x,s.kids[j]? = some x:=⟨s.kids[j],List.getElem?_eq_getElem hlt⟩
    obtain ⟨y,hy⟩:∃y,t.kids[j]? = some y:=⟨t.kids[j],List.getElem?_eq_getElem hlt'⟩
    obtain ⟨b,off,rfl,ux,K0⟩:∃b off,sa=some ⟨b,off,none⟩/\∃u,KidAt w B d b off j x u:=by
     rcases HL.out.2 with ⟨h0,_⟩|⟨b,off,cp,e,_,hk⟩
     ·rw [h0] at hlt;exact absurd hlt (by simp)
     ·simp only [Value.slice.injEq] at e
      exact ⟨b,off,e.1,hk j x hx⟩
    obtain ⟨b',off',rfl,uy,L0⟩:∃b off,ta=some ⟨b,off,none⟩/\∃u,KidAt w B d b off j y u:=by
     rcases HL'.out.2 with ⟨h0,_⟩|⟨b,off,cp,e,_,hk⟩
     ·rw [h0] at hlt';exact absurd hlt' (by simp)
     ·simp only [Value.slice.injEq] at e
      exact ⟨b,off,e.1,hk j y hy⟩
    have K:=K0.below hb hB
    have L:=L0.below hb hB
    obtain ⟨xa,xc,rfl⟩:=K.lies.form
    obtain ⟨ya,yc,rfl⟩:=L.lies.form
    have n0:=K.name
    have n1:=K.kind
    have n2:=K.data
    have n3:=K.exec
    have n4:=K.kids
    have l0:=L.name
    have l1:=L.kind
    have l2:=L.data
    have l3:=L.exec
    have l4:=L.kids
    have lb:b'<wr.heap.size:=by have:=L.lt;have:=hb.size;omega
    have HS:Hid _:=sameTo_succ (d:=d) hx hy
    have hj0:(0:Int)<=(j:Int):=by omega
    have hj1:(j:Int)<(t.kids.length:Int):=by omega
    have HBr:Hid (B<=wr.heap.size):=by have:=hb.size;exact (show B<=wr.heap.size by omega)
    have HC:Hid (∀w3,Below wr.heap.size wr w3->Calls Tryz.prog 76 #[.agg #[.string x.2.kind,.string x.2.data,.bool x.2.exec,.slice xa x.2.kids.length xc],.agg #[.string y.2.kind,.string y.2.data,.bool y.2.exec,.slice ya y.2.kids.length yc]] w3 fun e w'=>e = .returned (.bool (sameB d x.2 y.2))/\Below w3.heap.size w3 w'/\Below wr.heap.size wr w') :=
     fun w3 h3=>(HIH.out x.2 y.2 (.slice xa x.2.kids.length xc) (.slice ya y.2.kids.length yc) w3 (by have:=HBr.out;have:=h3.size;omega) (K.lies.below h3 HBr.out) (L.lies.below h3 HBr.out)).mono fun e w' ⟨h1,h2⟩=>⟨h1,h2,h3.trans (h2.mono h3.size)⟩
    clear K L K0 L0 hx hy
    cases hnm:(x.1.toList==y.1.toList)
    ·have HF:Hid (sameTo d s t s.kids.length=false):=sameTo_mono (k:=j+1) (by omega) (by rw [HS.out,hnm];simp)
     go_wp2_with fail
     go_quiet (fail)
     go_wp2_with fail
     go_ret
     exact ⟨ret_bool (by rw [HE.out,HF.out]),below_drewN (hb.alloc hb.size _) _⟩
    ·cases hsm:sameB d x.2 y.2
     ·have HF:Hid (sameTo d s t s.kids.length=false):=sameTo_mono (k:=j+1) (by omega) (by rw [HS.out,hnm,hsm];simp)
      go_wp2_with fail
      go_region_held3 (fun w'=>w'.cell? ⟨wr.heap.size,0,none⟩=some (.string x.1)/\w'.cell? ⟨wr.heap.size,1,none⟩=some (.string x.2.kind)/\w'.cell? ⟨wr.heap.size,2,none⟩=some (.string x.2.data)/\w'.cell? ⟨wr.heap.size,3,none⟩=some (.bool x.2.exec)/\w'.cell? ⟨wr.heap.size,4,none⟩=some (.slice xa x.2.kids.length xc) /\
        w'.cell? ⟨w.heap.size+1,3,none⟩=some (.slice (some ⟨b',off',none⟩) t.kids.length tc)/\w'.cell? ⟨b',off'+j*5,none⟩=some (.string y.1)/\w'.cell? ⟨b',off'+j*5+1,none⟩=some (.string y.2.kind)/\w'.cell? ⟨b',off'+j*5+2,none⟩=some (.string y.2.data)/\w'.cell? ⟨b',off'+j*5+3,none⟩=some (.bool y.2.exec)/\w'.cell? ⟨b',off'+j*5+4,none⟩=some (.slice ya y.2.kids.length yc))
       (first
        | go_keep
        | (go_split_ands;refine ⟨?_,?_,?_,?_,?_,?_,?_,?_,?_,?_,?_⟩ <;> (rw [hb4.cell (by first|(simp;done)|(simp;omega))];assumption)))
       ((go_at_call 76;refine Calls.mono (HC.out _ (by go_grown)) ?_;rintro e w4 ⟨rfl,hb4,hb5⟩))
      go_wp2_with fail
      go_ret
      exact ⟨ret_bool (by rw [HE.out,HF.out]),hb.trans (hb5.mono hb.size)⟩
     ·have HT:Hid (sameTo d s t (j+1)=true):=show _=_ by rw [HS.out,hnm,hsm,HA.out];rfl
      go_wp2_with fail
      go_region_held3 (fun w'=>w'.cell? ⟨wr.heap.size,0,none⟩=some (.string x.1)/\w'.cell? ⟨wr.heap.size,1,none⟩=some (.string x.2.kind)/\w'.cell? ⟨wr.heap.size,2,none⟩=some (.string x.2.data)/\w'.cell? ⟨wr.heap.size,3,none⟩=some (.bool x.2.exec)/\w'.cell? ⟨wr.heap.size,4,none⟩=some (.slice xa x.2.kids.length xc) /\
        w'.cell? ⟨w.heap.size+1,3,none⟩=some (.slice (some ⟨b',off',none⟩) t.kids.length tc)/\w'.cell? ⟨b',off'+j*5,none⟩=some (.string y.1)/\w'.cell? ⟨b',off'+j*5+1,none⟩=some (.string y.2.kind)/\w'.cell? ⟨b',off'+j*5+2,none⟩=some (.string y.2.data)/\w'.cell? ⟨b',off'+j*5+3,none⟩=some (.bool y.2.exec)/\w'.cell? ⟨b',off'+j*5+4,none⟩=some (.slice ya y.2.kids.length yc))
       (first
        | go_keep
        | (go_split_ands;refine ⟨?_,?_,?_,?_,?_,?_,?_,?_,?_,?_,?_⟩ <;> (rw [hb4.cell (by first|(simp;done)|(simp;omega))];assumption)))
       ((go_at_call 76;refine Calls.mono (HC.out _ (by go_grown)) ?_;rintro e w4 ⟨rfl,hb4,hb5⟩))
      go_wp2_with fail
      go_roundw
      case rel =>
       refine ⟨j+1,by omega,by go_num,hb.trans (hb5.mono hb.size),?_,by have:=hb5.size;omega,HT.out⟩
       rw [hb5.cell (p:=⟨w.heap.size+1,3,none⟩) hsz]
       exact hbox
      case measure=>simp [intOf];omega
   ·have HM:Hid (sameTo d s t s.kids.length=true):=by
     have e:s.kids.length=j:=by omega
     rw [e];exact HA.out
    go_wp2_with fail
    go_ret
    exact ⟨ret_bool (by rw [HE.out,HM.out]),hb⟩
end Go.Proofs.YtpjjpmikhjlgnaaGreatDoor
namespace Go.Proofs.YtpjjpmikhjlgnaaGreatDoor
open Go.RowKit

structure Chg where
 kind:ByteArray
 path:ByteArray
 node:Tree
def addB:ByteArray:={ data:=#[97,100,100] }
def editB:ByteArray:={ data:=#[101,100,105,116] }
def dropB:ByteArray:={ data:=#[100,114,111,112] }
def lessB (x y:ByteArray):Bool:=Op.bytesLess x.toList y.toList
def diffK (f:ByteArray->Tree->Tree->List Chg) (ns:List ByteArray):List (ByteArray×Tree)->List (ByteArray×Tree)->List Chg
 | [],[]=>[]
 | x :: a,[]=>⟨dropB,tellP (ns ++ [x.1]),zeroT⟩ :: diffK f ns a []
 | [],y :: b=>⟨addB,tellP (ns ++ [y.1]),y.2⟩ :: diffK f ns [] b
 | x :: a,y :: b=>if lessB x.1 y.1=true then ⟨dropB,tellP (ns ++ [x.1]),zeroT⟩ :: diffK f ns a (y :: b) else if lessB y.1 x.1=true then ⟨addB,tellP (ns ++ [y.1]),y.2⟩ :: diffK f ns (x :: a) b else f x.1 x.2 y.2++diffK f ns a b
termination_by a b=>a.length+b.length
def diffN:Nat->List ByteArray->Tree->Tree->List Chg
 | 0,_,_,_=>[]
 | d+1,ns,a,b=>if isDir a=true/\isDir b=true then diffK (fun x s t=>diffN d (ns ++ [x]) s t) ns a.kids b.kids else if sameB (d+1) a b=true then [] else [⟨editB,tellP ns,b⟩]
/-! ### Trees that are well, level by level -/
def WN:Nat->Tree->Prop
 | 0,_=>False
 | n+1,t=>nodeErr t=none/\∀x∈t.kids,WN n x.2
def cnt:Nat->Tree->Nat
 | 0,_=>0
 | n+1,t=>1+(t.kids.map fun x=>cnt n x.2).sum
def cnts (n:Nat) (l:List (ByteArray×Tree)):Nat:=(l.map fun x=>cnt n x.2).sum
theorem cnt_succ (n:Nat) (t:Tree):cnt (n+1) t=1+cnts n t.kids:=rfl
theorem cnts_append (n:Nat) (l m:List (ByteArray×Tree)):cnts n (l++m)=cnts n l+cnts n m:=by simp [cnts]
theorem cnts_cons (n:Nat) (x:ByteArray×Tree) (l:List (ByteArray×Tree)):cnts n (x :: l)=cnt n x.2+cnts n l:=by simp [cnts]
theorem WN.fit:∀ {n:Nat} {t:Tree},WN n t->Fit n t
 | 0,_,h=>h
 | _+1,_,h=>fun x hx=>WN.fit (h.2 x hx)
theorem WN.rises {n:Nat} {t:Tree} (h:WN n t):Rises t.kids:=by
 cases n with
 | zero=>exact h.elim
 | succ n=>exact rises_dir h.1
theorem WN.risesD:∀ {n:Nat} {t:Tree},WN n t->RisesD n t
 | 0,_,h=>h
 | _+1,_,h=>⟨rises_dir h.1,fun x hx=>WN.risesD (h.2 x hx)⟩
theorem cnt_pre:∀ {n:Nat} {p:ByteArray} {k:Nat} {t:Tree},(pre n p k t).length=cnt n t
 | 0,_,_,_=>rfl
 | n+1,p,k,t=>by
  simp only [pre,List.length_cons,List.length_flatMap,cnt]
  rw [Nat.add_comm]
  congr 2
  exact List.map_congr_left fun x _=>cnt_pre
theorem WN.all:∀ {n k:Nat} {p:ByteArray} {t:Tree},WN n t->k+n=9->∀x∈pre n p k t,x.2.1<=8/\nodeErr x.2.2=none
 | 0,_,_,_,h,_,_,_=>h.elim
 | n+1,k,p,t,h,hk,x,hx=>by
  simp only [pre] at hx
  rcases List.mem_cons.1 hx with rfl|hx
  ·exact ⟨by simp only;omega,h.1⟩
  ·obtain ⟨y,hy,hx⟩:=List.mem_flatMap.1 hx
   exact WN.all (h.2 y hy) (by omega) x hx
theorem WN.of:∀ {d n k:Nat} {p:ByteArray} {t:Tree},Fit d t->k+n=9->(∀x∈pre d p k t,x.2.1<=8/\nodeErr x.2.2=none)->WN n t
 | 0,_,_,_,_,h,_,_=>h.elim
 | d+1,n,k,p,t,hf,hk,h=>by
  simp only [pre] at h
  have h0:=h (p,k,t) List.mem_cons_self
  cases n with
  | zero=>simp only at h0;omega
  | succ n=>exact ⟨h0.2,fun y hy=>WN.of (d:=d) (k:=k+1) (p:=p++slash++y.1) (hf y hy) (by omega) fun x hx=>h x (List.mem_cons_of_mem _ (List.mem_flatMap.2 ⟨y,hy,hx⟩))⟩
theorem well_iff {d:Nat} {t:Tree} (hf:Fit d t):treeErr d t=none↔WN 9 t/\cnt 9 t<=200:=by
 constructor
 ·intro h
  obtain ⟨h1,h2⟩:=treeErr_none.1 h
  have hw:WN 9 t:=WN.of hf (by omega) h2
  refine ⟨hw,?_⟩
  rw [<-cnt_pre (p:=ByteArray.empty) (k:=0)]
  rcases Nat.le_total d 9 with hd|hd
  ·rw [pre_up hf hd];exact h1
  ·rw [<-pre_up hw.fit hd];exact h1
 ·rintro ⟨h1,h2⟩
  rw [<-cnt_pre (p:=ByteArray.empty) (k:=0)] at h2
  have h9:treeErr 9 t=none:=treeErr_none.2 ⟨h2,h1.all (by omega)⟩
  rcases Nat.le_total d 9 with hd|hd
  ·rw [<-treeErr_up hf hd];exact h9
  ·rw [treeErr_up h1.fit hd];exact h9
/-! ### A node at a path, and another one there -/
theorem set_set {A B:Tree}:∀ {p:List ByteArray} {t k:Tree},atR p t=some k->setAt B p (setAt A p t)=setAt B p t
 | [],_,_,_=>rfl
 | z :: r,t,k,h=>by
  simp only [atR] at h
  cases hq:kidOf t z with
  | none=>rw [hq] at h;cases h
  | some q =>
   rw [hq] at h
   simp only at h
   have hs:=kid_set_there (setAt A r q) hq
   simp only [setAt,hq,Option.getD_some,hs.1,setKid_twice,set_set h]
theorem set_in {X Z:Tree} {l:List ByteArray}:∀ {p:List ByteArray} {t k:Tree},atR p t=some k->setAt X (p++l) (setAt Z p t)=setAt (setAt X l Z) p t
 | [],_,_,_=>rfl
 | z :: r,t,k,h=>by
  simp only [atR] at h
  cases hq:kidOf t z with
  | none=>rw [hq] at h;cases h
  | some q =>
   rw [hq] at h
   simp only at h
   have hs:=kid_set_there (setAt Z r q) hq
   simp only [List.cons_append,setAt,hq,Option.getD_some,hs.1,setKid_twice,set_in h]
theorem at_in {Z:Tree} {l:List ByteArray}:∀ {p:List ByteArray} {t k:Tree},atR p t=some k->atR (p++l) (setAt Z p t)=atR l Z
 | [],_,_,_=>rfl
 | z :: r,t,k,h=>by
  simp only [atR] at h
  cases hq:kidOf t z with
  | none=>rw [hq] at h;cases h
  | some q =>
   rw [hq] at h
   simp only at h
   have hs:=kid_set_there (setAt Z r q) hq
   simp only [List.cons_append,setAt,hq,Option.getD_some,atR,hs.1]
   exact at_in h
theorem drop_cons (z:ByteArray) (l:List ByteArray) (hl:l≠[]) (t:Tree):dropAt (z :: l) t = { t with kids:=setKid t.kids z (dropAt l ((kidOf t z).getD zeroT)) }:=by
 cases l with
 | nil=>exact absurd rfl hl
 | cons y l=>rfl
theorem drop_in {Z:Tree} {l:List ByteArray} (hl:l≠[]):∀ {p:List ByteArray} {t k:Tree},atR p t=some k->dropAt (p++l) (setAt Z p t)=setAt (dropAt l Z) p t
 | [],_,_,_=>rfl
 | z :: r,t,k,h=>by
  simp only [atR] at h
  cases hq:kidOf t z with
  | none=>rw [hq] at h;cases h
  | some q =>
   rw [hq] at h
   simp only at h
   have hs:=kid_set_there (setAt Z r q) hq
   rw [List.cons_append,drop_cons z (r++l) (by simp [hl])]
   simp only [setAt,hq,Option.getD_some,hs.1,setKid_twice,drop_in hl h]
end Go.Proofs.YtpjjpmikhjlgnaaGreatDoor
namespace Go.Proofs.YtpjjpmikhjlgnaaGreatDoor
open Go.RowKit

theorem less_tri:∀ {a b:List UInt8},Op.bytesLess a b=false->Op.bytesLess b a=false->a=b
 | [],[],_,_=>rfl
 | [],_ :: _,h,_=>by simp [Op.bytesLess] at h
 | _ :: _,[],_,h=>by simp [Op.bytesLess] at h
 | a :: x,b :: y,h1,h2=>by
  simp only [Op.bytesLess,Bool.or_eq_false_iff,decide_eq_false_iff_not,Bool.and_eq_false_iff] at h1 h2
  have e:a=b:=UInt8.le_antisymm (UInt8.not_lt.1 h2.1) (UInt8.not_lt.1 h1.1)
  subst e
  have g1:Op.bytesLess x y=false:=by rcases h1.2 with h|h;simp at h;exact h
  have g2:Op.bytesLess y x=false:=by rcases h2.2 with h|h;simp at h;exact h
  rw [less_tri g1 g2]
theorem lessB_tri {x y:ByteArray} (h1:lessB x y=false) (h2:lessB y x=false):x=y:=ba_ext (less_tri h1 h2)
theorem less_not_back {a b:List UInt8} (h:Op.bytesLess a b=true):Op.bytesLess b a=false:=by
 cases h2:Op.bytesLess b a with
 | false=>rfl
 | true=>have:=less_trans h h2;rw [less_irrefl] at this;cases this
theorem ba_eqT {x y:ByteArray} (h:(x.toList==y.toList)=true):x=y:=ba_ext (by simpa using h)
theorem sameT_eq:∀(d:Nat) (s t:Tree),sameB d s t=true->s=t
 | 0,_,_,h=>by simp [sameB] at h
 | d+1,s,t,h=>by
  rw [sameB_succ] at h
  simp only [Bool.and_eq_true,headSame] at h
  obtain ⟨⟨⟨⟨h1,h2⟩,h3⟩,h4⟩,h5⟩:=h
  obtain ⟨sk,sd,sx,sl⟩:=s
  obtain ⟨tk,td,tx,tl⟩:=t
  simp only at h1 h2 h3 h4 h5
  have hl:sl.length=tl.length:=by simpa using h4
  have hk:sl=tl:=by
   apply List.ext_getElem hl
   intro i hi hi'
   unfold sameTo at h5
   have:=List.all_eq_true.1 h5 i (List.mem_range.2 hi)
   simp only [List.getElem?_eq_getElem hi,List.getElem?_eq_getElem hi',Bool.and_eq_true] at this
   exact Prod.ext (ba_eqT this.1) (sameT_eq d _ _ this.2)
  rw [ba_eqT h1,ba_eqT h2,hk,show sx=tx by simpa using h3]
theorem rises_pair {l:List (ByteArray×Tree)}:Rises l↔l.Pairwise fun x y=>Op.bytesLess x.1.toList y.1.toList=true:=by
 rw [List.pairwise_iff_getElem]
 constructor
 ·intro h i j hi hj hij
  exact h i j _ _ hij (List.getElem?_eq_getElem hi) (List.getElem?_eq_getElem hj)
 ·intro h i j x y hij hx hy
  obtain ⟨hi,rfl⟩:=List.getElem?_eq_some_iff.1 hx
  obtain ⟨hj,rfl⟩:=List.getElem?_eq_some_iff.1 hy
  exact h i j hi hj hij
theorem rises_map {l m:List (ByteArray×Tree)} (h:l.map (·.1)=m.map (·.1)) (hr:Rises l):Rises m:=by
 rw [rises_pair] at hr ⊢
 have e:∀l:List (ByteArray×Tree),(l.Pairwise fun x y=>Op.bytesLess x.1.toList y.1.toList=true)↔(l.map (·.1)).Pairwise fun x y=>Op.bytesLess x.toList y.toList=true:=fun l=>by rw [List.pairwise_map]
 rw [e,<-h,<-e]
 exact hr
theorem node_dir {t:Tree} {K:List (ByteArray×Tree)} (h:nodeErr t=none) (hd:isDir t=true) (hn:∀x∈K,nameB x.1=true) (hr:Rises K):nodeErr { t with kids:=K }=none:=by
 have hf:isFile t=false:=by
  unfold isDir at hd
  unfold isFile
  rw [beq_iff_eq] at hd
  rw [hd]
  rfl
 unfold nodeErr at h
 rw [if_neg (by rw [hf];decide),if_pos hd] at h
 have e1:isFile { t with kids:=K }=false:=hf
 have e2:isDir { t with kids:=K }=true:=hd
 unfold nodeErr
 rw [if_neg (by rw [e1];decide),if_pos e2]
 unfold dirErr at h ⊢
 simp only
 split at h
 ·cases h
 ·rename_i h1
  rw [if_neg h1,if_pos (List.all_eq_true.2 hn),if_pos (risesTo_of hr)]
theorem dir_names {t:Tree} (h:nodeErr t=none) (hd:isDir t=true):(∀x∈t.kids,nameB x.1=true)/\t.data=ByteArray.empty/\t.exec=false:=by
 have hf:isFile t=false:=by
  unfold isDir at hd
  unfold isFile
  rw [beq_iff_eq] at hd
  rw [hd]
  rfl
 unfold nodeErr at h
 rw [if_neg (by rw [hf];decide),if_pos hd] at h
 unfold dirErr at h
 split at h
 ·cases h
 ·rename_i h1
  simp only [not_or] at h1
  split at h
  ·rename_i h2
   refine ⟨fun x hx=>List.all_eq_true.1 h2 x hx,?_,by simpa using h1.2⟩
   have h3:t.data.toList = []:=by
    cases hh:t.data.toList with
    | nil=>rfl
    | cons a b=>rw [hh] at h1;simp at h1
   exact ba_ext (by rw [h3,ba_toList];rfl)
  ·cases h
theorem dir_eq {a b:Tree} (ha:nodeErr a=none) (hb:nodeErr b=none) (da:isDir a=true) (db:isDir b=true):{ a with kids:=b.kids }=b:=by
 obtain ⟨_,h1,h2⟩:=dir_names ha da
 obtain ⟨_,h3,h4⟩:=dir_names hb db
 obtain ⟨ak,ad,ax,al⟩:=a
 obtain ⟨bk,bd,bx,bl⟩:=b
 simp only at h1 h2 h3 h4
 subst h1 h2 h3 h4
 have e:ak=bk:=by
  unfold isDir at da db
  rw [beq_iff_eq] at da db
  exact ba_ext (by simp only at da db;rw [da,db])
 rw [e]
/-! ### Apply, change by change -/
def applyR (dc:Nat) (t:Tree) (c:Chg):Except Nat Tree :=
 if (c.kind.toList == [97,100,100])=true then (match getR 9 t c.path with
  | .ok _=>.error 6
  | .error _=>putR 9 (9+1+dc) t c.path c.node)
 else if (c.kind.toList == [101,100,105,116])=true then (match getR 9 t c.path with
  | .error e=>.error e
  | .ok _=>putR 9 (9+1+dc) t c.path c.node)
 else if (c.kind.toList == [100,114,111,112])=true then (if sameB dc c.node zeroT=true then dropR 9 t c.path else .error 2)
 else .error 3
def appliesR (dc:Nat):Nat->Tree->List Chg->Except (Nat×Nat) Tree
 | _,t,[]=>.ok t
 | i,t,c :: l=>match applyR dc t c with
  | .error e=>.error (i,e)
  | .ok t'=>appliesR dc (i+1) t' l
theorem applies_append {dc:Nat}:∀ {l m:List Chg} {i:Nat} {t t':Tree},appliesR dc i t l = .ok t'->appliesR dc i t (l++m)=appliesR dc (i+l.length) t' m
 | [],m,i,t,t',h=>by
  simp only [appliesR,Except.ok.injEq] at h
  subst h
  rfl
 | c :: l,m,i,t,t',h=>by
  simp only [List.cons_append,appliesR] at h ⊢
  cases hc:applyR dc t c with
  | error e=>rw [hc] at h;cases h
  | ok t2 =>
   rw [hc] at h
   simp only at h ⊢
   rw [applies_append h,List.length_cons]
   congr 1
   omega
theorem zero_fit {dc:Nat} (h:1<=dc):Fit dc zeroT:=by
 cases dc with
 | zero=>omega
 | succ dc=>exact fun x hx=>by simp [zeroT] at hx
structure Ctx (p:List ByteArray) (T:Tree) (d M:Nat):Prop where
 here:∃k,atR p T=some k
 deep:p.length+d=9
 names:p.all nameB=true
 room:∀Z,roomB p (setAt Z p T)=true
 well:∀Z,WN d Z->cnt d Z<=M->WN 9 (setAt Z p T)/\cnt 9 (setAt Z p T)<=200
theorem Ctx.err {p:List ByteArray} {T Z:Tree} {d M e:Nat} (C:Ctx p T d M) (hZ:WN d Z) (hc:cnt d Z<=M) (he:9<=e):treeErr e (setAt Z p T)=none :=
 (well_iff ((C.well Z hZ hc).1.fit.up he)).2 (C.well Z hZ hc)
theorem tell_at {p:List ByteArray} (h8:p.length<=8) (hn:p.all nameB=true):splitR (tellP p)=some p:=tell_split h8 hn
theorem Ctx.edit {p:List ByteArray} {T a b:Tree} {d M dc:Nat} (C:Ctx p T d M) (ha:WN d a) (hb:WN d b) (hca:cnt d a<=M) (hcb:cnt d b<=M):applyR dc (setAt a p T) ⟨editB,tellP p,b⟩ = .ok (setAt b p T):=by
 obtain ⟨k,hk⟩:=C.here
 have hd:1<=d:=by
  cases d with
  | zero=>exact ha.elim
  | succ d=>omega
 have hsp:=tell_at (by have:=C.deep;omega) C.names
 have h9:=C.err ha hca (Nat.le_refl 9)
 have e1:(editB.toList == [97,100,100])=false:=by rw [ba_toList];rfl
 have e2:(editB.toList == [101,100,105,116])=true:=by rw [ba_toList];rfl
 have hg:getR 9 (setAt a p T) (tellP p) = .ok a:=getR_some h9 hsp (at_set_there hk)
 have hp:=putR_ok (X:=b) (e:=9+1+dc) h9 hsp (C.room a) (by rw [set_set hk];exact C.err hb hcb (by omega))
 unfold applyR
 simp only
 rw [if_neg (by rw [e1];decide),if_pos e2,hg]
 simp only
 rw [hp,set_set hk]
theorem names_snoc {p:List ByteArray} {x:ByteArray} (h:p.all nameB=true) (hx:nameB x=true):(p ++ [x]).all nameB=true:=by
 rw [List.all_append,h]
 simpa using hx
theorem Ctx.drop {p:List ByteArray} {T Z k:Tree} {d M dc:Nat} {x:ByteArray} (C:Ctx p T (d+2) M) (hZ:WN (d+2) Z) (hc:cnt (d+2) Z<=M) (hdc:1<=dc) (hx:nameB x=true) (hk:kidOf Z x=some k):applyR dc (setAt Z p T) ⟨dropB,tellP (p ++ [x]),zeroT⟩ = .ok (setAt (dropAt [x] Z) p T):=by
 obtain ⟨q,hq⟩:=C.here
 have hsp:=tell_at (p:=p ++ [x]) (by have:=C.deep;simp;omega) (names_snoc C.names hx)
 have h9:=C.err hZ hc (Nat.le_refl 9)
 have e1:(dropB.toList == [97,100,100])=false:=by rw [ba_toList];rfl
 have e2:(dropB.toList == [101,100,105,116])=false:=by rw [ba_toList];rfl
 have e3:(dropB.toList == [100,114,111,112])=true:=by rw [ba_toList];rfl
 have hat:atR (p ++ [x]) (setAt Z p T)=some k:=by
  rw [at_in hq]
  simp only [atR,hk]
 unfold applyR
 simp only
 rw [if_neg (by rw [e1];decide),if_neg (by rw [e2];decide),if_pos e3,if_pos (sameB_refl (zero_fit hdc)),dropR_ok h9 hsp hat,drop_in (by simp) hq]
theorem Ctx.add {p:List ByteArray} {T Z X:Tree} {d M dc:Nat} {x:ByteArray} (C:Ctx p T (d+2) M) (hZ:WN (d+2) Z) (hc:cnt (d+2) Z<=M) (hdir:isDir Z=true) (hx:nameB x=true) (hk:kidOf Z x=none) (hZ':WN (d+2) (setAt X [x] Z)) (hc':cnt (d+2) (setAt X [x] Z)<=M) :
  applyR dc (setAt Z p T) ⟨addB,tellP (p ++ [x]),X⟩ = .ok (setAt (setAt X [x] Z) p T):=by
 obtain ⟨q,hq⟩:=C.here
 have hsp:=tell_at (p:=p ++ [x]) (by have:=C.deep;simp;omega) (names_snoc C.names hx)
 have h9:=C.err hZ hc (Nat.le_refl 9)
 have e1:(addB.toList == [97,100,100])=true:=by rw [ba_toList];rfl
 have hat:atR (p ++ [x]) (setAt Z p T)=none:=by
  rw [at_in hq]
  simp only [atR,hk]
 have hr:roomB (p ++ [x]) (setAt Z p T)=true:=by
  rw [roomB_snoc,at_set_there hq]
  exact hdir
 have hp:=putR_ok (X:=X) (e:=9+1+dc) h9 hsp hr (by rw [set_in hq];exact C.err hZ' hc' (by omega))
 unfold applyR
 simp only
 rw [if_pos e1,getR_none h9 hsp hat]
 simp only
 rw [hp,set_in hq]
/-! ### The kids of a dir, one by one -/
theorem rises_split {l m:List (ByteArray×Tree)} (h:Rises (l++m)):Rises l/\Rises m/\∀x∈l,∀y∈m,Op.bytesLess x.1.toList y.1.toList=true:=by
 rw [rises_pair,List.pairwise_append] at h
 exact ⟨rises_pair.2 h.1,rises_pair.2 h.2.1,h.2.2⟩
theorem rises_join {l m:List (ByteArray×Tree)} (h1:Rises l) (h2:Rises m) (h3:∀x∈l,∀y∈m,Op.bytesLess x.1.toList y.1.toList=true):Rises (l++m):=by
 rw [rises_pair,List.pairwise_append]
 exact ⟨rises_pair.1 h1,rises_pair.1 h2,h3⟩
theorem rises_cons {x:ByteArray×Tree} {l:List (ByteArray×Tree)} (h:Rises (x :: l)):Rises l/\∀y∈l,Op.bytesLess x.1.toList y.1.toList=true:=by
 rw [rises_pair,List.pairwise_cons] at h
 exact ⟨rises_pair.2 h.2,h.1⟩
theorem rises_head {x:ByteArray×Tree} {l:List (ByteArray×Tree)} (h1:Rises l) (h2:∀y∈l,Op.bytesLess x.1.toList y.1.toList=true):Rises (x :: l):=by
 rw [rises_pair,List.pairwise_cons]
 exact ⟨h2,rises_pair.1 h1⟩
theorem drop_mid {a:Tree} {dn ra:List (ByteArray×Tree)} {x:ByteArray×Tree} (hr:Rises (dn++x :: ra)):kidOf { a with kids:=dn++x :: ra } x.1=some x.2/\dropAt [x.1] { a with kids:=dn++x :: ra } = { a with kids:=dn++ra }:=by
 have hx:(dn++x :: ra)[dn.length]? = some x:=by
  rw [List.getElem?_append_right (Nat.le_refl _),Nat.sub_self]
  rfl
 refine ⟨(kid_mem (t:={ a with kids:=dn++x :: ra }) hr).2 (by simp),?_⟩
 simp only [dropAt]
 rw [place_at hr hx,List.eraseIdx_append_of_length_le (Nat.le_refl _),Nat.sub_self]
 rfl
theorem put_mid {a X:Tree} {dn ra:List (ByteArray×Tree)} {x:ByteArray} (hr:Rises (dn++ra)) (h1:∀z∈dn,Op.bytesLess z.1.toList x.toList=true) (h2:∀z∈ra,Op.bytesLess x.toList z.1.toList=true) :
  kidOf { a with kids:=dn++ra } x=none/\setAt X [x] { a with kids:=dn++ra } = { a with kids:=dn++(x,X) :: ra }:=by
 have hn:thereAt (dn++ra) x=false:=by
  cases h:thereAt (dn++ra) x with
  | false=>rfl
  | true =>
   obtain ⟨z,hz,e⟩:=(there_mem hr).1 h
   rcases List.mem_append.1 hz with hz|hz
   ·have:=h1 z hz;rw [e,less_irrefl] at this;cases this
   ·have:=h2 z hz;rw [e,less_irrefl] at this;cases this
 have hp:placeOf (dn++ra) x=dn.length:=by
  unfold placeOf
  rw [List.countP_append,List.countP_eq_length.2 fun z hz=>h1 z hz,List.countP_eq_zero.2 fun z hz=>by rw [less_not_back (h2 z hz)];decide]
  omega
 refine ⟨kid_none.2 hn,?_⟩
 simp only [setAt]
 unfold setKid
 rw [if_neg (by rw [hn];decide),hp,List.take_left,List.drop_left]
theorem set_mid {a X:Tree} {dn ra:List (ByteArray×Tree)} {x:ByteArray×Tree} (hr:Rises (dn++x :: ra)):setAt X [x.1] { a with kids:=dn++x :: ra } = { a with kids:=dn++(x.1,X) :: ra }:=by
 have hx:(dn++x :: ra)[dn.length]? = some x:=by
  rw [List.getElem?_append_right (Nat.le_refl _),Nat.sub_self]
  rfl
 simp only [setAt]
 unfold setKid
 rw [if_pos (there_at hr hx),place_at hr hx,List.set_append_right _ _ (Nat.le_refl _),Nat.sub_self]
 rfl
theorem Ctx.kid {p:List ByteArray} {T a:Tree} {d M:Nat} {dn ra:List (ByteArray×Tree)} {x:ByteArray×Tree} (C:Ctx p T (d+2) M) (ha:nodeErr a=none) (hd:isDir a=true) (hr:Rises (dn++x :: ra)) (hn:∀z∈dn++x :: ra,nameB z.1=true) (hw:∀z∈dn++ra,WN (d+1) z.2) (m:Nat) (hm:1+cnts (d+1) dn+m+cnts (d+1) ra<=M) :
  Ctx (p ++ [x.1]) (setAt { a with kids:=dn++x :: ra } p T) (d+1) m:=by
 obtain ⟨q,hq⟩:=C.here
 have hset:∀Z,setAt Z (p ++ [x.1]) (setAt { a with kids:=dn++x :: ra } p T)=setAt { a with kids:=dn++(x.1,Z) :: ra } p T:=fun Z=>by rw [set_in hq,set_mid hr]
 refine ⟨⟨x.2,by rw [at_in hq];simp only [atR,(drop_mid hr).1]⟩,by have:=C.deep;simp;omega,names_snoc C.names (hn x (by simp)),fun Z=>?_,fun Z hZ hc=>?_⟩
 ·rw [hset,roomB_snoc,at_set_there hq]
  exact hd
 ·rw [hset]
  refine C.well _ ⟨node_dir ha hd (fun z hz=>?_) (rises_map (l:=dn++x :: ra) (by simp) hr),fun z hz=>?_⟩ ?_
  ·have hz':z∈dn++(x.1,Z) :: ra:=hz
   simp only [List.mem_append,List.mem_cons] at hz'
   rcases hz' with h|rfl|h
   ·exact hn z (by simp [h])
   ·exact hn x (by simp)
   ·exact hn z (by simp [h])
  ·have hz':z∈dn++(x.1,Z) :: ra:=hz
   simp only [List.mem_append,List.mem_cons] at hz'
   rcases hz' with h|rfl|h
   ·exact hw z (by simp [h])
   ·exact hZ
   ·exact hw z (by simp [h])
  ·rw [cnt_succ]
   show 1+cnts (d+1) (dn++(x.1,Z) :: ra)<=M
   rw [cnts_append,cnts_cons]
   simp only
   omega
theorem applies_kids {p:List ByteArray} {T a:Tree} {d M dc:Nat} (C:Ctx p T (d+2) M) (ha:nodeErr a=none) (hda:isDir a=true) (hdc:1<=dc) (f:ByteArray->Tree->Tree->List Chg)
    (hf:∀(x:ByteArray) (s t T':Tree) (i m:Nat),Ctx (p ++ [x]) T' (d+1) m->WN (d+1) s->WN (d+1) t->cnt (d+1) s+cnt (d+1) t<=m->appliesR dc i (setAt s (p ++ [x]) T') (f x s t) = .ok (setAt t (p ++ [x]) T')) :
    ∀(ra rb dn:List (ByteArray×Tree)) (i:Nat),Rises (dn++ra)->Rises (dn++rb)->(∀z∈dn++ra,nameB z.1=true)->(∀z∈dn++rb,nameB z.1=true)->(∀z∈dn++ra,WN (d+1) z.2)->(∀z∈dn++rb,WN (d+1) z.2)->1+cnts (d+1) dn+cnts (d+1) ra+cnts (d+1) rb<=M ->
      appliesR dc i (setAt { a with kids:=dn++ra } p T) (diffK f p ra rb) = .ok (setAt { a with kids:=dn++rb } p T)
  | [],[],dn,i,_,_,_,_,_,_,_=>by
    rw [diffK]
    rfl
  | x :: ra,[],dn,i,h1,h2,n1,n2,w1,w2,hm=>by
    rw [diffK]
    obtain ⟨hk,hd⟩:=drop_mid (a:=a) h1
    have hZ:WN (d+2) { a with kids:=dn++x :: ra }:=⟨node_dir ha hda n1 h1,w1⟩
    have hc:cnt (d+2) { a with kids:=dn++x :: ra }<=M:=by
      rw [cnt_succ]
      show 1+cnts (d+1) (dn++x :: ra)<=M
      rw [cnts_append]
      omega
    have hA:=C.drop (dc:=dc) hZ hc hdc (n1 x (by simp)) hk
    simp only [appliesR]
    rw [hA,hd]
    rw [cnts_cons] at hm
    refine applies_kids C ha hda hdc f hf ra [] dn (i+1) (rises_sub h1 ?_) h2 (fun z hz=>n1 z ?_) n2 (fun z hz=>w1 z ?_) w2 (by omega)
    · exact (List.Sublist.refl dn).append (List.sublist_cons_self x ra)
    all_goals
      simp only [List.mem_append,List.mem_cons] at hz ⊢
      rcases hz with h|h
      · exact .inl h
      · exact .inr (.inr h)
  | [],y :: rb,dn,i,h1,h2,n1,n2,w1,w2,hm=>by
    rw [diffK]
    obtain ⟨r1,r2,r3⟩:=rises_split h2
    obtain ⟨hk,hs⟩:=put_mid (a:=a) (X:=y.2) (x:=y.1) h1 (fun z hz=>r3 z hz y (by simp)) (fun z hz=>by simp at hz)
    have hZ:WN (d+2) { a with kids:=dn ++ [] }:=⟨node_dir ha hda n1 h1,w1⟩
    have hc:cnt (d+2) { a with kids:=dn ++ [] }<=M:=by
      rw [cnt_succ]
      show 1+cnts (d+1) (dn ++ [])<=M
      rw [cnts_append]
      omega
    rw [cnts_cons] at hm
    have e0:dn++(y.1,y.2) :: []=(dn ++ [y]) ++ []:=by simp
    have h1':Rises ((dn ++ [y]) ++ []):=by
      rw [List.append_nil]
      exact rises_sub h2 ((List.Sublist.refl dn).append (by simp))
    have n1':∀z∈(dn ++ [y]) ++ [],nameB z.1=true:=fun z hz=>n2 z (by simp only [List.append_nil,List.mem_append,List.mem_cons,List.not_mem_nil,or_false] at hz ⊢;rcases hz with h|h;exact .inl h;exact .inr (.inl h))
    have w1':∀z∈(dn ++ [y]) ++ [],WN (d+1) z.2:=fun z hz=>w2 z (by simp only [List.append_nil,List.mem_append,List.mem_cons,List.not_mem_nil,or_false] at hz ⊢;rcases hz with h|h;exact .inl h;exact .inr (.inl h))
    have hZ':WN (d+2) { a with kids:=(dn ++ [y]) ++ [] }:=⟨node_dir ha hda n1' h1',w1'⟩
    have hc':cnt (d+2) { a with kids:=(dn ++ [y]) ++ [] }<=M:=by
      rw [cnt_succ]
      show 1+cnts (d+1) ((dn ++ [y]) ++ [])<=M
      rw [cnts_append,cnts_append,cnts_cons]
      simp only [cnts,List.map_nil,List.sum_nil] at hm ⊢
      omega
    rw [e0] at hs
    have hA:=C.add (dc:=dc) hZ hc hda (n2 y (by simp)) hk (by rw [hs];exact hZ') (by rw [hs];exact hc')
    simp only [appliesR]
    rw [hA,hs]
    have e1:dn++y :: rb=(dn ++ [y])++rb:=by simp
    rw [e1]
    refine applies_kids C ha hda hdc f hf [] rb (dn ++ [y]) (i+1) h1' (by rw [<-e1];exact h2) n1' (by rw [<-e1];exact n2) w1' (by rw [<-e1];exact w2) ?_
    rw [cnts_append,cnts_cons]
    simp only [cnts,List.map_nil,List.sum_nil] at hm ⊢
    omega
  | x :: ra,y :: rb,dn,i,h1,h2,n1,n2,w1,w2,hm=>by
    rw [diffK]
    obtain ⟨r1,r2,r3⟩:=rises_split h2
    obtain ⟨q1,q2,q3⟩:=rises_split h1
    obtain ⟨p1,p2⟩:=rises_cons q2
    have hZ:WN (d+2) { a with kids:=dn++x :: ra }:=⟨node_dir ha hda n1 h1,w1⟩
    have hc:cnt (d+2) { a with kids:=dn++x :: ra }<=M:=by
      rw [cnt_succ]
      show 1+cnts (d+1) (dn++x :: ra)<=M
      rw [cnts_append]
      omega
    split
    · obtain ⟨hk,hd⟩:=drop_mid (a:=a) h1
      have hA:=C.drop (dc:=dc) hZ hc hdc (n1 x (by simp)) hk
      simp only [appliesR]
      rw [hA,hd]
      rw [cnts_cons] at hm
      refine applies_kids C ha hda hdc f hf ra (y :: rb) dn (i+1) (rises_sub h1 ?_) h2 (fun z hz=>n1 z ?_) n2 (fun z hz=>w1 z ?_) w2 (by omega)
      · exact (List.Sublist.refl dn).append (List.sublist_cons_self x ra)
      all_goals
        simp only [List.mem_append,List.mem_cons] at hz ⊢
        rcases hz with h|h
        · exact .inl h
        · exact .inr (.inr h)
    · rename_i hxy
      have hxy':lessB x.1 y.1=false:=by simpa using hxy
      split
      · rename_i hyx
        have hy2:∀z∈x :: ra,Op.bytesLess y.1.toList z.1.toList=true:=fun z hz=>by
          rcases List.mem_cons.1 hz with rfl|hz
          · exact hyx
          · exact less_trans hyx (p2 z hz)
        obtain ⟨hk,hs⟩:=put_mid (a:=a) (X:=y.2) (x:=y.1) h1 (fun z hz=>r3 z hz y (by simp)) hy2
        have e0:dn++(y.1,y.2) :: (x :: ra)=(dn ++ [y])++(x :: ra):=by simp
        have h1':Rises ((dn ++ [y])++(x :: ra)):=by
          refine rises_join (rises_sub h2 ((List.Sublist.refl dn).append (by simp))) q2 fun z hz v hv=>?_
          simp only [List.mem_append,List.mem_cons,List.not_mem_nil,or_false] at hz
          rcases hz with hz|rfl
          · exact q3 z hz v hv
          · exact hy2 v hv
        have n1':∀z∈(dn ++ [y])++(x :: ra),nameB z.1=true:=fun z hz=>by
          simp only [List.mem_append,List.mem_cons,List.not_mem_nil,or_false] at hz
          rcases hz with (h|rfl)|h
          · exact n1 z (by simp [h])
          · exact n2 z (by simp)
          · exact n1 z (by simp only [List.mem_append,List.mem_cons];exact .inr h)
        have w1':∀z∈(dn ++ [y])++(x :: ra),WN (d+1) z.2:=fun z hz=>by
          simp only [List.mem_append,List.mem_cons,List.not_mem_nil,or_false] at hz
          rcases hz with (h|rfl)|h
          · exact w1 z (by simp [h])
          · exact w2 z (by simp)
          · exact w1 z (by simp only [List.mem_append,List.mem_cons];exact .inr h)
        have hZ':WN (d+2) { a with kids:=(dn ++ [y])++(x :: ra) }:=⟨node_dir ha hda n1' h1',w1'⟩
        rw [cnts_cons (x:=y)] at hm
        have hc':cnt (d+2) { a with kids:=(dn ++ [y])++(x :: ra) }<=M:=by
          rw [cnt_succ]
          show 1+cnts (d+1) ((dn ++ [y])++(x :: ra))<=M
          rw [cnts_append,cnts_append,cnts_cons (x:=y)]
          simp only [cnts,List.map_nil,List.sum_nil] at hm ⊢
          omega
        rw [e0] at hs
        have hA:=C.add (dc:=dc) hZ hc hda (n2 y (by simp)) hk (by rw [hs];exact hZ') (by rw [hs];exact hc')
        simp only [appliesR]
        rw [hA,hs]
        have e1:dn++y :: rb=(dn ++ [y])++rb:=by simp
        rw [e1]
        refine applies_kids C ha hda hdc f hf (x :: ra) rb (dn ++ [y]) (i+1) h1' (by rw [<-e1];exact h2) n1' (by rw [<-e1];exact n2) w1' (by rw [<-e1];exact w2) ?_
        rw [cnts_append,cnts_cons (x:=y)]
        simp only [cnts,List.map_nil,List.sum_nil] at hm ⊢
        omega
      · rename_i hyx
        have hyx':lessB y.1 x.1=false:=by simpa using hyx
        have exy:x.1=y.1:=lessB_tri hxy' hyx'
        obtain ⟨q,hq⟩:=C.here
        rw [cnts_cons,cnts_cons] at hm
        have hwr:∀z∈dn++ra,WN (d+1) z.2:=fun z hz=>w1 z (by simp only [List.mem_append,List.mem_cons] at hz ⊢;rcases hz with h|h;exact .inl h;exact .inr (.inr h))
        have C':=C.kid ha hda h1 n1 hwr (cnt (d+1) x.2+cnt (d+1) y.2) (by omega)
        have hA:=hf x.1 x.2 y.2 _ i _ C' (w1 x (by simp)) (w2 y (by simp)) (Nat.le_refl _)
        rw [set_in hq,set_in hq,set_mid h1,set_mid h1] at hA
        have e2:dn++(x.1,y.2) :: ra=(dn ++ [y])++ra:=by rw [exy];simp
        have e3:dn++(x.1,x.2) :: ra=dn++x :: ra:=rfl
        rw [e2,e3] at hA
        rw [applies_append hA]
        have e1:dn++y :: rb=(dn ++ [y])++rb:=by simp
        rw [e1]
        have hmap:(dn++x :: ra).map (·.1)=((dn ++ [y])++ra).map (·.1):=by simp [exy]
        refine applies_kids C ha hda hdc f hf ra rb (dn ++ [y]) _ (rises_map hmap h1) (by rw [<-e1];exact h2) (fun z hz=>?_) (by rw [<-e1];exact n2) (fun z hz=>?_) (by rw [<-e1];exact w2) ?_
        · simp only [List.mem_append,List.mem_cons,List.not_mem_nil,or_false] at hz
          rcases hz with (h|rfl)|h
          · exact n1 z (by simp [h])
          · exact n2 z (by simp)
          · exact n1 z (by simp [h])
        · simp only [List.mem_append,List.mem_cons,List.not_mem_nil,or_false] at hz
          rcases hz with (h|rfl)|h
          · exact hwr z (by simp [h])
          · exact w2 z (by simp)
          · exact hwr z (by simp [h])
        · rw [cnts_append,cnts_cons]
          simp only [cnts,List.map_nil,List.sum_nil] at hm ⊢
          omega
termination_by ra rb=>ra.length+rb.length
theorem eta_kids (a:Tree):(⟨a.kind,a.data,a.exec,a.kids⟩:Tree)=a:=by cases a;rfl
theorem applies_nodes {dc:Nat} (hdc:1<=dc):∀(d:Nat) (p:List ByteArray) (T a b:Tree) (i M:Nat),Ctx p T d M->WN d a->WN d b->cnt d a+cnt d b<=M->appliesR dc i (setAt a p T) (diffN d p a b) = .ok (setAt b p T)
 | 0,_,_,_,_,_,_,_,h,_,_=>h.elim
 | d+1,p,T,a,b,i,M,C,ha,hb,hm=>by
  rw [diffN]
  split
  ·rename_i hd
   cases d with
   | zero =>
    have ka:a.kids = []:=by
     cases hk:a.kids with
     | nil=>rfl
     | cons x l=>exact (ha.2 x (by rw [hk];simp)).elim
    have kb:b.kids = []:=by
     cases hk:b.kids with
     | nil=>rfl
     | cons x l=>exact (hb.2 x (by rw [hk];simp)).elim
    rw [ka,kb,diffK]
    have e:=dir_eq ha.1 hb.1 hd.1 hd.2
    rw [kb,<-ka] at e
    simp only [appliesR]
    rw [<-e,eta_kids]
   | succ d =>
    have h:=applies_kids C ha.1 hd.1 hdc (fun x s t=>diffN (d+1) (p ++ [x]) s t) (fun x s t T' i m C' hs ht hc=>applies_nodes hdc (d+1) (p ++ [x]) T' s t i m C' hs ht hc) a.kids b.kids [] i ha.rises hb.rises (dir_names ha.1 hd.1).1 (dir_names hb.1 hd.2).1 ha.2 hb.2 (by rw [cnt_succ,cnt_succ] at hm;simp only [cnts,List.map_nil,List.sum_nil] at hm ⊢;omega)
    rw [List.nil_append,List.nil_append,dir_eq ha.1 hb.1 hd.1 hd.2,eta_kids] at h
    exact h
  ·split
   ·rename_i hs
    rw [sameT_eq _ _ _ hs]
    rfl
   ·have h:=C.edit (dc:=dc) ha hb (by omega) (by omega)
    simp only [appliesR]
    rw [h]
theorem diff_back {dc:Nat} (hdc:1<=dc) {a b:Tree} (ha:WN 9 a) (hb:WN 9 b) (hm:cnt 9 a+cnt 9 b<=200):appliesR dc 0 a (diffN 9 [] a b) = .ok b :=
 applies_nodes hdc 9 [] a a b 0 200 ⟨⟨a,rfl⟩,rfl,rfl,fun _=>rfl,fun _ hZ hc=>⟨hZ,hc⟩⟩ ha hb hm
end Go.Proofs.YtpjjpmikhjlgnaaGreatDoor
namespace Go.Proofs.YtpjjpmikhjlgnaaGreatDoor
open Go.RowKit

theorem diffK_mem {f:ByteArray->Tree->Tree->List Chg} {ns:List ByteArray}:∀(A B:List (ByteArray×Tree)),Rises A->Rises B->∀c∈diffK f ns A B,
  (∃x∈A,c=⟨dropB,tellP (ns ++ [x.1]),zeroT⟩/\∀y∈B,y.1≠x.1)∨(∃y∈B,c=⟨addB,tellP (ns ++ [y.1]),y.2⟩/\∀x∈A,x.1≠y.1)∨∃x∈A,∃y∈B,x.1=y.1/\c∈f x.1 x.2 y.2
 | [],[],_,_,c,hc=>by rw [diffK] at hc;simp at hc
 | x :: A,[],hA,hB,c,hc=>by
  rw [diffK] at hc
  rcases List.mem_cons.1 hc with rfl|hc
  ·exact .inl ⟨x,by simp,rfl,fun y hy=>by simp at hy⟩
  ·rcases diffK_mem A [] (rises_cons hA).1 hB c hc with ⟨z,hz,h1,h2⟩|⟨y,hy,_⟩|⟨z,hz,y,hy,_⟩
   ·exact .inl ⟨z,List.mem_cons_of_mem _ hz,h1,h2⟩
   ·simp at hy
   ·simp at hy
 | [],y :: B,hA,hB,c,hc=>by
  rw [diffK] at hc
  rcases List.mem_cons.1 hc with rfl|hc
  ·exact .inr (.inl ⟨y,by simp,rfl,fun x hx=>by simp at hx⟩)
  ·rcases diffK_mem [] B hA (rises_cons hB).1 c hc with ⟨z,hz,_⟩|⟨z,hz,h1,h2⟩|⟨z,hz,_⟩
   ·simp at hz
   ·exact .inr (.inl ⟨z,List.mem_cons_of_mem _ hz,h1,h2⟩)
   ·simp at hz
 | x :: A,y :: B,hA,hB,c,hc=>by
  obtain ⟨ra,la⟩:=rises_cons hA
  obtain ⟨rb,lb⟩:=rises_cons hB
  rw [diffK] at hc
  split at hc
  ·rename_i hxy
   have hB2:∀z∈y :: B,Op.bytesLess x.1.toList z.1.toList=true:=fun z hz=>by
    rcases List.mem_cons.1 hz with rfl|hz
    ·exact hxy
    ·exact less_trans hxy (lb z hz)
   have hne:∀z∈y :: B,z.1≠x.1:=fun z hz e=>by have:=hB2 z hz;rw [e,less_irrefl] at this;cases this
   rcases List.mem_cons.1 hc with rfl|hc
   ·exact .inl ⟨x,by simp,rfl,hne⟩
   ·rcases diffK_mem A (y :: B) ra hB c hc with ⟨z,hz,h1,h2⟩|⟨z,hz,h1,h2⟩|⟨z,hz,v,hv,h1,h2⟩
    ·exact .inl ⟨z,List.mem_cons_of_mem _ hz,h1,h2⟩
    ·exact .inr (.inl ⟨z,hz,h1,fun v hv=>by
      rcases List.mem_cons.1 hv with rfl|hv
      ·exact fun e=>hne z hz e.symm
      ·exact h2 v hv⟩)
    ·exact .inr (.inr ⟨z,List.mem_cons_of_mem _ hz,v,hv,h1,h2⟩)
  ·rename_i hxy
   split at hc
   ·rename_i hyx
    have hA2:∀z∈x :: A,Op.bytesLess y.1.toList z.1.toList=true:=fun z hz=>by
     rcases List.mem_cons.1 hz with rfl|hz
     ·exact hyx
     ·exact less_trans hyx (la z hz)
    have hne:∀z∈x :: A,z.1≠y.1:=fun z hz e=>by have:=hA2 z hz;rw [e,less_irrefl] at this;cases this
    rcases List.mem_cons.1 hc with rfl|hc
    ·exact .inr (.inl ⟨y,by simp,rfl,hne⟩)
    ·rcases diffK_mem (x :: A) B hA rb c hc with ⟨z,hz,h1,h2⟩|⟨z,hz,h1,h2⟩|⟨z,hz,v,hv,h1,h2⟩
     ·exact .inl ⟨z,hz,h1,fun v hv=>by
       rcases List.mem_cons.1 hv with rfl|hv
       ·exact fun e=>hne z hz e.symm
       ·exact h2 v hv⟩
     ·exact .inr (.inl ⟨z,List.mem_cons_of_mem _ hz,h1,h2⟩)
     ·exact .inr (.inr ⟨z,hz,v,List.mem_cons_of_mem _ hv,h1,h2⟩)
   ·rename_i hyx
    have exy:x.1=y.1:=lessB_tri (by simpa using hxy) (by simpa using hyx)
    have hne1:∀z∈B,z.1≠x.1:=fun z hz e=>by have:=lb z hz;rw [e,exy,less_irrefl] at this;cases this
    have hne2:∀z∈A,z.1≠y.1:=fun z hz e=>by have:=la z hz;rw [e,<-exy,less_irrefl] at this;cases this
    rcases List.mem_append.1 hc with hc|hc
    ·exact .inr (.inr ⟨x,by simp,y,by simp,exy,hc⟩)
    ·rcases diffK_mem A B ra rb c hc with ⟨z,hz,h1,h2⟩|⟨z,hz,h1,h2⟩|⟨z,hz,v,hv,h1,h2⟩
     ·exact .inl ⟨z,List.mem_cons_of_mem _ hz,h1,fun v hv=>by
       rcases List.mem_cons.1 hv with rfl|hv
       ·exact fun e=>hne2 z hz e.symm
       ·exact h2 v hv⟩
     ·exact .inr (.inl ⟨z,List.mem_cons_of_mem _ hz,h1,fun v hv=>by
       rcases List.mem_cons.1 hv with rfl|hv
       ·exact fun e=>hne1 z hz e.symm
       ·exact h2 v hv⟩)
     ·exact .inr (.inr ⟨z,List.mem_cons_of_mem _ hz,v,List.mem_cons_of_mem _ hv,h1,h2⟩)
termination_by A B=>A.length+B.length
theorem diffK_same {f:ByteArray->Tree->Tree->List Chg} {ns:List ByteArray}:∀(A:List (ByteArray×Tree)),(∀x∈A,f x.1 x.2 x.2 = [])->diffK f ns A A = []
 | [],_=>by rw [diffK]
 | x :: A,h=>by
  have e:lessB x.1 x.1=false:=less_irrefl _
  rw [diffK,if_neg (by rw [e];decide),if_neg (by rw [e];decide),h x (by simp),diffK_same A fun y hy=>h y (List.mem_cons_of_mem _ hy)]
  rfl
theorem diffN_same:∀(d:Nat) (ns:List ByteArray) (a:Tree),WN d a->diffN d ns a a = []
 | 0,_,_,h=>h.elim
 | d+1,ns,a,h=>by
  rw [diffN]
  split
  ·exact diffK_same a.kids fun x hx=>diffN_same d (ns ++ [x.1]) x.2 (h.2 x hx)
  ·rw [if_pos (sameB_refl h.fit)]
theorem WN.ok:∀ {n:Nat} {t:Tree},WN n t->OkT n t
 | 0,_,h=>h
 | _+1,_,h=>⟨by have:=(node_bounds h.1).1;omega,fun x hx=>⟨by have:=(node_bounds h.1).2 x hx;omega,WN.ok (h.2 x hx)⟩⟩
theorem kid_no {t:Tree} {x:ByteArray} (hr:Rises t.kids) (h:∀y∈t.kids,y.1≠x):kidOf t x=none:=by
 refine kid_none.2 ?_
 cases ht:thereAt t.kids x with
 | false=>rfl
 | true =>
  obtain ⟨y,hy,e⟩:=(there_mem hr).1 ht
  exact absurd e (h y hy)
theorem kid_yes {t:Tree} {x:ByteArray×Tree} (hr:Rises t.kids) (h:x∈t.kids):kidOf t x.1=some x.2:=(kid_mem hr).2 h
structure Says (c:Chg) (ns:List ByteArray) (d:Nat) (a b:Tree) (r:List ByteArray):Prop where
 path:c.path=tellP (ns++r)
 short:r.length+1<=d
 names:r.all nameB=true
 node:OkT 9 c.node
 what:(c.kind=addB/\atR r a=none/\∃k,atR r b=some k)∨(c.kind=dropB/\(∃k,atR r a=some k)/\atR r b=none)∨(c.kind=editB/\∃s t,atR r a=some s/\atR r b=some t/\s≠t)
theorem says_all:∀(d:Nat) (ns:List ByteArray) (a b:Tree),d<=9->WN d a->WN d b->∀c∈diffN d ns a b,∃r,Says c ns d a b r
 | 0,_,_,_,_,h,_,_,_=>h.elim
 | d+1,ns,a,b,hd,ha,hb,c,hc=>by
  rw [diffN] at hc
  split at hc
  ·rename_i hdir
   obtain ⟨na,_,_⟩:=dir_names ha.1 hdir.1
   obtain ⟨nb',_,_⟩:=dir_names hb.1 hdir.2
   rcases diffK_mem a.kids b.kids ha.rises hb.rises c hc with ⟨x,hx,rfl,h2⟩|⟨y,hy,rfl,h2⟩|⟨x,hx,y,hy,h1,h2⟩
   ·have p:=ha.2 x hx
    refine ⟨[x.1],rfl,?_,by simp [na x hx],⟨by simp [zeroT],fun z hz=>by simp [zeroT] at hz⟩,.inr (.inl ⟨rfl,⟨x.2,?_⟩,?_⟩)⟩
    ·cases d with
     | zero=>exact p.elim
     | succ d=>simp
    ·simp only [atR,kid_yes ha.rises hx]
    ·simp only [atR,kid_no hb.rises h2]
   ·have p:=hb.2 y hy
    refine ⟨[y.1],rfl,?_,by simp [nb' y hy],p.ok.up (by omega),.inl ⟨rfl,?_,⟨y.2,?_⟩⟩⟩
    ·cases d with
     | zero=>exact p.elim
     | succ d=>simp
    ·simp only [atR,kid_no ha.rises h2]
    ·simp only [atR,kid_yes hb.rises hy]
   ·obtain ⟨r,hr⟩:=says_all d (ns ++ [x.1]) x.2 y.2 (by omega) (ha.2 x hx) (hb.2 y hy) c h2
    have ea:atR (x.1 :: r) a=atR r x.2:=by simp only [atR,kid_yes ha.rises hx]
    have eb:atR (x.1 :: r) b=atR r y.2:=by rw [h1];simp only [atR,kid_yes hb.rises hy]
    refine ⟨x.1 :: r,?_,?_,?_,hr.node,?_⟩
    ·rw [hr.path];simp
    ·have:=hr.short;simp only [List.length_cons];omega
    ·rw [List.all_cons,na x hx,hr.names];rfl
    ·rw [ea,eb];exact hr.what
  ·split at hc
   ·simp at hc
   ·rename_i hs
    simp only [List.mem_singleton] at hc
    subst hc
    refine ⟨[],by simp,by simp,rfl,hb.ok.up (by omega),.inr (.inr ⟨rfl,a,b,rfl,rfl,fun e=>hs ?_⟩)⟩
    rw [e]
    exact sameB_refl hb.fit
theorem diff_none {a b:Tree} (ha:WN 9 a) (hb:WN 9 b) (hm:cnt 9 a+cnt 9 b<=200):diffN 9 [] a b = []↔a=b:=by
 constructor
 ·intro h
  have h2:=diff_back (dc:=1) (Nat.le_refl _) ha hb hm
  rw [h] at h2
  simp only [appliesR,Except.ok.injEq] at h2
  exact h2
 ·rintro rfl
  exact diffN_same 9 [] a ha
theorem sameB_no {d:Nat} {s t:Tree} (h:s≠t):sameB d s t=false:=by
 cases hs:sameB d s t with
 | false=>rfl
 | true=>exact absurd (sameT_eq d s t hs) h
end Go.Proofs.YtpjjpmikhjlgnaaGreatDoor
namespace Go.Proofs.YtpjjpmikhjlgnaaGreatDoor
set_option maxHeartbeats 4000000
set_option maxRecDepth 100000
open Go.RowKit
attribute [local go_sem ↓] Go.wp_at_zero Go.wp_at_succ

theorem infoCh:(Tryz.prog.info? 96).map (fun i=>(i.zero,i.size,i.bytes))=some (some (.agg #[.string { data:=#[] },.string { data:=#[] },.string { data:=#[] },.string { data:=#[] },.bool false,.slice none 0 0]),6,96):=by kernel_rfl
def chCells:List Chg->List Value->List Value
 | c :: l,u :: us=>.string c.kind :: .string c.path :: .string c.node.kind :: .string c.node.data :: .bool c.node.exec :: u :: chCells l us
 | _,_=>[]
theorem chCells_snoc:∀(l:List Chg) (us:List Value) (c:Chg) (u:Value),l.length=us.length->chCells (l ++ [c]) (us ++ [u])=chCells l us ++ [.string c.kind,.string c.path,.string c.node.kind,.string c.node.data,.bool c.node.exec,u]
 | [],[],c,u,_=>rfl
 | y :: l,v :: us,c,u,h=>by simp only [List.cons_append,chCells];rw [chCells_snoc l us c u (by simpa using h)]
 | [],_ :: _,_,_,h=>by simp at h
 | _ :: _,[],_,_,h=>by simp at h
structure ChSt (lb d:Nat) (l:List Chg) (v:Value) (us:List Value) (w:World):Prop where
 cell:w.heap[lb]? = some (.cells #[v] 49 (0,0))
 len:us.length=l.length
 own:w.ownsRow (lb+1) 96 6 v l.length (chCells l us)
 kids:∀(i:Nat) (c:Chg) (u:Value),l[i]? = some c->us[i]? = some u->LiesQ w (fun b=>lb<b/\b<w.heap.size/\v.ownBlock≠some b) d c.node.kids u
theorem ch_next {lb d:Nat} {l:List Chg} {v u':Value} {us:List Value} {w w2 wa w5 w6:World} {c:Chg} {g cap H:Nat} (C:ChSt lb d l v us w) (hb2:Below w.heap.size w w2) (hu':LiesQ w2 (fun b=>w.heap.size<=b/\b<w2.heap.size) d c.node.kids u') (hba:Below w2.heap.size w2 wa)
  (hown1:w5.ownsRow (lb+1) 96 6 (.slice (some ⟨g,0,none⟩) (l.length+1) cap) (l.length+1) (chCells l us ++ [.string c.kind,.string c.path,.string c.node.kind,.string c.node.data,.bool c.node.exec,u']))
  (hgrow:wa.grownBy w5 v.ownBlock) (hat:v.ownBlock=some g∨g=H) (hH:w2.heap.size<=H) (h6:w6=w5.setCell ⟨lb,0,none⟩ (.slice (some ⟨g,0,none⟩) (l.length+1) cap)) :
  ChSt lb d (l ++ [c]) (.slice (some ⟨g,0,none⟩) (l.length+1) cap) (us ++ [u']) w6/\Below lb w w6:=by
 have hbr:=lt_of_row C.cell
 have hlt:=fun k hk=>C.own.lt k hk
 have h5:∀k,k<w2.heap.size->v.ownBlock≠some k->w5.heap[k]? = w2.heap[k]? := fun k hk hne=>by
  rw [hgrow.block k (Nat.lt_of_lt_of_le hk hba.size) (fun e=>hne e.symm),hba.block k hk]
 have h5r:∀k,k<w.heap.size->v.ownBlock≠some k->w5.heap[k]? = w.heap[k]? := fun k hk hne=>by
  rw [h5 k (Nat.lt_of_lt_of_le hk hb2.size) hne,hb2.block k hk]
 have hs5:w2.heap.size<=w5.heap.size:=Nat.le_trans hba.size hgrow.size
 have h6b:∀k,k≠lb->w6.heap[k]? = w5.heap[k]? := fun k hk=>by rw [h6];exact Below.heap_setCell _ _ _ _ hk
 have hs6:w6.heap.size=w5.heap.size:=by rw [h6];simp [World.setCell]
 have hs2:=hb2.size
 have hcell5:w5.heap[lb]? = some (.cells #[v] 49 (0,0)):=by
  rw [h5r _ hbr (fun e=>by have:=(hlt _ e).1;omega)];exact C.cell
 have hgl:lb+1<=g:=by
  rcases hat with h|h
  ·exact (hlt g h).1
  ·omega
 refine ⟨⟨?_,by simp [C.len],?_,?_⟩,?_⟩
 ·rw [h6]
  simp [World.setCell,Array.getElem?_modify,hcell5]
 ·rw [List.length_append,List.length_singleton,chCells_snoc _ _ _ _ C.len.symm]
  refine ownsRow_ext' hown1 fun k hk=>h6b k ?_
  simp only [Value.ownBlock,Option.some.injEq] at hk
  omega
 ·intro i y u hy hu
  by_cases hi:i<us.length
  ·rw [List.getElem?_append_left hi] at hu
   rw [List.getElem?_append_left (by rw [<-C.len];exact hi)] at hy
   refine (C.kids i y u hy hu).kept (fun k hk=>(h6b k (by omega)).trans (h5r k hk.2.1 hk.2.2)) (fun k hk=>⟨hk.1,by omega,?_⟩)
   simp only [Value.ownBlock,ne_eq,Option.some.injEq]
   rcases hat with h|h
   ·intro e;exact hk.2.2 (by rw [h,e])
   ·have:=hk.2.1;omega
  ·have hle:us.length<=i:=by omega
   rw [List.getElem?_append_right hle] at hu
   have hi0:i-us.length=0:=by
    rcases Nat.eq_zero_or_pos (i-us.length) with h|h
    ·exact h
    ·rw [List.getElem?_eq_none (by simp;omega)] at hu;cases hu
   rw [hi0] at hu
   simp only [List.getElem?_cons_zero,Option.some.injEq] at hu
   have hij:i=l.length:=by have:=C.len;omega
   subst hij
   rw [List.getElem?_append_right (Nat.le_refl _),Nat.sub_self] at hy
   simp only [List.getElem?_cons_zero,Option.some.injEq] at hy
   subst hy;subst hu
   refine hu'.kept (fun k hk=>(h6b k (by omega)).trans (h5 k hk.2 (fun e=>by have:=(hlt k e).2;omega))) (fun k hk=>⟨by omega,by omega,?_⟩)
   simp only [Value.ownBlock,ne_eq,Option.some.injEq]
   rcases hat with h|h
   ·have:=(hlt g h).2;omega
   ·omega
 ·refine ⟨?_,?_,?_,by omega,fun k hk=>?_⟩
  ·rw [h6];exact hgrow.os.trans (hba.os.trans hb2.os)
  ·rw [h6];exact hgrow.tape.trans (hba.tape.trans hb2.tape)
  ·rw [h6];exact hgrow.output.trans (hba.output.trans hb2.output)
  ·rw [h6b k (by omega),h5r k (by omega) (fun e=>by have:=(hlt k e).1;omega)]

theorem tell_any (lb d:Nat) (l:List Chg) (v:Value) (us:List Value) (kd path:ByteArray) (n:Tree) (u:Value) (w:World) (C:ChSt lb d l v us w) (hl:Lies w lb d n.kids u) (hlen:l.length<=1000000) :
  Calls Tryz.prog 77 #[.pointer (some ⟨lb,0,none⟩),.string kd,.string path,.agg #[.string n.kind,.string n.data,.bool n.exec,u]] w fun e w'=>e = .returned (.tuple #[])/\(∃v' us',ChSt lb d (l ++ [⟨kd,path,n⟩]) v' us' w')/\Below lb w w':=by
 obtain ⟨xa,xc,rfl⟩:=hl.form
 obtain ⟨va,vc,rfl⟩:∃va vc,v = .slice va l.length vc:=by
  rcases C.own.2 with ⟨e,e0⟩|⟨g,cap,cur,e,_⟩
  ·exact ⟨none,0,by rw [e,e0]⟩
  ·exact ⟨_,_,e⟩
 obtain ⟨i0,hi0,hz0,hz1,hz2⟩:=info_parts infoCh
 have lw:lb<w.heap.size:=lt_of_row C.cell
 have hA1:Below w.heap.size w (w.alloc (.cells #[.string n.kind,.string n.data,.bool n.exec,.slice xa n.kids.length xc] 24)):=(Below.refl _ _).alloc (Nat.le_refl _) _
 have hrow1:=row_alloc' w #[.string n.kind,.string n.data,.bool n.exec,.slice xa n.kids.length xc] 24
 have hz1':(w.alloc (.cells #[.string n.kind,.string n.data,.bool n.exec,.slice xa n.kids.length xc] 24)).heap.size=w.heap.size+1:=by simp
 have HC:Hid (∀w',Below (w.alloc (.cells #[.string n.kind,.string n.data,.bool n.exec,.slice xa n.kids.length xc] 24)).heap.size (w.alloc (.cells #[.string n.kind,.string n.data,.bool n.exec,.slice xa n.kids.length xc] 24)) w'->Calls Tryz.prog 39 #[.agg #[.string n.kind,.string n.data,.bool n.exec,.slice xa n.kids.length xc]] w' fun e w''=>∃u',e = .returned (.agg #[.string n.kind,.string n.data,.bool n.exec,u'])/\LiesQ w'' (fun b=>w'.heap.size<=b/\b<w''.heap.size) d n.kids u'/\Below w'.heap.size w' w''):=fun w' h =>
  copy_any lb d n (.slice xa n.kids.length xc) w' (by have:=h.size;omega) (hl.below (hA1.trans (h.mono (by omega))) (by omega))
 have HS:Hid (∀w',Below (w.alloc (.cells #[.string n.kind,.string n.data,.bool n.exec,.slice xa n.kids.length xc] 24)).heap.size (w.alloc (.cells #[.string n.kind,.string n.data,.bool n.exec,.slice xa n.kids.length xc] 24)) w'->((fun w'=>w'.cell? ⟨w.heap.size,0,none⟩=some (.string n.kind)/\w'.cell? ⟨w.heap.size,1,none⟩=some (.string n.data)/\w'.cell? ⟨w.heap.size,2,none⟩=some (.bool n.exec)/\w'.cell? ⟨w.heap.size,3,none⟩=some (.slice xa n.kids.length xc)) w':Prop)):=fun w' h=>by
  have hk:w'.heap[w.heap.size]? = some (.cells #[.string n.kind,.string n.data,.bool n.exec,.slice xa n.kids.length xc] 24 (0,0)):=(h.block _ (by omega)).trans hrow1
  refine ⟨?_,?_,?_,?_⟩
  all_goals (rw [cell_of_row w' _ _ _ _ _ hk];rfl)
 have HLB:Hid (∀w',Below w.heap.size w w'->w'.heap[lb]? = some (.cells #[.slice va l.length vc] 49 (0,0))):=fun w' h=>(h.block lb lw).trans C.cell
 have HG3:Hid (∀w',Below (w.alloc (.cells #[.string n.kind,.string n.data,.bool n.exec,.slice xa n.kids.length xc] 24)).heap.size (w.alloc (.cells #[.string n.kind,.string n.data,.bool n.exec,.slice xa n.kids.length xc] 24)) w'->w'.cell? ⟨lb,0,none⟩=some (.slice va l.length vc)):=fun w' h=>by
  rw [cell_of_row w' _ _ _ _ _ (HLB.out w' (hA1.trans (h.mono (by omega))))];rfl
 have HO:Hid (ChSt lb d l (.slice va l.length vc) us w):=C
 have HA1:Hid _:=hA1
 clear C hA1 hrow1 hl
 go_enter Tryz.func77,Tryz.ntmps77
 go_upto_region 1 with fail
 refine wp_region_held_drew (S:=fun w'=>w'.cell? ⟨w.heap.size,0,none⟩=some (.string n.kind)/\w'.cell? ⟨w.heap.size,1,none⟩=some (.string n.data)/\w'.cell? ⟨w.heap.size,2,none⟩=some (.bool n.exec)/\w'.cell? ⟨w.heap.size,3,none⟩=some (.slice xa n.kids.length xc)) (by kernel_rfl) (HS.out _ (Below.refl _ _).drew) (fun hHeld=>?_)
 refine wpAnyH_take (i:=0) (v:=.pointer (some ⟨lb,0,none⟩)) rfl (by kernel_rfl) (by kernel_rfl) (by kernel_rfl) (fun _ _ _ h=>h) (Or.inl ⟨by rfl,?_⟩) hHeld ?_
 ·intro w hSw;(try dsimp only at hSw);simp only [List.getElem_toArray,List.getElem_cons_zero];go_simp
 simp only [List.getElem_toArray,List.getElem_cons_zero,Act.put,List.setIfInBounds_toArray,List.set_cons_zero,List.set_cons_succ]
 refine wpAnyH_take (i:=1) (v:=.pointer (some ⟨lb,0,none⟩)) rfl (by kernel_rfl) (by kernel_rfl) (by kernel_rfl) (fun _ _ _ h=>h) (Or.inl ⟨by rfl,?_⟩) hHeld ?_
 ·intro w hSw;(try dsimp only at hSw);simp only [List.getElem_toArray,List.getElem_cons_zero,List.getElem_cons_succ];go_simp
 simp only [List.getElem_toArray,List.getElem_cons_zero,List.getElem_cons_succ,Act.put,List.setIfInBounds_toArray,List.set_cons_zero,List.set_cons_succ]
 refine wpAnyH_take (i:=2) (v:=.pointer (some ⟨lb,0,none⟩)) rfl (by kernel_rfl) (by kernel_rfl) (by kernel_rfl) (fun _ _ _ h=>h) (Or.inl ⟨by rfl,?_⟩) hHeld ?_
 ·intro w hSw;(try dsimp only at hSw);simp only [List.getElem_toArray,List.getElem_cons_zero,List.getElem_cons_succ];go_simp
 simp only [List.getElem_toArray,List.getElem_cons_zero,List.getElem_cons_succ,Act.put,List.setIfInBounds_toArray,List.set_cons_zero,List.set_cons_succ]
 refine wpAnyH_take (i:=4) (v:=.string kd) rfl (by kernel_rfl) (by kernel_rfl) (by kernel_rfl) (fun _ _ _ h=>h) (Or.inl ⟨by rfl,?_⟩) hHeld ?_
 ·intro w hSw;(try dsimp only at hSw);simp only [List.getElem_toArray,List.getElem_cons_zero,List.getElem_cons_succ];go_simp
 simp only [List.getElem_toArray,List.getElem_cons_zero,List.getElem_cons_succ,Act.put,List.setIfInBounds_toArray,List.set_cons_zero,List.set_cons_succ]
 refine wpAnyH_take (i:=5) (v:=.string path) rfl (by kernel_rfl) (by kernel_rfl) (by kernel_rfl) (fun _ _ _ h=>h) (Or.inl ⟨by rfl,?_⟩) hHeld ?_
 ·intro w hSw;(try dsimp only at hSw);simp only [List.getElem_toArray,List.getElem_cons_zero,List.getElem_cons_succ];go_simp
 simp only [List.getElem_toArray,List.getElem_cons_zero,List.getElem_cons_succ,Act.put,List.setIfInBounds_toArray,List.set_cons_zero,List.set_cons_succ]
 refine wpAnyH_take (i:=6) (v:=.agg #[.string n.kind,.string n.data,.bool n.exec,.slice xa n.kids.length xc]) rfl (by kernel_rfl) (by kernel_rfl) (by kernel_rfl) (fun _ _ _ h=>h) (Or.inl ⟨by rfl,?_⟩) hHeld ?_
 ·intro w hSw;(try dsimp only at hSw);simp only [List.getElem_toArray,List.getElem_cons_zero,List.getElem_cons_succ];go_simp
 simp only [List.getElem_toArray,List.getElem_cons_zero,List.getElem_cons_succ,Act.put,List.setIfInBounds_toArray,List.set_cons_zero,List.set_cons_succ]
 refine wpAnyH_ready (rs:=[3,7]) (by kernel_rfl) (by simp) ?_
 refine AllReadyH.cons rfl (fun K' hK=>?_) (AllReadyH.cons rfl (fun K' hK=>?_) AllReadyH.nil)
 ·skip
  simp only [List.getElem_toArray,List.getElem_cons_zero,List.getElem_cons_succ]
  have c13:=HG3.out _ ((Below.refl _ _).drew)
  go_simp
  go_wp2_with fail
  clear c13
  refine hK.out _ _ (HS.out _ ((Below.refl _ _).drew)) (fun hHeld'=>?_)
  clear hK K' hHeld
  have hHeld:=hHeld'
  clear hHeld'
  refine wpAnyH_ready (rs:=[7]) (by kernel_rfl) (by simp) ?_
  refine AllReadyH.cons rfl (fun K' hK=>?_) AllReadyH.nil
  simp only [List.getElem_toArray,List.getElem_cons_zero,List.getElem_cons_succ]
  go_simp
  refine Calls.mono (HC.out _ (Below.refl _ _).drew) ?_
  rintro e wx ⟨u',rfl,hq,hb2⟩
  obtain ⟨ya,yc,rfl⟩:=hq.form
  have HB2:Hid (Below (w.alloc (.cells #[.string n.kind,.string n.data,.bool n.exec,.slice xa n.kids.length xc] 24)).heap.size (w.alloc (.cells #[.string n.kind,.string n.data,.bool n.exec,.slice xa n.kids.length xc] 24)) wx):=(Below.refl _ _).drew.trans hb2
  have HBR:Hid (Below w.heap.size w wx):=HA1.out.trans (HB2.out.mono (by omega))
  have HQ:Hid (LiesQ wx (fun b=>w.heap.size<=b/\b<wx.heap.size) d n.kids (.slice ya n.kids.length yc)):=LiesQ.kept (fun _ _=>rfl) (fun k hk=>⟨by have h:=hk.1;have h2:(w.alloc (.cells #[.string n.kind,.string n.data,.bool n.exec,.slice xa n.kids.length xc] 24)).drew.heap.size=w.heap.size+1:=hz1';omega,hk.2⟩) hq
  have hzx:=HB2.out.size
  clear hq hb2
  go_wp2_with fail
  refine hK.out _ _ (HS.out _ HB2.out) (fun hHeld'=>?_)
  clear hK K' hHeld
  have hHeld:=hHeld'
  clear hHeld'
  refine wpAnyH_take (i:=8) (v:=.agg #[.string kd,.string path,.string n.kind,.string n.data,.bool n.exec,.slice ya n.kids.length yc]) rfl (by kernel_rfl) (by kernel_rfl) (by kernel_rfl) (fun _ _ _ h=>h) (Or.inl ⟨by rfl,?_⟩) hHeld ?_
  ·intro w hSw;(try dsimp only at hSw);simp only [List.getElem_toArray,List.getElem_cons_zero,List.getElem_cons_succ];go_simp
  simp only [List.getElem_toArray,List.getElem_cons_zero,List.getElem_cons_succ,Act.put,List.setIfInBounds_toArray,List.set_cons_zero,List.set_cons_succ]
  refine wpAnyH_ready (rs:=[9]) (by kernel_rfl) (by simp) ?_
  refine AllReadyH.cons rfl (fun K' hK=>?_) AllReadyH.nil
  simp only [List.getElem_toArray,List.getElem_cons_zero,List.getElem_cons_succ]
  go_simp
  go_wp2_with fail
  have HBA:Hid (Below (w.alloc (.cells #[.string n.kind,.string n.data,.bool n.exec,.slice xa n.kids.length xc] 24)).heap.size (w.alloc (.cells #[.string n.kind,.string n.data,.bool n.exec,.slice xa n.kids.length xc] 24)) (wx.alloc (.cells #[.string kd,.string path,.string n.kind,.string n.data,.bool n.exec,.slice ya n.kids.length yc] 96))):=HB2.out.alloc HB2.out.size _
  have HOW:Hid ((wx.alloc (.cells #[.string kd,.string path,.string n.kind,.string n.data,.bool n.exec,.slice ya n.kids.length yc] 96)).ownsRow (lb+1) 96 6 (.slice va l.length vc) l.length (chCells l us)):=World.ownsRow.alloc (ownsRow_ext' HO.out.own fun k hk=>HBR.out.block k (HO.out.own.lt k hk).2) _
  have HN2:Hid ((wx.alloc (.cells #[.string kd,.string path,.string n.kind,.string n.data,.bool n.exec,.slice ya n.kids.length yc] 96)).heap[wx.heap.size]? = some (.cells #[.string kd,.string path,.string n.kind,.string n.data,.bool n.exec,.slice ya n.kids.length yc] 96 (0,0))):=row_alloc' wx #[.string kd,.string path,.string n.kind,.string n.data,.bool n.exec,.slice ya n.kids.length yc] 96
  refine hK.out _ _ (HS.out _ HBA.out) (fun hHeld'=>?_)
  clear hK K' hHeld
  have hHeld:=hHeld'
  clear hHeld'
  refine wpAnyH_ready (rs:=[10]) (by kernel_rfl) (by simp) ?_
  refine AllReadyH.cons rfl (fun K' hK=>?_) AllReadyH.nil
  refine step_append_lies _ (by rfl) _ _ _ (by rfl) (lb+1) 96 i0 _ 6 96 Tryz.underlying49 hi0 hz0 hz1 hz2 rfl (by omega) (.slice va l.length vc) l.length (chCells l us) (by rfl) HOW.out ⟨wx.heap.size,0,none⟩ 1 1 [.string kd,.string path,.string n.kind,.string n.data,.bool n.exec,.slice ya n.kids.length yc] (by rfl) (by rfl) (World.news_of_block (cs:=#[.string kd,.string path,.string n.kind,.string n.data,.bool n.exec,.slice ya n.kids.length yc]) (t:=96) (fr:=(0,0)) HN2.out) (by simp [Value.oneCell']) (by omega) (by unfold maxLen;omega) (by omega) (by simp;omega) (wx.heap.size+1) (by simp) ?_
  intro g cap w5 hown5 hgrow hat hlt5
  have hz5:=hgrow.size
  have HOWN5:Hid _:=hown5
  have HGROW:Hid _:=hgrow
  have HAT:Hid _:=hat
  have hH5:∀k,k<wx.heap.size+1->(Value.slice va l.length vc).ownBlock≠some k->w5.heap[k]? = (wx.alloc (.cells #[.string kd,.string path,.string n.kind,.string n.data,.bool n.exec,.slice ya n.kids.length yc] 96)).heap[k]? := fun k hk hne=>hgrow.block k (by simp;omega) (fun e=>hne e.symm)
  have a1:(Value.slice va l.length vc).ownBlock≠some lb:=fun e=>by have:=(HO.out.own.lt _ e).1;omega
  have a2:(Value.slice va l.length vc).ownBlock≠some w.heap.size:=fun e=>by have:=(HO.out.own.lt _ e).2;omega
  have e1:=hH5 lb (by omega) a1
  have e2:=hH5 w.heap.size (by omega) a2
  have k2:∀o,w5.cell? ⟨w.heap.size,o,none⟩=(wx.alloc (.cells #[.string kd,.string path,.string n.kind,.string n.data,.bool n.exec,.slice ya n.kids.length yc] 96)).cell? ⟨w.heap.size,o,none⟩:=fun o=>World.cell?_of_block e2
  have HS5:Hid ((fun w'=>w'.cell? ⟨w.heap.size,0,none⟩=some (.string n.kind)/\w'.cell? ⟨w.heap.size,1,none⟩=some (.string n.data)/\w'.cell? ⟨w.heap.size,2,none⟩=some (.bool n.exec)/\w'.cell? ⟨w.heap.size,3,none⟩=some (.slice xa n.kids.length xc)) w5:Prop):=by
   have h:=HS.out _ HBA.out
   simp only [<-k2] at h
   exact h
  have hb5:w5.heap[lb]? = some (.cells #[.slice va l.length vc] 49 (0,0)):=by
   rw [e1,Below.heap_alloc _ _ _ (by omega)];exact HLB.out _ HBR.out
  have f53:w5.frozen? ⟨lb,0,none⟩=false:=free_of_row hb5 0
  have c53:w5.cell? ⟨lb,0,none⟩=some (.slice va l.length vc):=by rw [cell_of_row w5 _ _ _ _ _ hb5];rfl
  have hneq:w.heap.size≠lb:=by omega
  have HS6:Hid (∀v,((fun w'=>w'.cell? ⟨w.heap.size,0,none⟩=some (.string n.kind)/\w'.cell? ⟨w.heap.size,1,none⟩=some (.string n.data)/\w'.cell? ⟨w.heap.size,2,none⟩=some (.bool n.exec)/\w'.cell? ⟨w.heap.size,3,none⟩=some (.slice xa n.kids.length xc)) (w5.setCell ⟨lb,0,none⟩ v):Prop)):=fun v=>by
   have h:=HS5.out
   have k3:∀o,(w5.setCell ⟨lb,0,none⟩ v).cell? ⟨w.heap.size,o,none⟩=w5.cell? ⟨w.heap.size,o,none⟩:=fun o=>World.cell?_of_block (Below.heap_setCell _ _ _ _ hneq)
   simp only [<-k3] at h
   exact h
  have HNX:Hid _:=ch_next (c:=⟨kd,path,n⟩) HO.out HBR.out HQ.out (wa:=(wx.alloc (.cells #[.string kd,.string path,.string n.kind,.string n.data,.bool n.exec,.slice ya n.kids.length yc] 96))) ((Below.refl _ _).alloc (Nat.le_refl _) _) HOWN5.out HGROW.out HAT.out (by omega) rfl
  clear hown5 hgrow hat hH5 a1 a2 e1 e2 k2 hb5
  refine hK.out _ _ HS5.out (fun hHeld'=>?_)
  clear hK K' hHeld
  have hHeld:=hHeld'
  clear hHeld'
  refine wpAnyH_take (i:=11) (v:=.pointer (some ⟨lb,0,none⟩)) rfl (by kernel_rfl) (by kernel_rfl) (by kernel_rfl) (fun _ _ _ h=>h) (Or.inl ⟨by rfl,?_⟩) hHeld ?_
  ·intro w hSw;(try dsimp only at hSw);simp only [List.getElem_toArray,List.getElem_cons_zero,List.getElem_cons_succ];go_simp
  simp only [List.getElem_toArray,List.getElem_cons_zero,List.getElem_cons_succ,Act.put,List.setIfInBounds_toArray,List.set_cons_zero,List.set_cons_succ]
  refine wpAnyH_ready (rs:=[12]) (by kernel_rfl) (by simp) ?_
  refine AllReadyH.cons rfl (fun K' hK=>?_) AllReadyH.nil
  simp only [List.getElem_toArray,List.getElem_cons_zero,List.getElem_cons_succ]
  go_simp
  go_wp2_with fail
  refine hK.out _ _ (HS6.out _) (fun hHeld'=>?_)
  clear hK K' hHeld
  have hHeld:=hHeld'
  clear hHeld'
  refine wpAnyH_done (by kernel_rfl) ?_ _
  go_wp2_with fail
  go_returns
  exact ⟨rfl,⟨_,_,HNX.out.1⟩,HNX.out.2⟩
 ·skip
  simp only [List.getElem_toArray,List.getElem_cons_zero,List.getElem_cons_succ]
  go_simp
  refine Calls.mono (HC.out _ (Below.refl _ _).drew) ?_
  rintro e wx ⟨u',rfl,hq,hb2⟩
  obtain ⟨ya,yc,rfl⟩:=hq.form
  have HB2:Hid (Below (w.alloc (.cells #[.string n.kind,.string n.data,.bool n.exec,.slice xa n.kids.length xc] 24)).heap.size (w.alloc (.cells #[.string n.kind,.string n.data,.bool n.exec,.slice xa n.kids.length xc] 24)) wx):=(Below.refl _ _).drew.trans hb2
  have HBR:Hid (Below w.heap.size w wx):=HA1.out.trans (HB2.out.mono (by omega))
  have HQ:Hid (LiesQ wx (fun b=>w.heap.size<=b/\b<wx.heap.size) d n.kids (.slice ya n.kids.length yc)):=LiesQ.kept (fun _ _=>rfl) (fun k hk=>⟨by have h:=hk.1;have h2:(w.alloc (.cells #[.string n.kind,.string n.data,.bool n.exec,.slice xa n.kids.length xc] 24)).drew.heap.size=w.heap.size+1:=hz1';omega,hk.2⟩) hq
  have hzx:=HB2.out.size
  clear hq hb2
  go_wp2_with fail
  refine hK.out _ _ (HS.out _ HB2.out) (fun hHeld'=>?_)
  clear hK K' hHeld
  have hHeld:=hHeld'
  clear hHeld'
  refine wpAnyH_take (i:=8) (v:=.agg #[.string kd,.string path,.string n.kind,.string n.data,.bool n.exec,.slice ya n.kids.length yc]) rfl (by kernel_rfl) (by kernel_rfl) (by kernel_rfl) (fun _ _ _ h=>h) (Or.inl ⟨by rfl,?_⟩) hHeld ?_
  ·intro w hSw;(try dsimp only at hSw);simp only [List.getElem_toArray,List.getElem_cons_zero,List.getElem_cons_succ];go_simp
  simp only [List.getElem_toArray,List.getElem_cons_zero,List.getElem_cons_succ,Act.put,List.setIfInBounds_toArray,List.set_cons_zero,List.set_cons_succ]
  refine wpAnyH_ready (rs:=[3,9]) (by kernel_rfl) (by simp) ?_
  refine AllReadyH.cons rfl (fun K' hK=>?_) (AllReadyH.cons rfl (fun K' hK=>?_) AllReadyH.nil)
  ·skip
   simp only [List.getElem_toArray,List.getElem_cons_zero,List.getElem_cons_succ]
   have c13:=HG3.out _ (HB2.out)
   go_simp
   go_wp2_with fail
   clear c13
   refine hK.out _ _ (HS.out _ (HB2.out)) (fun hHeld'=>?_)
   clear hK K' hHeld
   have hHeld:=hHeld'
   clear hHeld'
   refine wpAnyH_ready (rs:=[9]) (by kernel_rfl) (by simp) ?_
   refine AllReadyH.cons rfl (fun K' hK=>?_) AllReadyH.nil
   simp only [List.getElem_toArray,List.getElem_cons_zero,List.getElem_cons_succ]
   go_simp
   go_wp2_with fail
   have HBA:Hid (Below (w.alloc (.cells #[.string n.kind,.string n.data,.bool n.exec,.slice xa n.kids.length xc] 24)).heap.size (w.alloc (.cells #[.string n.kind,.string n.data,.bool n.exec,.slice xa n.kids.length xc] 24)) (wx.alloc (.cells #[.string kd,.string path,.string n.kind,.string n.data,.bool n.exec,.slice ya n.kids.length yc] 96))):=HB2.out.alloc HB2.out.size _
   have HOW:Hid ((wx.alloc (.cells #[.string kd,.string path,.string n.kind,.string n.data,.bool n.exec,.slice ya n.kids.length yc] 96)).ownsRow (lb+1) 96 6 (.slice va l.length vc) l.length (chCells l us)):=World.ownsRow.alloc (ownsRow_ext' HO.out.own fun k hk=>HBR.out.block k (HO.out.own.lt k hk).2) _
   have HN2:Hid ((wx.alloc (.cells #[.string kd,.string path,.string n.kind,.string n.data,.bool n.exec,.slice ya n.kids.length yc] 96)).heap[wx.heap.size]? = some (.cells #[.string kd,.string path,.string n.kind,.string n.data,.bool n.exec,.slice ya n.kids.length yc] 96 (0,0))):=row_alloc' wx #[.string kd,.string path,.string n.kind,.string n.data,.bool n.exec,.slice ya n.kids.length yc] 96
   refine hK.out _ _ (HS.out _ HBA.out) (fun hHeld'=>?_)
   clear hK K' hHeld
   have hHeld:=hHeld'
   clear hHeld'
   refine wpAnyH_ready (rs:=[10]) (by kernel_rfl) (by simp) ?_
   refine AllReadyH.cons rfl (fun K' hK=>?_) AllReadyH.nil
   refine step_append_lies _ (by rfl) _ _ _ (by rfl) (lb+1) 96 i0 _ 6 96 Tryz.underlying49 hi0 hz0 hz1 hz2 rfl (by omega) (.slice va l.length vc) l.length (chCells l us) (by rfl) HOW.out ⟨wx.heap.size,0,none⟩ 1 1 [.string kd,.string path,.string n.kind,.string n.data,.bool n.exec,.slice ya n.kids.length yc] (by rfl) (by rfl) (World.news_of_block (cs:=#[.string kd,.string path,.string n.kind,.string n.data,.bool n.exec,.slice ya n.kids.length yc]) (t:=96) (fr:=(0,0)) HN2.out) (by simp [Value.oneCell']) (by omega) (by unfold maxLen;omega) (by omega) (by simp;omega) (wx.heap.size+1) (by simp) ?_
   intro g cap w5 hown5 hgrow hat hlt5
   have hz5:=hgrow.size
   have HOWN5:Hid _:=hown5
   have HGROW:Hid _:=hgrow
   have HAT:Hid _:=hat
   have hH5:∀k,k<wx.heap.size+1->(Value.slice va l.length vc).ownBlock≠some k->w5.heap[k]? = (wx.alloc (.cells #[.string kd,.string path,.string n.kind,.string n.data,.bool n.exec,.slice ya n.kids.length yc] 96)).heap[k]? := fun k hk hne=>hgrow.block k (by simp;omega) (fun e=>hne e.symm)
   have a1:(Value.slice va l.length vc).ownBlock≠some lb:=fun e=>by have:=(HO.out.own.lt _ e).1;omega
   have a2:(Value.slice va l.length vc).ownBlock≠some w.heap.size:=fun e=>by have:=(HO.out.own.lt _ e).2;omega
   have e1:=hH5 lb (by omega) a1
   have e2:=hH5 w.heap.size (by omega) a2
   have k2:∀o,w5.cell? ⟨w.heap.size,o,none⟩=(wx.alloc (.cells #[.string kd,.string path,.string n.kind,.string n.data,.bool n.exec,.slice ya n.kids.length yc] 96)).cell? ⟨w.heap.size,o,none⟩:=fun o=>World.cell?_of_block e2
   have HS5:Hid ((fun w'=>w'.cell? ⟨w.heap.size,0,none⟩=some (.string n.kind)/\w'.cell? ⟨w.heap.size,1,none⟩=some (.string n.data)/\w'.cell? ⟨w.heap.size,2,none⟩=some (.bool n.exec)/\w'.cell? ⟨w.heap.size,3,none⟩=some (.slice xa n.kids.length xc)) w5:Prop):=by
    have h:=HS.out _ HBA.out
    simp only [<-k2] at h
    exact h
   have hb5:w5.heap[lb]? = some (.cells #[.slice va l.length vc] 49 (0,0)):=by
    rw [e1,Below.heap_alloc _ _ _ (by omega)];exact HLB.out _ HBR.out
   have f53:w5.frozen? ⟨lb,0,none⟩=false:=free_of_row hb5 0
   have c53:w5.cell? ⟨lb,0,none⟩=some (.slice va l.length vc):=by rw [cell_of_row w5 _ _ _ _ _ hb5];rfl
   have hneq:w.heap.size≠lb:=by omega
   have HS6:Hid (∀v,((fun w'=>w'.cell? ⟨w.heap.size,0,none⟩=some (.string n.kind)/\w'.cell? ⟨w.heap.size,1,none⟩=some (.string n.data)/\w'.cell? ⟨w.heap.size,2,none⟩=some (.bool n.exec)/\w'.cell? ⟨w.heap.size,3,none⟩=some (.slice xa n.kids.length xc)) (w5.setCell ⟨lb,0,none⟩ v):Prop)):=fun v=>by
    have h:=HS5.out
    have k3:∀o,(w5.setCell ⟨lb,0,none⟩ v).cell? ⟨w.heap.size,o,none⟩=w5.cell? ⟨w.heap.size,o,none⟩:=fun o=>World.cell?_of_block (Below.heap_setCell _ _ _ _ hneq)
    simp only [<-k3] at h
    exact h
   have HNX:Hid _:=ch_next (c:=⟨kd,path,n⟩) HO.out HBR.out HQ.out (wa:=(wx.alloc (.cells #[.string kd,.string path,.string n.kind,.string n.data,.bool n.exec,.slice ya n.kids.length yc] 96))) ((Below.refl _ _).alloc (Nat.le_refl _) _) HOWN5.out HGROW.out HAT.out (by omega) rfl
   clear hown5 hgrow hat hH5 a1 a2 e1 e2 k2 hb5
   refine hK.out _ _ HS5.out (fun hHeld'=>?_)
   clear hK K' hHeld
   have hHeld:=hHeld'
   clear hHeld'
   refine wpAnyH_take (i:=11) (v:=.pointer (some ⟨lb,0,none⟩)) rfl (by kernel_rfl) (by kernel_rfl) (by kernel_rfl) (fun _ _ _ h=>h) (Or.inl ⟨by rfl,?_⟩) hHeld ?_
   ·intro w hSw;(try dsimp only at hSw);simp only [List.getElem_toArray,List.getElem_cons_zero,List.getElem_cons_succ];go_simp
   simp only [List.getElem_toArray,List.getElem_cons_zero,List.getElem_cons_succ,Act.put,List.setIfInBounds_toArray,List.set_cons_zero,List.set_cons_succ]
   refine wpAnyH_ready (rs:=[12]) (by kernel_rfl) (by simp) ?_
   refine AllReadyH.cons rfl (fun K' hK=>?_) AllReadyH.nil
   simp only [List.getElem_toArray,List.getElem_cons_zero,List.getElem_cons_succ]
   go_simp
   go_wp2_with fail
   refine hK.out _ _ (HS6.out _) (fun hHeld'=>?_)
   clear hK K' hHeld
   have hHeld:=hHeld'
   clear hHeld'
   refine wpAnyH_done (by kernel_rfl) ?_ _
   go_wp2_with fail
   go_returns
   exact ⟨rfl,⟨_,_,HNX.out.1⟩,HNX.out.2⟩
  ·skip
   simp only [List.getElem_toArray,List.getElem_cons_zero,List.getElem_cons_succ]
   go_simp
   go_wp2_with fail
   have HBA:Hid (Below (w.alloc (.cells #[.string n.kind,.string n.data,.bool n.exec,.slice xa n.kids.length xc] 24)).heap.size (w.alloc (.cells #[.string n.kind,.string n.data,.bool n.exec,.slice xa n.kids.length xc] 24)) (wx.alloc (.cells #[.string kd,.string path,.string n.kind,.string n.data,.bool n.exec,.slice ya n.kids.length yc] 96))):=HB2.out.alloc HB2.out.size _
   have HOW:Hid ((wx.alloc (.cells #[.string kd,.string path,.string n.kind,.string n.data,.bool n.exec,.slice ya n.kids.length yc] 96)).ownsRow (lb+1) 96 6 (.slice va l.length vc) l.length (chCells l us)):=World.ownsRow.alloc (ownsRow_ext' HO.out.own fun k hk=>HBR.out.block k (HO.out.own.lt k hk).2) _
   have HN2:Hid ((wx.alloc (.cells #[.string kd,.string path,.string n.kind,.string n.data,.bool n.exec,.slice ya n.kids.length yc] 96)).heap[wx.heap.size]? = some (.cells #[.string kd,.string path,.string n.kind,.string n.data,.bool n.exec,.slice ya n.kids.length yc] 96 (0,0))):=row_alloc' wx #[.string kd,.string path,.string n.kind,.string n.data,.bool n.exec,.slice ya n.kids.length yc] 96
   refine hK.out _ _ (HS.out _ HBA.out) (fun hHeld'=>?_)
   clear hK K' hHeld
   have hHeld:=hHeld'
   clear hHeld'
   refine wpAnyH_ready (rs:=[3]) (by kernel_rfl) (by simp) ?_
   refine AllReadyH.cons rfl (fun K' hK=>?_) AllReadyH.nil
   simp only [List.getElem_toArray,List.getElem_cons_zero,List.getElem_cons_succ]
   have c13:=HG3.out _ (HBA.out)
   go_simp
   go_wp2_with fail
   clear c13
   refine hK.out _ _ (HS.out _ (HBA.out)) (fun hHeld'=>?_)
   clear hK K' hHeld
   have hHeld:=hHeld'
   clear hHeld'
   refine wpAnyH_ready (rs:=[10]) (by kernel_rfl) (by simp) ?_
   refine AllReadyH.cons rfl (fun K' hK=>?_) AllReadyH.nil
   refine step_append_lies _ (by rfl) _ _ _ (by rfl) (lb+1) 96 i0 _ 6 96 Tryz.underlying49 hi0 hz0 hz1 hz2 rfl (by omega) (.slice va l.length vc) l.length (chCells l us) (by rfl) HOW.out ⟨wx.heap.size,0,none⟩ 1 1 [.string kd,.string path,.string n.kind,.string n.data,.bool n.exec,.slice ya n.kids.length yc] (by rfl) (by rfl) (World.news_of_block (cs:=#[.string kd,.string path,.string n.kind,.string n.data,.bool n.exec,.slice ya n.kids.length yc]) (t:=96) (fr:=(0,0)) HN2.out) (by simp [Value.oneCell']) (by omega) (by unfold maxLen;omega) (by omega) (by simp;omega) (wx.heap.size+1) (by simp) ?_
   intro g cap w5 hown5 hgrow hat hlt5
   have hz5:=hgrow.size
   have HOWN5:Hid _:=hown5
   have HGROW:Hid _:=hgrow
   have HAT:Hid _:=hat
   have hH5:∀k,k<wx.heap.size+1->(Value.slice va l.length vc).ownBlock≠some k->w5.heap[k]? = (wx.alloc (.cells #[.string kd,.string path,.string n.kind,.string n.data,.bool n.exec,.slice ya n.kids.length yc] 96)).heap[k]? := fun k hk hne=>hgrow.block k (by simp;omega) (fun e=>hne e.symm)
   have a1:(Value.slice va l.length vc).ownBlock≠some lb:=fun e=>by have:=(HO.out.own.lt _ e).1;omega
   have a2:(Value.slice va l.length vc).ownBlock≠some w.heap.size:=fun e=>by have:=(HO.out.own.lt _ e).2;omega
   have e1:=hH5 lb (by omega) a1
   have e2:=hH5 w.heap.size (by omega) a2
   have k2:∀o,w5.cell? ⟨w.heap.size,o,none⟩=(wx.alloc (.cells #[.string kd,.string path,.string n.kind,.string n.data,.bool n.exec,.slice ya n.kids.length yc] 96)).cell? ⟨w.heap.size,o,none⟩:=fun o=>World.cell?_of_block e2
   have HS5:Hid ((fun w'=>w'.cell? ⟨w.heap.size,0,none⟩=some (.string n.kind)/\w'.cell? ⟨w.heap.size,1,none⟩=some (.string n.data)/\w'.cell? ⟨w.heap.size,2,none⟩=some (.bool n.exec)/\w'.cell? ⟨w.heap.size,3,none⟩=some (.slice xa n.kids.length xc)) w5:Prop):=by
    have h:=HS.out _ HBA.out
    simp only [<-k2] at h
    exact h
   have hb5:w5.heap[lb]? = some (.cells #[.slice va l.length vc] 49 (0,0)):=by
    rw [e1,Below.heap_alloc _ _ _ (by omega)];exact HLB.out _ HBR.out
   have f53:w5.frozen? ⟨lb,0,none⟩=false:=free_of_row hb5 0
   have c53:w5.cell? ⟨lb,0,none⟩=some (.slice va l.length vc):=by rw [cell_of_row w5 _ _ _ _ _ hb5];rfl
   have hneq:w.heap.size≠lb:=by omega
   have HS6:Hid (∀v,((fun w'=>w'.cell? ⟨w.heap.size,0,none⟩=some (.string n.kind)/\w'.cell? ⟨w.heap.size,1,none⟩=some (.string n.data)/\w'.cell? ⟨w.heap.size,2,none⟩=some (.bool n.exec)/\w'.cell? ⟨w.heap.size,3,none⟩=some (.slice xa n.kids.length xc)) (w5.setCell ⟨lb,0,none⟩ v):Prop)):=fun v=>by
    have h:=HS5.out
    have k3:∀o,(w5.setCell ⟨lb,0,none⟩ v).cell? ⟨w.heap.size,o,none⟩=w5.cell? ⟨w.heap.size,o,none⟩:=fun o=>World.cell?_of_block (Below.heap_setCell _ _ _ _ hneq)
    simp only [<-k3] at h
    exact h
   have HNX:Hid _:=ch_next (c:=⟨kd,path,n⟩) HO.out HBR.out HQ.out (wa:=(wx.alloc (.cells #[.string kd,.string path,.string n.kind,.string n.data,.bool n.exec,.slice ya n.kids.length yc] 96))) ((Below.refl _ _).alloc (Nat.le_refl _) _) HOWN5.out HGROW.out HAT.out (by omega) rfl
   clear hown5 hgrow hat hH5 a1 a2 e1 e2 k2 hb5
   refine hK.out _ _ HS5.out (fun hHeld'=>?_)
   clear hK K' hHeld
   have hHeld:=hHeld'
   clear hHeld'
   refine wpAnyH_take (i:=11) (v:=.pointer (some ⟨lb,0,none⟩)) rfl (by kernel_rfl) (by kernel_rfl) (by kernel_rfl) (fun _ _ _ h=>h) (Or.inl ⟨by rfl,?_⟩) hHeld ?_
   ·intro w hSw;(try dsimp only at hSw);simp only [List.getElem_toArray,List.getElem_cons_zero,List.getElem_cons_succ];go_simp
   simp only [List.getElem_toArray,List.getElem_cons_zero,List.getElem_cons_succ,Act.put,List.setIfInBounds_toArray,List.set_cons_zero,List.set_cons_succ]
   refine wpAnyH_ready (rs:=[12]) (by kernel_rfl) (by simp) ?_
   refine AllReadyH.cons rfl (fun K' hK=>?_) AllReadyH.nil
   simp only [List.getElem_toArray,List.getElem_cons_zero,List.getElem_cons_succ]
   go_simp
   go_wp2_with fail
   refine hK.out _ _ (HS6.out _) (fun hHeld'=>?_)
   clear hK K' hHeld
   have hHeld:=hHeld'
   clear hHeld'
   refine wpAnyH_done (by kernel_rfl) ?_ _
   go_wp2_with fail
   go_returns
   exact ⟨rfl,⟨_,_,HNX.out.1⟩,HNX.out.2⟩
end Go.Proofs.YtpjjpmikhjlgnaaGreatDoor
