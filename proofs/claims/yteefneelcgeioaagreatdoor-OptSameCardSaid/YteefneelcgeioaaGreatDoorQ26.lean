/-
  Trees as lists of nodes: sums over them, what is the same, what is well.
  A node in a block of its own, whose cells are set: what stays.
  The contracts of path.Get, and of package path's begin.
  Names put together to a path, and cut again: plain mathematics.
  How a path is told: plain mathematics.
  A tree's nodes, each with its names: plain mathematics.
  The contract of tree.walk, once more, for the function that package tree's each hands it.
  Conditions: those that each states.
-/
import Derived.Test.YteefneelcgeioaaGreatDoorQ25
import Derived.Test.YteefneelcgeioaaGreatDoorQ20
import Derived.Test.YteefneelcgeioaaGreatDoorQ17
import Derived.Test.YteefneelcgeioaaGreatDoorQ24
import Derived.Test.YteefneelcgeioaaGreatDoorQ18
namespace Go.Proofs.YteefneelcgeioaaGreatDoor
open Go.RowKit

def Fit:Nat->Tree->Prop
 | 0,_=>False
 | d+1,t=>∀x∈t.kids,Fit d x.2
theorem Lies.fit {w:World} {B:Nat}:∀ {d:Nat} {t:Tree} {v:Value},Lies w B d t.kids v->Fit d t
 | 0,_,_,h=>absurd h (by simp [Lies])
 | d+1,t,v,⟨ad,cap,_,_,hk⟩=>fun x hx=>by
  obtain ⟨i,hi,he⟩:=List.getElem_of_mem hx
  obtain ⟨_,_,u,_,_,_,_,_,_,_,_,h⟩:=hk i x (by rw [List.getElem?_eq_getElem hi,he])
  exact Lies.fit h

theorem sameB_refl:∀ {d:Nat} {t:Tree},Fit d t->sameB d t t=true
 | 0,_,h=>h.elim
 | d+1,t,h=>by
  rw [sameB_succ]
  have h1:headSame t t=true:=by simp [headSame]
  rw [h1,Bool.true_and]
  unfold sameTo
  rw [List.all_eq_true]
  intro i hi
  have hi':=List.mem_range.1 hi
  rw [List.getElem?_eq_getElem hi']
  simp only [beq_self_eq_true,Bool.true_and]
  exact sameB_refl (h _ (List.getElem_mem hi'))

/-! ### The list is the order of the walk -/
def tailOf (d:Nat) (x:ByteArray×Nat×Tree):List (ByteArray×Nat×Tree):=pre (d-x.2.1) x.1 x.2.1 x.2.2
theorem listTo_take {most deep : Nat} {l : List (ByteArray × Nat × Tree)} {i : Nat} : ∀ n, i ≤ n → (listTo most deep l n).take i = (listTo most deep l i).take i := by
  intro n hn
  induction n with
  | zero => have : i = 0 := by omega
            subst this; rfl
  | succ n ih =>
    rcases Nat.lt_or_ge n i with hlt | hge
    · have : i = n + 1 := by omega
      subst this; rfl
    · rw [← ih hge]
      show (grow most deep (listTo most deep l n) n).take i = _
      unfold grow
      split
      · rfl
      · rename_i x hx
        split
        · rfl
        · have hn' : n < (listTo most deep l n).length := (List.getElem?_eq_some_iff.1 hx).1
          rw [List.append_assoc, List.take_append_of_le_length (by rw [List.length_take]; omega), List.take_take, Nat.min_eq_left (by omega)]
theorem listTo_mono {most deep:Nat} {l:List (ByteArray×Nat×Tree)} (i:Nat):(listTo most deep l i).length<=(listTo most deep l (i+1)).length:=by
 show _<=(grow most deep (listTo most deep l i) i).length
 unfold grow
 split
 ·exact Nat.le_refl _
 ·split
  ·exact Nat.le_refl _
  ·simp only [List.length_append,List.length_take,List.length_drop];omega
theorem listTo_monos {most deep : Nat} {l : List (ByteArray × Nat × Tree)} (i : Nat) : ∀ n, i ≤ n → (listTo most deep l i).length ≤ (listTo most deep l n).length := by
  intro n hn
  induction n with
  | zero => have : i = 0 := by omega
            subst this; exact Nat.le_refl _
  | succ n ih =>
    rcases Nat.lt_or_ge n i with hlt | hge
    · have : i = n + 1 := by omega
      subst this; exact Nat.le_refl _
    · exact Nat.le_trans (ih hge) (listTo_mono n)

theorem list_flat {most deep d:Nat} {t:Tree} (hd:Fit d t) (hlen:(listOf most deep t).length<=most) (hdp:∀x∈listOf most deep t,x.2.1<=deep) :
  ∀i,i<=most+1->(∀x∈listTo most deep [(ByteArray.empty,0,t)] i,Fit (d-x.2.1) x.2.2) /\
   (listTo most deep [(ByteArray.empty,0,t)] i).take i++((listTo most deep [(ByteArray.empty,0,t)] i).drop i).flatMap (tailOf d)=pre d ByteArray.empty 0 t:=by
 intro i
 induction i with
 | zero =>
  intro _
  refine ⟨fun x hx=>?_,?_⟩
  ·simp only [listTo,List.mem_singleton] at hx
   subst hx
   exact hd
  ·simp [listTo,tailOf]
 | succ i ih =>
  intro hi
  obtain ⟨h1,h2⟩:=ih (by omega)
  have hgr:listTo most deep [(ByteArray.empty,0,t)] (i+1)=grow most deep (listTo most deep [(ByteArray.empty,0,t)] i) i:=rfl
  have hml:(listTo most deep [(ByteArray.empty,0,t)] (i+1)).length<=most:=Nat.le_trans (listTo_monos (i+1) (most+1) hi) hlen
  generalize hl:listTo most deep [(ByteArray.empty,0,t)] i=l at *
  cases hx:l[i]? with
  | none =>
   have hle:l.length<=i:=by
    rcases Nat.lt_or_ge i l.length with h|h
    ·rw [List.getElem?_eq_getElem h] at hx;cases hx
    ·exact h
   have e:grow most deep l i=l:=by unfold grow;rw [hx]
   rw [hgr,e]
   refine ⟨h1,?_⟩
   rw [List.take_of_length_le (by omega),List.drop_eq_nil_of_le (by omega)]
   rw [List.take_of_length_le hle,List.drop_eq_nil_of_le hle] at h2
   exact h2
  | some x =>
   have hil:i<l.length:=(List.getElem?_eq_some_iff.1 hx).1
   have hge:l[i]=x:=(List.getElem?_eq_some_iff.1 hx).2
   have hxm:x∈l:=List.mem_of_getElem? hx
   have hxd:x.2.1<=deep:=by
    have ht:=listTo_take (most:=most) (deep:=deep) (l:=[(ByteArray.empty,0,t)]) (i:=i+1) (most+1) hi
    have hin:x∈(listTo most deep [(ByteArray.empty,0,t)] (i+1)).take (i+1):=by
     have eg:grow most deep l i=if deep<x.2.1 then l else l.take (i+1)++kidsOf most x++l.drop (i+1):=by unfold grow;rw [hx]
     rw [hgr,eg]
     split
     ·exact List.mem_of_getElem? (i:=i) (by rw [List.getElem?_take,if_pos (by omega)];exact hx)
     ·rw [List.append_assoc,List.take_append_of_le_length (by rw [List.length_take];omega),List.take_take,Nat.min_self]
      exact List.mem_of_getElem? (i:=i) (by rw [List.getElem?_take,if_pos (by omega)];exact hx)
    rw [<-ht] at hin
    exact hdp x (List.mem_of_mem_take hin)
   have e:grow most deep l i=l.take (i+1)++kidsOf most x++l.drop (i+1):=by
    unfold grow
    rw [hx]
    exact if_neg (by omega)
   rw [hgr,e] at hml
   have hkl:(kidsOf most x).length<=most:=by
    simp only [List.length_append,List.length_take,List.length_drop] at hml
    omega
   have hka:x.2.2.kids.take (most+1)=x.2.2.kids:=by
    refine List.take_of_length_le ?_
    unfold kidsOf at hkl
    simp only [List.length_map,List.length_take] at hkl
    omega
   have hfx:=h1 x hxm
   obtain ⟨m,hm⟩:∃m,d-x.2.1=m+1:=by
    cases hdm:d-x.2.1 with
    | zero=>rw [hdm] at hfx;exact hfx.elim
    | succ m=>exact ⟨m,rfl⟩
   have hdk:d-(x.2.1+1)=m:=by omega
   rw [hgr,e]
   refine ⟨fun y hy=>?_,?_⟩
   ·rcases List.mem_append.1 hy with h|h
    ·rcases List.mem_append.1 h with h|h
     ·exact h1 y (List.mem_of_mem_take h)
     ·unfold kidsOf at h
      rw [hka] at h
      obtain ⟨z,hz,rfl⟩:=List.mem_map.1 h
      simp only
      rw [hdk]
      rw [hm] at hfx
      exact hfx z hz
    ·exact h1 y (List.mem_of_mem_drop h)
   ·have e1:(l.take (i+1)++kidsOf most x++l.drop (i+1)).take (i+1)=l.take (i+1):=by
     rw [List.append_assoc,List.take_append_of_le_length (by rw [List.length_take];omega),List.take_take,Nat.min_self]
    have e2:(l.take (i+1)++kidsOf most x++l.drop (i+1)).drop (i+1)=kidsOf most x++l.drop (i+1):=by
     rw [List.append_assoc]
     have hl1:(l.take (i+1)).length=i+1:=by rw [List.length_take];omega
     exact List.drop_left' hl1
    rw [e1,e2,List.flatMap_append]
    have e3:tailOf d x=x :: (kidsOf most x).flatMap (tailOf d):=by
     unfold tailOf
     rw [hm]
     simp only [pre]
     congr 1
     unfold kidsOf
     rw [hka,List.flatMap_map]
     simp only [hdk]
    have e4:l.drop i=x :: l.drop (i+1):=by rw [List.drop_eq_getElem_cons hil,hge]
    have e5:l.take (i+1)=l.take i ++ [x]:=by rw [List.take_succ_eq_append_getElem hil,hge]
    rw [e4,List.flatMap_cons,e3] at h2
    rw [e5,<-h2]
    simp
theorem pre_eq {most d:Nat} {t:Tree} (hd:Fit d t) (h:largeB most t=false):pre d ByteArray.empty 0 t=listOf most 12 t:=by
 unfold largeB at h
 simp only [Bool.or_eq_false_iff,decide_eq_false_iff_not] at h
 have hlen:(listOf most 12 t).length<=most:=by omega
 have hdp:∀x∈listOf most 12 t,x.2.1<=12:=fun x hx=>by
  have:=List.any_eq_false.1 h.2 x hx
  unfold itemLarge at this
  simp at this
  omega
 have:=(list_flat hd hlen hdp (most+1) (Nat.le_refl _)).2
 have hl:(listTo most 12 [(ByteArray.empty,0,t)] (most+1)).length<=most+1:=by
  show (listOf most 12 t).length<=_
  omega
 rw [List.take_of_length_le hl,List.drop_eq_nil_of_le hl] at this
 simp only [List.flatMap_nil,List.append_nil] at this
 exact this.symm
end Go.Proofs.YteefneelcgeioaaGreatDoor
namespace Go.Proofs.YteefneelcgeioaaGreatDoor
open Go.RowKit

def S (g:Tree->Nat) (l:List (ByteArray×Nat×Tree)):Nat:=(l.map fun x=>g x.2.2).sum
def one (_:Tree):Nat:=1
def bytesIn (t:Tree):Nat:=if isFile t=true then t.data.size else 0
def isOne (t:Tree):Nat:=if isFile t=true then 1 else 0
def OkItems (l:List (ByteArray×Nat×Tree)):Prop:=∀x∈l,x.1.size<=maxLen/\x.2.1<=4611686018427387904/\x.2.2.data.size<=2001
theorem alive_ck:∀(l:List (ByteArray×Nat×Tree)) (n:Nat),n<=200->OkItems l->Alive ck ckOk n l
 | [],_,_,_=>trivial
 | x :: l,n,hn,h=>by
  have hx:=h x List.mem_cons_self
  refine ⟨⟨hn,hx.1,hx.2.1,by have:=hx.2.2;unfold maxLen;omega⟩,fun he=>?_⟩
  refine alive_ck l (n+1) ?_ (fun y hy=>h y (List.mem_cons_of_mem _ hy))
  unfold ck at he
  simp only at he
  split at he
  ·cases he
  ·split at he
   ·cases he
   ·omega
def WellAll (l:List (ByteArray×Nat×Tree)):Prop:=∀x∈l,x.2.1<=8/\nodeErr x.2.2=none
theorem ck_none:∀(l:List (ByteArray×Nat×Tree)) (n:Nat),n<=200->((runs ck n l).2=none↔n+l.length<=200/\WellAll l)
 | [],n,hn=>by simp [runs,WellAll,hn]
 | x :: l,n,hn=>by
  by_cases h8:8<x.2.1
  ·have e:ck n x=(n+1,some 8):=by unfold ck;rw [if_pos h8]
   have hr:(runs ck n (x :: l)).2=some 8:=by simp only [runs,e]
   rw [hr]
   refine ⟨fun h=>by simp at h,fun h=>?_⟩
   have:=(h.2 x List.mem_cons_self).1
   omega
  ·by_cases h2:200<n+1
   ·have e:ck n x=(n+1,some 7):=by unfold ck;rw [if_neg h8,if_pos h2]
    have hr:(runs ck n (x :: l)).2=some 7:=by simp only [runs,e]
    rw [hr]
    refine ⟨fun h=>by simp at h,fun h=>?_⟩
    have:=h.1
    simp only [List.length_cons] at this
    omega
   ·have e:ck n x=(n+1,nodeErr x.2.2):=by unfold ck;rw [if_neg h8,if_neg h2]
    cases hne:nodeErr x.2.2 with
    | some er =>
     have hr:(runs ck n (x :: l)).2=some er:=by simp only [runs,e,hne]
     rw [hr]
     refine ⟨fun h=>by simp at h,fun h=>?_⟩
     have:=(h.2 x List.mem_cons_self).2
     rw [hne] at this
     cases this
    | none =>
     have hr:(runs ck n (x :: l)).2=(runs ck (n+1) l).2:=by simp only [runs,e,hne]
     rw [hr,ck_none l (n+1) (by omega)]
     simp only [List.length_cons]
     refine ⟨fun h=>⟨by omega,fun y hy=>?_⟩,fun h=>⟨by omega,fun y hy=>h.2 y (List.mem_cons_of_mem _ hy)⟩⟩
     rcases List.mem_cons.1 hy with rfl|hy
     ·exact ⟨by omega,hne⟩
     ·exact h.2 y hy
theorem treeErr_none {d:Nat} {t:Tree}:treeErr d t=none↔(pre d ByteArray.empty 0 t).length<=200/\WellAll (pre d ByteArray.empty 0 t):=by
 unfold treeErr
 rw [ck_none _ 0 (by omega),Nat.zero_add]

end Go.Proofs.YteefneelcgeioaaGreatDoor
namespace Go.Proofs.YteefneelcgeioaaGreatDoor
open Go.RowKit

structure But1 (h:Nat) (w w':World):Prop where
 os:w'.os=w.os
 tape:w'.tape=w.tape
 output:w'.output=w.output
 size:w'.heap.size=w.heap.size
 block:∀k,k≠h->w'.heap[k]? = w.heap[k]?
theorem But1.refl (h:Nat) (w:World):But1 h w w:=⟨rfl,rfl,rfl,rfl,fun _ _=>rfl⟩
theorem But1.set {h:Nat} {w w':World} (S:But1 h w w') (i:Nat) (v:Value):But1 h w (w'.setCell ⟨h,i,none⟩ v) :=
 ⟨S.os,S.tape,S.output,by rw [<-S.size];simp [World.setCell],fun k hk=>by rw [Below.heap_setCell _ _ _ _ hk];exact S.block k hk⟩
theorem But1.below {B h:Nat} {w wr w':World} (S:But1 h wr w') (hb:Below B w wr) (hB:B<=h):Below B w w' :=
 ⟨S.os.trans hb.os,S.tape.trans hb.tape,S.output.trans hb.output,by rw [S.size];exact hb.size,fun k hk=>by rw [S.block k (by omega)];exact hb.block k hk⟩
theorem row4b {w:World} {h:Nat} {x0 x1 x2 x3:Value} {t:TypeId} (hr:w.heap[h]? = some (.cells #[x0,x1,x2,x3] t (0,0))) :
  (w.cell? ⟨h,0,none⟩=some x0/\w.cell? ⟨h,1,none⟩=some x1/\w.cell? ⟨h,2,none⟩=some x2/\w.cell? ⟨h,3,none⟩=some x3)/\w.frozen? ⟨h,0,none⟩=false/\w.frozen? ⟨h,1,none⟩=false/\w.frozen? ⟨h,2,none⟩=false/\w.frozen? ⟨h,3,none⟩=false:=by
 refine ⟨⟨?_,?_,?_,?_⟩,free_of_row hr 0,free_of_row hr 1,free_of_row hr 2,free_of_row hr 3⟩
 all_goals (rw [cell_of_row w _ _ _ _ _ hr];rfl)
theorem But1.drew {h:Nat} {w w':World} (S:But1 h w w'):But1 h w w'.drew:=⟨S.os,S.tape,S.output,S.size,S.block⟩
structure ButUp (b:Nat) (w w':World):Prop where
 os:w'.os=w.os
 tape:w'.tape=w.tape
 output:w'.output=w.output
 size:w.heap.size<=w'.heap.size
 block:∀k,k<w.heap.size->k≠b->w'.heap[k]? = w.heap[k]?
theorem ButUp.of_but {b:Nat} {w w':World} (h:But1 b w w'):ButUp b w w':=⟨h.os,h.tape,h.output,by rw [h.size];exact Nat.le_refl _,fun k _ hk=>h.block k hk⟩
theorem ButUp.of_below {b:Nat} {w w':World} (h:Below w.heap.size w w'):ButUp b w w':=⟨h.os,h.tape,h.output,h.size,fun k hk _=>h.block k hk⟩
theorem ButUp.below {b B:Nat} {w wr w':World} (h:ButUp b wr w') (hb:Below B w wr) (hB:B<=b) (hs:B<=wr.heap.size):Below B w w' :=
 ⟨h.os.trans hb.os,h.tape.trans hb.tape,h.output.trans hb.output,Nat.le_trans hb.size h.size,fun k hk=>(h.block k (by omega) (by omega)).trans (hb.block k hk)⟩
end Go.Proofs.YteefneelcgeioaaGreatDoor
namespace Go.Proofs.YteefneelcgeioaaGreatDoor
open Go.RowKit
attribute [local go_sem ↓] Go.wp_at_zero Go.wp_at_succ

theorem rises_dir {t:Tree} (h:nodeErr t=none):Rises t.kids:=by
 obtain ⟨kd,da,ex,ki⟩:=t
 unfold nodeErr at h
 have nil:ki.length=0->Rises ki:=fun e=>by
  rw [List.eq_nil_of_length_eq_zero e]
  intro i j x y _ hx
  simp at hx
 split at h
 ·unfold fileErr at h
  split at h
  ·cases h
  ·rename_i h1
   exact nil (by simp only at h1;omega)
 ·split at h
  ·unfold dirErr at h
   split at h
   ·cases h
   ·split at h
    ·split at h
     ·rename_i h3
      exact rises_of h3
     ·cases h
    ·cases h
  ·split at h
   ·unfold linkErr at h
    split at h
    ·cases h
    ·rename_i h1
     simp only [not_or] at h1
     exact nil (by have:=h1.2;omega)
   ·cases h
theorem rises_tree:∀ {d:Nat} {p:ByteArray} {k:Nat} {t:Tree},Fit d t->(∀x∈pre d p k t,nodeErr x.2.2=none)->RisesD d t
 | 0,_,_,_,h,_=>h
 | d+1,p,k,t,h,ho=>by
  simp only [pre] at ho
  exact ⟨rises_dir (ho (p,k,t) List.mem_cons_self),fun y hy=>rises_tree (p:=p++slash++y.1) (k:=k+1) (h y hy) fun x hx=>ho x (List.mem_cons_of_mem _ (List.mem_flatMap.2 ⟨y,hy,hx⟩))⟩
theorem rises_well {d:Nat} {t:Tree} (hf:Fit d t) (h:treeErr d t=none):RisesD d t:=rises_tree (p:=ByteArray.empty) (k:=0) hf fun x hx=>((treeErr_none.1 h).2 x hx).2
def getR (d:Nat) (t:Tree) (s:ByteArray):Except Nat Tree:=match treeErr d t with
 | some e=>.error e
 | none=>match splitR s with
  | none=>.error 4
  | some l=>match atR l t with
   | none=>.error 5
   | some k=>.ok k
def PBegPost (a : Nat → Addr) (d : Nat) (t : Tree) (s : ByteArray) (w : World) (e : Ending) (w' : World) : Prop := Below w.heap.size w w' ∧
  ((∃ er, treeErr d t = some er ∧ e = .returned (.tuple #[.slice none 0 0, .iface 235 (.pointer (some (a er)))])) ∨
   (treeErr d t = none ∧ splitR s = none ∧ e = .returned (.tuple #[.slice none 0 0, .iface 235 (.pointer (some (a 4)))])) ∨
   (∃ l v, treeErr d t = none ∧ splitR s = some l ∧ e = .returned (.tuple #[v, .nilIface]) ∧ Texts w' v l ∧ RoomR v l.length))


def GetPost (a : Nat → Addr) (d : Nat) (t : Tree) (s : ByteArray) (w : World) (e : Ending) (w' : World) : Prop := Below w.heap.size w w' ∧
  ((∃ er, getR d t s = .error er ∧ e = .returned (.tuple #[.agg #[.string { data := #[] }, .string { data := #[] }, .bool false, .slice none 0 0], .iface 235 (.pointer (some (a er)))])) ∨
   (∃ k u d', getR d t s = .ok k ∧ d' ≤ d ∧ e = .returned (.tuple #[.agg #[.string k.kind, .string k.data, .bool k.exec, u], .nilIface]) ∧ LiesQ w' (fun b => w.heap.size ≤ b ∧ b < w'.heap.size) d' k.kids u))
theorem getR_some {d:Nat} {t k:Tree} {s:ByteArray} {l:List ByteArray} (h:treeErr d t=none) (h2:splitR s=some l) (h3:atR l t=some k):getR d t s = .ok k:=by unfold getR;rw [h];simp only [h2,h3]
end Go.Proofs.YteefneelcgeioaaGreatDoor
namespace Go.Proofs.YteefneelcgeioaaGreatDoor
open Go.RowKit

theorem ba_ext' {s t:ByteArray} (h:s.data.toList=t.data.toList):s=t:=by
 obtain ⟨⟨a⟩⟩:=s
 obtain ⟨⟨b⟩⟩:=t
 simp only at h
 subst h;rfl
def joinL (l:List ByteArray):List UInt8:=l.flatMap fun x=>47 :: x.data.toList
def joinB (l:List ByteArray):ByteArray:=⟨(joinL l).toArray⟩
theorem joinB_list (l:List ByteArray):(joinB l).data.toList=joinL l:=rfl
def NoStroke (x:ByteArray):Prop:=∀c∈x.data.toList,c≠47
theorem cutL_piece:∀ {x:List UInt8},(∀c∈x,c≠47)->∀(r:List UInt8),cutL (x++47 :: r)=x :: cutL r
 | [],_,r=>cutL_stroke r
 | c :: x,h,r=>by
  rw [List.cons_append,cutL_byte (h c (by simp)) (cutL_piece (fun d hd=>h d (by simp [hd])) r)]
theorem cutL_last:∀ {x:List UInt8},(∀c∈x,c≠47)->cutL x = [x]
 | [],_=>rfl
 | c :: x,h=>by rw [cutL_byte (h c (by simp)) (cutL_last (fun d hd=>h d (by simp [hd])))]
theorem join_cut:∀(x:ByteArray) (l:List ByteArray),(∀y∈x :: l,NoStroke y)->cutL (x.data.toList++joinL l)=(x :: l).map (·.data.toList)
 | x,[],h=>by
  show cutL (x.data.toList ++ [])=_
  rw [List.append_nil,cutL_last (h x (by simp))]
  rfl
 | x,y :: l,h=>by
  have ih:=join_cut y l fun z hz=>h z (by simp [hz])
  show cutL (x.data.toList++(47 :: y.data.toList++joinL l))=_
  rw [List.cons_append,cutL_piece (h x (by simp)),ih]
  rfl
theorem map_back (l:List ByteArray):(l.map (·.data.toList)).map (fun x=>(⟨x.toArray⟩:ByteArray))=l:=by
 rw [List.map_map]
 have:(fun x:List UInt8=>(⟨x.toArray⟩:ByteArray)) ∘ (fun x:ByteArray=>x.data.toList)=id:=by
  funext x
  rfl
 rw [this,List.map_id]
theorem joinB_ne {x:ByteArray} {l:List ByteArray} (h:¬(l = []/\x=ByteArray.empty)):joinB (x :: l)≠strokeB:=by
 intro e
 have e2:=congrArg (fun s:ByteArray=>s.data.toList) e
 simp only [joinB_list] at e2
 have e3:joinL (x :: l)=47 :: (x.data.toList++joinL l):=rfl
 rw [e3] at e2
 have e4:strokeB.data.toList = [47]:=rfl
 rw [e4] at e2
 simp only [List.cons.injEq,true_and,List.append_eq_nil_iff] at e2
 apply h
 refine ⟨?_,?_⟩
 ·cases l with
  | nil=>rfl
  | cons y l=>have:=e2.2;simp [joinL] at this
 ·have h1:=e2.1
  obtain ⟨⟨k⟩⟩:=x
  simp only at h1
  subst h1;rfl
theorem join_split {x:ByteArray} {l:List ByteArray} (hn:∀y∈x :: l,NoStroke y) (h:¬(l = []/\x=ByteArray.empty)) :
  splitR (joinB (x :: l))=if decide ((x :: l).length<=8)&&(x :: l).all nameB then some (x :: l) else none:=by
 have e:(joinB (x :: l)).data.toList=47 :: (x.data.toList++joinL l):=rfl
 rw [splitR_cons (joinB_ne h) e,join_cut x l hn,all_map,map_back,List.length_map]
 simp
theorem joinB_snoc {l:List ByteArray} {j:Nat} {x:ByteArray} (hx:l[j]? = some x):joinB (l.take (j+1))=joinB (l.take j)++strokeB++x:=by
 have hj:j<l.length:=(List.getElem?_eq_some_iff.1 hx).1
 have e:l.take (j+1)=l.take j ++ [x]:=by rw [List.take_succ_eq_append_getElem hj,(List.getElem?_eq_some_iff.1 hx).2]
 apply ba_ext'
 rw [ByteArray.data_append,Array.toList_append,ByteArray.data_append,Array.toList_append,joinB_list,joinB_list,e]
 unfold joinL
 rw [List.flatMap_append]
 simp [strokeB]
end Go.Proofs.YteefneelcgeioaaGreatDoor
namespace Go.Proofs.YteefneelcgeioaaGreatDoor
open Go.RowKit

def tellP (m:List ByteArray):ByteArray:=if (joinB m).toList.isEmpty=true then slash else joinB m
theorem joinB_isEmpty (m:List ByteArray):(joinB m).toList.isEmpty=m.isEmpty:=by
 rw [ba_toList,joinB_list]
 cases m <;> rfl
theorem name_noStroke {x:ByteArray} (h:nameB x=true):NoStroke x:=fun c hc e=>by
 unfold nameB at h
 simp only [Bool.and_eq_true,List.all_eq_true] at h
 have:=h.2 c hc
 subst e
 simp [nb] at this
theorem name_ne {x:ByteArray} (h:nameB x=true):x≠ByteArray.empty:=fun e=>by
 unfold nameB at h
 simp only [Bool.and_eq_true,decide_eq_true_eq] at h
 rw [e] at h
 have:=h.1.1.1.1
 simp at this
theorem tell_split {m:List ByteArray} (h8:m.length<=8) (hn:m.all nameB=true):splitR (tellP m)=some m:=by
 unfold tellP
 rw [joinB_isEmpty]
 cases m with
 | nil=>exact splitR_one
 | cons x r =>
  have hx:∀y∈x :: r,nameB y=true:=fun y hy=>List.all_eq_true.1 hn y hy
  rw [if_neg (by simp),join_split (fun y hy=>name_noStroke (hx y hy)) (fun h=>name_ne (hx x (by simp)) h.2),if_pos (by simp only [Bool.and_eq_true,decide_eq_true_eq];exact ⟨h8,hn⟩)]
end Go.Proofs.YteefneelcgeioaaGreatDoor
namespace Go.Proofs.YteefneelcgeioaaGreatDoor
open Go.RowKit

def preN:Nat->List ByteArray->Tree->List (List ByteArray×Tree)
 | 0,_,_=>[]
 | d+1,ns,t=>(ns,t) :: t.kids.flatMap fun x=>preN d (ns ++ [x.1]) x.2
theorem joinB_app (l:List ByteArray) (x:ByteArray):joinB (l ++ [x])=joinB l++slash++x:=by
 have h:=joinB_snoc (l:=l ++ [x]) (j:=l.length) (x:=x) (by simp)
 rw [List.take_of_length_le (by simp),List.take_left] at h
 exact h
theorem pre_names:∀(d:Nat) (ns:List ByteArray) (t:Tree),pre d (joinB ns) ns.length t=(preN d ns t).map fun x=>(joinB x.1,x.1.length,x.2)
 | 0,_,_=>rfl
 | d+1,ns,t=>by
  simp only [pre,preN,List.map_cons,List.map_flatMap]
  congr 1
  rw [List.flatMap_def,List.flatMap_def]
  congr 1
  apply List.map_congr_left
  intro x _
  have h:=pre_names d (ns ++ [x.1]) x.2
  rw [joinB_app,List.length_append] at h
  exact h
def NamesD:Nat->Tree->Prop
 | 0,_=>False
 | d+1,t=>∀x∈t.kids,nameB x.1=true/\NamesD d x.2
theorem names_dir {t:Tree} (h:nodeErr t=none):∀x∈t.kids,nameB x.1=true:=by
 obtain ⟨kd,da,ex,ki⟩:=t
 unfold nodeErr at h
 have nil:ki.length=0->∀x∈ki,nameB x.1=true:=fun e x hx=>by
  rw [List.eq_nil_of_length_eq_zero e] at hx
  simp at hx
 split at h
 ·unfold fileErr at h
  split at h
  ·cases h
  ·rename_i h1
   exact nil (by simp only at h1;omega)
 ·split at h
  ·unfold dirErr at h
   split at h
   ·cases h
   ·split at h
    ·rename_i h2
     exact fun x hx=>List.all_eq_true.1 h2 x hx
    ·cases h
  ·split at h
   ·unfold linkErr at h
    split at h
    ·cases h
    ·rename_i h1
     simp only [not_or] at h1
     exact nil (by have:=h1.2;omega)
   ·cases h
theorem names_tree:∀ {d:Nat} {p:ByteArray} {k:Nat} {t:Tree},Fit d t->(∀x∈pre d p k t,nodeErr x.2.2=none)->NamesD d t
 | 0,_,_,_,h,_=>h
 | d+1,p,k,t,h,ho=>by
  simp only [pre] at ho
  exact fun y hy=>⟨names_dir (ho (p,k,t) List.mem_cons_self) y hy,names_tree (p:=p++slash++y.1) (k:=k+1) (h y hy) fun x hx=>ho x (List.mem_cons_of_mem _ (List.mem_flatMap.2 ⟨y,hy,hx⟩))⟩
theorem preN_at:∀ {d:Nat} {ns:List ByteArray} {t:Tree},RisesD d t->NamesD d t->∀x∈preN d ns t,∃m,x.1=ns++m/\atR m t=some x.2/\m.all nameB=true
 | 0,_,_,h,_,_,_=>h.elim
 | d+1,ns,t,hr,hn,x,hx=>by
  simp only [preN,List.mem_cons,List.mem_flatMap] at hx
  rcases hx with rfl|⟨y,hy,hx⟩
  ·exact ⟨[],by simp,rfl,rfl⟩
  ·obtain ⟨m,e,ha,hall⟩:=preN_at (hr.2 y hy) (hn y hy).2 x hx
   obtain ⟨i,hi,hiy⟩:=List.getElem_of_mem hy
   have hyi:t.kids[i]? = some y:=by rw [List.getElem?_eq_getElem hi,hiy]
   refine ⟨y.1 :: m,by rw [e];simp,?_,by rw [List.all_cons,(hn y hy).1,hall];rfl⟩
   have hk:kidOf t y.1=some y.2:=by
    unfold kidOf
    rw [if_pos (there_at hr.1 hyi),place_at hr.1 hyi,hyi]
    rfl
   simp only [atR,hk]
   exact ha
theorem preN_nodup:∀ {d:Nat} {ns:List ByteArray} {t:Tree},RisesD d t->((preN d ns t).map (·.1)).Nodup
 | 0,_,_,h=>h.elim
 | d+1,ns,t,hr=>by
  have pref:∀(y:ByteArray×Tree),RisesD d y.2->∀z∈(preN d (ns ++ [y.1]) y.2).map (·.1),∃m,z=ns++y.1 :: m:=fun y _ z hz=>by
   have key:∀(d:Nat) (ms:List ByteArray) (t:Tree),∀z∈(preN d ms t).map (·.1),∃m,z=ms++m:=by
    intro d
    induction d with
    | zero=>intro ms t z hz;simp [preN] at hz
    | succ d ih =>
     intro ms t z hz
     simp only [preN,List.map_cons,List.map_flatMap,List.mem_cons,List.mem_flatMap] at hz
     rcases hz with rfl|⟨x,_,hz⟩
     ·exact ⟨[],by simp⟩
     ·obtain ⟨m,e⟩:=ih _ _ z hz
      exact ⟨x.1 :: m,by rw [e];simp⟩
   obtain ⟨m,e⟩:=key d _ _ z hz
   exact ⟨m,by rw [e];simp⟩
  simp only [preN,List.map_cons,List.map_flatMap]
  rw [List.nodup_cons]
  refine ⟨fun h=>?_,?_⟩
  ·obtain ⟨y,hy,hz⟩:=List.mem_flatMap.1 h
   obtain ⟨m,e⟩:=pref y (hr.2 y hy) ns hz
   have:=congrArg List.length e
   simp at this
  ·have dist:∀(l:List (ByteArray×Tree)),Rises l->(∀x∈l,RisesD d x.2)->(l.flatMap fun x=>(preN d (ns ++ [x.1]) x.2).map (·.1)).Nodup:=by
    intro l
    induction l with
    | nil=>intro _ _;simp
    | cons y l ih =>
     intro h1 h2
     rw [List.flatMap_cons,List.nodup_append]
     refine ⟨preN_nodup (h2 y (by simp)),ih (fun i j x z hij hx hz=>h1 (i+1) (j+1) x z (by omega) (by simpa using hx) (by simpa using hz)) (fun x hx=>h2 x (by simp [hx])),fun z hz z' hz' e=>?_⟩
     subst e
     obtain ⟨m,e1⟩:=pref y (h2 y (by simp)) z hz
     obtain ⟨x,hx,hzx⟩:=List.mem_flatMap.1 hz'
     obtain ⟨m',e2⟩:=pref x (h2 x (by simp [hx])) z hzx
     rw [e1] at e2
     have e3:=List.append_cancel_left e2
     injection e3 with e4 _
     obtain ⟨i,hi,hix⟩:=List.getElem_of_mem hx
     have:=h1 0 (i+1) y x (by omega) rfl (by rw [List.getElem?_cons_succ,List.getElem?_eq_getElem hi,hix])
     rw [e4,less_irrefl] at this
     cases this
   exact dist t.kids hr.1 hr.2
end Go.Proofs.YteefneelcgeioaaGreatDoor
namespace Go.Proofs.YteefneelcgeioaaGreatDoor
set_option maxHeartbeats 1000000
open Go.RowKit

theorem walk_each1 {σ:Type} {step:σ->ByteArray×Nat×Tree->σ×Option Nat} {ok:σ->ByteArray×Nat×Tree->Prop} {J:σ->(Nat->Prop)->World->Prop} (a:Nat->Addr) (c:Addr) (B:Nat) (V:Visit a 71 (.pointer (some c)) B step ok J) :
    ∀(d:Nat) (t:Tree) (p:ByteArray) (k:Nat) (u:Value) (s:σ) (C:Nat->Prop) (w:World),J s C w->SentsB a B w->B<=w.heap.size->Lies w B d t.kids u->Alive step ok s (pre d p k t) ->
      Calls Tryz.prog 57 #[.string p,.int .i64 (k:Int),.agg #[.string t.kind,.string t.data,.bool t.exec,u],.func (.func 71) #[] #[.pointer (some c)]] w fun e w' =>
        e = .returned (errV a (runs step s (pre d p k t)).2)/\∃C',J (runs step s (pre d p k t)).1 C' w'/\Kept C w w'/\∀j,C' j->C j∨w.heap.size<=j:=by
  intro d
  induction d with
  | zero=>intro t p k u s C w _ _ _ hl;exact absurd hl (by simp [Lies])
  | succ d ih =>
    intro t p k u s C w hJ S hB hl hal
    obtain ⟨ad,cap,rfl⟩:=hl.form
    have hW:∀o,Below w.heap.size w (w.alloc o):=fun o=>(Below.refl _ _).alloc (Nat.le_refl _) o
    have hv:=V.call s C (w.alloc (.cells #[.string t.kind,.string t.data,.bool t.exec,.slice ad t.kids.length cap] 32)) d p k t (.slice ad t.kids.length cap) (V.alloc hJ _) (S.below (hW _) hB) (by simp;omega) (hl.below (hW _) hB) hal.1
    have hlow:=V.low s C w hJ
    cases hst:step s (p,k,t) with
    | mk s1 o =>
      rw [hst] at hv
      cases o with
      | some er =>
        have hr:runs step s (pre (d+1) p k t)=(s1,some er):=by simp [pre,runs,hst]
        rw [hr]
        have HV:Hid (Calls Tryz.prog 71 #[.string p,.int .i64 (k:Int),.agg #[.string t.kind,.string t.data,.bool t.exec,.slice ad t.kids.length cap],.pointer (some c)] (w.alloc (.cells #[.string t.kind,.string t.data,.bool t.exec,.slice ad t.kids.length cap] 32)) fun e w' =>
          e = .returned (.iface 235 (.pointer (some (a er))))/\∃C',J s1 C' w'/\Kept C (w.alloc (.cells #[.string t.kind,.string t.data,.bool t.exec,.slice ad t.kids.length cap] 32)) w'/\∀j,C' j->C j∨(w.alloc (.cells #[.string t.kind,.string t.data,.bool t.exec,.slice ad t.kids.length cap] 32)).heap.size<=j):=hv
        have HW:Hid _:=hW
        clear hr hst hal ih hv hJ S hl hlow hW
        go_enter Tryz.func57,Tryz.ntmps57
        go_wp2_with fail
        refine Calls.mono HV.out ?_
        rintro e w2 ⟨rfl,C2,hJ2,hK2,hC2⟩
        go_wp2_with fail
        go_ret
        refine ⟨rfl,C2,hJ2,(Kept.of_below (HW.out _)).trans hK2 (fun j h=>.inl h),fun j hj=>?_⟩
        rcases hC2 j hj with h|h
        · exact .inl h
        · exact .inr (by simp at h;omega)
      | none =>
        have hr:runs step s (pre (d+1) p k t)=runs step s1 (t.kids.flatMap fun x=>pre d (p++slash++x.1) (k+1) x.2):=by simp [pre,runs,hst]
        rw [hr]
        have hal1:Alive step ok s1 (t.kids.flatMap fun x=>pre d (p++slash++x.1) (k+1) x.2):=by
          have:=hal.2
          rw [hst] at this
          exact this rfl
        have HV:Hid (Calls Tryz.prog 71 #[.string p,.int .i64 (k:Int),.agg #[.string t.kind,.string t.data,.bool t.exec,.slice ad t.kids.length cap],.pointer (some c)] (w.alloc (.cells #[.string t.kind,.string t.data,.bool t.exec,.slice ad t.kids.length cap] 32)) fun e w' =>
          e = .returned .nilIface/\∃C',J s1 C' w'/\Kept C (w.alloc (.cells #[.string t.kind,.string t.data,.bool t.exec,.slice ad t.kids.length cap] 32)) w'/\∀j,C' j->C j∨(w.alloc (.cells #[.string t.kind,.string t.data,.bool t.exec,.slice ad t.kids.length cap] 32)).heap.size<=j):=hv
        have q3:(w.alloc (.cells #[.string t.kind,.string t.data,.bool t.exec,.slice ad t.kids.length cap] 32)).cell? ⟨w.heap.size,3,none⟩=some (.slice ad t.kids.length cap):=by rw [World.cell?_alloc_at _ _ _ _ rfl];rfl
        have HZ:Hid ((w.alloc (.cells #[.string t.kind,.string t.data,.bool t.exec,.slice ad t.kids.length cap] 32)).heap.size=w.heap.size+1):=show _=_ by simp
        have hW1:=hW (.cells #[.string t.kind,.string t.data,.bool t.exec,.slice ad t.kids.length cap] 32)
        have HJ:Hid _:=hJ
        have HI:Hid _:=ih
        clear hr hst hal hv hW hJ ih
        go_enter Tryz.func57,Tryz.ntmps57
        go_wp2_with fail
        refine Calls.mono HV.out ?_
        rintro e w2 ⟨rfl,C2,hJ2,hK2,hC2⟩
        generalize w.alloc (.cells #[.string t.kind,.string t.data,.bool t.exec,.slice ad t.kids.length cap] 32)=W1 at *
        have q3':w2.cell? ⟨w.heap.size,3,none⟩=some (.slice ad t.kids.length cap):=by
          rw [World.cell?_of_block (w:=W1) (hK2.block w.heap.size (by rw [HZ.out];exact Nat.lt_succ_self _) (fun hc=>Nat.lt_irrefl _ (hlow _ hc).2))];exact q3
        have HK2:Hid _:=hK2
        have HC2:Hid _:=hC2
        clear HV q3 hK2 hC2
        have HL:=hl.open
        obtain ⟨hlen,HL⟩:=HL
        have HL:Hid _:=HL
        have HAL:Hid _:=hal1
        clear hal1 hl
        go_wp2_with fail
        go_loopw [24] (fun i wr=>∃(j:Nat) (s':σ) (C':Nat->Prop),j<=t.kids.length/\i = .int .i64 j/\runs step s1 ((t.kids.take j).flatMap fun x=>pre d (p++slash++x.1) (k+1) x.2)=(s',none)/\J s' C' wr/\Kept C W1 wr/\(∀m,C' m->C m∨W1.heap.size<=m)) (fun i _=>t.kids.length-(intOf i).toNat)
        case atStart=>exact ⟨0,s1,C2,Nat.zero_le _,rfl,rfl,hJ2,HK2.out,HC2.out⟩
        case round =>
          obtain ⟨j,s',C',hj,rfl,hrun,hJ',hK',hC'⟩:=hrel
          by_cases hlt:j<t.kids.length
          · obtain ⟨x,hx⟩:∃x,t.kids[j]? = some x:=⟨t.kids[j],List.getElem?_eq_getElem hlt⟩
            obtain ⟨b,off,rfl,u,K0⟩:∃b off,ad=some ⟨b,off,none⟩/\∃u,KidAt w B d b off j x u:=by
              rcases HL.out with ⟨h0,_⟩|⟨b,off,cp,e,_,hk⟩
              · rw [h0] at hlt;exact absurd hlt (by simp)
              · simp only [Value.slice.injEq] at e
                exact ⟨b,off,e.1,hk j x hx⟩
            have hbB:Below B w wr:=(hW1.mono hB).trans (hK'.below (fun m hm=>(hlow m hm).1) (by have:=HZ.out;omega))
            have hBr:B<=wr.heap.size:=by have:=hK'.size;have:=HZ.out;omega
            have K:=K0.below hbB (Nat.le_refl _)
            obtain ⟨ua,uc,rfl⟩:=K.lies.form
            have ha1:=HAL.out
            rw [flat_split hx] at ha1
            have ha2:=ha1.append.2 (by rw [hrun])
            rw [hrun] at ha2
            have ha3:=ha2.append.1
            have hbd:(p++slash++x.1).size<=maxLen/\k+1<=4611686018427387904:=by
              have hl':=K.lies
              cases d with
              | zero=>exact absurd hl' (by simp [Lies])
              | succ d=>exact V.bound _ _ ha3.1
            have hp2:p.size+1+x.1.size<=9223372036854775807:=by
              have:=hbd.1
              simp only [ByteArray.size_append,maxLen] at this
              have e:slash.size=1:=rfl
              omega
            have hk2:=hbd.2
            have hcall:=HI.out x.2 (p++slash++x.1) (k+1) (.slice ua x.2.kids.length uc) s' C' (wr.alloc (.cells #[.string x.1,.string x.2.kind,.string x.2.data,.bool x.2.exec,.slice ua x.2.kids.length uc] 86)) (V.alloc hJ' _)
              ((S.below hbB (Nat.le_refl _)).below ((Below.refl _ _).alloc (Nat.le_refl _) _) hBr) (by simp;omega) (K.lies.below ((Below.refl _ _).alloc (Nat.le_refl _) _) hBr) ha3
            have ek:((k+1:Nat):Int)=(k:Int)+1:=by omega
            rw [ek] at hcall
            have n0:=K.name
            have n1:=K.kind
            have n2:=K.data
            have n3:=K.exec
            have n4:=K.kids
            have HX:Hid _:=hx
            have HJ':Hid _:=hJ'
            have HK':Hid _:=hK'
            have HC':Hid _:=hC'
            have HR:Hid _:=hrun
            cases hr2:runs step s' (pre d (p++slash++x.1) (k+1) x.2) with
            | mk s2 o =>
              rw [hr2] at hcall
              cases o with
              | some er =>
                have HF:Hid _:=runs_flat_err HX.out HR.out hr2
                have HCALL:Hid (Calls Tryz.prog 57 #[.string (p++slash++x.1),.int .i64 ((k:Int)+1),.agg #[.string x.2.kind,.string x.2.data,.bool x.2.exec,.slice ua x.2.kids.length uc],.func (.func 71) #[] #[.pointer (some c)]] (wr.alloc (.cells #[.string x.1,.string x.2.kind,.string x.2.data,.bool x.2.exec,.slice ua x.2.kids.length uc] 86)) fun e w' =>
                    e = .returned (.iface 235 (.pointer (some (a er))))/\∃C'',J s2 C'' w'/\Kept C' (wr.alloc (.cells #[.string x.1,.string x.2.kind,.string x.2.data,.bool x.2.exec,.slice ua x.2.kids.length uc] 86)) w'/\∀m,C'' m->C' m∨(wr.alloc (.cells #[.string x.1,.string x.2.kind,.string x.2.data,.bool x.2.exec,.slice ua x.2.kids.length uc] 86)).heap.size<=m):=hcall
                clear hcall ek ha1 ha2 ha3 hbd hx hJ' hK' hC' hrun K K0 hbB S hlow hr2
                go_wp2_with fail
                refine Calls.mono HCALL.out ?_
                rintro e w4 ⟨rfl,C4,hJ4,hK4,hC4⟩
                have HJ4:Hid _:=hJ4
                have HK4:Hid _:=hK4
                have HC4:Hid _:=hC4
                clear hJ4 hK4 hC4
                go_wp2_with fail
                go_ret
                rw [HF.out]
                refine ⟨rfl,C4,HJ4.out,?_,fun m hm=>?_⟩
                · exact (Kept.of_below hW1).trans (HK'.out.trans ((Kept.of_below ((Below.refl _ _).alloc (Nat.le_refl _) _)).trans HK4.out (fun m h=>.inl h)) HC'.out) (fun m h=>.inl h)
                · rcases HC4.out m hm with h|h
                  · rcases HC'.out m h with h|h
                    · exact .inl h
                    · exact .inr (by have:=HZ.out;omega)
                  · exact .inr (by have:=HZ.out;have:=HK'.out.size;simp at h;omega)
              | none =>
                have HF:Hid _:=runs_flat_next HX.out HR.out hr2
                have HCALL:Hid (Calls Tryz.prog 57 #[.string (p++slash++x.1),.int .i64 ((k:Int)+1),.agg #[.string x.2.kind,.string x.2.data,.bool x.2.exec,.slice ua x.2.kids.length uc],.func (.func 71) #[] #[.pointer (some c)]] (wr.alloc (.cells #[.string x.1,.string x.2.kind,.string x.2.data,.bool x.2.exec,.slice ua x.2.kids.length uc] 86)) fun e w' =>
                    e = .returned .nilIface/\∃C'',J s2 C'' w'/\Kept C' (wr.alloc (.cells #[.string x.1,.string x.2.kind,.string x.2.data,.bool x.2.exec,.slice ua x.2.kids.length uc] 86)) w'/\∀m,C'' m->C' m∨(wr.alloc (.cells #[.string x.1,.string x.2.kind,.string x.2.data,.bool x.2.exec,.slice ua x.2.kids.length uc] 86)).heap.size<=m):=hcall
                clear hcall ek ha1 ha2 ha3 hbd hx hJ' hK' hC' hrun K K0 hbB S hlow hr2
                go_wp2_with fail
                refine Calls.mono HCALL.out ?_
                rintro e w4 ⟨rfl,C4,hJ4,hK4,hC4⟩
                have HJ4:Hid _:=hJ4
                have HK4:Hid _:=hK4
                have HC4:Hid _:=hC4
                clear hJ4 hK4 hC4
                go_wp2_with fail
                go_roundw
                case rel =>
                  refine ⟨j+1,s2,C4,by omega,by go_num,HF.out,HJ4.out,?_,fun m hm=>?_⟩
                  · exact HK'.out.trans ((Kept.of_below ((Below.refl _ _).alloc (Nat.le_refl _) _)).trans HK4.out (fun m h=>.inl h)) HC'.out
                  · rcases HC4.out m hm with h|h
                    · exact HC'.out m h
                    · exact .inr (by have:=HK'.out.size;simp at h;omega)
                case measure=>simp [intOf];omega
          · have et:t.kids.take j=t.kids:=List.take_of_length_le (by omega)
            rw [et] at hrun
            have HR:Hid _:=hrun
            have HJ':Hid _:=hJ'
            have HK':Hid _:=hK'
            have HC':Hid _:=hC'
            clear et hrun hJ' hK' hC'
            go_wp2_with fail
            go_ret
            rw [HR.out]
            refine ⟨rfl,C',HJ'.out,(Kept.of_below hW1).trans HK'.out (fun j h=>.inl h),fun j hj=>?_⟩
            rcases HC'.out j hj with h|h
            · exact .inl h
            · exact .inr (by have:=HZ.out;omega)
end Go.Proofs.YteefneelcgeioaaGreatDoor
