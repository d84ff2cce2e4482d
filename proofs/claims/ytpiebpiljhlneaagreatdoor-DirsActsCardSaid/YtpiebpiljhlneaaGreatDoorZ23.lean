/-
  Sums Boxes PGet Joins PathT Named WalkE Each Tells Files Sums3 Told Ec, joined.
  Conditions: those that each states.
-/
import Derived.Test.YtpiebpiljhlneaaGreatDoorZ22
import Derived.Test.YtpiebpiljhlneaaGreatDoorZ21
import Derived.Laws.EntriesVeiled
namespace Go.Proofs.YtpiebpiljhlneaaGreatDoor
open Go.RowKit

def Fit:Nat->Tree->Prop
 | 0,_=>False
 | d+1,t=>∀x∈t.kids,Fit d x.2
theorem Lies.fit {w:World} {B:Nat}:∀ {d:Nat} {t:Tree} {v:Value},Lies w B d t.kids v->Fit d t
 | 0,_,_,h=>absurd h (by simp [Lies])
 | d+1,t,v,⟨ad,cap,_,_,hk⟩=>fun x hx=>by
  obtain ⟨i,hi,he⟩:=List.getElem_of_mem hx
  obtain ⟨_,_,u,_,_,_,_,_,_,_,_,h⟩:=hk i x (by rw [List.getElem?_eq_getElem hi,he])
  exact Lies.fit h

theorem sameB_refl:∀ {d:Nat} {t:Tree},Fit d t->sameB d t t=true
 | 0,_,h=>h.elim
 | d+1,t,h=>by
  rw [sameB_succ]
  have h1:headSame t t=true:=by simp [headSame]
  rw [h1,Bool.true_and]
  unfold sameTo
  rw [List.all_eq_true]
  intro i hi
  have hi':=List.mem_range.1 hi
  rw [List.getElem?_eq_getElem hi']
  simp only [beq_self_eq_true,Bool.true_and]
  exact sameB_refl (h _ (List.getElem_mem hi'))

/-! ### The list is the order of the walk -/
def tailOf (d:Nat) (x:ByteArray×Nat×Tree):List (ByteArray×Nat×Tree):=pre (d-x.2.1) x.1 x.2.1 x.2.2
theorem listTo_take {most deep : Nat} {l : List (ByteArray × Nat × Tree)} {i : Nat} : ∀ n, i ≤ n → (listTo most deep l n).take i = (listTo most deep l i).take i := by
  intro n hn
  induction n with
  | zero => have : i = 0 := by omega
            subst this; rfl
  | succ n ih =>
    rcases Nat.lt_or_ge n i with hlt | hge
    · have : i = n + 1 := by omega
      subst this; rfl
    · rw [← ih hge]
      show (grow most deep (listTo most deep l n) n).take i = _
      unfold grow
      split
      · rfl
      · rename_i x hx
        split
        · rfl
        · have hn' : n < (listTo most deep l n).length := (List.getElem?_eq_some_iff.1 hx).1
          rw [List.append_assoc, List.take_append_of_le_length (by rw [List.length_take]; omega), List.take_take, Nat.min_eq_left (by omega)]
theorem listTo_mono {most deep:Nat} {l:List (ByteArray×Nat×Tree)} (i:Nat):(listTo most deep l i).length<=(listTo most deep l (i+1)).length:=by
 show _<=(grow most deep (listTo most deep l i) i).length
 unfold grow
 split
 ·exact Nat.le_refl _
 ·split
  ·exact Nat.le_refl _
  ·simp only [List.length_append,List.length_take,List.length_drop];omega
theorem listTo_monos {most deep : Nat} {l : List (ByteArray × Nat × Tree)} (i : Nat) : ∀ n, i ≤ n → (listTo most deep l i).length ≤ (listTo most deep l n).length := by
  intro n hn
  induction n with
  | zero => have : i = 0 := by omega
            subst this; exact Nat.le_refl _
  | succ n ih =>
    rcases Nat.lt_or_ge n i with hlt | hge
    · have : i = n + 1 := by omega
      subst this; exact Nat.le_refl _
    · exact Nat.le_trans (ih hge) (listTo_mono n)

theorem list_flat {most deep d:Nat} {t:Tree} (hd:Fit d t) (hlen:(listOf most deep t).length<=most) (hdp:∀x∈listOf most deep t,x.2.1<=deep) :
  ∀i,i<=most+1->(∀x∈listTo most deep [(ByteArray.empty,0,t)] i,Fit (d-x.2.1) x.2.2) /\
   (listTo most deep [(ByteArray.empty,0,t)] i).take i++((listTo most deep [(ByteArray.empty,0,t)] i).drop i).flatMap (tailOf d)=pre d ByteArray.empty 0 t:=by
 intro i
 induction i with
 | zero =>
  intro _
  refine ⟨fun x hx=>?_,?_⟩
  ·simp only [listTo,List.mem_singleton] at hx
   subst hx
   exact hd
  ·simp [listTo,tailOf]
 | succ i ih =>
  intro hi
  obtain ⟨h1,h2⟩:=ih (by omega)
  have hgr:listTo most deep [(ByteArray.empty,0,t)] (i+1)=grow most deep (listTo most deep [(ByteArray.empty,0,t)] i) i:=rfl
  have hml:(listTo most deep [(ByteArray.empty,0,t)] (i+1)).length<=most:=Nat.le_trans (listTo_monos (i+1) (most+1) hi) hlen
  generalize hl:listTo most deep [(ByteArray.empty,0,t)] i=l at *
  cases hx:l[i]? with
  | none =>
   have hle:l.length<=i:=by
    rcases Nat.lt_or_ge i l.length with h|h
    ·rw [List.getElem?_eq_getElem h] at hx;cases hx
    ·exact h
   have e:grow most deep l i=l:=by unfold grow;rw [hx]
   rw [hgr,e]
   refine ⟨h1,?_⟩
   rw [List.take_of_length_le (by omega),List.drop_eq_nil_of_le (by omega)]
   rw [List.take_of_length_le hle,List.drop_eq_nil_of_le hle] at h2
   exact h2
  | some x =>
   have hil:i<l.length:=(List.getElem?_eq_some_iff.1 hx).1
   have hge:l[i]=x:=(List.getElem?_eq_some_iff.1 hx).2
   have hxm:x∈l:=List.mem_of_getElem? hx
   have hxd:x.2.1<=deep:=by
    have ht:=listTo_take (most:=most) (deep:=deep) (l:=[(ByteArray.empty,0,t)]) (i:=i+1) (most+1) hi
    have hin:x∈(listTo most deep [(ByteArray.empty,0,t)] (i+1)).take (i+1):=by
     have eg:grow most deep l i=if deep<x.2.1 then l else l.take (i+1)++kidsOf most x++l.drop (i+1):=by unfold grow;rw [hx]
     rw [hgr,eg]
     split
     ·exact List.mem_of_getElem? (i:=i) (by rw [List.getElem?_take,if_pos (by omega)];exact hx)
     ·rw [List.append_assoc,List.take_append_of_le_length (by rw [List.length_take];omega),List.take_take,Nat.min_self]
      exact List.mem_of_getElem? (i:=i) (by rw [List.getElem?_take,if_pos (by omega)];exact hx)
    rw [<-ht] at hin
    exact hdp x (List.mem_of_mem_take hin)
   have e:grow most deep l i=l.take (i+1)++kidsOf most x++l.drop (i+1):=by
    unfold grow
    rw [hx]
    exact if_neg (by omega)
   rw [hgr,e] at hml
   have hkl:(kidsOf most x).length<=most:=by
    simp only [List.length_append,List.length_take,List.length_drop] at hml
    omega
   have hka:x.2.2.kids.take (most+1)=x.2.2.kids:=by
    refine List.take_of_length_le ?_
    unfold kidsOf at hkl
    simp only [List.length_map,List.length_take] at hkl
    omega
   have hfx:=h1 x hxm
   obtain ⟨m,hm⟩:∃m,d-x.2.1=m+1:=by
    cases hdm:d-x.2.1 with
    | zero=>rw [hdm] at hfx;exact hfx.elim
    | succ m=>exact ⟨m,rfl⟩
   have hdk:d-(x.2.1+1)=m:=by omega
   rw [hgr,e]
   refine ⟨fun y hy=>?_,?_⟩
   ·rcases List.mem_append.1 hy with h|h
    ·rcases List.mem_append.1 h with h|h
     ·exact h1 y (List.mem_of_mem_take h)
     ·unfold kidsOf at h
      rw [hka] at h
      obtain ⟨z,hz,rfl⟩:=List.mem_map.1 h
      simp only
      rw [hdk]
      rw [hm] at hfx
      exact hfx z hz
    ·exact h1 y (List.mem_of_mem_drop h)
   ·have e1:(l.take (i+1)++kidsOf most x++l.drop (i+1)).take (i+1)=l.take (i+1):=by
     rw [List.append_assoc,List.take_append_of_le_length (by rw [List.length_take];omega),List.take_take,Nat.min_self]
    have e2:(l.take (i+1)++kidsOf most x++l.drop (i+1)).drop (i+1)=kidsOf most x++l.drop (i+1):=by
     rw [List.append_assoc]
     have hl1:(l.take (i+1)).length=i+1:=by rw [List.length_take];omega
     exact List.drop_left' hl1
    rw [e1,e2,List.flatMap_append]
    have e3:tailOf d x=x :: (kidsOf most x).flatMap (tailOf d):=by
     unfold tailOf
     rw [hm]
     simp only [pre]
     congr 1
     unfold kidsOf
     rw [hka,List.flatMap_map]
     simp only [hdk]
    have e4:l.drop i=x :: l.drop (i+1):=by rw [List.drop_eq_getElem_cons hil,hge]
    have e5:l.take (i+1)=l.take i ++ [x]:=by rw [List.take_succ_eq_append_getElem hil,hge]
    rw [e4,List.flatMap_cons,e3] at h2
    rw [e5,<-h2]
    simp
theorem pre_eq {most d:Nat} {t:Tree} (hd:Fit d t) (h:largeB most t=false):pre d ByteArray.empty 0 t=listOf most 12 t:=by
 unfold largeB at h
 simp only [Bool.or_eq_false_iff,decide_eq_false_iff_not] at h
 have hlen:(listOf most 12 t).length<=most:=by omega
 have hdp:∀x∈listOf most 12 t,x.2.1<=12:=fun x hx=>by
  have:=List.any_eq_false.1 h.2 x hx
  unfold itemLarge at this
  simp at this
  omega
 have:=(list_flat hd hlen hdp (most+1) (Nat.le_refl _)).2
 have hl:(listTo most 12 [(ByteArray.empty,0,t)] (most+1)).length<=most+1:=by
  show (listOf most 12 t).length<=_
  omega
 rw [List.take_of_length_le hl,List.drop_eq_nil_of_le hl] at this
 simp only [List.flatMap_nil,List.append_nil] at this
 exact this.symm
end Go.Proofs.YtpiebpiljhlneaaGreatDoor
namespace Go.Proofs.YtpiebpiljhlneaaGreatDoor
open Go.RowKit

def S (g:Tree->Nat) (l:List (ByteArray×Nat×Tree)):Nat:=(l.map fun x=>g x.2.2).sum
def one (_:Tree):Nat:=1
def bytesIn (t:Tree):Nat:=if isFile t=true then t.data.size else 0
def isOne (t:Tree):Nat:=if isFile t=true then 1 else 0
def OkItems (l:List (ByteArray×Nat×Tree)):Prop:=∀x∈l,x.1.size<=maxLen/\x.2.1<=4611686018427387904/\x.2.2.data.size<=2001
theorem alive_ck:∀(l:List (ByteArray×Nat×Tree)) (n:Nat),n<=200->OkItems l->Alive ck ckOk n l
 | [],_,_,_=>trivial
 | x :: l,n,hn,h=>by
  have hx:=h x List.mem_cons_self
  refine ⟨⟨hn,hx.1,hx.2.1,by have:=hx.2.2;unfold maxLen;omega⟩,fun he=>?_⟩
  refine alive_ck l (n+1) ?_ (fun y hy=>h y (List.mem_cons_of_mem _ hy))
  unfold ck at he
  simp only at he
  split at he
  ·cases he
  ·split at he
   ·cases he
   ·omega
def WellAll (l:List (ByteArray×Nat×Tree)):Prop:=∀x∈l,x.2.1<=8/\nodeErr x.2.2=none
theorem ck_none:∀(l:List (ByteArray×Nat×Tree)) (n:Nat),n<=200->((runs ck n l).2=none↔n+l.length<=200/\WellAll l)
 | [],n,hn=>by simp [runs,WellAll,hn]
 | x :: l,n,hn=>by
  by_cases h8:8<x.2.1
  ·have e:ck n x=(n+1,some 8):=by unfold ck;rw [if_pos h8]
   have hr:(runs ck n (x :: l)).2=some 8:=by simp only [runs,e]
   rw [hr]
   refine ⟨fun h=>by simp at h,fun h=>?_⟩
   have:=(h.2 x List.mem_cons_self).1
   omega
  ·by_cases h2:200<n+1
   ·have e:ck n x=(n+1,some 7):=by unfold ck;rw [if_neg h8,if_pos h2]
    have hr:(runs ck n (x :: l)).2=some 7:=by simp only [runs,e]
    rw [hr]
    refine ⟨fun h=>by simp at h,fun h=>?_⟩
    have:=h.1
    simp only [List.length_cons] at this
    omega
   ·have e:ck n x=(n+1,nodeErr x.2.2):=by unfold ck;rw [if_neg h8,if_neg h2]
    cases hne:nodeErr x.2.2 with
    | some er =>
     have hr:(runs ck n (x :: l)).2=some er:=by simp only [runs,e,hne]
     rw [hr]
     refine ⟨fun h=>by simp at h,fun h=>?_⟩
     have:=(h.2 x List.mem_cons_self).2
     rw [hne] at this
     cases this
    | none =>
     have hr:(runs ck n (x :: l)).2=(runs ck (n+1) l).2:=by simp only [runs,e,hne]
     rw [hr,ck_none l (n+1) (by omega)]
     simp only [List.length_cons]
     refine ⟨fun h=>⟨by omega,fun y hy=>?_⟩,fun h=>⟨by omega,fun y hy=>h.2 y (List.mem_cons_of_mem _ hy)⟩⟩
     rcases List.mem_cons.1 hy with rfl|hy
     ·exact ⟨by omega,hne⟩
     ·exact h.2 y hy
theorem treeErr_none {d:Nat} {t:Tree}:treeErr d t=none↔(pre d ByteArray.empty 0 t).length<=200/\WellAll (pre d ByteArray.empty 0 t):=by
 unfold treeErr
 rw [ck_none _ 0 (by omega),Nat.zero_add]

end Go.Proofs.YtpiebpiljhlneaaGreatDoor
namespace Go.Proofs.YtpiebpiljhlneaaGreatDoor
section
open Go.RowKit

structure But1 (h:Nat) (w w':World):Prop where
 os:w'.os=w.os
 tape:w'.tape=w.tape
 output:w'.output=w.output
 size:w'.heap.size=w.heap.size
 block:∀k,k≠h->w'.heap[k]? = w.heap[k]?
theorem But1.refl (h:Nat) (w:World):But1 h w w:=⟨rfl,rfl,rfl,rfl,fun _ _=>rfl⟩
theorem But1.set {h:Nat} {w w':World} (S:But1 h w w') (i:Nat) (v:Value):But1 h w (w'.setCell ⟨h,i,none⟩ v) :=
 ⟨S.os,S.tape,S.output,by rw [<-S.size];simp [World.setCell],fun k hk=>by rw [Below.heap_setCell _ _ _ _ hk];exact S.block k hk⟩
theorem But1.below {B h:Nat} {w wr w':World} (S:But1 h wr w') (hb:Below B w wr) (hB:B<=h):Below B w w' :=
 ⟨S.os.trans hb.os,S.tape.trans hb.tape,S.output.trans hb.output,by rw [S.size];exact hb.size,fun k hk=>by rw [S.block k (by omega)];exact hb.block k hk⟩
theorem row4b {w:World} {h:Nat} {x0 x1 x2 x3:Value} {t:TypeId} (hr:w.heap[h]? = some (.cells #[x0,x1,x2,x3] t (0,0))) :
  (w.cell? ⟨h,0,none⟩=some x0/\w.cell? ⟨h,1,none⟩=some x1/\w.cell? ⟨h,2,none⟩=some x2/\w.cell? ⟨h,3,none⟩=some x3)/\w.frozen? ⟨h,0,none⟩=false/\w.frozen? ⟨h,1,none⟩=false/\w.frozen? ⟨h,2,none⟩=false/\w.frozen? ⟨h,3,none⟩=false:=by
 refine ⟨⟨?_,?_,?_,?_⟩,free_of_row hr 0,free_of_row hr 1,free_of_row hr 2,free_of_row hr 3⟩
 all_goals (rw [cell_of_row w _ _ _ _ _ hr];rfl)
theorem But1.drew {h:Nat} {w w':World} (S:But1 h w w'):But1 h w w'.drew:=⟨S.os,S.tape,S.output,S.size,S.block⟩
structure ButUp (b:Nat) (w w':World):Prop where
 os:w'.os=w.os
 tape:w'.tape=w.tape
 output:w'.output=w.output
 size:w.heap.size<=w'.heap.size
 block:∀k,k<w.heap.size->k≠b->w'.heap[k]? = w.heap[k]?
theorem ButUp.of_but {b:Nat} {w w':World} (h:But1 b w w'):ButUp b w w':=⟨h.os,h.tape,h.output,by rw [h.size];exact Nat.le_refl _,fun k _ hk=>h.block k hk⟩
theorem ButUp.of_below {b:Nat} {w w':World} (h:Below w.heap.size w w'):ButUp b w w':=⟨h.os,h.tape,h.output,h.size,fun k hk _=>h.block k hk⟩
theorem ButUp.below {b B:Nat} {w wr w':World} (h:ButUp b wr w') (hb:Below B w wr) (hB:B<=b) (hs:B<=wr.heap.size):Below B w w' :=
 ⟨h.os.trans hb.os,h.tape.trans hb.tape,h.output.trans hb.output,Nat.le_trans hb.size h.size,fun k hk=>(h.block k (by omega) (by omega)).trans (hb.block k hk)⟩
end
section
open Go.RowKit
attribute [local go_sem ↓] Go.wp_at_zero Go.wp_at_succ

theorem rises_dir {t:Tree} (h:nodeErr t=none):Rises t.kids:=by
 obtain ⟨kd,da,ex,ki⟩:=t
 unfold nodeErr at h
 have nil:ki.length=0->Rises ki:=fun e=>by
  rw [List.eq_nil_of_length_eq_zero e]
  intro i j x y _ hx
  simp at hx
 split at h
 ·unfold fileErr at h
  split at h
  ·cases h
  ·rename_i h1
   exact nil (by simp only at h1;omega)
 ·split at h
  ·unfold dirErr at h
   split at h
   ·cases h
   ·split at h
    ·split at h
     ·rename_i h3
      exact rises_of h3
     ·cases h
    ·cases h
  ·split at h
   ·unfold linkErr at h
    split at h
    ·cases h
    ·rename_i h1
     simp only [not_or] at h1
     exact nil (by have:=h1.2;omega)
   ·cases h
theorem rises_tree:∀ {d:Nat} {p:ByteArray} {k:Nat} {t:Tree},Fit d t->(∀x∈pre d p k t,nodeErr x.2.2=none)->RisesD d t
 | 0,_,_,_,h,_=>h
 | d+1,p,k,t,h,ho=>by
  simp only [pre] at ho
  exact ⟨rises_dir (ho (p,k,t) List.mem_cons_self),fun y hy=>rises_tree (p:=p++slash++y.1) (k:=k+1) (h y hy) fun x hx=>ho x (List.mem_cons_of_mem _ (List.mem_flatMap.2 ⟨y,hy,hx⟩))⟩
theorem rises_well {d:Nat} {t:Tree} (hf:Fit d t) (h:treeErr d t=none):RisesD d t:=rises_tree (p:=ByteArray.empty) (k:=0) hf fun x hx=>((treeErr_none.1 h).2 x hx).2
def getR (d:Nat) (t:Tree) (s:ByteArray):Except Nat Tree:=match treeErr d t with
 | some e=>.error e
 | none=>match splitR s with
  | none=>.error 4
  | some l=>match atR l t with
   | none=>.error 5
   | some k=>.ok k
def PBegPost (a : Nat → Addr) (d : Nat) (t : Tree) (s : ByteArray) (w : World) (e : Ending) (w' : World) : Prop := Below w.heap.size w w' ∧
  ((∃ er, treeErr d t = some er ∧ e = .returned (.tuple #[.slice none 0 0, .iface 330 (.pointer (some (a er)))])) ∨
   (treeErr d t = none ∧ splitR s = none ∧ e = .returned (.tuple #[.slice none 0 0, .iface 330 (.pointer (some (a 4)))])) ∨
   (∃ l v, treeErr d t = none ∧ splitR s = some l ∧ e = .returned (.tuple #[v, .nilIface]) ∧ Texts w' v l ∧ RoomR v l.length))


def GetPost (a : Nat → Addr) (d : Nat) (t : Tree) (s : ByteArray) (w : World) (e : Ending) (w' : World) : Prop := Below w.heap.size w w' ∧
  ((∃ er, getR d t s = .error er ∧ e = .returned (.tuple #[.agg #[.string { data := #[] }, .string { data := #[] }, .bool false, .slice none 0 0], .iface 330 (.pointer (some (a er)))])) ∨
   (∃ k u d', getR d t s = .ok k ∧ d' ≤ d ∧ e = .returned (.tuple #[.agg #[.string k.kind, .string k.data, .bool k.exec, u], .nilIface]) ∧ LiesQ w' (fun b => w.heap.size ≤ b ∧ b < w'.heap.size) d' k.kids u))
theorem getR_some {d:Nat} {t k:Tree} {s:ByteArray} {l:List ByteArray} (h:treeErr d t=none) (h2:splitR s=some l) (h3:atR l t=some k):getR d t s = .ok k:=by unfold getR;rw [h];simp only [h2,h3]
end
section
open Go.RowKit

theorem ba_ext' {s t:ByteArray} (h:s.data.toList=t.data.toList):s=t:=by
 obtain ⟨⟨a⟩⟩:=s
 obtain ⟨⟨b⟩⟩:=t
 simp only at h
 subst h;rfl
def joinL (l:List ByteArray):List UInt8:=l.flatMap fun x=>47 :: x.data.toList
def joinB (l:List ByteArray):ByteArray:=⟨(joinL l).toArray⟩
theorem joinB_list (l:List ByteArray):(joinB l).data.toList=joinL l:=rfl
def NoStroke (x:ByteArray):Prop:=∀c∈x.data.toList,c≠47
theorem cutL_piece:∀ {x:List UInt8},(∀c∈x,c≠47)->∀(r:List UInt8),cutL (x++47 :: r)=x :: cutL r
 | [],_,r=>cutL_stroke r
 | c :: x,h,r=>by
  rw [List.cons_append,cutL_byte (h c (by simp)) (cutL_piece (fun d hd=>h d (by simp [hd])) r)]
theorem cutL_last:∀ {x:List UInt8},(∀c∈x,c≠47)->cutL x = [x]
 | [],_=>rfl
 | c :: x,h=>by rw [cutL_byte (h c (by simp)) (cutL_last (fun d hd=>h d (by simp [hd])))]
theorem join_cut:∀(x:ByteArray) (l:List ByteArray),(∀y∈x :: l,NoStroke y)->cutL (x.data.toList++joinL l)=(x :: l).map (·.data.toList)
 | x,[],h=>by
  show cutL (x.data.toList ++ [])=_
  rw [List.append_nil,cutL_last (h x (by simp))]
  rfl
 | x,y :: l,h=>by
  have ih:=join_cut y l fun z hz=>h z (by simp [hz])
  show cutL (x.data.toList++(47 :: y.data.toList++joinL l))=_
  rw [List.cons_append,cutL_piece (h x (by simp)),ih]
  rfl
theorem map_back (l:List ByteArray):(l.map (·.data.toList)).map (fun x=>(⟨x.toArray⟩:ByteArray))=l:=by
 rw [List.map_map]
 have:(fun x:List UInt8=>(⟨x.toArray⟩:ByteArray)) ∘ (fun x:ByteArray=>x.data.toList)=id:=by
  funext x
  rfl
 rw [this,List.map_id]
theorem joinB_ne {x:ByteArray} {l:List ByteArray} (h:¬(l = []/\x=ByteArray.empty)):joinB (x :: l)≠strokeB:=by
 intro e
 have e2:=congrArg (fun s:ByteArray=>s.data.toList) e
 simp only [joinB_list] at e2
 have e3:joinL (x :: l)=47 :: (x.data.toList++joinL l):=rfl
 rw [e3] at e2
 have e4:strokeB.data.toList = [47]:=rfl
 rw [e4] at e2
 simp only [List.cons.injEq,true_and,List.append_eq_nil_iff] at e2
 apply h
 refine ⟨?_,?_⟩
 ·cases l with
  | nil=>rfl
  | cons y l=>have:=e2.2;simp [joinL] at this
 ·have h1:=e2.1
  obtain ⟨⟨k⟩⟩:=x
  simp only at h1
  subst h1;rfl
theorem join_split {x:ByteArray} {l:List ByteArray} (hn:∀y∈x :: l,NoStroke y) (h:¬(l = []/\x=ByteArray.empty)) :
  splitR (joinB (x :: l))=if decide ((x :: l).length<=8)&&(x :: l).all nameB then some (x :: l) else none:=by
 have e:(joinB (x :: l)).data.toList=47 :: (x.data.toList++joinL l):=rfl
 rw [splitR_cons (joinB_ne h) e,join_cut x l hn,all_map,map_back,List.length_map]
 simp
theorem joinB_snoc {l:List ByteArray} {j:Nat} {x:ByteArray} (hx:l[j]? = some x):joinB (l.take (j+1))=joinB (l.take j)++strokeB++x:=by
 have hj:j<l.length:=(List.getElem?_eq_some_iff.1 hx).1
 have e:l.take (j+1)=l.take j ++ [x]:=by rw [List.take_succ_eq_append_getElem hj,(List.getElem?_eq_some_iff.1 hx).2]
 apply ba_ext'
 rw [ByteArray.data_append,Array.toList_append,ByteArray.data_append,Array.toList_append,joinB_list,joinB_list,e]
 unfold joinL
 rw [List.flatMap_append]
 simp [strokeB]
end
section
open Go.RowKit

def tellP (m:List ByteArray):ByteArray:=if (joinB m).toList.isEmpty=true then slash else joinB m
theorem joinB_isEmpty (m:List ByteArray):(joinB m).toList.isEmpty=m.isEmpty:=by
 rw [ba_toList,joinB_list]
 cases m <;> rfl
theorem name_noStroke {x:ByteArray} (h:nameB x=true):NoStroke x:=fun c hc e=>by
 unfold nameB at h
 simp only [Bool.and_eq_true,List.all_eq_true] at h
 have:=h.2 c hc
 subst e
 simp [nb] at this
theorem name_ne {x:ByteArray} (h:nameB x=true):x≠ByteArray.empty:=fun e=>by
 unfold nameB at h
 simp only [Bool.and_eq_true,decide_eq_true_eq] at h
 rw [e] at h
 have:=h.1.1.1.1
 simp at this
theorem tell_split {m:List ByteArray} (h8:m.length<=8) (hn:m.all nameB=true):splitR (tellP m)=some m:=by
 unfold tellP
 rw [joinB_isEmpty]
 cases m with
 | nil=>exact splitR_one
 | cons x r =>
  have hx:∀y∈x :: r,nameB y=true:=fun y hy=>List.all_eq_true.1 hn y hy
  rw [if_neg (by simp),join_split (fun y hy=>name_noStroke (hx y hy)) (fun h=>name_ne (hx x (by simp)) h.2),if_pos (by simp only [Bool.and_eq_true,decide_eq_true_eq];exact ⟨h8,hn⟩)]
end
section
open Go.RowKit

def preN:Nat->List ByteArray->Tree->List (List ByteArray×Tree)
 | 0,_,_=>[]
 | d+1,ns,t=>(ns,t) :: t.kids.flatMap fun x=>preN d (ns ++ [x.1]) x.2
theorem joinB_app (l:List ByteArray) (x:ByteArray):joinB (l ++ [x])=joinB l++slash++x:=by
 have h:=joinB_snoc (l:=l ++ [x]) (j:=l.length) (x:=x) (by simp)
 rw [List.take_of_length_le (by simp),List.take_left] at h
 exact h
theorem pre_names:∀(d:Nat) (ns:List ByteArray) (t:Tree),pre d (joinB ns) ns.length t=(preN d ns t).map fun x=>(joinB x.1,x.1.length,x.2)
 | 0,_,_=>rfl
 | d+1,ns,t=>by
  simp only [pre,preN,List.map_cons,List.map_flatMap]
  congr 1
  rw [List.flatMap_def,List.flatMap_def]
  congr 1
  apply List.map_congr_left
  intro x _
  have h:=pre_names d (ns ++ [x.1]) x.2
  rw [joinB_app,List.length_append] at h
  exact h
def NamesD:Nat->Tree->Prop
 | 0,_=>False
 | d+1,t=>∀x∈t.kids,nameB x.1=true/\NamesD d x.2
theorem names_dir {t:Tree} (h:nodeErr t=none):∀x∈t.kids,nameB x.1=true:=by
 obtain ⟨kd,da,ex,ki⟩:=t
 unfold nodeErr at h
 have nil:ki.length=0->∀x∈ki,nameB x.1=true:=fun e x hx=>by
  rw [List.eq_nil_of_length_eq_zero e] at hx
  simp at hx
 split at h
 ·unfold fileErr at h
  split at h
  ·cases h
  ·rename_i h1
   exact nil (by simp only at h1;omega)
 ·split at h
  ·unfold dirErr at h
   split at h
   ·cases h
   ·split at h
    ·rename_i h2
     exact fun x hx=>List.all_eq_true.1 h2 x hx
    ·cases h
  ·split at h
   ·unfold linkErr at h
    split at h
    ·cases h
    ·rename_i h1
     simp only [not_or] at h1
     exact nil (by have:=h1.2;omega)
   ·cases h
theorem names_tree:∀ {d:Nat} {p:ByteArray} {k:Nat} {t:Tree},Fit d t->(∀x∈pre d p k t,nodeErr x.2.2=none)->NamesD d t
 | 0,_,_,_,h,_=>h
 | d+1,p,k,t,h,ho=>by
  simp only [pre] at ho
  exact fun y hy=>⟨names_dir (ho (p,k,t) List.mem_cons_self) y hy,names_tree (p:=p++slash++y.1) (k:=k+1) (h y hy) fun x hx=>ho x (List.mem_cons_of_mem _ (List.mem_flatMap.2 ⟨y,hy,hx⟩))⟩
theorem preN_at:∀ {d:Nat} {ns:List ByteArray} {t:Tree},RisesD d t->NamesD d t->∀x∈preN d ns t,∃m,x.1=ns++m/\atR m t=some x.2/\m.all nameB=true
 | 0,_,_,h,_,_,_=>h.elim
 | d+1,ns,t,hr,hn,x,hx=>by
  simp only [preN,List.mem_cons,List.mem_flatMap] at hx
  rcases hx with rfl|⟨y,hy,hx⟩
  ·exact ⟨[],by simp,rfl,rfl⟩
  ·obtain ⟨m,e,ha,hall⟩:=preN_at (hr.2 y hy) (hn y hy).2 x hx
   obtain ⟨i,hi,hiy⟩:=List.getElem_of_mem hy
   have hyi:t.kids[i]? = some y:=by rw [List.getElem?_eq_getElem hi,hiy]
   refine ⟨y.1 :: m,by rw [e];simp,?_,by rw [List.all_cons,(hn y hy).1,hall];rfl⟩
   have hk:kidOf t y.1=some y.2:=by
    unfold kidOf
    rw [if_pos (there_at hr.1 hyi),place_at hr.1 hyi,hyi]
    rfl
   simp only [atR,hk]
   exact ha
theorem preN_nodup:∀ {d:Nat} {ns:List ByteArray} {t:Tree},RisesD d t->((preN d ns t).map (·.1)).Nodup
 | 0,_,_,h=>h.elim
 | d+1,ns,t,hr=>by
  have pref:∀(y:ByteArray×Tree),RisesD d y.2->∀z∈(preN d (ns ++ [y.1]) y.2).map (·.1),∃m,z=ns++y.1 :: m:=fun y _ z hz=>by
   have key:∀(d:Nat) (ms:List ByteArray) (t:Tree),∀z∈(preN d ms t).map (·.1),∃m,z=ms++m:=by
    intro d
    induction d with
    | zero=>intro ms t z hz;simp [preN] at hz
    | succ d ih =>
     intro ms t z hz
     simp only [preN,List.map_cons,List.map_flatMap,List.mem_cons,List.mem_flatMap] at hz
     rcases hz with rfl|⟨x,_,hz⟩
     ·exact ⟨[],by simp⟩
     ·obtain ⟨m,e⟩:=ih _ _ z hz
      exact ⟨x.1 :: m,by rw [e];simp⟩
   obtain ⟨m,e⟩:=key d _ _ z hz
   exact ⟨m,by rw [e];simp⟩
  simp only [preN,List.map_cons,List.map_flatMap]
  rw [List.nodup_cons]
  refine ⟨fun h=>?_,?_⟩
  ·obtain ⟨y,hy,hz⟩:=List.mem_flatMap.1 h
   obtain ⟨m,e⟩:=pref y (hr.2 y hy) ns hz
   have:=congrArg List.length e
   simp at this
  ·have dist:∀(l:List (ByteArray×Tree)),Rises l->(∀x∈l,RisesD d x.2)->(l.flatMap fun x=>(preN d (ns ++ [x.1]) x.2).map (·.1)).Nodup:=by
    intro l
    induction l with
    | nil=>intro _ _;simp
    | cons y l ih =>
     intro h1 h2
     rw [List.flatMap_cons,List.nodup_append]
     refine ⟨preN_nodup (h2 y (by simp)),ih (fun i j x z hij hx hz=>h1 (i+1) (j+1) x z (by omega) (by simpa using hx) (by simpa using hz)) (fun x hx=>h2 x (by simp [hx])),fun z hz z' hz' e=>?_⟩
     subst e
     obtain ⟨m,e1⟩:=pref y (h2 y (by simp)) z hz
     obtain ⟨x,hx,hzx⟩:=List.mem_flatMap.1 hz'
     obtain ⟨m',e2⟩:=pref x (h2 x (by simp [hx])) z hzx
     rw [e1] at e2
     have e3:=List.append_cancel_left e2
     injection e3 with e4 _
     obtain ⟨i,hi,hix⟩:=List.getElem_of_mem hx
     have:=h1 0 (i+1) y x (by omega) rfl (by rw [List.getElem?_cons_succ,List.getElem?_eq_getElem hi,hix])
     rw [e4,less_irrefl] at this
     cases this
   exact dist t.kids hr.1 hr.2
end
section
open Go.RowKit

end
section
open Go.RowKit

structure Told (f:FuncId) (c:Value) (B:Nat) {σ:Type} (step:σ->ByteArray×Nat×Tree->σ) (ok:σ->ByteArray×Nat×Tree->Prop) (J:σ->(Nat->Prop)->World->Prop):Prop where
 low:∀s C w,J s C w->∀k,C k->B<=k/\k<w.heap.size
 ext:∀s C w w',J s C w->(∀k,C k->w'.heap[k]? = w.heap[k]?)->J s C w'
 bound:∀s x,ok s x->x.1.size<=maxLen/\x.2.1<=4611686018427387904
 call:∀s C w d p (k:Nat) t u,J s C w->B<=w.heap.size->Lies w B (d+1) t.kids u->ok s (p,k,t) ->
  Calls Tryz.prog f #[.string p,.agg #[.string t.kind,.string t.data,.bool t.exec,u],c] w fun e w' =>
   e = .returned (.tuple #[])/\∃C',J (step s (p,k,t)) C' w'/\Kept C w w'/\∀j,C' j->C j∨w.heap.size<=j

def boxJ {σ:Type} (J:σ->(Nat->Prop)->World->Prop) (B eb:Nat) (v:Value) (s:σ) (C:Nat->Prop) (w:World):Prop :=
 ∃C0,J s C0 w/\(∀k,C k↔C0 k∨k=eb)/\w.heap[eb]? = some (.cells #[v] 246 (0,0))/\¬C0 eb/\B<=eb

end
section
open Go.RowKit

def ctStep (n:Nat) (_:ByteArray×Nat×Tree):Nat:=n+1
def ctOk (n:Nat) (x:ByteArray×Nat×Tree):Prop:=n<=1000000/\x.1.size<=maxLen/\x.2.1<=4611686018427387904
def szStep (n:Nat) (x:ByteArray×Nat×Tree):Nat:=if isFile x.2.2=true then n+x.2.2.data.size else n
def szOk (n:Nat) (x:ByteArray×Nat×Tree):Prop:=n<=1000000000/\x.2.2.data.size<=1000000000/\x.1.size<=maxLen/\x.2.1<=4611686018427387904


def countOf (d:Nat) (t:Tree):Nat:=match treeErr d t with|none=>(pre d ByteArray.empty 0 t).foldl ctStep 0|some _=>0

def sizeOf (d:Nat) (t:Tree):Nat:=match treeErr d t with|none=>(pre d ByteArray.empty 0 t).foldl szStep 0|some _=>0
end
section
open Go.RowKit

def flStep (l:List ByteArray) (x:ByteArray×Nat×Tree):List ByteArray:=if isFile x.2.2=true then l ++ [if x.1.toList.isEmpty=true then slash else x.1] else l
def flOk (l:List ByteArray) (x:ByteArray×Nat×Tree):Prop:=l.length<=1000000/\x.1.size<=maxLen/\x.2.1<=4611686018427387904
def flJ (B c:Nat) (l:List ByteArray) (C:Nat->Prop) (w:World):Prop :=
 ∃v,(∀k,C k↔k=c∨v.ownBlock=some k)/\B<=c/\w.heap[c]? = some (.cells #[v] 68 (0,0))/\w.ownsRow (c+1) 9 1 v l.length (l.map Value.string)

def filesOf (d:Nat) (t:Tree):List ByteArray:=match treeErr d t with|none=>(pre d ByteArray.empty 0 t).foldl flStep []|some _=>[]
end
section
open Go.RowKit

end
section
open Go.RowKit

def filesN (d:Nat) (t:Tree):List (List ByteArray×Tree):=(preN d [] t).filter fun x=>isFile x.2
def bytesTo (l:List (List ByteArray×Tree)):Nat:=(l.map fun x=>x.2.data.size).sum
theorem file_got {d:Nat} {t:Tree} (hf:Fit d t) (h:treeErr d t=none) {x:List ByteArray×Tree} (hx:x∈filesN d t):getR d t (tellP x.1) = .ok x.2/\isFile x.2=true/\x.1.length<=8/\x.1.all nameB=true:=by
 have hw:=treeErr_none.1 h
 unfold filesN at hx
 obtain ⟨hm,hfi⟩:=List.mem_filter.1 hx
 have e:=pre_names d [] t
 have e2:pre d ByteArray.empty 0 t=(preN d [] t).map fun x=>(joinB x.1,x.1.length,x.2):=e
 have h8:x.1.length<=8:=by
  have:=(hw.2 (joinB x.1,x.1.length,x.2) (by rw [e2];exact List.mem_map.2 ⟨x,hm,rfl⟩)).1
  simpa using this
 obtain ⟨m,em,ha,hall⟩:=preN_at (rises_well hf h) (names_tree (p:=ByteArray.empty) (k:=0) hf fun y hy=>(hw.2 y hy).2) x hm
 rw [List.nil_append] at em
 subst em
 exact ⟨getR_some h (tell_split h8 hall) ha,hfi,h8,hall⟩
theorem files_apart {d:Nat} {t:Tree} (hf:Fit d t) (h:treeErr d t=none) {i j:Nat} {x y:List ByteArray×Tree} (hij:i<j) (hx:(filesN d t)[i]? = some x) (hy:(filesN d t)[j]? = some y):tellP x.1≠tellP y.1:=by
 intro e
 have hxm:=file_got hf h (List.mem_of_getElem? hx)
 have hym:=file_got hf h (List.mem_of_getElem? hy)
 have e1:=tell_split hxm.2.2.1 hxm.2.2.2
 rw [e,tell_split hym.2.2.1 hym.2.2.2] at e1
 have e2:y.1=x.1:=Option.some.inj e1
 have hnd:((filesN d t).map (·.1)).Nodup:=by
  unfold filesN
  exact List.Nodup.sublist (List.Sublist.map _ List.filter_sublist) (preN_nodup (rises_well hf h))
 have hi:i<((filesN d t).map (·.1)).length:=by
  have:=(List.getElem?_eq_some_iff.1 hx).1
  simpa using this
 have:=(List.getElem?_inj hi hnd).1 (show ((filesN d t).map (·.1))[i]? = ((filesN d t).map (·.1))[j]? by rw [List.getElem?_map,List.getElem?_map,hx,hy];simp [e2])
 omega
end
section
open Go.RowKit Go.Maps

theorem bare_file:isFile bareF=true:=by kernel_rfl
theorem name_size {s:ByteArray} (h:nameB s=true):s.size<=12:=by
 unfold nameB at h
 simp only [Bool.and_eq_true,decide_eq_true_eq] at h
 exact h.1.1.1.2
theorem filesL_named:∀(d:Nat) (ns:List ByteArray) (t:Tree),GoodT d t->filesL d (joinB ns) t=((preN d ns t).filter fun x=>isFile x.2).map fun x=>(tellP x.1,x.2)
 | 0,_,_,_=>rfl
 | d+1,ns,t,hG=>by
  rw [filesL,preN]
  by_cases h:isFile t=true
  ·rw [if_pos h,hG.1 h,List.filter_cons_of_pos (by simpa using h)]
   rfl
  ·rw [if_neg h,List.filter_cons_of_neg (by simpa using h),List.filter_flatMap,List.map_flatMap]
   rw [List.flatMap_def,List.flatMap_def]
   congr 1
   refine List.map_congr_left fun x hx=>?_
   rw [<-joinB_app]
   exact filesL_named d (ns ++ [x.1]) x.2 (hG.2 x hx).2
theorem filesT_named {d:Nat} {t:Tree} (hG:GoodT d t):filesT d t=(filesN d t).map fun x=>(tellP x.1,x.2):=filesL_named d [] t hG
theorem filesT_nodup {d:Nat} {t:Tree} (hf:Fit d t) (hG:GoodT d t) (h:treeErr d t=none):((filesT d t).map (·.1)).Nodup:=by
 rw [filesT_named hG,List.map_map]
 refine List.pairwise_iff_getElem.2 fun i j hi hj hij=>?_
 have hi':i<(filesN d t).length:=by simpa using hi
 have hj':j<(filesN d t).length:=by simpa using hj
 have:=files_apart hf h hij (List.getElem?_eq_getElem hi') (List.getElem?_eq_getElem hj')
 simpa using this
theorem mapL_mapL (g h:ByteArray->Tree->Tree) (hh:∀p x,isFile (h p x)=true):∀(d:Nat) (p:ByteArray) (t:Tree),mapL g d p (mapL h d p t)=mapL (fun q x=>g q (h q x)) d p t
 | 0,_,_=>rfl
 | d+1,p,t=>by
  by_cases e:isFile t=true
  ·rw [mapL.eq_2 h,if_pos e,mapL,if_pos (hh _ _),mapL,if_pos e]
  ·have e':¬isFile { t with kids:=t.kids.map fun x=>(x.1,mapL h d (p++slash++x.1) x.2) }=true:=e
   rw [mapL.eq_2 h,if_neg e,mapL,if_neg e',mapL,if_neg e]
   simp only [List.map_map]
   congr 1
   refine List.map_congr_left fun x hx=>?_
   show (x.1,_)=(x.1,_)
   rw [mapL_mapL g h hh d]
theorem mapL_id {g:ByteArray->Tree->Tree}:∀(d:Nat) (p:ByteArray) (t:Tree),(∀y∈filesL d p t,g y.1 y.2=y.2)->mapL g d p t=t
 | 0,_,_,_=>rfl
 | d+1,p,t,h=>by
  rw [mapL]
  rw [filesL] at h
  by_cases e:isFile t=true
  ·rw [if_pos e] at h ⊢
   exact h _ (List.mem_singleton.2 rfl)
  ·rw [if_neg e] at h ⊢
   have hk:(t.kids.map fun x=>(x.1,mapL g d (p++slash++x.1) x.2))=t.kids:=by
    have h2:(t.kids.map fun x=>(x.1,mapL g d (p++slash++x.1) x.2))=t.kids.map id:=List.map_congr_left fun x hx=>by
     rw [mapL_id d _ _ (fun y hy=>h y (List.mem_flatMap.2 ⟨x,hx,hy⟩))]
     rfl
    rw [h2,List.map_id]
   rw [hk]
   cases t;rfl
theorem filesL_map (g:ByteArray->Tree->Tree) (hg:∀p x,isFile (g p x)=true):∀(d:Nat) (p:ByteArray) (t:Tree),filesL d p (mapL g d p t)=(filesL d p t).map fun y=>(y.1,g y.1 y.2)
 | 0,_,_=>rfl
 | d+1,p,t=>by
  by_cases e:isFile t=true
  ·rw [mapL,if_pos e,filesL,if_pos (hg _ _),filesL,if_pos e]
   rfl
  ·have e':¬isFile { t with kids:=t.kids.map fun x=>(x.1,mapL g d (p++slash++x.1) x.2) }=true:=e
   rw [mapL,if_neg e,filesL,if_neg e',filesL,if_neg e,List.map_flatMap]
   simp only [List.flatMap_map]
   rw [List.flatMap_def,List.flatMap_def]
   congr 1
   refine List.map_congr_left fun x hx=>?_
   exact filesL_map g hg d _ _
theorem GoodT.map {g:ByteArray->Tree->Tree} (hg:∀p x,(g p x).kids = []):∀ {d:Nat} {p:ByteArray} {t:Tree},GoodT d t->GoodT d (mapL g d p t)
 | 0,_,_,_=>trivial
 | d+1,p,t,h=>by
  rw [mapL]
  by_cases e:isFile t=true
  ·rw [if_pos e]
   exact ⟨fun _=>hg _ _,fun x hx=>by rw [hg] at hx;cases hx⟩
  ·rw [if_neg e]
   refine ⟨fun e'=>absurd e' e,fun x hx=>?_⟩
   obtain ⟨y,hy,rfl⟩:=List.mem_map.1 hx
   exact ⟨(h.2 y hy).1,GoodT.map hg (h.2 y hy).2⟩
theorem bareT_good {d:Nat} {t:Tree} (h:GoodT d t):GoodT d (bareT d t):=h.map (fun _ _=>rfl)
theorem bareT_files (d:Nat) (t:Tree):filesT d (bareT d t)=(filesT d t).map fun y=>(y.1,bareF):=filesL_map _ (fun _ _=>bare_file) d _ t
theorem filesL_file:∀ {d:Nat} {p:ByteArray} {t:Tree},GoodT d t->∀y∈filesL d p t,isFile y.2=true/\y.2.kids = []
 | 0,_,_,_,y,hy=>by cases hy
 | d+1,p,t,h,y,hy=>by
  rw [filesL] at hy
  by_cases e:isFile t=true
  ·rw [if_pos e] at hy
   rw [List.mem_singleton.1 hy]
   exact ⟨e,h.1 e⟩
  ·rw [if_neg e] at hy
   obtain ⟨x,hx,hy'⟩:=List.mem_flatMap.1 hy
   exact filesL_file (h.2 x hx).2 y hy'
theorem fill_bare {bl:List (List UInt8)} {ι:ByteArray->Ino} {d:Nat} {t:Tree} (hG:GoodT d t) (h:∀y∈filesT d t,readD bl (ι y.1).blocks (ι y.1).bytes=y.2.data/\(ι y.1).exec=y.2.exec):fillT bl ι d (bareT d t)=t:=by
 unfold fillT bareT
 rw [mapL_mapL _ _ (fun _ _=>bare_file)]
 refine mapL_id d _ t fun y hy=>?_
 obtain ⟨h1,h2⟩:=h y hy
 obtain ⟨h3,h4⟩:=filesL_file hG y hy
 show nodeI bl (ι y.1)=y.2
 unfold nodeI
 rw [h1,h2]
 have hk:y.2.kind = { data:=#[102,105,108,101] }:=by
  unfold isFile at h3
  rw [beq_iff_eq,ByteArray.toList_eq] at h3
  exact bytes_eq h3
 cases hy2:y.2 with
 | mk kind data exec kids=>rw [hy2] at hk h4;simp only at hk h4;rw [hk,h4]
theorem file_node {t:Tree} (h:nodeErr t=none) (hf:isFile t=true):t.kids = []/\t.data.size<=2000:=by
 unfold nodeErr at h
 rw [if_pos hf] at h
 unfold fileErr at h
 split at h
 ·cases h
 ·split at h
  ·cases h
  ·rename_i h1 h2
   exact ⟨List.eq_nil_of_length_eq_zero (by omega),by omega⟩
theorem good_of:∀ {d:Nat} {p:ByteArray} {k:Nat} {t:Tree},(∀x∈pre d p k t,nodeErr x.2.2=none)->GoodT d t
 | 0,_,_,_,_=>trivial
 | d+1,p,k,t,h=>by
  have h0:=h (p,k,t) (List.mem_cons_self ..)
  refine ⟨fun e=>(file_node h0 e).1,fun x hx=>⟨name_size (names_dir h0 x hx),?_⟩⟩
  exact good_of (p:=p++slash++x.1) (k:=k+1) fun y hy=>h y (List.mem_cons_of_mem _ (List.mem_flatMap.2 ⟨x,hx,hy⟩))
theorem files_small:∀ {d:Nat} {p p':ByteArray} {k:Nat} {t:Tree},(∀x∈pre d p' k t,nodeErr x.2.2=none)->∀y∈filesL d p t,y.2.data.size<=2000/\y.1.size<=p.size+d*13+1
 | 0,_,_,_,_,_,y,hy=>by cases hy
 | d+1,p,p',k,t,h,y,hy=>by
  have h0:=h (p',k,t) (List.mem_cons_self ..)
  rw [filesL] at hy
  by_cases e:isFile t=true
  ·rw [if_pos e] at hy
   rw [List.mem_singleton.1 hy]
   refine ⟨(file_node h0 e).2,?_⟩
   show (topP p).size<=_
   unfold topP
   split
   ·have:slash.size=1:=rfl
    omega
   ·omega
  ·rw [if_neg e] at hy
   obtain ⟨x,hx,hy'⟩:=List.mem_flatMap.1 hy
   obtain ⟨a1,a2⟩:=files_small (p:=p++slash++x.1) (p':=p'++slash++x.1) (k:=k+1) (fun z hz=>h z (List.mem_cons_of_mem _ (List.mem_flatMap.2 ⟨x,hx,hz⟩))) y hy'
   refine ⟨a1,?_⟩
   have hn:=name_size (names_dir h0 x hx)
   have hs:slash.size=1:=rfl
   rw [ByteArray.size_append,ByteArray.size_append] at a2
   omega
end
end Go.Proofs.YtpiebpiljhlneaaGreatDoor
