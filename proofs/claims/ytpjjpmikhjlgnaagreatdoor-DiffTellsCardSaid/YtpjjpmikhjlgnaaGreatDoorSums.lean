/-
  Trees as lists of nodes: sums over them, what is the same, what is well. Conditions: those that each states.
-/

import Derived.Test.YtpjjpmikhjlgnaaGreatDoorLarge
import Derived.Test.YtpjjpmikhjlgnaaGreatDoorCheck
namespace Go.Proofs.YtpjjpmikhjlgnaaGreatDoor
open Go.RowKit

/-- So deep at most. -/
def Fit : Nat → Tree → Prop
  | 0, _ => False
  | d + 1, t => ∀ x ∈ t.kids, Fit d x.2
theorem Lies.fit {w : World} {B : Nat} : ∀ {d : Nat} {t : Tree} {v : Value}, Lies w B d t.kids v → Fit d t
  | 0, _, _, h => absurd h (by simp [Lies])
  | d + 1, t, v, ⟨ad, cap, _, _, hk⟩ => fun x hx => by
    obtain ⟨i, hi, he⟩ := List.getElem_of_mem hx
    obtain ⟨_, _, u, _, _, _, _, _, _, _, _, h⟩ := hk i x (by rw [List.getElem?_eq_getElem hi, he])
    exact Lies.fit h

theorem sameB_refl : ∀ {d : Nat} {t : Tree}, Fit d t → sameB d t t = true
  | 0, _, h => h.elim
  | d + 1, t, h => by
    rw [sameB_succ]
    have h1 : headSame t t = true := by simp [headSame]
    rw [h1, Bool.true_and]
    unfold sameTo
    rw [List.all_eq_true]
    intro i hi
    have hi' := List.mem_range.1 hi
    rw [List.getElem?_eq_getElem hi']
    simp only [beq_self_eq_true, Bool.true_and]
    exact sameB_refl (h _ (List.getElem_mem hi'))

/-! ### The list is the order of the walk -/
def tailOf (d : Nat) (x : ByteArray × Nat × Tree) : List (ByteArray × Nat × Tree) := pre (d - x.2.1) x.1 x.2.1 x.2.2
theorem listTo_take {most deep : Nat} {l : List (ByteArray × Nat × Tree)} {i : Nat} : ∀ n, i ≤ n → (listTo most deep l n).take i = (listTo most deep l i).take i := by
  intro n hn
  induction n with
  | zero => have : i = 0 := by omega
            subst this; rfl
  | succ n ih =>
    rcases Nat.lt_or_ge n i with hlt | hge
    · have : i = n + 1 := by omega
      subst this; rfl
    · rw [← ih hge]
      show (grow most deep (listTo most deep l n) n).take i = _
      unfold grow
      split
      · rfl
      · rename_i x hx
        split
        · rfl
        · have hn' : n < (listTo most deep l n).length := (List.getElem?_eq_some_iff.1 hx).1
          rw [List.append_assoc, List.take_append_of_le_length (by rw [List.length_take]; omega), List.take_take, Nat.min_eq_left (by omega)]
theorem listTo_mono {most deep : Nat} {l : List (ByteArray × Nat × Tree)} (i : Nat) : (listTo most deep l i).length ≤ (listTo most deep l (i + 1)).length := by
  show _ ≤ (grow most deep (listTo most deep l i) i).length
  unfold grow
  split
  · exact Nat.le_refl _
  · split
    · exact Nat.le_refl _
    · simp only [List.length_append, List.length_take, List.length_drop]; omega
theorem listTo_monos {most deep : Nat} {l : List (ByteArray × Nat × Tree)} (i : Nat) : ∀ n, i ≤ n → (listTo most deep l i).length ≤ (listTo most deep l n).length := by
  intro n hn
  induction n with
  | zero => have : i = 0 := by omega
            subst this; exact Nat.le_refl _
  | succ n ih =>
    rcases Nat.lt_or_ge n i with hlt | hge
    · have : i = n + 1 := by omega
      subst this; exact Nat.le_refl _
    · exact Nat.le_trans (ih hge) (listTo_mono n)

theorem list_flat {most deep d : Nat} {t : Tree} (hd : Fit d t) (hlen : (listOf most deep t).length ≤ most) (hdp : ∀ x ∈ listOf most deep t, x.2.1 ≤ deep) :
    ∀ i, i ≤ most + 1 → (∀ x ∈ listTo most deep [(ByteArray.empty, 0, t)] i, Fit (d - x.2.1) x.2.2) ∧
      (listTo most deep [(ByteArray.empty, 0, t)] i).take i ++ ((listTo most deep [(ByteArray.empty, 0, t)] i).drop i).flatMap (tailOf d) = pre d ByteArray.empty 0 t := by
  intro i
  induction i with
  | zero =>
    intro _
    refine ⟨fun x hx => ?_, ?_⟩
    · simp only [listTo, List.mem_singleton] at hx
      subst hx
      exact hd
    · simp [listTo, tailOf]
  | succ i ih =>
    intro hi
    obtain ⟨h1, h2⟩ := ih (by omega)
    have hgr : listTo most deep [(ByteArray.empty, 0, t)] (i + 1) = grow most deep (listTo most deep [(ByteArray.empty, 0, t)] i) i := rfl
    have hml : (listTo most deep [(ByteArray.empty, 0, t)] (i + 1)).length ≤ most := Nat.le_trans (listTo_monos (i + 1) (most + 1) hi) hlen
    generalize hl : listTo most deep [(ByteArray.empty, 0, t)] i = l at *
    cases hx : l[i]? with
    | none =>
      have hle : l.length ≤ i := by
        rcases Nat.lt_or_ge i l.length with h | h
        · rw [List.getElem?_eq_getElem h] at hx; cases hx
        · exact h
      have e : grow most deep l i = l := by unfold grow; rw [hx]
      rw [hgr, e]
      refine ⟨h1, ?_⟩
      rw [List.take_of_length_le (by omega), List.drop_eq_nil_of_le (by omega)]
      rw [List.take_of_length_le hle, List.drop_eq_nil_of_le hle] at h2
      exact h2
    | some x =>
      have hil : i < l.length := (List.getElem?_eq_some_iff.1 hx).1
      have hge : l[i] = x := (List.getElem?_eq_some_iff.1 hx).2
      have hxm : x ∈ l := List.mem_of_getElem? hx
      have hxd : x.2.1 ≤ deep := by
        -- x stands in the whole list
        have ht := listTo_take (most := most) (deep := deep) (l := [(ByteArray.empty, 0, t)]) (i := i + 1) (most + 1) hi
        have hin : x ∈ (listTo most deep [(ByteArray.empty, 0, t)] (i + 1)).take (i + 1) := by
          have eg : grow most deep l i = if deep < x.2.1 then l else l.take (i + 1) ++ kidsOf most x ++ l.drop (i + 1) := by unfold grow; rw [hx]
          rw [hgr, eg]
          split
          · exact List.mem_of_getElem? (i := i) (by rw [List.getElem?_take, if_pos (by omega)]; exact hx)
          · rw [List.append_assoc, List.take_append_of_le_length (by rw [List.length_take]; omega), List.take_take, Nat.min_self]
            exact List.mem_of_getElem? (i := i) (by rw [List.getElem?_take, if_pos (by omega)]; exact hx)
        rw [← ht] at hin
        exact hdp x (List.mem_of_mem_take hin)
      have e : grow most deep l i = l.take (i + 1) ++ kidsOf most x ++ l.drop (i + 1) := by
        unfold grow
        rw [hx]
        exact if_neg (by omega)
      rw [hgr, e] at hml
      have hkl : (kidsOf most x).length ≤ most := by
        simp only [List.length_append, List.length_take, List.length_drop] at hml
        omega
      have hka : x.2.2.kids.take (most + 1) = x.2.2.kids := by
        refine List.take_of_length_le ?_
        unfold kidsOf at hkl
        simp only [List.length_map, List.length_take] at hkl
        omega
      have hfx := h1 x hxm
      obtain ⟨m, hm⟩ : ∃ m, d - x.2.1 = m + 1 := by
        cases hdm : d - x.2.1 with
        | zero => rw [hdm] at hfx; exact hfx.elim
        | succ m => exact ⟨m, rfl⟩
      have hdk : d - (x.2.1 + 1) = m := by omega
      rw [hgr, e]
      refine ⟨fun y hy => ?_, ?_⟩
      · rcases List.mem_append.1 hy with h | h
        · rcases List.mem_append.1 h with h | h
          · exact h1 y (List.mem_of_mem_take h)
          · unfold kidsOf at h
            rw [hka] at h
            obtain ⟨z, hz, rfl⟩ := List.mem_map.1 h
            simp only
            rw [hdk]
            rw [hm] at hfx
            exact hfx z hz
        · exact h1 y (List.mem_of_mem_drop h)
      · have e1 : (l.take (i + 1) ++ kidsOf most x ++ l.drop (i + 1)).take (i + 1) = l.take (i + 1) := by
          rw [List.append_assoc, List.take_append_of_le_length (by rw [List.length_take]; omega), List.take_take, Nat.min_self]
        have e2 : (l.take (i + 1) ++ kidsOf most x ++ l.drop (i + 1)).drop (i + 1) = kidsOf most x ++ l.drop (i + 1) := by
          rw [List.append_assoc]
          have hl1 : (l.take (i + 1)).length = i + 1 := by rw [List.length_take]; omega
          exact List.drop_left' hl1
        rw [e1, e2, List.flatMap_append]
        have e3 : tailOf d x = x :: (kidsOf most x).flatMap (tailOf d) := by
          unfold tailOf
          rw [hm]
          simp only [pre]
          congr 1
          unfold kidsOf
          rw [hka, List.flatMap_map]
          simp only [hdk]
        have e4 : l.drop i = x :: l.drop (i + 1) := by rw [List.drop_eq_getElem_cons hil, hge]
        have e5 : l.take (i + 1) = l.take i ++ [x] := by rw [List.take_succ_eq_append_getElem hil, hge]
        rw [e4, List.flatMap_cons, e3] at h2
        rw [e5, ← h2]
        simp
theorem pre_eq {most d : Nat} {t : Tree} (hd : Fit d t) (h : largeB most t = false) : pre d ByteArray.empty 0 t = listOf most 12 t := by
  unfold largeB at h
  simp only [Bool.or_eq_false_iff, decide_eq_false_iff_not] at h
  have hlen : (listOf most 12 t).length ≤ most := by omega
  have hdp : ∀ x ∈ listOf most 12 t, x.2.1 ≤ 12 := fun x hx => by
    have := List.any_eq_false.1 h.2 x hx
    unfold itemLarge at this
    simp at this
    omega
  have := (list_flat hd hlen hdp (most + 1) (Nat.le_refl _)).2
  have hl : (listTo most 12 [(ByteArray.empty, 0, t)] (most + 1)).length ≤ most + 1 := by
    show (listOf most 12 t).length ≤ _
    omega
  rw [List.take_of_length_le hl, List.drop_eq_nil_of_le hl] at this
  simp only [List.flatMap_nil, List.append_nil] at this
  exact this.symm
end Go.Proofs.YtpjjpmikhjlgnaaGreatDoor
namespace Go.Proofs.YtpjjpmikhjlgnaaGreatDoor
open Go.RowKit

theorem ba_empty (p : ByteArray) : p ++ ByteArray.empty = p := by
  apply ByteArray.ext
  simp
theorem ba_assoc (p q r : ByteArray) : p ++ q ++ r = p ++ (q ++ r) := by
  apply ByteArray.ext
  simp [ByteArray.data_append]
theorem pre_shift : ∀ (d : Nat) (p : ByteArray) (k : Nat) (t : Tree), pre d p k t = (pre d ByteArray.empty 0 t).map fun x => (p ++ x.1, k + x.2.1, x.2.2)
  | 0, _, _, _ => rfl
  | d + 1, p, k, t => by
    simp only [pre, List.map_cons, ba_empty, Nat.add_zero, List.map_flatMap]
    congr 1
    congr 1
    funext y
    rw [pre_shift d (p ++ slash ++ y.1) (k + 1) y.2, pre_shift d (ByteArray.empty ++ slash ++ y.1) (0 + 1) y.2, List.map_map]
    congr 1
    funext x
    simp only [Function.comp]
    have e1 : ByteArray.empty ++ slash = slash := by apply ByteArray.ext; simp
    rw [e1, ba_assoc p slash y.1, ba_assoc p (slash ++ y.1) x.1]
    congr 2
    omega

/-- A sum over nodes. -/
def S (g : Tree → Nat) (l : List (ByteArray × Nat × Tree)) : Nat := (l.map fun x => g x.2.2).sum
theorem S_shift (g : Tree → Nat) (d : Nat) (p : ByteArray) (k : Nat) (t : Tree) : S g (pre d p k t) = S g (pre d ByteArray.empty 0 t) := by
  rw [pre_shift]
  unfold S
  rw [List.map_map]
  rfl
theorem S_cons (g : Tree → Nat) (x : ByteArray × Nat × Tree) (l : List (ByteArray × Nat × Tree)) : S g (x :: l) = g x.2.2 + S g l := by simp [S]
theorem S_append (g : Tree → Nat) (a b : List (ByteArray × Nat × Tree)) : S g (a ++ b) = S g a + S g b := by simp [S]
theorem S_flat (g : Tree → Nat) (d : Nat) (F : ByteArray × Tree → ByteArray) (k : Nat) : ∀ (l : List (ByteArray × Tree)), S g (l.flatMap fun y => pre d (F y) k y.2) = (l.map fun y => S g (pre d ByteArray.empty 0 y.2)).sum
  | [] => rfl
  | y :: l => by
    rw [List.flatMap_cons, S_append, S_flat g d F k l, S_shift]
    simp
theorem S_dir (g : Tree → Nat) (d : Nat) (t : Tree) : S g (pre (d + 1) ByteArray.empty 0 t) = g t + (t.kids.map fun y => S g (pre d ByteArray.empty 0 y.2)).sum := by
  rw [pre, S_cons, S_flat g d (fun y => ByteArray.empty ++ slash ++ y.1) (0 + 1)]

def one (_ : Tree) : Nat := 1
def bytesIn (t : Tree) : Nat := if isFile t = true then t.data.size else 0
def isOne (t : Tree) : Nat := if isFile t = true then 1 else 0
theorem S_one (l : List (ByteArray × Nat × Tree)) : S one l = l.length := by
  induction l with
  | nil => rfl
  | cons x l ih => rw [S_cons, ih]; simp [one]; omega
/-- Items that every function on the way takes. -/
def OkItems (l : List (ByteArray × Nat × Tree)) : Prop := ∀ x ∈ l, x.1.size ≤ maxLen ∧ x.2.1 ≤ 4611686018427387904 ∧ x.2.2.data.size ≤ 2001
theorem alive_ck : ∀ (l : List (ByteArray × Nat × Tree)) (n : Nat), n ≤ 200 → OkItems l → Alive ck ckOk n l
  | [], _, _, _ => trivial
  | x :: l, n, hn, h => by
    have hx := h x List.mem_cons_self
    refine ⟨⟨hn, hx.1, hx.2.1, by have := hx.2.2; unfold maxLen; omega⟩, fun he => ?_⟩
    refine alive_ck l (n + 1) ?_ (fun y hy => h y (List.mem_cons_of_mem _ hy))
    unfold ck at he
    simp only at he
    split at he
    · cases he
    · split at he
      · cases he
      · omega
/-- Well: no error on the way. -/
def WellAll (l : List (ByteArray × Nat × Tree)) : Prop := ∀ x ∈ l, x.2.1 ≤ 8 ∧ nodeErr x.2.2 = none
theorem ck_none : ∀ (l : List (ByteArray × Nat × Tree)) (n : Nat), n ≤ 200 → ((runs ck n l).2 = none ↔ n + l.length ≤ 200 ∧ WellAll l)
  | [], n, hn => by simp [runs, WellAll, hn]
  | x :: l, n, hn => by
    by_cases h8 : 8 < x.2.1
    · have e : ck n x = (n + 1, some 8) := by unfold ck; rw [if_pos h8]
      have hr : (runs ck n (x :: l)).2 = some 8 := by simp only [runs, e]
      rw [hr]
      refine ⟨fun h => by simp at h, fun h => ?_⟩
      have := (h.2 x List.mem_cons_self).1
      omega
    · by_cases h2 : 200 < n + 1
      · have e : ck n x = (n + 1, some 7) := by unfold ck; rw [if_neg h8, if_pos h2]
        have hr : (runs ck n (x :: l)).2 = some 7 := by simp only [runs, e]
        rw [hr]
        refine ⟨fun h => by simp at h, fun h => ?_⟩
        have := h.1
        simp only [List.length_cons] at this
        omega
      · have e : ck n x = (n + 1, nodeErr x.2.2) := by unfold ck; rw [if_neg h8, if_neg h2]
        cases hne : nodeErr x.2.2 with
        | some er =>
          have hr : (runs ck n (x :: l)).2 = some er := by simp only [runs, e, hne]
          rw [hr]
          refine ⟨fun h => by simp at h, fun h => ?_⟩
          have := (h.2 x List.mem_cons_self).2
          rw [hne] at this
          cases this
        | none =>
          have hr : (runs ck n (x :: l)).2 = (runs ck (n + 1) l).2 := by simp only [runs, e, hne]
          rw [hr, ck_none l (n + 1) (by omega)]
          simp only [List.length_cons]
          refine ⟨fun h => ⟨by omega, fun y hy => ?_⟩, fun h => ⟨by omega, fun y hy => h.2 y (List.mem_cons_of_mem _ hy)⟩⟩
          rcases List.mem_cons.1 hy with rfl | hy
          · exact ⟨by omega, hne⟩
          · exact h.2 y hy
theorem treeErr_none {d : Nat} {t : Tree} : treeErr d t = none ↔ (pre d ByteArray.empty 0 t).length ≤ 200 ∧ WellAll (pre d ByteArray.empty 0 t) := by
  unfold treeErr
  rw [ck_none _ 0 (by omega), Nat.zero_add]

theorem mem_sum {α : Type} (f : α → Nat) : ∀ {l : List α} {x : α}, x ∈ l → f x ≤ (l.map f).sum
  | [], _, h => by simp at h
  | y :: l, x, h => by
    simp only [List.map_cons, List.sum_cons]
    rcases List.mem_cons.1 h with rfl | h
    · omega
    · have := mem_sum f h; omega
/-- A kid's list within its dir's. -/
theorem kid_in {d : Nat} {t : Tree} {y : ByteArray × Tree} (hy : y ∈ t.kids) {x : ByteArray × Nat × Tree} (hx : x ∈ pre d ByteArray.empty 0 y.2) : (ByteArray.empty ++ slash ++ y.1 ++ x.1, 0 + 1 + x.2.1, x.2.2) ∈ pre (d + 1) ByteArray.empty 0 t := by
  rw [pre]
  refine List.mem_cons_of_mem _ (List.mem_flatMap.2 ⟨y, hy, ?_⟩)
  rw [pre_shift d (ByteArray.empty ++ slash ++ y.1) (0 + 1) y.2]
  exact List.mem_map.2 ⟨x, hx, rfl⟩
theorem kid_len {d : Nat} {t : Tree} {y : ByteArray × Tree} (hy : y ∈ t.kids) : (pre d ByteArray.empty 0 y.2).length + 1 ≤ (pre (d + 1) ByteArray.empty 0 t).length := by
  rw [← S_one, ← S_one, S_dir]
  have h := mem_sum (fun y : ByteArray × Tree => S one (pre d ByteArray.empty 0 y.2)) hy
  simp only [one] at *
  omega
theorem kid_ok {d : Nat} {t : Tree} {y : ByteArray × Tree} (hy : y ∈ t.kids) (h : OkItems (pre (d + 1) ByteArray.empty 0 t)) : OkItems (pre d ByteArray.empty 0 y.2) := fun x hx => by
  have := h _ (kid_in hy hx)
  simp only [ByteArray.size_append] at this
  exact ⟨by omega, by omega, this.2.2⟩
theorem kid_well {d : Nat} {t : Tree} {y : ByteArray × Tree} (hy : y ∈ t.kids) (h : treeErr (d + 1) t = none) : treeErr d y.2 = none := by
  rw [treeErr_none] at h ⊢
  refine ⟨by have := kid_len (d := d) hy; omega, fun x hx => ?_⟩
  have := h.2 _ (kid_in hy hx)
  exact ⟨by have := this.1; simp only at this; omega, this.2⟩
end Go.Proofs.YtpjjpmikhjlgnaaGreatDoor
