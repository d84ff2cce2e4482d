/-
  The document's list of a tree's nodes (so many at most, so deep at most) has the same first error as the walk; of a well tree it is the walk's own order. No program stands here.
  Conditions: none.
-/
import Derived.Test.YtpjjpmikhjlgnaaGreatDoorSums
namespace Go.Proofs.YtpjjpmikhjlgnaaGreatDoor
open Go.RowKit

/-- The first error of items. -/
def errOf (l : List (ByteArray × Nat × Tree)) : Option Nat := (runs ck 0 l).2
theorem errOf_long {l : List (ByteArray × Nat × Tree)} (h : 200 < l.length) : ∃ e, errOf l = some e := by
  cases he : errOf l with
  | some e => exact ⟨e, rfl⟩
  | none =>
    have := ((ck_none l 0 (by omega)).1 he).1
    omega
theorem errOf_more {l : List (ByteArray × Nat × Tree)} {e : Nat} (h : errOf l = some e) (l2 : List (ByteArray × Nat × Tree)) : errOf (l ++ l2) = some e := by
  unfold errOf at *
  rw [runs_append_err _ _ _ h]
  exact h
theorem errOf_deep (l : List (ByteArray × Nat × Tree)) (x : ByteArray × Nat × Tree) (hx : 8 < x.2.1) : ∃ e, errOf (l ++ [x]) = some e := by
  cases he : errOf (l ++ [x]) with
  | some e => exact ⟨e, rfl⟩
  | none =>
    have := ((ck_none _ 0 (by omega)).1 he).2 x (by simp)
    omega
/-- Two lists with a beginning that has an error. -/
theorem errOf_both {l a b : List (ByteArray × Nat × Tree)} {e : Nat} (h : errOf l = some e) : errOf (l ++ a) = errOf (l ++ b) := by rw [errOf_more h, errOf_more h]

theorem pre_pos {d : Nat} {p : ByteArray} {k : Nat} {t : Tree} (h : Fit d t) : 1 ≤ (pre d p k t).length := by
  cases d with
  | zero => exact h.elim
  | succ d => simp [pre]
theorem flat_pos {d : Nat} : ∀ {l : List (ByteArray × Nat × Tree)}, (∀ x ∈ l, Fit (d - x.2.1) x.2.2) → l.length ≤ (l.flatMap (tailOf d)).length
  | [], _ => by simp
  | x :: l, h => by
    have h1 := pre_pos (p := x.1) (k := x.2.1) (h x List.mem_cons_self)
    have h2 := flat_pos (d := d) (l := l) fun y hy => h y (List.mem_cons_of_mem _ hy)
    rw [List.flatMap_cons, List.length_append, List.length_cons]
    unfold tailOf at *
    omega

theorem list_err {d : Nat} {t : Tree} (hd : Fit d t) : ∀ i, i ≤ 201 → (∀ x ∈ listTo 200 8 [(ByteArray.empty, 0, t)] i, Fit (d - x.2.1) x.2.2) ∧
      errOf ((listTo 200 8 [(ByteArray.empty, 0, t)] i).take i ++ ((listTo 200 8 [(ByteArray.empty, 0, t)] i).drop i).flatMap (tailOf d)) = treeErr d t := by
  intro i
  induction i with
  | zero =>
    intro _
    refine ⟨fun x hx => ?_, ?_⟩
    · simp only [listTo, List.mem_singleton] at hx
      subst hx
      exact hd
    · simp [listTo, tailOf, errOf, treeErr]
  | succ i ih =>
    intro hi
    obtain ⟨h1, h2⟩ := ih (by omega)
    have hgr : listTo 200 8 [(ByteArray.empty, 0, t)] (i + 1) = grow 200 8 (listTo 200 8 [(ByteArray.empty, 0, t)] i) i := rfl
    generalize hl : listTo 200 8 [(ByteArray.empty, 0, t)] i = l at *
    cases hx : l[i]? with
    | none =>
      have hle : l.length ≤ i := by
        rcases Nat.lt_or_ge i l.length with h | h
        · rw [List.getElem?_eq_getElem h] at hx; cases hx
        · exact h
      have e : grow 200 8 l i = l := by unfold grow; rw [hx]
      rw [hgr, e]
      refine ⟨h1, ?_⟩
      rw [List.take_of_length_le (by omega), List.drop_eq_nil_of_le (by omega)]
      rw [List.take_of_length_le hle, List.drop_eq_nil_of_le hle] at h2
      exact h2
    | some x =>
      have hil : i < l.length := (List.getElem?_eq_some_iff.1 hx).1
      have hge : l[i] = x := (List.getElem?_eq_some_iff.1 hx).2
      have hxm : x ∈ l := List.mem_of_getElem? hx
      have e4 : l.drop i = x :: l.drop (i + 1) := by rw [List.drop_eq_getElem_cons hil, hge]
      have e5 : l.take (i + 1) = l.take i ++ [x] := by rw [List.take_succ_eq_append_getElem hil, hge]
      have hfx := h1 x hxm
      obtain ⟨m, hm⟩ : ∃ m, d - x.2.1 = m + 1 := by
        cases hdm : d - x.2.1 with
        | zero => rw [hdm] at hfx; exact hfx.elim
        | succ m => exact ⟨m, rfl⟩
      have hdk : d - (x.2.1 + 1) = m := by omega
      have e3 : tailOf d x = x :: (x.2.2.kids.map fun y => (x.1 ++ slash ++ y.1, x.2.1 + 1, y.2)).flatMap (tailOf d) := by
        unfold tailOf
        rw [hm]
        simp only [pre]
        congr 1
        rw [List.flatMap_map]
        simp only [hdk]
      rw [e4, List.flatMap_cons, e3] at h2
      by_cases hdeep : 8 < x.2.1
      · have e : grow 200 8 l i = l := by unfold grow; rw [hx]; exact if_pos hdeep
        rw [hgr, e]
        refine ⟨h1, ?_⟩
        obtain ⟨er, he⟩ := errOf_deep (l.take i) x hdeep
        rw [e5, ← h2]
        have e6 : l.take i ++ ((x :: (x.2.2.kids.map fun y => (x.1 ++ slash ++ y.1, x.2.1 + 1, y.2)).flatMap (tailOf d)) ++ (l.drop (i + 1)).flatMap (tailOf d)) = (l.take i ++ [x]) ++ ((x.2.2.kids.map fun y => (x.1 ++ slash ++ y.1, x.2.1 + 1, y.2)).flatMap (tailOf d) ++ (l.drop (i + 1)).flatMap (tailOf d)) := by simp
        rw [e6]
        exact errOf_both he
      · have e : grow 200 8 l i = l.take (i + 1) ++ kidsOf 200 x ++ l.drop (i + 1) := by
          unfold grow
          rw [hx]
          exact if_neg hdeep
        have hkf : ∀ y ∈ kidsOf 200 x, Fit (d - y.2.1) y.2.2 := fun y hy => by
          unfold kidsOf at hy
          obtain ⟨z, hz, rfl⟩ := List.mem_map.1 hy
          simp only
          rw [hdk]
          rw [hm] at hfx
          exact hfx z (List.mem_of_mem_take hz)
        rw [hgr, e]
        refine ⟨fun y hy => ?_, ?_⟩
        · rcases List.mem_append.1 hy with h | h
          · rcases List.mem_append.1 h with h | h
            · exact h1 y (List.mem_of_mem_take h)
            · exact hkf y h
          · exact h1 y (List.mem_of_mem_drop h)
        · have e1 : (l.take (i + 1) ++ kidsOf 200 x ++ l.drop (i + 1)).take (i + 1) = l.take (i + 1) := by
            rw [List.append_assoc, List.take_append_of_le_length (by rw [List.length_take]; omega), List.take_take, Nat.min_self]
          have e2 : (l.take (i + 1) ++ kidsOf 200 x ++ l.drop (i + 1)).drop (i + 1) = kidsOf 200 x ++ l.drop (i + 1) := by
            rw [List.append_assoc]
            have hl1 : (l.take (i + 1)).length = i + 1 := by rw [List.length_take]; omega
            exact List.drop_left' hl1
          rw [e1, e2, List.flatMap_append, e5, ← h2]
          by_cases hkl : x.2.2.kids.length ≤ 201
          · have hka : kidsOf 200 x = x.2.2.kids.map fun y => (x.1 ++ slash ++ y.1, x.2.1 + 1, y.2) := by
              unfold kidsOf
              rw [List.take_of_length_le (by omega)]
            rw [hka]
            simp
          · have hkn : (kidsOf 200 x).length = 201 := by unfold kidsOf; simp; omega
            have hlong : 200 < (l.take i ++ [x] ++ (kidsOf 200 x).flatMap (tailOf d)).length := by
              have := flat_pos hkf
              simp only [List.length_append]
              omega
            obtain ⟨er, he⟩ := errOf_long hlong
            have hsp : (x.2.2.kids.map fun y => (x.1 ++ slash ++ y.1, x.2.1 + 1, y.2)) = kidsOf 200 x ++ ((x.2.2.kids.drop 201).map fun y => (x.1 ++ slash ++ y.1, x.2.1 + 1, y.2)) := by
              unfold kidsOf
              rw [← List.map_append, List.take_append_drop]
            rw [hsp, List.flatMap_append]
            have e7 : ∀ (A B C : List (ByteArray × Nat × Tree)), l.take i ++ (x :: (A ++ B) ++ C) = (l.take i ++ [x] ++ A) ++ (B ++ C) := fun A B C => by simp
            have e8 : ∀ (A C : List (ByteArray × Nat × Tree)), l.take i ++ [x] ++ (A ++ C) = (l.take i ++ [x] ++ A) ++ C := fun A C => by simp
            rw [e7, e8]
            exact errOf_both he
theorem list_errs {d : Nat} {t : Tree} (hd : Fit d t) : errOf (listOf 200 8 t) = treeErr d t := by
  obtain ⟨h1, h2⟩ := list_err hd 201 (Nat.le_refl _)
  rw [← h2]
  show errOf (listTo 200 8 [(ByteArray.empty, 0, t)] 201) = _
  generalize listTo 200 8 [(ByteArray.empty, 0, t)] 201 = l at *
  rcases Nat.lt_or_ge 201 l.length with h | h
  · obtain ⟨er, he⟩ := errOf_long (l := l.take 201) (by rw [List.length_take]; omega)
    have := errOf_both he (a := l.drop 201) (b := (l.drop 201).flatMap (tailOf d))
    rw [List.take_append_drop] at this
    exact this
  · rw [List.take_of_length_le h, List.drop_eq_nil_of_le h]
    simp
theorem well_list {d : Nat} {t : Tree} (hd : Fit d t) (h : treeErr d t = none) : listOf 200 8 t = pre d ByteArray.empty 0 t := by
  have he := list_errs hd
  rw [h] at he
  have hw := (ck_none _ 0 (by omega)).1 he
  have hlen : (listOf 200 8 t).length ≤ 200 := by omega
  have hdp : ∀ x ∈ listOf 200 8 t, x.2.1 ≤ 8 := fun x hx => (hw.2 x hx).1
  have := (list_flat hd hlen hdp (200 + 1) (Nat.le_refl _)).2
  have hl : (listTo 200 8 [(ByteArray.empty, 0, t)] (200 + 1)).length ≤ 200 + 1 := by
    show (listOf 200 8 t).length ≤ _
    omega
  rw [List.take_of_length_le hl, List.drop_eq_nil_of_le hl] at this
  simp only [List.flatMap_nil, List.append_nil] at this
  exact this
end Go.Proofs.YtpjjpmikhjlgnaaGreatDoor
