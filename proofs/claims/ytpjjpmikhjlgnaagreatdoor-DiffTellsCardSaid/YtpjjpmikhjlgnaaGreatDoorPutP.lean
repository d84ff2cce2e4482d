/-
  A tree with a node put, or dropped, at a path: plain mathematics.
  Conditions: those that each states.
-/
import Derived.Test.YtpjjpmikhjlgnaaGreatDoorPGet
namespace Go.Proofs.YtpjjpmikhjlgnaaGreatDoor
open Go.RowKit

theorem rises_name {l : List (ByteArray × Tree)} (hr : Rises l) {i j : Nat} {x y : ByteArray × Tree} (hx : l[i]? = some x) (hy : l[j]? = some y) (e : x.1 = y.1) : i = j := by
  have h1 := place_at hr hx
  have h2 := place_at hr hy
  rw [e] at h1
  omega
/-- A kid is found just if it is one. -/
theorem kid_mem {t : Tree} {x : ByteArray} {k : Tree} (hr : Rises t.kids) : kidOf t x = some k ↔ (x, k) ∈ t.kids := by
  unfold kidOf
  constructor
  · intro h
    split at h
    · rename_i ht
      obtain ⟨y, hy, e⟩ := there_some ht
      rw [hy] at h
      simp only [Option.map_some, Option.some.injEq] at h
      have hm := List.mem_of_getElem? hy
      obtain ⟨y1, y2⟩ := y
      simp only at e h
      subst e; subst h
      exact hm
    · cases h
  · intro h
    obtain ⟨i, hi, e⟩ := List.getElem_of_mem h
    have hx : t.kids[i]? = some (x, k) := by rw [List.getElem?_eq_getElem hi, e]
    rw [if_pos (there_at hr hx), place_at hr hx, hx]
    rfl
theorem kid_none {t : Tree} {x : ByteArray} : kidOf t x = none ↔ thereAt t.kids x = false := by
  unfold kidOf
  cases h : thereAt t.kids x with
  | false => simp
  | true =>
    obtain ⟨y, hy, _⟩ := there_some h
    simp [hy]
/-- A kid set, or put. -/
def setKid (l : List (ByteArray × Tree)) (x : ByteArray) (k : Tree) : List (ByteArray × Tree) :=
  if thereAt l x = true then l.set (placeOf l x) (x, k) else l.take (placeOf l x) ++ (x, k) :: l.drop (placeOf l x)
theorem setKid_mem {l : List (ByteArray × Tree)} {x : ByteArray} {k : Tree} (hr : Rises l) (z : ByteArray × Tree) : z ∈ setKid l x k ↔ z = (x, k) ∨ (z.1 ≠ x ∧ z ∈ l) := by
  unfold setKid
  cases ht : thereAt l x with
  | true =>
    rw [if_pos rfl]
    obtain ⟨y, hy, e⟩ := there_some ht
    constructor
    · intro h
      obtain ⟨i, hi, e2⟩ := List.getElem_of_mem h
      rw [List.getElem_set] at e2
      split at e2
      · exact .inl e2.symm
      · rename_i hne
        rw [List.length_set] at hi
        have hz : l[i]? = some z := by rw [List.getElem?_eq_getElem hi, e2]
        exact .inr ⟨fun h2 => hne (rises_name hr hy hz (by rw [e, h2])), List.mem_of_getElem? hz⟩
    · rintro (rfl | ⟨hne, hz⟩)
      · exact List.mem_of_getElem? (i := placeOf l x) (by rw [List.getElem?_set_self (List.getElem?_eq_some_iff.1 hy).1])
      · obtain ⟨i, hi, e2⟩ := List.getElem_of_mem hz
        refine List.mem_of_getElem? (i := i) ?_
        rw [List.getElem?_set_ne (fun h2 => ?_), List.getElem?_eq_getElem hi, e2]
        subst h2
        rw [List.getElem?_eq_getElem hi, e2] at hy
        obtain rfl := Option.some.inj hy
        exact hne e
  | false =>
    rw [if_neg (by simp)]
    have hn : ∀ y ∈ l, y.1 ≠ x := fun y hy e => by
      have := (there_mem (l := l) (s := x) hr).2 ⟨y, hy, e⟩
      rw [ht] at this; cases this
    rw [List.mem_append, List.mem_cons]
    have hl : z ∈ l ↔ z ∈ l.take (placeOf l x) ∨ z ∈ l.drop (placeOf l x) := by rw [← List.mem_append, List.take_append_drop]
    constructor
    · rintro (h | rfl | h)
      · have := hl.2 (.inl h); exact .inr ⟨hn z this, this⟩
      · exact .inl rfl
      · have := hl.2 (.inr h); exact .inr ⟨hn z this, this⟩
    · rintro (rfl | ⟨_, h⟩)
      · exact .inr (.inl rfl)
      · rcases hl.1 h with h | h
        · exact .inl h
        · exact .inr (.inr h)
theorem kid_set {t : Tree} {x z : ByteArray} {k : Tree} (hr : Rises t.kids) (hy : Rises (setKid t.kids x k)) : kidOf { t with kids := setKid t.kids x k } z = if z = x then some k else kidOf t z := by
  have key : ∀ q, kidOf { t with kids := setKid t.kids x k } z = some q ↔ (z, q) = (x, k) ∨ (z ≠ x ∧ kidOf t z = some q) := fun q => by
    rw [kid_mem (t := { t with kids := setKid t.kids x k }) hy, setKid_mem hr, kid_mem hr]
  by_cases e : z = x
  · rw [if_pos e]
    exact (key k).2 (.inl (by rw [e]))
  · rw [if_neg e]
    cases h : kidOf t z with
    | some q => exact (key q).2 (.inr ⟨e, h⟩)
    | none =>
      cases h2 : kidOf { t with kids := setKid t.kids x k } z with
      | none => rfl
      | some q =>
        rcases (key q).1 h2 with h3 | ⟨_, h3⟩
        · exact absurd (congrArg Prod.fst h3) e
        · rw [h] at h3; cases h3
def zeroT : Tree := ⟨ByteArray.empty, ByteArray.empty, false, []⟩
/-- A tree with a node put at names. -/
def setAt (X : Tree) : List ByteArray → Tree → Tree
  | [], _ => X
  | x :: r, t => { t with kids := setKid t.kids x (setAt X r ((kidOf t x).getD zeroT)) }
theorem rises_zero : RisesD 1 zeroT := ⟨fun i j x y _ hx => by simp [zeroT] at hx, fun x hx => by simp [zeroT] at hx⟩
theorem rises_kid {t k : Tree} {x : ByteArray} {d : Nat} (h : RisesD d t) (hk : kidOf t x = some k) : ∃ e, RisesD e k := by
  cases d with
  | zero => exact h.elim
  | succ d => exact ⟨d, h.2 (x, k) ((kid_mem h.1).1 hk)⟩
theorem rises_getD {t : Tree} {d : Nat} (h : RisesD d t) (x : ByteArray) : ∃ e, RisesD e ((kidOf t x).getD zeroT) := by
  cases hk : kidOf t x with
  | none => exact ⟨1, rises_zero⟩
  | some k => exact rises_kid h hk
theorem rises_top {t : Tree} {d : Nat} (h : RisesD d t) : Rises t.kids := by
  cases d with
  | zero => exact h.elim
  | succ d => exact h.1
/-- What was put is there. -/
theorem at_set {X : Tree} : ∀ {l : List ByteArray} {d e : Nat} {t : Tree}, RisesD d t → RisesD e (setAt X l t) → atR l (setAt X l t) = some X
  | [], _, _, _, _, _ => rfl
  | x :: r, d, e, t, h, hy => by
    have h1 := kid_set (x := x) (z := x) (k := setAt X r ((kidOf t x).getD zeroT)) (rises_top h) (rises_top hy)
    rw [if_pos rfl] at h1
    simp only [setAt] at hy ⊢
    simp only [atR, h1]
    obtain ⟨d', hd'⟩ := rises_getD h x
    obtain ⟨e', he'⟩ := rises_kid hy h1
    exact at_set hd' he'
/-- Neither leads to the other. -/
def ApartL (l m : List ByteArray) : Prop := ¬ l <+: m ∧ ¬ m <+: l
theorem at_zero {m : List ByteArray} (h : m ≠ []) : atR m zeroT = none := by
  cases m with
  | nil => exact absurd rfl h
  | cons x m => rfl
/-- What is elsewhere stays. -/
theorem at_other {X : Tree} : ∀ {l m : List ByteArray} {d e : Nat} {t : Tree}, ApartL l m → RisesD d t → RisesD e (setAt X l t) → atR m (setAt X l t) = atR m t
  | [], m, _, _, _, ha, _, _ => absurd (List.nil_prefix) ha.1
  | x :: r, [], _, _, _, ha, _, _ => absurd (List.nil_prefix) ha.2
  | x :: r, z :: m, d, e, t, ha, h, hy => by
    have h1 := kid_set (x := x) (z := z) (k := setAt X r ((kidOf t x).getD zeroT)) (rises_top h) (rises_top hy)
    have h2 := kid_set (x := x) (z := x) (k := setAt X r ((kidOf t x).getD zeroT)) (rises_top h) (rises_top hy)
    rw [if_pos rfl] at h2
    obtain ⟨d', hd'⟩ := rises_getD h x
    obtain ⟨e', he'⟩ := rises_kid hy h2
    simp only [setAt] at hy ⊢
    simp only [atR, h1]
    by_cases ez : z = x
    · subst ez
      rw [if_pos rfl]
      have ha' : ApartL r m := ⟨fun hp => ha.1 (List.cons_prefix_cons.2 ⟨rfl, hp⟩), fun hp => ha.2 (List.cons_prefix_cons.2 ⟨rfl, hp⟩)⟩
      simp only
      rw [at_other ha' hd' he']
      cases hk : kidOf t z with
      | some k => rfl
      | none =>
        simp only [Option.getD_none]
        exact at_zero fun hm => ha'.2 (by rw [hm]; exact List.nil_prefix)
    · rw [if_neg ez]
end Go.Proofs.YtpjjpmikhjlgnaaGreatDoor
