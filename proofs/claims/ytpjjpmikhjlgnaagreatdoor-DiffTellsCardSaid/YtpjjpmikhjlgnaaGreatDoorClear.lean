/-
  Where Follow ends: plain mathematics.
  Conditions: those that each states.
-/
import Derived.Test.YtpjjpmikhjlgnaaGreatDoorFollows
import Derived.Test.YtpjjpmikhjlgnaaGreatDoorPGet
import Derived.Test.YtpjjpmikhjlgnaaGreatDoorPathT
namespace Go.Proofs.YtpjjpmikhjlgnaaGreatDoor
open Go.RowKit

/-- Names that lead on, and to no link. -/
def Clear (t : Tree) (h : List ByteArray) : Prop := (∀ y ∈ h, nameB y = true) ∧ ∀ j, 1 ≤ j → j ≤ h.length → ∃ k, atR (h.take j) t = some k ∧ isLink k = false
theorem clear_nil (t : Tree) : Clear t [] := ⟨fun y hy => by simp at hy, fun j h1 h2 => by simp only [List.length_nil] at h2; omega⟩
theorem clear_take {t : Tree} {h : List ByteArray} (c : Clear t h) (m : Nat) : Clear t (h.take m) := by
  refine ⟨fun y hy => c.1 y (List.mem_of_mem_take hy), fun j h1 h2 => ?_⟩
  rw [List.length_take] at h2
  rw [List.take_take, Nat.min_eq_left (by omega)]
  exact c.2 j h1 (by omega)
theorem clear_snoc {t k : Tree} {h : List ByteArray} {x : ByteArray} (c : Clear t h) (hx : nameB x = true) (hk : atR (h ++ [x]) t = some k) (hl : isLink k = false) : Clear t (h ++ [x]) := by
  refine ⟨fun y hy => ?_, fun j h1 h2 => ?_⟩
  · rcases List.mem_append.1 hy with hy | hy
    · exact c.1 y hy
    · rw [List.mem_singleton.1 hy]; exact hx
  · rw [List.length_append, List.length_singleton] at h2
    by_cases e : j = h.length + 1
    · rw [List.take_of_length_le (by simp; omega)]
      exact ⟨k, hk, hl⟩
    · rw [List.take_append_of_le_length (by omega)]
      exact c.2 j h1 (by omega)
theorem clear_step {t : Tree} {x : ByteArray} {h a : List ByteArray} {n : Nat} {s : WkS} (c : Clear t h) (e : stepR t x h a n = .ok s) : Clear t s.here := by
  unfold stepR at e
  split at e
  · injection e with e
    subst e
    exact c
  · split at e
    · injection e with e
      subst e
      rw [List.dropLast_eq_take]
      exact clear_take c _
    · split at e
      · cases e
      · rename_i hn
        split at e
        · cases e
        · rename_i k hk
          split at e
          · unfold linkR at e
            split at e
            · cases e
            · injection e with e
              subst e
              simp only
              split
              · exact clear_nil t
              · exact c
          · rename_i hl
            injection e with e
            subst e
            exact clear_snoc c (by simpa using hn) hk (by simpa using hl)
theorem clear_follow {t : Tree} : ∀ {f : Nat} {s : WkS} {r : List ByteArray}, Clear t s.here → followR t f s = .ok r → Clear t r
  | 0, _, _, _, e => by cases e
  | f + 1, s, r, c, e => by
    obtain ⟨h, a, n⟩ := s
    simp only [followR] at e
    cases a with
    | nil =>
      simp only at e
      injection e with e
      subst e
      exact c
    | cons x a =>
      simp only at e
      cases hst : stepR t x h a n with
      | error er => rw [hst] at e; cases e
      | ok s' =>
        rw [hst] at e
        exact clear_follow (clear_step c hst) e
theorem name_not {x : ByteArray} (h : nameB x = true) : ¬ (x = ByteArray.empty ∨ x = dotB) ∧ x ≠ dotsB := by
  refine ⟨fun e => ?_, fun e => ?_⟩
  · rcases e with rfl | rfl
    · exact absurd h (by decide)
    · unfold nameB at h
      rw [show (dotB.toList == [46]) = true by rw [ba_toList]; rfl] at h
      simp at h
  · subst e
    unfold nameB at h
    rw [show (dotsB.toList == [46, 46]) = true by rw [ba_toList]; rfl] at h
    simp at h
/-- Where there is no link, the names are the place. -/
theorem follow_clear {t : Tree} : ∀ {a : List ByteArray} {f n : Nat} {h : List ByteArray}, Clear t (h ++ a) → a.length < f → followR t f ⟨h, a, n⟩ = .ok (h ++ a)
  | _, 0, _, _, _, hf => by omega
  | [], f + 1, n, h, _, _ => by simp [followR]
  | x :: a, f + 1, n, h, c, hf => by
    have hx := c.1 x (by simp)
    obtain ⟨k, hk, hl⟩ := c.2 (h.length + 1) (by omega) (by simp)
    have e : (h ++ x :: a).take (h.length + 1) = h ++ [x] := by
      rw [List.take_append, List.take_of_length_le (by omega), Nat.add_sub_cancel_left]
      rfl
    rw [e] at hk
    have hs : stepR t x h a n = .ok ⟨h ++ [x], a, n⟩ := by
      unfold stepR
      rw [if_neg (name_not hx).1, if_neg (name_not hx).2, if_neg (by rw [hx]; decide), hk]
      simp only
      rw [if_neg (by rw [hl]; decide)]
    simp only [followR, hs]
    have c2 : Clear t ((h ++ [x]) ++ a) := by rw [List.append_assoc]; exact c
    rw [follow_clear (n := n) c2 (by simpa using hf), List.append_assoc]
    rfl
theorem at_pre : ∀ {l : List ByteArray} {d : Nat} {p : ByteArray} {k0 : Nat} {t k : Tree}, Fit d t → atR l t = some k → ∃ q, (q, k0 + l.length, k) ∈ pre d p k0 t
  | _, 0, _, _, _, _, h, _ => h.elim
  | [], d + 1, p, k0, t, k, _, e => by
    simp only [atR, Option.some.injEq] at e
    subst e
    exact ⟨p, by simp [pre]⟩
  | x :: l, d + 1, p, k0, t, k, h, e => by
    simp only [atR] at e
    cases hk : kidOf t x with
    | none => rw [hk] at e; cases e
    | some y =>
      rw [hk] at e
      simp only at e
      unfold kidOf at hk
      split at hk
      · cases hx : t.kids[placeOf t.kids x]? with
        | none => rw [hx] at hk; cases hk
        | some z =>
          rw [hx] at hk
          simp only [Option.map_some, Option.some.injEq] at hk
          subst hk
          have hm := List.mem_of_getElem? hx
          obtain ⟨q, hq⟩ := at_pre (d := d) (p := p ++ slash ++ z.1) (k0 := k0 + 1) (h z hm) e
          refine ⟨q, ?_⟩
          simp only [pre]
          rw [List.length_cons, show k0 + (l.length + 1) = k0 + 1 + l.length by omega]
          exact List.mem_cons_of_mem _ (List.mem_flatMap.2 ⟨z, hm, hq⟩)
      · cases hk
theorem at_len {l : List ByteArray} {d : Nat} {t k : Tree} (hf : Fit d t) (h : treeErr d t = none) (e : atR l t = some k) : l.length ≤ 8 := by
  obtain ⟨q, hq⟩ := at_pre (p := ByteArray.empty) (k0 := 0) hf e
  have := ((treeErr_none.1 h).2 _ hq).1
  simp only [Nat.zero_add] at this
  exact this
theorem clear_at {t : Tree} {l : List ByteArray} (c : Clear t l) : ∃ k, atR l t = some k ∧ (l ≠ [] → isLink k = false) := by
  cases l with
  | nil => exact ⟨t, rfl, fun h => absurd rfl h⟩
  | cons x l =>
    obtain ⟨k, hk, hl⟩ := c.2 (x :: l).length (by simp) (Nat.le_refl _)
    rw [List.take_of_length_le (Nat.le_refl _)] at hk
    exact ⟨k, hk, fun _ => hl⟩
theorem clear_len {t : Tree} {l : List ByteArray} {d : Nat} (hf : Fit d t) (h : treeErr d t = none) (c : Clear t l) : l.length ≤ 8 := by
  obtain ⟨k, hk, _⟩ := clear_at c
  exact at_len hf h hk
theorem short_dir {t : Tree} (h : nodeErr t = none) (hl : isLink t = true) : t.data.size ≤ 40 := by
  unfold nodeErr at h
  have hnf : isFile t = false := by
    unfold isFile isLink at *
    have := eq_of_beq hl
    rw [this]; rfl
  have hnd : isDir t = false := by
    unfold isDir isLink at *
    have := eq_of_beq hl
    rw [this]; rfl
  rw [if_neg (by rw [hnf]; decide), if_neg (by rw [hnd]; decide), if_pos hl] at h
  unfold linkErr at h
  split at h
  · cases h
  · split at h
    · cases h
    · rename_i h1
      omega
theorem short_tree : ∀ {d : Nat} {p : ByteArray} {k : Nat} {t : Tree}, Fit d t → (∀ x ∈ pre d p k t, nodeErr x.2.2 = none) → ShortD d t
  | 0, _, _, _, h, _ => h
  | d + 1, p, k, t, h, ho => by
    simp only [pre] at ho
    exact ⟨short_dir (ho (p, k, t) List.mem_cons_self), fun y hy => short_tree (p := p ++ slash ++ y.1) (k := k + 1) (h y hy) fun x hx => ho x (List.mem_cons_of_mem _ (List.mem_flatMap.2 ⟨y, hy, hx⟩))⟩
theorem short_well {d : Nat} {t : Tree} (hf : Fit d t) (h : treeErr d t = none) : ShortD d t := short_tree (p := ByteArray.empty) (k := 0) hf fun x hx => ((treeErr_none.1 h).2 x hx).2
theorem cutL_piece_le : ∀ (l : List UInt8), ∀ x ∈ cutL l, x.length ≤ l.length
  | [], x, hx => by
    rw [show cutL [] = [[]] from rfl] at hx
    rw [List.mem_singleton.1 hx]
    simp
  | c :: l, x, hx => by
    have ih := cutL_piece_le l
    by_cases hc : c = 47
    · subst hc
      rw [cutL_stroke] at hx
      rcases List.mem_cons.1 hx with rfl | hx
      · simp
      · have := ih x hx; simp only [List.length_cons]; omega
    · obtain ⟨h, t, e⟩ : ∃ h t, cutL l = h :: t := by
        cases h : cutL l with
        | nil => exact absurd h (cutL_ne l)
        | cons a b => exact ⟨a, b, rfl⟩
      rw [cutL_byte hc e] at hx
      rw [e] at ih
      rcases List.mem_cons.1 hx with rfl | hx
      · have := ih h (by simp); simp only [List.length_cons]; omega
      · have := ih x (by simp [hx]); simp only [List.length_cons]; omega
theorem cutB_sizes (s : ByteArray) : ∀ x ∈ cutB s, x.size ≤ s.size := fun x hx => by
  unfold cutB at hx
  obtain ⟨y, hy, rfl⟩ := List.mem_map.1 hx
  have := cutL_piece_le s.data.toList y hy
  show y.toArray.size ≤ _
  simpa using this
/-- What is left are short texts. -/
theorem sizes_step {t : Tree} {d : Nat} (hs : ShortD d t) {x : ByteArray} {h a : List ByteArray} {n : Nat} {s : WkS} (e : stepR t x h a n = .ok s) (ha : ∀ y ∈ a, y.size ≤ 40) : ∀ y ∈ s.ahead, y.size ≤ 40 := by
  unfold stepR at e
  split at e
  · injection e with e
    subst e
    exact ha
  · split at e
    · injection e with e
      subst e
      exact ha
    · split at e
      · cases e
      · split at e
        · cases e
        · rename_i k hk
          split at e
          · rename_i hl
            have h1 := short_link hs hk hl
            unfold linkR at e
            split at e
            · cases e
            · injection e with e
              subst e
              intro y hy
              rcases List.mem_append.1 hy with hy | hy
              · have := cutB_sizes k.data y hy; omega
              · exact ha y hy
          · injection e with e
            subst e
            exact ha
theorem name_short {x : ByteArray} (h : nameB x = true) : x.size ≤ 40 := by
  unfold nameB at h
  simp only [Bool.and_eq_true, decide_eq_true_eq] at h
  omega
end Go.Proofs.YtpjjpmikhjlgnaaGreatDoor
