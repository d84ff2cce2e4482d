/-
  The order of names, and what is found among names that rise: plain mathematics.
  Conditions: none.
-/
import Derived.Test.YtpjjpmikhjlgnaaGreatDoorTrees
import Derived.Lib.Bytealg
namespace Go.Proofs.YtpjjpmikhjlgnaaGreatDoor
open Go.RowKit

theorem cmp_less : ∀ (a b : List UInt8), (Lib.compareBytes a b < 0 ↔ Op.bytesLess a b = true) ∧ (Lib.compareBytes a b = 0 ↔ a = b)
  | [], [] => by simp [Lib.compareBytes, Op.bytesLess]
  | [], _ :: _ => by simp [Lib.compareBytes, Op.bytesLess]
  | _ :: _, [] => by simp [Lib.compareBytes, Op.bytesLess]
  | a :: x, b :: y => by
    have ih := cmp_less x y
    simp only [Lib.compareBytes, Op.bytesLess, Bool.or_eq_true, decide_eq_true_eq, Bool.and_eq_true, beq_iff_eq, List.cons.injEq]
    by_cases h1 : a < b
    · have hne : a ≠ b := fun e => by subst e; exact absurd h1 (by simp)
      simp [h1, hne]
    · by_cases h2 : b < a
      · have hne : a ≠ b := fun e => by subst e; exact absurd h2 (by simp)
        simp [h1, h2, hne]
      · have e : a = b := by
          have h3 := UInt8.not_lt.1 h1
          have h4 := UInt8.not_lt.1 h2
          exact UInt8.le_antisymm h4 h3
        subst e
        simp only [h1, if_false, true_and, false_or]
        exact ih
theorem less_trans : ∀ {a b c : List UInt8}, Op.bytesLess a b = true → Op.bytesLess b c = true → Op.bytesLess a c = true
  | _, [], _, h, _ => by simp [Op.bytesLess] at h
  | [], _ :: _, [], _, h => by simp [Op.bytesLess] at h
  | [], _ :: _, _ :: _, _, _ => by simp [Op.bytesLess]
  | _ :: _, _ :: _, [], _, h => by simp [Op.bytesLess] at h
  | a :: x, b :: y, c :: z, h1, h2 => by
    simp only [Op.bytesLess, Bool.or_eq_true, decide_eq_true_eq, Bool.and_eq_true, beq_iff_eq] at h1 h2 ⊢
    rcases h1 with h1 | ⟨rfl, h1⟩
    · rcases h2 with h2 | ⟨rfl, _⟩
      · exact .inl (UInt8.lt_trans h1 h2)
      · exact .inl h1
    · rcases h2 with h2 | ⟨rfl, h2⟩
      · exact .inl h2
      · exact .inr ⟨rfl, less_trans h1 h2⟩
theorem less_irrefl (a : List UInt8) : Op.bytesLess a a = false := by
  cases h : Op.bytesLess a a with
  | false => rfl
  | true =>
    have := (cmp_less a a).1.2 h
    have := (cmp_less a a).2.2 rfl
    omega

/-- Names that rise. -/
def Rises (l : List (ByteArray × Tree)) : Prop := ∀ (i j : Nat) (x y : ByteArray × Tree), i < j → l[i]? = some x → l[j]? = some y → Op.bytesLess x.1.toList y.1.toList = true
theorem rises_of {l : List (ByteArray × Tree)} (h : risesTo l l.length = true) : Rises l := by
  have one : ∀ (j : Nat) (x y : ByteArray × Tree), l[j]? = some x → l[j + 1]? = some y → Op.bytesLess x.1.toList y.1.toList = true := fun j x y hx hy => by
    have hj : j + 1 < l.length := (List.getElem?_eq_some_iff.1 hy).1
    cases hk : risesTo l (j + 1 + 1) with
    | false => rw [risesTo_mono (by omega) hk] at h; cases h
    | true =>
      rw [risesTo_succ hx hy] at hk
      simpa using (Bool.and_eq_true _ _ ▸ hk : _ ∧ _).2
  intro i j
  induction j with
  | zero => intro x y h; omega
  | succ j ih =>
    intro x y hij hx hy
    have hj : j + 1 < l.length := (List.getElem?_eq_some_iff.1 hy).1
    obtain ⟨z, hz⟩ : ∃ z, l[j]? = some z := ⟨l[j], List.getElem?_eq_getElem (by omega)⟩
    have h1 := one j z y hz hy
    rcases Nat.lt_or_ge i j with h2 | h2
    · exact less_trans (ih x z h2 hx hz) h1
    · obtain rfl : i = j := by omega
      rw [hx] at hz
      obtain rfl := Option.some.inj hz
      exact h1

/-- How many names stand ahead of one. -/
def placeOf (l : List (ByteArray × Tree)) (s : ByteArray) : Nat := l.countP fun x => Op.bytesLess x.1.toList s.toList
/-- Is it there? -/
def thereAt (l : List (ByteArray × Tree)) (s : ByteArray) : Bool := match l[placeOf l s]? with
  | none => false
  | some x => decide (x.1 = s)
theorem place_le (l : List (ByteArray × Tree)) (s : ByteArray) : placeOf l s ≤ l.length := List.countP_le_length
theorem count_at (p : ByteArray × Tree → Bool) : ∀ (l : List (ByteArray × Tree)) (i : Nat), i ≤ l.length → (∀ t x, t < i → l[t]? = some x → p x = true) → (∀ t x, i ≤ t → l[t]? = some x → p x = false) → l.countP p = i
  | [], i, hi, _, _ => by simp at hi; simp [hi]
  | a :: r, 0, _, _, h2 => by
    rw [List.countP_eq_zero]
    intro x hx
    obtain ⟨t, ht, rfl⟩ := List.getElem_of_mem hx
    have := h2 t _ (Nat.zero_le _) (List.getElem?_eq_getElem ht)
    simp [this]
  | a :: r, i + 1, hi, h1, h2 => by
    have ha : p a = true := h1 0 a (Nat.succ_pos _) rfl
    rw [List.countP_cons_of_pos ha, count_at p r i (by simpa using hi) (fun t x ht hx => h1 (t + 1) x (by omega) (by simpa using hx)) (fun t x ht hx => h2 (t + 1) x (by omega) (by simpa using hx))]
/-- What is there is there. -/
theorem there_some {l : List (ByteArray × Tree)} {s : ByteArray} (h : thereAt l s = true) : ∃ x, l[placeOf l s]? = some x ∧ x.1 = s := by
  unfold thereAt at h
  split at h
  · cases h
  · rename_i x hx
    exact ⟨x, hx, by simpa using h⟩
theorem ba_toList (s : ByteArray) : s.toList = s.data.toList := ByteArray.toList_eq s
theorem ba_ext {s t : ByteArray} (h : s.toList = t.toList) : s = t := by
  rw [ba_toList, ba_toList] at h
  obtain ⟨⟨a⟩⟩ := s
  obtain ⟨⟨b⟩⟩ := t
  simp only at h
  subst h; rfl
/-- Among names that rise one is found where it is. -/
theorem place_at {l : List (ByteArray × Tree)} {i : Nat} {x : ByteArray × Tree} (hr : Rises l) (hx : l[i]? = some x) : placeOf l x.1 = i := by
  have hi : i < l.length := (List.getElem?_eq_some_iff.1 hx).1
  refine count_at _ l i (by omega) (fun t y ht hy => hr t i y x ht hy hx) (fun t y ht hy => ?_)
  rcases Nat.lt_or_ge i t with h | h
  · cases hc : Op.bytesLess y.1.toList x.1.toList with
    | false => rfl
    | true =>
      have := less_trans hc (hr i t x y h hx hy)
      rw [less_irrefl] at this
      cases this
  · obtain rfl : t = i := by omega
    rw [hx] at hy
    obtain rfl := Option.some.inj hy
    exact less_irrefl _
theorem there_at {l : List (ByteArray × Tree)} {i : Nat} {x : ByteArray × Tree} (hr : Rises l) (hx : l[i]? = some x) : thereAt l x.1 = true := by
  unfold thereAt
  rw [place_at hr hx, hx]
  simp
theorem there_mem {l : List (ByteArray × Tree)} {s : ByteArray} (hr : Rises l) : thereAt l s = true ↔ ∃ x ∈ l, x.1 = s := by
  constructor
  · intro h
    obtain ⟨x, hx, e⟩ := there_some h
    exact ⟨x, List.mem_of_getElem? hx, e⟩
  · rintro ⟨x, hx, rfl⟩
    obtain ⟨i, hi, rfl⟩ := List.getElem_of_mem hx
    exact there_at hr (List.getElem?_eq_getElem hi)
end Go.Proofs.YtpjjpmikhjlgnaaGreatDoor
