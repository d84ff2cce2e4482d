/-
  Trees as text, as plain mathematics: how a tree is written, how a text is read, and that what was written is read. No program stands here.
  Conditions: none.
-/
import Derived.Test.YtilkjafggfdjeaaDoorTrees
import Derived.Lib.ItoaNum
import Derived.Laws.Strings
namespace Go.Proofs.YtilkjafggfdjeaaDoor
open Go.RowKit

/-- Bytes as a string. -/
def bs (l : List UInt8) : ByteArray := ⟨l.toArray⟩
theorem bs_data (s : ByteArray) : bs s.data.toList = s := rfl
theorem bs_list (l : List UInt8) : (bs l).data.toList = l := rfl
theorem bs_size (l : List UInt8) : (bs l).size = l.length := rfl
theorem bs_inj {k l : List UInt8} (h : bs k = bs l) : k = l := by
  have := congrArg (fun s : ByteArray => s.data.toList) h
  exact this

/-! ### Written -/
def letterOf (t : Tree) : UInt8 := if isDir t = true then 100 else if isLink t = true then 108 else if t.exec = true then 120 else 102
def numT (n : Nat) : List UInt8 := Lib.decDigits n ++ [58]
def bytesT (s : ByteArray) : List UInt8 := numT s.size ++ s.data.toList
def textT : Nat → Tree → List UInt8
  | 0, _ => []
  | d + 1, t => letterOf t :: (if isDir t = true then numT t.kids.length ++ t.kids.flatMap fun x => bytesT x.1 ++ textT d x.2 else bytesT t.data)

/-! ### Read -/
def digit (c : UInt8) : Bool := decide (48 ≤ c.toNat ∧ c.toNat ≤ 57)
def valOf (l : List UInt8) : Nat := l.foldl (fun n c => 10 * n + (c.toNat - 48)) 0
def numOk (ds : List UInt8) : Bool := decide (1 ≤ ds.length ∧ ds.length ≤ 6) && !(decide (1 < ds.length) && ds.head? == some 48)
/-- A number, and the colon behind it. -/
def numR (l : List UInt8) : Option (Nat × List UInt8) :=
  if numOk (l.takeWhile digit) = true then match l.drop (l.takeWhile digit).length with
    | [] => none
    | c :: r => if c = 58 then some (valOf (l.takeWhile digit), r) else none
  else none
/-- A number, and that many bytes. -/
def bytesR (l : List UInt8) : Option (List UInt8 × List UInt8) := match numR l with
  | none => none
  | some (n, r) => if r.length < n then none else some (r.take n, r.drop n)
def kidR (f : Nat × List UInt8 → Except Nat (Tree × (Nat × List UInt8))) (s : Nat × List UInt8) : Except Nat ((ByteArray × Tree) × (Nat × List UInt8)) := match bytesR s.2 with
  | none => .error 0
  | some (nm, r) => match f (s.1, r) with
    | .error e => .error e
    | .ok (t, s') => .ok ((bs nm, t), s')
def kidsR (f : Nat × List UInt8 → Except Nat (Tree × (Nat × List UInt8))) : Nat → Nat × List UInt8 → Except Nat (List (ByteArray × Tree) × (Nat × List UInt8))
  | 0, s => .ok ([], s)
  | k + 1, s => match kidsR f k s with
    | .error e => .error e
    | .ok (l, s') => match kidR f s' with
      | .error e => .error e
      | .ok (x, s'') => .ok (l ++ [x], s'')
def fileK : ByteArray := bs [102, 105, 108, 101]
def dirK : ByteArray := bs [100, 105, 114]
def linkK : ByteArray := bs [108, 105, 110, 107]
def leafR (k : ByteArray) (x : Bool) (n : Nat) (r : List UInt8) : Except Nat (Tree × (Nat × List UInt8)) := match bytesR r with
  | none => .error 0
  | some (d, r') => .ok (⟨k, bs d, x, []⟩, (n, r'))
def dirR (f : Nat × List UInt8 → Except Nat (Tree × (Nat × List UInt8))) (n : Nat) (r : List UInt8) : Except Nat (Tree × (Nat × List UInt8)) := match numR r with
  | none => .error 0
  | some (c, r') => match kidsR f c (n, r') with
    | .error e => .error e
    | .ok (l, s) => .ok (⟨dirK, ByteArray.empty, false, l⟩, s)
/-- A node: so many levels are let; so many nodes began ahead of it. Errors: 0 text, 7 full, 8 deep. -/
def nodeR : Nat → Nat × List UInt8 → Except Nat (Tree × (Nat × List UInt8))
  | 0, _ => .error 8
  | f + 1, s => if 200 < s.1 + 1 then .error 7 else match s.2 with
    | [] => .error 0
    | c :: r => if c = 102 ∨ c = 120 then leafR fileK (decide (c = 120)) (s.1 + 1) r else if c = 108 then leafR linkK false (s.1 + 1) r else if c = 100 then dirR (nodeR f) (s.1 + 1) r else .error 0

/-! ### What was written is read -/
theorem digit_of {n : Nat} (h : n < 10) : digit (UInt8.ofNat (48 + n)) = true ∧ (UInt8.ofNat (48 + n)).toNat - 48 = n := by
  have e : (UInt8.ofNat (48 + n)).toNat = 48 + n := by
    rw [UInt8.toNat_ofNat']
    omega
  unfold digit
  rw [e]
  exact ⟨by simp; omega, by omega⟩
theorem dec_digits : ∀ (n : Nat), (Lib.decDigits n).all digit = true ∧ valOf (Lib.decDigits n) = n := by
  intro n
  induction n using Nat.strongRecOn with
  | _ n ih =>
    by_cases h : n < 10
    · rw [Lib.decDigits_one h]
      have := digit_of h
      exact ⟨by simp only [List.all_cons, List.all_nil, Bool.and_true]; exact this.1, by simp only [valOf, List.foldl_cons, List.foldl_nil, this.2]; omega⟩
    · rw [Lib.decDigits, dif_neg h]
      have h1 := ih (n / 10) (by omega)
      have h2 := digit_of (n := n % 10) (by omega)
      refine ⟨by rw [List.all_append, h1.1]; simp only [List.all_cons, List.all_nil, Bool.and_true, Bool.true_and]; exact h2.1, ?_⟩
      unfold valOf at *
      rw [List.foldl_append, h1.2]
      simp only [List.foldl_cons, List.foldl_nil, h2.2]
      omega
theorem dec_head : ∀ (n : Nat), 1 ≤ n → ∃ c r, Lib.decDigits n = c :: r ∧ c ≠ 48 := by
  intro n
  induction n using Nat.strongRecOn with
  | _ n ih =>
    intro h0
    by_cases h : n < 10
    · refine ⟨_, [], Lib.decDigits_one h, fun e => ?_⟩
      have := congrArg UInt8.toNat e
      rw [UInt8.toNat_ofNat'] at this
      simp at this
      omega
    · obtain ⟨c, r, e, hc⟩ := ih (n / 10) (by omega) (by omega)
      exact ⟨c, r ++ [UInt8.ofNat (48 + n % 10)], by rw [Lib.decDigits, dif_neg h, e]; rfl, hc⟩
theorem dec_ok {n : Nat} (h : n < 1000000) : numOk (Lib.decDigits n) = true := by
  have hl := Lib.decDigits_length n
  have h1 := Lib.nDigits_pos n
  have h6 : Lib.nDigits n ≤ 6 := by
    rcases Nat.lt_or_ge n 10 with h' | h'
    · rw [Lib.nDigits_small h']; omega
    · rcases Nat.lt_or_ge n 100 with h2 | h2
      · rw [Lib.nDigits_unique 1 n (by omega) (by omega)]; omega
      · rcases Nat.lt_or_ge n 1000 with h3 | h3
        · rw [Lib.nDigits_unique 2 n (by omega) (by omega)]; omega
        · rcases Nat.lt_or_ge n 10000 with h4 | h4
          · rw [Lib.nDigits_unique 3 n (by omega) (by omega)]; omega
          · rcases Nat.lt_or_ge n 100000 with h5 | h5
            · rw [Lib.nDigits_unique 4 n (by omega) (by omega)]; omega
            · rw [Lib.nDigits_unique 5 n (by omega) (by omega)]; omega
  unfold numOk
  rcases Nat.eq_zero_or_pos n with h0 | h0
  · subst h0
    rw [Lib.decDigits_one (by omega)]
    decide
  · obtain ⟨c, r, e, hc⟩ := dec_head n h0
    have hl' : r.length + 1 ≤ 6 := by have : (c :: r).length = Lib.nDigits n := by rw [← e, hl]
                                      simp at this; omega
    rw [e]
    simp [hc]
    omega
theorem take_digits {ds r : List UInt8} (h : ds.all digit = true) : (ds ++ 58 :: r).takeWhile digit = ds := by
  rw [List.takeWhile_append_of_pos (by simpa using h)]
  have : digit 58 = false := by decide
  simp [this]
theorem numR_text {n : Nat} (h : n < 1000000) (r : List UInt8) : numR (numT n ++ r) = some (n, r) := by
  have h1 := dec_digits n
  have e : numT n ++ r = Lib.decDigits n ++ 58 :: r := by simp [numT]
  have ht : (Lib.decDigits n ++ 58 :: r).takeWhile digit = Lib.decDigits n := take_digits h1.1
  unfold numR
  rw [e, ht, if_pos (dec_ok h), List.drop_left, h1.2]
  rfl
theorem bytesR_text {s : ByteArray} (h : s.size < 1000000) (r : List UInt8) : bytesR (bytesT s ++ r) = some (s.data.toList, r) := by
  unfold bytesR bytesT
  rw [List.append_assoc, numR_text h]
  have e : s.data.toList.length = s.size := by simp
  simp only [List.length_append, e]
  rw [if_neg (by omega), ← e, List.take_left, List.drop_left]

theorem kindEq {s : ByteArray} {l : List UInt8} (h : (s.toList == l) = true) : s = bs l := by
  have e : s.toList = l := by simpa using h
  rw [ByteArray.toList_eq] at e
  rw [← e]; rfl
/-- A well tree is one of three. -/
theorem node_cases {t : Tree} (h : nodeErr t = none) : (t = ⟨fileK, t.data, t.exec, []⟩ ∧ t.data.size ≤ 2000) ∨ (t = ⟨linkK, t.data, false, []⟩ ∧ t.data.size ≤ 40) ∨ (t = ⟨dirK, ByteArray.empty, false, t.kids⟩ ∧ ∀ x ∈ t.kids, x.1.size ≤ 12) := by
  obtain ⟨kd, da, ex, ki⟩ := t
  unfold nodeErr at h
  split at h
  · rename_i hf
    unfold fileErr at h
    split at h
    · cases h
    · split at h
      · cases h
      · rename_i h1 h2
        simp only at h1 h2 ⊢
        exact .inl ⟨by rw [show kd = fileK from kindEq hf, show ki = [] from List.eq_nil_of_length_eq_zero (by omega)], by omega⟩
  · split at h
    · rename_i hf
      unfold dirErr at h
      split at h
      · cases h
      · rename_i h1
        split at h
        · rename_i h2
          simp only [not_or] at h1
          have hd : da = ByteArray.empty := by
            have h3 : da.toList = [] := by simpa using h1.1
            rw [ByteArray.toList_eq] at h3
            obtain ⟨⟨l⟩⟩ := da
            simp only at h3
            subst h3; rfl
          have he : ex = false := by simpa using h1.2
          refine .inr (.inr ⟨by rw [show kd = dirK from kindEq hf, hd, he], fun x hx => ?_⟩)
          have h4 := List.all_eq_true.1 h2 x hx
          unfold nameB at h4
          simp only [Bool.and_eq_true, decide_eq_true_eq] at h4
          exact h4.1.1.1.2
        · cases h
    · split at h
      · rename_i hf
        unfold linkErr at h
        split at h
        · cases h
        · split at h
          · cases h
          · rename_i h1 h2
            simp only [not_or] at h1 h2
            have he : ex = false := by simpa using h1.1
            exact .inr (.inl ⟨by rw [show kd = linkK from kindEq hf, he, show ki = [] from List.eq_nil_of_length_eq_zero (Nat.le_zero.1 (Nat.not_lt.1 h1.2))], Nat.not_lt.1 h2.2⟩)
      · cases h
end Go.Proofs.YtilkjafggfdjeaaDoor
