/-
  A tape's records as plain mathematics: how they are written, how they are read, that what was written is read, and that a record that was cut is none. No program stands here.
  Conditions: none.
-/
import Derived.Test.YthelggcaggobaaaDoorPacks
import Derived.Lib.AtoiAllCases
import Derived.Lib.ItoaMem
namespace Go.Proofs.YthelggcaggobaaaDoor
open Go.RowKit

/-! ### Numbers -/
theorem val_snoc (l : List UInt8) (c : UInt8) : valOf (l ++ [c]) = 10 * valOf l + (c.toNat - 48) := by simp [valOf]
theorem val_ge : ∀ (l : List UInt8) (a : Nat), a ≤ l.foldl (fun n c => 10 * n + (c.toNat - 48)) a
  | [], _ => Nat.le_refl _
  | c :: r, a => by
    rw [List.foldl_cons]
    exact Nat.le_trans (by omega) (val_ge r _)
theorem parse_digits : ∀ (l : List UInt8) (a : Nat), l.all digit = true → l.foldl (fun n c => 10 * n + (c.toNat - 48)) a ≤ 1000000 → Lib.parseUint10 a l = .ok (l.foldl (fun n c => 10 * n + (c.toNat - 48)) a)
  | [], _, _, _ => rfl
  | c :: r, a, h, hb => by
    rw [List.all_cons, Bool.and_eq_true] at h
    have hd := h.1
    unfold digit at hd
    rw [decide_eq_true_eq] at hd
    rw [List.foldl_cons] at hb ⊢
    have hge := val_ge r (10 * a + (c.toNat - 48))
    unfold Lib.parseUint10
    rw [if_pos hd, if_neg (by omega), if_neg (by omega), Nat.mul_comm a 10]
    exact parse_digits r _ h.2 hb
theorem atoi_dec {n : Nat} (h : n ≤ 1000000) : Lib.atoiAll (Lib.decDigits n) = .ok (n : Int) := by
  have h1 := dec_digits n
  have hl := Lib.decDigits_length n
  have hp := Lib.nDigits_pos n
  cases e : Lib.decDigits n with
  | nil => rw [e] at hl; simp at hl; omega
  | cons c r =>
    rw [e] at h1
    have hd := h1.1
    rw [List.all_cons, Bool.and_eq_true] at hd
    have hd := hd.1
    unfold digit at hd
    rw [decide_eq_true_eq] at hd
    rw [Lib.atoiAll_plain c r (by omega) (by omega)]
    have h2 : Lib.parseMag (c :: r) = .ok n := by
      unfold Lib.parseMag
      rw [if_neg (by simp)]
      have := parse_digits (c :: r) 0 h1.1 (by rw [show List.foldl _ 0 (c :: r) = n from h1.2]; exact h)
      rw [this]
      exact congrArg _ h1.2
    rw [h2]
    show (if 9223372036854775808 ≤ n then _ else _) = _
    rw [if_neg (by omega)]
theorem val_pos {c : UInt8} {r : List UInt8} (h : digit c = true) (h0 : c ≠ 48) : 1 ≤ valOf (c :: r) := by
  unfold digit at h
  rw [decide_eq_true_eq] at h
  have : c.toNat ≠ 48 := fun e => h0 (UInt8.toNat_inj.1 e)
  unfold valOf
  rw [List.foldl_cons]
  exact Nat.le_trans (by omega) (val_ge r _)
theorem dec_val : ∀ (n : Nat) (p : List UInt8), p.length = n → p.all digit = true → p ≠ [] → ¬ (1 < p.length ∧ p.head? = some 48) → Lib.decDigits (valOf p) = p := by
  intro n
  induction n with
  | zero => intro p hp _ h0; exact absurd (List.eq_nil_of_length_eq_zero hp) h0
  | succ n ih =>
    intro p hp hd h0 hz
    obtain ⟨q, c, rfl⟩ : ∃ q c, p = q ++ [c] := ⟨p.dropLast, p.getLast h0, (List.dropLast_concat_getLast h0).symm⟩
    rw [List.all_append, Bool.and_eq_true] at hd
    have hc := hd.2
    simp only [List.all_cons, List.all_nil, Bool.and_true] at hc
    unfold digit at hc
    rw [decide_eq_true_eq] at hc
    rw [val_snoc]
    cases q with
    | nil =>
      rw [show 10 * valOf ([] : List UInt8) + (c.toNat - 48) = c.toNat - 48 by simp [valOf], Lib.decDigits_one (by omega)]
      have : 48 + (c.toNat - 48) = c.toNat := by omega
      rw [this]
      simp
    | cons d r =>
      have hd1 := hd.1
      rw [List.all_cons, Bool.and_eq_true] at hd1
      have hd48 : d ≠ 48 := fun e => hz ⟨by simp, by simp [e]⟩
      have hp1 : 1 ≤ valOf (d :: r) := val_pos hd1.1 hd48
      rw [Lib.decDigits, dif_neg (by omega)]
      have e1 : (10 * valOf (d :: r) + (c.toNat - 48)) / 10 = valOf (d :: r) := by omega
      have e2 : 48 + (10 * valOf (d :: r) + (c.toNat - 48)) % 10 = c.toNat := by omega
      rw [e1, e2, ih (d :: r) (by simpa using hp) hd.1 (by simp) (fun h => hd48 (by simpa using h.2))]
      simp
/-- How many bytes a record tells. -/
def cntR (p : List UInt8) : Option Nat := if p = Lib.decDigits (valOf p) ∧ valOf p ≤ 20000 then some (valOf p) else none
theorem cntR_iff {p : List UInt8} {n : Nat} : cntR p = some n ↔ p = Lib.decDigits n ∧ n ≤ 20000 := by
  unfold cntR
  constructor
  · intro h
    split at h
    · rename_i hh
      cases h
      exact hh
    · cases h
  · rintro ⟨rfl, h⟩
    rw [(dec_digits n).2, if_pos ⟨rfl, h⟩]
theorem cntR_dec {n : Nat} (h : n ≤ 20000) : cntR (Lib.decDigits n) = some n := cntR_iff.2 ⟨rfl, h⟩
theorem cntR_le {p : List UInt8} {n : Nat} (h : cntR p = some n) : n ≤ 20000 := (cntR_iff.1 h).2
theorem cntR_atoi {p : List UInt8} {n : Nat} (h : cntR p = some n) : Lib.atoiAll p = .ok (n : Int) := by
  obtain ⟨rfl, h⟩ := cntR_iff.1 h
  exact atoi_dec (by omega)
theorem cntR_none {p : List UInt8} (h : ∀ v : Int, Lib.atoiAll p = .ok v → v < 0 ∨ 20000 < v) : cntR p = none := by
  cases e : cntR p with
  | none => rfl
  | some n =>
    have h1 := h _ (cntR_atoi e)
    have := cntR_le e
    omega
theorem cntR_itoa {p : List UInt8} {n : Nat} (h : Lib.atoiAll p = .ok (n : Int)) (hn : n ≤ 20000) : cntR p = if Lib.decDigits n = p then some n else none := by
  split
  · rename_i e
    exact cntR_iff.2 ⟨e.symm, hn⟩
  · rename_i e
    cases e2 : cntR p with
    | none => rfl
    | some m =>
      have h1 := cntR_atoi e2
      rw [h] at h1
      have : (n : Int) = (m : Int) := by injection h1
      have : n = m := by omega
      subst this
      exact absurd (cntR_iff.1 e2).1.symm e
theorem dec_short {n : Nat} (h : n ≤ 20000) : (Lib.decDigits n).length ≤ 6 := by
  have := dec_ok (n := n) (by omega)
  unfold numOk at this
  rw [Bool.and_eq_true, decide_eq_true_eq] at this
  exact this.1.2
theorem dec_colon (n : Nat) : ∀ c ∈ Lib.decDigits n, (c != 58) = true := fun c hc => by
  have := List.all_eq_true.1 (dec_digits n).1 c hc
  rw [bne_iff_ne]
  rintro rfl
  exact absurd this (by decide)

/-! ### Records -/
def recT (s : ByteArray) : List UInt8 := Lib.decDigits s.size ++ 58 :: (s.data.toList ++ [10, 46])
def numP (l : List UInt8) : List UInt8 := l.takeWhile fun c => c != 58
/-- The text of the record with which bytes begin, and what is behind the record. -/
def firstT (l : List UInt8) : Option (List UInt8 × List UInt8) := match l.drop (numP l).length with
  | [] => none
  | _ :: r => match cntR (numP l) with
    | none => none
    | some n => if List.isPrefixOf [10, 46] (r.drop n) = true then some (r.take n, r.drop (n + 2)) else none
theorem drop_num (l : List UInt8) : l = numP l ++ l.drop (numP l).length := by
  conv => lhs; rw [← List.takeWhile_append_dropWhile (p := fun c => c != 58) (l := l)]
  unfold numP
  congr 1
  conv => rhs; rw [show List.drop _ l = List.drop (List.takeWhile (fun c => c != 58) l).length (List.takeWhile (fun c => c != 58) l ++ List.dropWhile (fun c => c != 58) l) by rw [List.takeWhile_append_dropWhile]]
  rw [List.drop_left]
theorem num_cons {p r : List UInt8} (h : ∀ c ∈ p, (c != 58) = true) : numP (p ++ 58 :: r) = p := by
  unfold numP
  rw [List.takeWhile_append_of_pos h]
  simp
theorem num_all {p : List UInt8} (h : ∀ c ∈ p, (c != 58) = true) : numP p = p := by
  unfold numP
  have := List.takeWhile_append_of_pos (l₁ := p) (l₂ := []) h
  simpa using this
theorem first_len {l t r : List UInt8} (h : firstT l = some (t, r)) : t.length + r.length + 4 ≤ l.length := by
  have e := drop_num l
  unfold firstT at h
  split at h
  · cases h
  · rename_i c r0 hr0
    split at h
    · cases h
    · rename_i n hn
      split at h
      · rename_i hp
        cases h
        obtain ⟨x, hx⟩ := List.isPrefixOf_iff_prefix.1 hp
        have hl1 : (r0.drop n).length = 2 + x.length := by rw [← hx, List.length_append]; rfl
        rw [List.length_drop] at hl1
        have hl2 : l.length = (numP l).length + (1 + r0.length) := by
          conv => lhs; rw [e]
          rw [List.length_append, hr0, List.length_cons, Nat.add_comm 1]
        have hl3 : 1 ≤ (numP l).length := by
          rw [(cntR_iff.1 hn).1, Lib.decDigits_length]
          exact Lib.nDigits_pos _
        rw [List.length_take, List.length_drop]
        omega
      · cases h
theorem first_rec {s : ByteArray} (h : s.size ≤ 20000) (r : List UInt8) : firstT (recT s ++ r) = some (s.data.toList, r) := by
  have e : recT s ++ r = Lib.decDigits s.size ++ 58 :: (s.data.toList ++ [10, 46] ++ r) := by simp [recT]
  have hn : numP (recT s ++ r) = Lib.decDigits s.size := by rw [e]; exact num_cons (dec_colon _)
  have hl : s.data.toList.length = s.size := by simp
  unfold firstT
  rw [hn, e, List.drop_left]
  simp only [cntR_dec h]
  rw [← hl, List.append_assoc, List.drop_left, if_pos (by simp), List.take_left]
  congr 2
  rw [← List.drop_drop, List.drop_left]
  rfl
/-- A record that was cut is none. -/
theorem first_cut {s : ByteArray} {p q : List UInt8} (e : recT s = p ++ q) (hq : q ≠ []) : firstT p = none := by
  have hl : s.data.toList.length = s.size := by simp
  by_cases hd : (Lib.decDigits s.size).length < p.length
  · -- the colon is there
    have hp : p = Lib.decDigits s.size ++ 58 :: p.drop ((Lib.decDigits s.size).length + 1) := by
      have e1 : p.take ((Lib.decDigits s.size).length + 1) = Lib.decDigits s.size ++ [58] := by
        have h1 : (p ++ q).take ((Lib.decDigits s.size).length + 1) = p.take ((Lib.decDigits s.size).length + 1) := List.take_append_of_le_length (by omega)
        rw [← h1, ← e]
        unfold recT
        rw [show Lib.decDigits s.size ++ 58 :: (s.data.toList ++ [10, 46]) = (Lib.decDigits s.size ++ [58]) ++ (s.data.toList ++ [10, 46]) by simp]
        exact List.take_left' (by simp)
      conv => lhs; rw [← List.take_append_drop ((Lib.decDigits s.size).length + 1) p]
      rw [e1]
      simp
    have hn : numP p = Lib.decDigits s.size := by rw [hp]; exact num_cons (dec_colon _)
    have hs : s.data.toList ++ [10, 46] = p.drop ((Lib.decDigits s.size).length + 1) ++ q := by
      have h2 : Lib.decDigits s.size ++ 58 :: (s.data.toList ++ [10, 46]) = Lib.decDigits s.size ++ 58 :: (p.drop ((Lib.decDigits s.size).length + 1) ++ q) := by
        rw [show Lib.decDigits s.size ++ 58 :: (s.data.toList ++ [10, 46]) = recT s from rfl, e]
        conv => lhs; rw [hp]
        simp
      have := List.append_cancel_left h2
      injection this
    generalize p.drop ((Lib.decDigits s.size).length + 1) = r at hp hs
    have hlen := congrArg List.length hs
    have hq1 : 1 ≤ q.length := by cases q with
      | nil => exact absurd rfl hq
      | cons _ _ => simp
    rw [List.length_append, List.length_append, hl] at hlen
    simp only [List.length_cons, List.length_nil] at hlen
    unfold firstT
    rw [hn]
    conv => lhs; rw [hp]
    rw [List.drop_left]
    simp only
    cases e2 : cntR (Lib.decDigits s.size) with
    | none => rfl
    | some n =>
      have hn2 : n = s.size := by
        have := (cntR_iff.1 e2).1
        have h3 := congrArg valOf this
        rw [(dec_digits _).2, (dec_digits _).2] at h3
        omega
      subst hn2
      simp only
      rw [if_neg]
      intro hpre
      obtain ⟨x, hx⟩ := List.isPrefixOf_iff_prefix.1 hpre
      have := congrArg List.length hx
      rw [List.length_drop, List.length_append] at this
      simp only [List.length_cons, List.length_nil] at this
      omega
  · have hall : ∀ c ∈ p, (c != 58) = true := fun c hc => by
      have h1 : p = (Lib.decDigits s.size).take p.length := by
        have h2 : (p ++ q).take p.length = p := List.take_left
        rw [← e] at h2
        unfold recT at h2
        rw [List.take_append_of_le_length (by omega)] at h2
        exact h2.symm
      rw [h1] at hc
      exact dec_colon _ c (List.mem_of_mem_take hc)
    unfold firstT
    rw [num_all hall, List.drop_length]

/-! ### Reading -/
def readF : Nat → List UInt8 → List ByteArray × List UInt8
  | 0, l => ([], l)
  | k + 1, l => match firstT l with
    | none => ([], l)
    | some (t, r) => (bs t :: (readF k r).1, (readF k r).2)
theorem readF_more : ∀ (k : Nat) (l : List UInt8), l.length ≤ k → ∀ m, l.length ≤ m → readF k l = readF m l
  | 0, l, hk, m, _ => by
    have : l = [] := List.eq_nil_of_length_eq_zero (by omega)
    subst this
    cases m with
    | zero => rfl
    | succ m => rfl
  | k + 1, l, hk, m, hm => by
    cases m with
    | zero =>
      have : l = [] := List.eq_nil_of_length_eq_zero (by omega)
      subst this
      rfl
    | succ m =>
      unfold readF
      cases e : firstT l with
      | none => rfl
      | some x =>
        obtain ⟨t, r⟩ := x
        have := first_len e
        simp only
        rw [readF_more k r (by omega) m (by omega)]
/-- The texts of the records from the beginning, and what is behind them. -/
def readA (l : List UInt8) : List ByteArray × List UInt8 := readF l.length l
theorem readA_none {l : List UInt8} (h : firstT l = none) : readA l = ([], l) := by
  unfold readA
  cases l with
  | nil => rfl
  | cons c r =>
    rw [List.length_cons]
    unfold readF
    rw [h]
theorem readA_some {l t r : List UInt8} (h : firstT l = some (t, r)) : readA l = (bs t :: (readA r).1, (readA r).2) := by
  have hl := first_len h
  unfold readA
  obtain ⟨k, hk⟩ : ∃ k, l.length = k + 1 := ⟨l.length - 1, by omega⟩
  rw [hk]
  conv => lhs; unfold readF
  rw [h]
  simp only
  rw [readF_more k r (by omega) r.length (Nat.le_refl _)]
theorem readF_end : ∀ (k : Nat) (l : List UInt8), l.length ≤ k → firstT (readF k l).2 = none ∧ ∃ p, l = p ++ (readF k l).2
  | 0, l, hk => by
    have : l = [] := List.eq_nil_of_length_eq_zero (by omega)
    subst this
    exact ⟨rfl, [], rfl⟩
  | k + 1, l, hk => by
    unfold readF
    cases e : firstT l with
    | none => exact ⟨e, [], rfl⟩
    | some x =>
      obtain ⟨t, r⟩ := x
      have hl := first_len e
      obtain ⟨h1, p, hp⟩ := readF_end k r (by omega)
      refine ⟨h1, ?_⟩
      have hr : ∃ q, l = q ++ r := by
        have e0 := drop_num l
        unfold firstT at e
        split at e
        · cases e
        · rename_i c r0 hr0
          split at e
          · cases e
          · rename_i n hn
            split at e
            · cases e
              rw [hr0] at e0
              exact ⟨numP l ++ c :: r0.take (n + 2), by rw [List.append_assoc, List.cons_append, List.take_append_drop]; exact e0⟩
            · cases e
      obtain ⟨q, hq⟩ := hr
      exact ⟨q ++ p, by simp only; rw [List.append_assoc, ← hp, ← hq]⟩
theorem readA_end (l : List UInt8) : ∃ p, l = p ++ (readA l).2 := (readF_end _ _ (Nat.le_refl _)).2
theorem readA_len (l : List UInt8) : (readA l).2.length ≤ l.length := by
  obtain ⟨p, hp⟩ := readA_end l
  have := congrArg List.length hp
  rw [List.length_append] at this
  omega
/-- How many bytes the records have. -/
def readN (l : List UInt8) : Nat := l.length - (readA l).2.length
theorem readN_le (l : List UInt8) : readN l ≤ l.length := Nat.sub_le _ _
def recs (ts : List ByteArray) : List UInt8 := ts.flatMap recT
theorem recs_snoc (ts : List ByteArray) (s : ByteArray) : recs (ts ++ [s]) = recs ts ++ recT s := by simp [recs]
theorem readA_recs : ∀ (ts : List ByteArray) (r : List UInt8), (∀ s ∈ ts, s.size ≤ 20000) → readA (recs ts ++ r) = (ts ++ (readA r).1, (readA r).2)
  | [], r, _ => rfl
  | s :: ts, r, h => by
    rw [show recs (s :: ts) ++ r = recT s ++ (recs ts ++ r) by simp [recs], readA_some (first_rec (h s (by simp)) _), readA_recs ts r (fun x hx => h x (by simp [hx]))]
    rfl
theorem readA_whole {ts : List ByteArray} (h : ∀ s ∈ ts, s.size ≤ 20000) : readA (recs ts) = (ts, []) := by
  have := readA_recs ts [] h
  rw [List.append_nil] at this
  rw [this]
  simp [readA, readF]
theorem readA_cut {ts : List ByteArray} {s : ByteArray} {p q : List UInt8} (h : ∀ s ∈ ts, s.size ≤ 20000) (e : recT s = p ++ q) (hq : q ≠ []) : readA (recs ts ++ p) = (ts, p) := by
  rw [readA_recs ts p h, readA_none (first_cut e hq), List.append_nil]
theorem recT_len (s : ByteArray) (h : s.size ≤ 20000) : s.size + 4 ≤ (recT s).length ∧ (recT s).length ≤ s.size + 9 := by
  have h1 := dec_short h
  have h2 := Lib.nDigits_pos s.size
  have h3 := Lib.decDigits_length s.size
  have hl : s.data.toList.length = s.size := by simp
  unfold recT
  simp only [List.length_append, List.length_cons, List.length_nil, hl]
  omega
theorem recs_len : ∀ (ts : List ByteArray) (m : Nat), (∀ s ∈ ts, s.size ≤ m) → m ≤ 20000 → (recs ts).length ≤ ts.length * (m + 9)
  | [], _, _, _ => by simp [recs]
  | s :: ts, m, h, hm => by
    have h1 := recs_len ts m (fun x hx => h x (by simp [hx])) hm
    have h2 := (recT_len s (Nat.le_trans (h s (by simp)) hm)).2
    have h3 := h s (by simp)
    rw [show recs (s :: ts) = recT s ++ recs ts by simp [recs], List.length_append, List.length_cons, Nat.add_mul]
    omega
theorem readA_texts : ∀ (k : Nat) (l : List UInt8), l.length ≤ k → (readA l).1.length * 4 ≤ l.length ∧ ∀ x ∈ (readA l).1, x.size ≤ 20000 := by
  intro k
  induction k with
  | zero =>
    intro l h
    have : l = [] := List.eq_nil_of_length_eq_zero (by omega)
    subst this
    simp [readA, readF]
  | succ k ih =>
    intro l h
    cases e : firstT l with
    | none => rw [readA_none e]; simp
    | some x =>
      obtain ⟨t, r⟩ := x
      have hl := first_len e
      rw [readA_some e]
      obtain ⟨h1, h2⟩ := ih r (by omega)
      simp only [List.length_cons]
      refine ⟨by omega, fun x hx => ?_⟩
      rcases List.mem_cons.1 hx with rfl | hx
      · rw [bs_size]
        unfold firstT at e
        split at e
        · cases e
        · split at e
          · cases e
          · rename_i n hn
            split at e
            · cases e
              rw [List.length_take]
              have := cntR_le hn
              omega
            · cases e
      · exact h2 x hx
end Go.Proofs.YthelggcaggobaaaDoor
