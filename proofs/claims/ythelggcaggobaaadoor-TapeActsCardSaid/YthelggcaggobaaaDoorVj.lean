/-
  The document's tape: Record, NumberOf of at most nine digits, ReadTape.
  Conditions: the bytes are at most 400000.
-/
import Derived.Test.YthelggcaggobaaaDoorRefD
import Derived.Test.YthelggcaggobaaaDoorVb
namespace Go.Proofs.YthelggcaggobaaaDoor
open Go.RowKit
attribute [local go_sem ↓] Go.wp_at_zero Go.wp_at_succ

/-! ### Numbers -/
def ok9 (l : List UInt8) : Bool := decide (1 ≤ l.length ∧ l.length ≤ 9) && !(decide (1 < l.length) && l.head? == some 48)
def numV9 (l : List UInt8) : Int := if (ok9 l && l.all digit) = true then (valOf l : Int) else -1
theorem num9_no {l : List UInt8} (h : ok9 l = false ∨ l.all digit = false) : numV9 l = -1 := by
  unfold numV9
  rw [if_neg]
  rcases h with h | h <;> simp [h]
theorem num9_yes {l : List UInt8} (h : ok9 l = true) (h2 : l.all digit = true) : numV9 l = (valOf l : Int) := by
  unfold numV9
  rw [if_pos (by simp [h, h2])]
theorem head_ba {s : ByteArray} (h : 0 < s.size) : s.data.toList.head? = some s[0] := by
  rw [List.head?_eq_getElem?, List.getElem?_eq_getElem (by simpa using h)]
  rfl
theorem ok9_size {s : ByteArray} (h : s.size = 0 ∨ 9 < s.size) : ok9 s.data.toList = false := by
  have hl : s.data.toList.length = s.size := by simp
  unfold ok9
  rw [hl]
  rcases h with h | h
  · simp [h]
  · simp; omega
theorem ok9_zero {s : ByteArray} (h1 : 1 < s.size) (h0 : 0 < s.size) (h : s[0] = 48) : ok9 s.data.toList = false := by
  have hl : s.data.toList.length = s.size := by simp
  unfold ok9
  rw [hl, head_ba h0, h]
  simp [h1]
theorem ok9_yes {s : ByteArray} (h0 : 0 < s.size) (h9 : s.size ≤ 9) (h : ¬ (1 < s.size ∧ s[0] = 48)) : ok9 s.data.toList = true := by
  have hl : s.data.toList.length = s.size := by simp
  unfold ok9
  rw [hl, head_ba h0]
  by_cases h1 : 1 < s.size
  · have : ¬ s[0] = 48 := fun e => h ⟨h1, e⟩
    simp [this]
    omega
  · simp [h1]
    omega
theorem val_lt9 : ∀ (k : Nat) (s : ByteArray), k ≤ s.size → (s.data.toList.take k).all digit = true → valOf (s.data.toList.take k) < 10 ^ k
  | 0, _, _, _ => by simp [valOf]
  | k + 1, s, hk, h => by
    rw [take_snoc s k (by omega)] at h ⊢
    rw [List.all_append] at h
    simp only [Bool.and_eq_true, List.all_cons, List.all_nil] at h
    have h1 := val_lt9 k s (by omega) h.1
    have h2 := h.2.1
    unfold digit at h2
    simp only [decide_eq_true_eq] at h2
    rw [val_snoc, Nat.pow_succ]
    omega
theorem byte48V (c : UInt8) : c = 48 ↔ (c.toNat : Int) = 48 := by
  constructor
  · rintro rfl; rfl
  · intro h
    apply UInt8.toNat_inj.1
    show c.toNat = 48
    omega
/-- The document's number is the program's. -/
theorem cnt_num (l : List UInt8) : cntR l = if 0 ≤ numV9 l ∧ numV9 l ≤ 20000 then some (numV9 l).toNat else none := by
  by_cases h : (ok9 l && l.all digit) = true
  · rw [Bool.and_eq_true] at h
    have e := num9_yes h.1 h.2
    have h1 := h.1
    unfold ok9 at h1
    rw [Bool.and_eq_true, decide_eq_true_eq] at h1
    have hd : Lib.decDigits (valOf l) = l := dec_val _ l rfl h.2 (fun e => by rw [e] at h1; simp at h1) (fun hx => by
      have h2 := h1.2
      rw [hx.2] at h2
      simp [hx.1] at h2)
    rw [e]
    unfold cntR
    rw [hd]
    have e2 : ((valOf l : Int)).toNat = valOf l := by omega
    rw [e2]
    by_cases hb : valOf l ≤ 20000
    · rw [if_pos ⟨rfl, hb⟩, if_pos ⟨by omega, by omega⟩]
    · rw [if_neg (fun hx => hb hx.2), if_neg (fun hx => by omega)]
  · have e : numV9 l = -1 := by unfold numV9; rw [if_neg h]
    rw [e, if_neg (by omega)]
    cases hc : cntR l with
    | none => rfl
    | some n =>
      obtain ⟨rfl, hn⟩ := cntR_iff.1 hc
      refine absurd ?_ h
      have h1 := dec_ok (n := n) (by omega)
      rw [(dec_digits n).1, Bool.and_true]
      unfold numOk at h1
      unfold ok9
      rw [Bool.and_eq_true, decide_eq_true_eq] at h1 ⊢
      exact ⟨⟨h1.1.1, by omega⟩, h1.2⟩
set_option maxRecDepth 100000 in
set_option maxHeartbeats 2000000 in
theorem numberOf9_any (s : ByteArray) (w : World) (hs : s.size ≤ 100000000) : Calls Tryd.prog 26 #[.string s, .int .i64 9] w fun e w' => e = .returned (.int .i64 (numV9 s.data.toList)) ∧ w' = w := by
  by_cases h0 : s.size = 0
  · have HE : Hid (numV9 s.data.toList = -1) := num9_no (.inl (ok9_size (.inl h0)))
    have h1 : (s.size : Int) < 1 := by omega
    clear h0
    go_enter Tryd.func26, Tryd.ntmps26
    go_wp2_with fail
    go_ret
    exact ⟨by rw [HE.out]; rfl, rfl⟩
  have h1 : (1 : Int) ≤ (s.size : Int) := by omega
  by_cases h6 : 9 < s.size
  · have HE : Hid (numV9 s.data.toList = -1) := num9_no (.inl (ok9_size (.inr h6)))
    have h6' : (9 : Int) < (s.size : Int) := by omega
    go_enter Tryd.func26, Tryd.ntmps26
    go_wp2_with fail
    go_ret
    exact ⟨by rw [HE.out]; rfl, rfl⟩
  have h6' : (s.size : Int) ≤ 9 := by omega
  have h00 : 0 < s.size := by omega
  by_cases h10 : 1 < s.size ∧ s[0] = 48
  · have HE : Hid (numV9 s.data.toList = -1) := num9_no (.inl (ok9_zero h10.1 h00 h10.2))
    obtain ⟨h2, h48⟩ := h10
    have h2' : (1 : Int) < (s.size : Int) := by omega
    have h48' : ((s[0].toNat : Int) == 48) = true := by rw [h48]; rfl
    clear h48
    go_enter Tryd.func26, Tryd.ntmps26
    go_wp2_with fail
    go_ret
    exact ⟨by rw [HE.out]; rfl, rfl⟩
  have HOK : Hid (ok9 s.data.toList = true) := ok9_yes h00 (by omega) h10
  have hcase : ((s.size : Int) ≤ 1) ∨ ((1 : Int) < (s.size : Int) ∧ ((s[0].toNat : Int) == 48) = false) := by
    by_cases h2 : 1 < s.size
    · refine .inr ⟨by omega, ?_⟩
      simp only [beq_eq_false_iff_ne, ne_eq]
      exact fun e => h10 ⟨h2, (byte48V _).2 e⟩
    · exact .inl (by omega)
  clear h10 h0 h6
  rcases hcase with hc | ⟨hc, hc2⟩
  all_goals
    go_enter Tryd.func26, Tryd.ntmps26
    go_wp2_with fail
    go_loop [5, 6] (fun v i => ∃ k : Nat, k ≤ s.size ∧ i = .int .i64 k ∧ v = .int .i64 (valOf (s.data.toList.take k)) ∧ (s.data.toList.take k).all digit = true) (fun _ i => s.size - (intOf i).toNat)
    case atStart => exact ⟨0, Nat.zero_le _, rfl, by simp [valOf], by simp⟩
    case round =>
      obtain ⟨k, hk, rfl, rfl, hall⟩ := hrel
      have HA : Hid ((s.data.toList.take k).all digit = true) := hall
      have hv : valOf (s.data.toList.take k) < 1000000000 := Nat.lt_of_lt_of_le (val_lt9 k s hk hall) (Nat.pow_le_pow_right (by omega) (by omega) : 10 ^ k ≤ 10 ^ 9)
      have HV : Hid (∀ hlt : k < s.size, valOf (s.data.toList.take (k + 1)) = 10 * valOf (s.data.toList.take k) + (s[k].toNat - 48)) := fun hlt => by rw [take_snoc s k hlt, val_snoc]
      have HW : Hid (¬ k < s.size → numV9 s.data.toList = (valOf (s.data.toList.take k) : Int)) := fun hlt => by
        have e : s.data.toList.take k = s.data.toList := List.take_of_length_le (by simp; omega)
        rw [e] at hall ⊢
        exact num9_yes HOK.out hall
      generalize valOf (s.data.toList.take k) = v at hv HV HW ⊢
      clear hall
      by_cases hlt : k < s.size
      · have HS : Hid _ := all_snoc (p := digit) s k hlt
        by_cases hd : digit s[k] = true
        · have HD : Hid (digit s[k] = true) := hd
          have g1 : 48 ≤ (s[k].toNat : Int) := by unfold digit at hd; simp only [decide_eq_true_eq] at hd; omega
          have g2 : (s[k].toNat : Int) ≤ 57 := by unfold digit at hd; simp only [decide_eq_true_eq] at hd; omega
          have HVV : Hid _ := HV.out hlt
          clear HV hd HW
          go_wp2_with fail
          go_round
          case rel => exact ⟨k + 1, by omega, by go_num, by rw [HVV.out]; go_num, by rw [HS.out, HA.out]; exact HD.out⟩
          case measure => simp [intOf]; omega
        · have hd' : digit s[k] = false := by simpa using hd
          have HM : Hid (numV9 s.data.toList = -1) := num9_no (.inr (all_miss (p := digit) s k hlt hd'))
          have hor : (s[k].toNat : Int) < 48 ∨ (48 ≤ (s[k].toNat : Int) ∧ 57 < (s[k].toNat : Int)) := by
            unfold digit at hd
            simp only [decide_eq_true_eq] at hd
            omega
          clear HV hd hd' HW
          rcases hor with hor | ⟨hor, hor2⟩
          all_goals
            go_wp2_with fail
            go_ret
            exact ⟨by rw [HM.out]; rfl, rfl⟩
      · have HM : Hid _ := HW.out hlt
        clear HV HW
        go_wp2_with fail
        go_ret
        exact ⟨by rw [HM.out]; rfl, rfl⟩
/-! ### Record -/
set_option maxRecDepth 100000 in
theorem record_any (s : ByteArray) (w : World) (hs : s.size ≤ 20000) : Calls Tryd.prog 25 #[.string s] w fun e w' => e = .returned (.string (bs (recT s))) ∧ Below w.heap.size w w' := by
  have HD : Hid _ := decimal_anyD s.size w (by omega)
  obtain ⟨S, HS⟩ : ∃ S : ByteArray, Hid (bs (Lib.decDigits s.size) = S) := ⟨_, rfl⟩
  rw [HS.out] at HD
  have HSL : Hid (S.data.toList = Lib.decDigits s.size) := by show _ = _; rw [← HS.out, bs_list]
  have hSs : S.size ≤ 6 := by have h1 := dec_short (n := s.size) (by omega); rw [← HSL.out] at h1; simpa using h1
  have HX : Hid ((S ++ ⟨#[58]⟩ ++ s ++ ⟨#[10, 46]⟩ : ByteArray) = bs (recT s)) := by
    show _ = _
    rw [← bs_data (S ++ ⟨#[58]⟩ ++ s ++ ⟨#[10, 46]⟩ : ByteArray)]
    unfold recT
    rw [← HSL.out]
    simp
  clear HS HSL
  go_enter Tryd.func25, Tryd.ntmps25
  go_wp2_with fail
  refine Calls.mono HD.out ?_
  rintro e w1 ⟨rfl, hb⟩
  have HB : Hid _ := hb
  clear hb HD
  go_wp2_with fail
  go_ret
  exact ⟨by rw [← HX.out]; rfl, HB.out⟩
end Go.Proofs.YthelggcaggobaaaDoor
