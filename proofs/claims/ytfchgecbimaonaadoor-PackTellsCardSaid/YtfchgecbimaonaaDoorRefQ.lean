/-
  The contracts of the document's answer, a text that is read: NumberOf, headOf.
  Conditions: none beside the texts' bounds.
-/
import Derived.Test.YtfchgecbimaonaaDoorPackB
namespace Go.Proofs.YtfchgecbimaonaaDoor
open Go.RowKit

/-- A number of just these digits; -1: it is none. -/
def numV (l : List UInt8) : Int := if (numOk l && l.all digit) = true then (valOf l : Int) else -1
theorem numV_no {l : List UInt8} (h : numOk l = false ∨ l.all digit = false) : numV l = -1 := by
  unfold numV
  rw [if_neg]
  rcases h with h | h <;> simp [h]
theorem numV_yes {l : List UInt8} (h : numOk l = true) (h2 : l.all digit = true) : numV l = (valOf l : Int) := by
  unfold numV
  rw [if_pos (by simp [h, h2])]
theorem numOk_whole {s : ByteArray} : numOk s.data.toList = numOk (s.data.toList.take s.size) := by rw [List.take_of_length_le (by simp)]
theorem numOk_size {s : ByteArray} (h : s.size = 0 ∨ 6 < s.size) : numOk s.data.toList = false := by
  have hl : s.data.toList.length = s.size := by simp
  unfold numOk
  rw [hl]
  rcases h with h | h
  · simp [h]
  · simp; omega

set_option maxRecDepth 100000 in
set_option maxHeartbeats 2000000 in
theorem numberOf_any (s : ByteArray) (w : World) (hs : s.size ≤ 1000000) : Calls Tryd.prog 92 #[.string s, .int .i64 6] w fun e w' => e = .returned (.int .i64 (numV s.data.toList)) ∧ w' = w := by
  by_cases h0 : s.size = 0
  · have HE : Hid (numV s.data.toList = -1) := numV_no (.inl (numOk_size (.inl h0)))
    have h1 : (s.size : Int) < 1 := by omega
    clear h0
    go_enter Tryd.func92, Tryd.ntmps92
    go_wp2_with fail
    go_ret
    exact ⟨by rw [HE.out]; rfl, rfl⟩
  have h1 : (1 : Int) ≤ (s.size : Int) := by omega
  by_cases h6 : 6 < s.size
  · have HE : Hid (numV s.data.toList = -1) := numV_no (.inl (numOk_size (.inr h6)))
    have h6' : (6 : Int) < (s.size : Int) := by omega
    go_enter Tryd.func92, Tryd.ntmps92
    go_wp2_with fail
    go_ret
    exact ⟨by rw [HE.out]; rfl, rfl⟩
  have h6' : (s.size : Int) ≤ 6 := by omega
  have h00 : 0 < s.size := by omega
  by_cases h10 : 1 < s.size ∧ ∃ h0 : 0 < s.size, s[0] = 48
  · have HE : Hid (numV s.data.toList = -1) := numV_no (.inl (by rw [numOk_whole]; exact numOk_no (Nat.le_refl _) (.inr h10)))
    obtain ⟨h2, _, h48⟩ := h10
    have h2' : (1 : Int) < (s.size : Int) := by omega
    have h48' : ((s[0].toNat : Int) == 48) = true := by rw [h48]; rfl
    clear h48
    go_enter Tryd.func92, Tryd.ntmps92
    go_wp2_with fail
    go_ret
    exact ⟨by rw [HE.out]; rfl, rfl⟩
  have HOK : Hid (numOk s.data.toList = true) := by
    rw [numOk_whole]
    exact numOk_yes (Nat.le_refl _) h0 (by omega) h10
  have hcase : ((s.size : Int) ≤ 1) ∨ ((1 : Int) < (s.size : Int) ∧ ((s[0].toNat : Int) == 48) = false) := by
    by_cases h2 : 1 < s.size
    · refine .inr ⟨by omega, ?_⟩
      simp only [beq_eq_false_iff_ne, ne_eq]
      exact fun e => h10 ⟨h2, h00, (byte48 _).2 e⟩
    · exact .inl (by omega)
  clear h10 h0 h6
  rcases hcase with hc | ⟨hc, hc2⟩
  all_goals
    go_enter Tryd.func92, Tryd.ntmps92
    go_wp2_with fail
    go_loop [5, 6] (fun v i => ∃ k : Nat, k ≤ s.size ∧ i = .int .i64 k ∧ v = .int .i64 (valOf (s.data.toList.take k)) ∧ (s.data.toList.take k).all digit = true) (fun _ i => s.size - (intOf i).toNat)
    case atStart => exact ⟨0, Nat.zero_le _, rfl, by simp [valOf], by simp⟩
    case round =>
      obtain ⟨k, hk, rfl, rfl, hall⟩ := hrel
      have HA : Hid ((s.data.toList.take k).all digit = true) := hall
      have hv : valOf (s.data.toList.take k) < 1000000 := Nat.lt_of_lt_of_le (valOf_lt k s hk hall) (Nat.pow_le_pow_right (by omega) (by omega) : 10 ^ k ≤ 10 ^ 6)
      have HV : Hid (∀ hlt : k < s.size, valOf (s.data.toList.take (k + 1)) = 10 * valOf (s.data.toList.take k) + (s[k].toNat - 48)) := fun hlt => by rw [take_snoc s k hlt, valOf_snoc]
      have HW : Hid (¬ k < s.size → numV s.data.toList = (valOf (s.data.toList.take k) : Int)) := fun hlt => by
        have e : s.data.toList.take k = s.data.toList := List.take_of_length_le (by simp; omega)
        rw [e] at hall ⊢
        exact numV_yes HOK.out hall
      generalize valOf (s.data.toList.take k) = v at hv HV HW ⊢
      clear hall
      by_cases hlt : k < s.size
      · have HS : Hid _ := all_snoc (p := digit) s k hlt
        by_cases hd : digit s[k] = true
        · have HD : Hid (digit s[k] = true) := hd
          have g1 : 48 ≤ (s[k].toNat : Int) := by unfold digit at hd; simp only [decide_eq_true_eq] at hd; omega
          have g2 : (s[k].toNat : Int) ≤ 57 := by unfold digit at hd; simp only [decide_eq_true_eq] at hd; omega
          have HVV : Hid _ := HV.out hlt
          clear HV hd HW
          go_wp2_with fail
          go_round
          case rel => exact ⟨k + 1, by omega, by go_num, by rw [HVV.out]; go_num, by rw [HS.out, HA.out]; exact HD.out⟩
          case measure => simp [intOf]; omega
        · have hd' : digit s[k] = false := by simpa using hd
          have HM : Hid (numV s.data.toList = -1) := numV_no (.inr (all_miss (p := digit) s k hlt hd'))
          have hor : (s[k].toNat : Int) < 48 ∨ (48 ≤ (s[k].toNat : Int) ∧ 57 < (s[k].toNat : Int)) := by
            unfold digit at hd
            simp only [decide_eq_true_eq] at hd
            omega
          clear HV hd hd' HW
          rcases hor with hor | ⟨hor, hor2⟩
          all_goals
            go_wp2_with fail
            go_ret
            exact ⟨by rw [HM.out]; rfl, rfl⟩
      · have HM : Hid _ := HW.out hlt
        clear HV HW
        go_wp2_with fail
        go_ret
        exact ⟨by rw [HM.out]; rfl, rfl⟩
end Go.Proofs.YtfchgecbimaonaaDoor
