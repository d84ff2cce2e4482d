/-
  The contracts of the document's zeros, CRC, has and turned.
  Conditions: none.
-/
import Derived.Test.YtnmknngpihjhnaaGreatDoorMk
import Derived.Test.YtnmknngpihjhnaaGreatDoorDkS
import Derived.Laws.BitsAllLaws
import Derived.Laws.Bits64
namespace Go.Proofs.YtnmknngpihjhnaaGreatDoor
open Go.RowKit

set_option maxRecDepth 100000 in
set_option maxHeartbeats 1000000 in
theorem zeros2_any (w : World) : Calls Tryz.prog 42 #[] w fun e w' => e = .returned (.string (zerosB 16)) ∧ w' = w := by
  go_enter Tryz.func42, Tryz.ntmps42
  go_wp2_with fail
  go_loopw [1, 2] (fun p i wr => ∃ (k : Nat) (s : ByteArray), k ≤ 16 ∧ i = .int .i64 k ∧ p = .string s ∧ Hid (s = zerosB k) ∧ wr = w) (fun _ i _ => 16 - (intOf i).toNat)
  case atStart => exact ⟨0, _, Nat.zero_le _, rfl, rfl, rfl, rfl⟩
  case round =>
    obtain ⟨k, s, hk, rfl, rfl, HX, rfl⟩ := hrel
    have hsz : s.size ≤ 1000000 := by rw [HX.out]; show (List.replicate k (0 : UInt8)).toArray.size ≤ _; simp; omega
    by_cases hkn : k < 16
    · go_wp2_with fail
      refine ⟨⟨k + 1, _, by omega, by simp, rfl, ?_, trivial⟩, by simp [intOf]; omega⟩
      show _ = _
      rw [zerosB_succ, HX.out]
    · obtain rfl : k = 16 := by omega
      go_wp2_with fail
      go_ret
      exact ⟨by rw [HX.out]; rfl, rfl⟩

/-- Is it one of these, as far as the first j? -/
def hasTo (l : List Int) (x : Int) (j : Nat) : Bool := (l.take j).any (· == x)
theorem hasTo_next {l : List Int} {x y : Int} {j : Nat} (h : l[j]? = some y) : hasTo l x (j + 1) = (hasTo l x j || (y == x)) := by
  obtain ⟨hj, e⟩ := List.getElem?_eq_some_iff.1 h
  unfold hasTo
  rw [List.take_succ_eq_append_getElem hj, e]; simp
set_option maxRecDepth 100000 in
set_option maxHeartbeats 1000000 in
theorem hasInts_any (v : Value) (l : List Int) (x : Int) (w : World) (hv : IntsAt w v l) (hl : l.length ≤ 100000) : Calls Tryz.prog 81 #[v, .int .i64 x] w fun e w' => e = .returned (.bool (hasTo l x l.length)) ∧ w' = w := by
  obtain ⟨ad, cap, rfl, hcs⟩ := hv
  have HCS : Hid (∀ i x, l[i]? = some x → ∃ b off, ad = some ⟨b, off, none⟩ ∧ w.cell? ⟨b, off + i, none⟩ = some (.int .i64 x)) := hcs
  clear hcs
  go_enter Tryz.func81, Tryz.ntmps81
  go_wp2_with fail
  go_loopw [5] (fun i wr => ∃ j : Nat, j ≤ l.length ∧ i = .int .i64 j ∧ Hid (hasTo l x j = false) ∧ wr = w) (fun i _ => l.length - (intOf i).toNat)
  case atStart => exact ⟨0, Nat.zero_le _, rfl, (by show _ = _; simp [hasTo]), rfl⟩
  case round =>
    obtain ⟨j, hj, rfl, HT, rfl⟩ := hrel
    by_cases hlt : j < l.length
    · obtain ⟨y, HX⟩ : ∃ y, Hid (l[j]? = some y) := ⟨_, List.getElem?_eq_getElem hlt⟩
      obtain ⟨b, off, rfl, cx⟩ := HCS.out j y HX.out
      cases hyx : (y == x) with
      | true =>
        have HE : Hid (hasTo l x l.length = true) := by
          show _ = _
          unfold hasTo
          rw [List.take_length, List.any_eq_true]
          exact ⟨y, List.mem_of_getElem? HX.out, hyx⟩
        go_wp2_with fail
        go_ret
        exact ⟨by rw [HE.out]; rfl, rfl⟩
      | false =>
        go_wp2_with fail
        exact ⟨⟨j + 1, by omega, by simp, (by show _ = _; rw [hasTo_next HX.out, HT.out, hyx]; rfl), (by first | rfl | trivial)⟩, by simp [intOf]; omega⟩
    · obtain rfl : j = l.length := by omega
      go_wp2_with fail
      go_ret
      exact ⟨by rw [HT.out]; rfl, rfl⟩
/-- Those that are kept are those that are there. -/
theorem kept_has (n : Nat) (keep : List Int) (i : Nat) (hi : i < n) : keptB n keep i = hasTo keep (i : Int) keep.length := by
  unfold keptB
  have h : ∀ j, (kpL n keep j)[i]? = some (hasTo keep (i : Int) j) := by
    intro j
    induction j with
    | zero => simp [kpL, hasTo, hi]
    | succ j ih =>
      unfold kpL
      cases e : keep[j]? with
      | none =>
        have hle := List.getElem?_eq_none_iff.1 e
        simp only
        rw [ih]
        unfold hasTo
        rw [List.take_of_length_le hle, List.take_of_length_le (by omega)]
      | some x =>
        simp only
        rw [hasTo_next e]
        by_cases hx : 0 ≤ x ∧ x < (n : Int)
        · rw [if_pos hx, List.getElem?_set]
          by_cases hxi : x.toNat = i
          · rw [if_pos hxi, if_pos (by rw [kpL_len]; omega)]
            have : (x == (i : Int)) = true := by rw [← hxi]; simp; omega
            rw [this]; simp
          · rw [if_neg hxi, ih]
            have : (x == (i : Int)) = false := beq_eq_false_iff_ne.2 (by omega)
            rw [this]; simp
        · rw [if_neg hx, ih]
          have : (x == (i : Int)) = false := beq_eq_false_iff_ne.2 (by omega)
          rw [this]; simp
  rw [h]; rfl
end Go.Proofs.YtnmknngpihjhnaaGreatDoor
