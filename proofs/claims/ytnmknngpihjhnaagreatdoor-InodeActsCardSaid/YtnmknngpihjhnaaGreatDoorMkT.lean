/-
  The contract of the document's CRC.
  Conditions: none.
-/
import Derived.Test.YtnmknngpihjhnaaGreatDoorMkS
namespace Go.Proofs.YtnmknngpihjhnaaGreatDoor
open Go.RowKit

/-- Bits of a byte x into a sum, one by one. -/
def cR (x c : Nat) : Nat → Nat
  | 0 => c
  | k + 1 => if (cR x c k ^^^ (x / 2 ^ k)) % 2 = 1 then (cR x c k / 2) ^^^ 3988292384 else cR x c k / 2
theorem cR_crc (x c : Nat) : ∀ k, crcN k (c ^^^ x) = cR x c k ^^^ (x / 2 ^ k)
  | 0 => by simp [crcN, cR]
  | k + 1 => by
    have ih := cR_crc x c k
    unfold crcN cR
    rw [ih]
    unfold crcBit
    have hd : (cR x c k ^^^ x / 2 ^ k) / 2 = cR x c k / 2 ^^^ x / 2 ^ (k + 1) := by
      rw [Nat.xor_div_two, Nat.div_div_eq_div_mul, ← Nat.pow_succ]
    rw [Nat.and_one_is_mod, hd]
    by_cases h : (cR x c k ^^^ x / 2 ^ k) % 2 = 1
    · rw [if_pos h, if_pos h, Nat.xor_assoc, Nat.xor_comm (x / 2 ^ (k + 1)), ← Nat.xor_assoc]
    · rw [if_neg h, if_neg h]
theorem cR_eight (x c : Nat) (hx : x < 256) : cR x c 8 = crcN 8 (c ^^^ x) := by
  rw [cR_crc, Nat.div_eq_of_lt (by omega)]; simp
theorem cR_lt {x c : Nat} (hc : c < 4294967296) : ∀ k, cR x c k < 4294967296
  | 0 => hc
  | k + 1 => by
    have := cR_lt (x := x) hc k
    unfold cR
    split
    · exact Nat.xor_lt_two_pow (n := 32) (by omega) (by decide)
    · omega

theorem i64_xor_nat (a b : Nat) (ha : a < 4294967296) (hb : b < 4294967296) : bits .xor .i64 (a : Int) (b : Int) = ((a ^^^ b : Nat) : Int) := by
  have hx : a ^^^ b < 2 ^ 32 := Nat.xor_lt_two_pow (by omega) (by omega)
  show IntKind.i64.wrap ((BitVec.ofInt 64 (a : Int) ^^^ BitVec.ofInt 64 (b : Int)).toNat : Int) = _
  rw [BitVec.toNat_xor, ofInt_u64 a (by omega), ofInt_u64 b (by omega)]
  simp [IntKind.wrap, IntKind.bits, IntKind.signed]
  omega

set_option maxRecDepth 100000 in
set_option maxHeartbeats 1000000 in
theorem crc_any (s : ByteArray) (hs : s.size ≤ 1000000) (w : World) : Calls Tryz.prog 45 #[.string s] w fun e w' => e = .returned (.int .i64 (crcR s : Nat)) ∧ w' = w := by
  go_enter Tryz.func45, Tryz.ntmps45
  go_wp2_with fail
  go_loopw [3, 4] (fun p i wr => ∃ k x : Nat, k ≤ s.size ∧ i = .int .i64 k ∧ p = .int .i64 (x : Int) ∧ Hid (x = crcL s k) ∧ wr = w) (fun _ i _ => s.size - (intOf i).toNat)
  case atStart => exact ⟨0, 4294967295, Nat.zero_le _, rfl, rfl, rfl, rfl⟩
  case round =>
    obtain ⟨k, x, hk, rfl, rfl, HX, rfl⟩ := hrel
    have hlt : x < 4294967296 := by rw [HX.out]; exact crcL_lt s k
    by_cases hks : k < s.size
    · have hc' : Hid (s.data[k]?.getD 0 = s[k]) := by
        show _ = _
        rw [Array.getElem?_eq_getElem (show k < s.data.size from hks)]; rfl
      have hu := s[k].toNat_lt
      have HN : Hid (crcL s (k + 1) = cR s[k].toNat x 8) := by
        show _ = _
        rw [cR_eight _ _ hu, HX.out, ← hc'.out]; rfl
      obtain ⟨W0, hW0⟩ : ∃ W0, W0 = wr := ⟨_, rfl⟩
      subst hW0
      go_wp2_with fail
      go_loopw [3, 5] (fun p i wr => ∃ j y : Nat, j ≤ 8 ∧ i = .int .i64 j ∧ p = .int .i64 (y : Int) ∧ Hid (y = cR s[k].toNat x j) ∧ wr = W0) (fun _ i _ => 8 - (intOf i).toNat)
      case atStart => exact ⟨0, x, Nat.zero_le _, rfl, rfl, rfl, rfl⟩
      case round =>
        obtain ⟨j, y, hj, rfl, rfl, HY, hwr⟩ := hrel
        subst hwr
        have hylt : y < 4294967296 := by rw [HY.out]; exact cR_lt hlt j
        by_cases hj8 : j < 8
        · have hd : (s[k].toNat : Int) / 2 ^ j = ((s[k].toNat / 2 ^ j : Nat) : Int) := by push_cast; rfl
          have hq : s[k].toNat / 2 ^ j < 256 := Nat.lt_of_le_of_lt (Nat.div_le_self _ _) hu
          have e1 : bits BinOp.xor IntKind.i64 (y : Int) ((s[k].toNat : Int) / 2 ^ j) = ((y ^^^ s[k].toNat / 2 ^ j : Nat) : Int) := by rw [hd]; exact i64_xor_nat _ _ hylt (by omega)
          have hx2 : y ^^^ s[k].toNat / 2 ^ j < 2 ^ 32 := Nat.xor_lt_two_pow (by omega) (by omega)
          have HS : Hid (cR s[k].toNat x (j + 1) = if (y ^^^ s[k].toNat / 2 ^ j) % 2 = 1 then (y / 2) ^^^ 3988292384 else y / 2) := by
            show _ = _
            rw [HY.out]; rfl
          by_cases hodd : (y ^^^ s[k].toNat / 2 ^ j) % 2 = 1
          · have hb : ((bits BinOp.xor IntKind.i64 (y : Int) ((s[k].toNat : Int) / 2 ^ j)).tmod 2 == 1) = true := by
              rw [e1]
              have : (((y ^^^ s[k].toNat / 2 ^ j : Nat) : Int)).tmod 2 = 1 := by rw [Int.tmod_eq_emod_of_nonneg (by omega)]; omega
              rw [this]; rfl
            have HE : Hid (bits BinOp.xor IntKind.i64 ((y : Int) / 2) 3988292384 = ((y / 2 ^^^ 3988292384 : Nat) : Int)) := i64_xor_nat (y / 2) 3988292384 (by omega) (by omega)
            clear e1 hd hx2 hq
            go_wp2_with fail
            exact ⟨⟨j + 1, y / 2 ^^^ 3988292384, by omega, by simp, by rw [HE.out], (by show _ = _; rw [HS.out, if_pos hodd]), (by first | rfl | trivial)⟩, by simp [intOf]; omega⟩
          · have hb : ((bits BinOp.xor IntKind.i64 (y : Int) ((s[k].toNat : Int) / 2 ^ j)).tmod 2 == 1) = false := by
              rw [e1]
              refine beq_eq_false_iff_ne.2 fun h => hodd ?_
              rw [Int.tmod_eq_emod_of_nonneg (by omega)] at h; omega
            clear e1 hd hx2 hq
            go_wp2_with fail
            exact ⟨⟨j + 1, y / 2, by omega, by simp, by simp, (by show _ = _; rw [HS.out, if_neg hodd]), (by first | rfl | trivial)⟩, by simp [intOf]; omega⟩
        · obtain rfl : j = 8 := by omega
          go_wp2_with fail
          exact ⟨⟨k + 1, y, by omega, by simp, rfl, (by show _ = _; rw [HN.out, HY.out]), (by first | rfl | trivial)⟩, by simp [intOf]; omega⟩
    · obtain rfl : k = s.size := by omega
      have HE : Hid (bits .xor .i64 (x : Int) 4294967295 = ((x ^^^ 4294967295 : Nat) : Int)) := i64_xor_nat x 4294967295 hlt (by omega)
      go_wp2_with fail
      go_ret
      refine ⟨?_, rfl⟩
      show Ending.returned (Value.int IntKind.i64 (bits BinOp.xor IntKind.i64 (↑x) 4294967295)) = _
      rw [HE.out, crcR, HX.out, Nat.xor_comm]
end Go.Proofs.YtnmknngpihjhnaaGreatDoor
