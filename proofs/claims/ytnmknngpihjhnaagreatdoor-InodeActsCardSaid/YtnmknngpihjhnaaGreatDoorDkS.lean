/-
  The contracts of package disk's divide and Sum, and of the law's zeros.
  Conditions: none.
-/
import Derived.Test.YtnmknngpihjhnaaGreatDoorProg
import Derived.WalkKit
import Derived.Below
import Derived.Laws.BitsAllLaws
import Derived.LoopN
import Derived.KernelRfl
namespace Go.Proofs.YtnmknngpihjhnaaGreatDoor
open Go.RowKit

/-- One bit out of a sum. -/
def crcBit (s : Nat) : Nat := if s &&& 1 = 1 then (s / 2) ^^^ 3988292384 else s / 2
def crcN : Nat → Nat → Nat
  | 0, s => s
  | k + 1, s => crcBit (crcN k s)
theorem crcBit_lt {s : Nat} (h : s < 4294967296) : crcBit s < 4294967296 := by
  unfold crcBit
  split
  · exact Nat.xor_lt_two_pow (n := 32) (by omega) (by decide)
  · omega
theorem crcN_lt {s : Nat} (h : s < 4294967296) : ∀ k, crcN k s < 4294967296
  | 0 => h
  | k + 1 => crcBit_lt (crcN_lt h k)

set_option maxRecDepth 100000 in
set_option maxHeartbeats 1000000 in
theorem divide_any (s : Nat) (hs : s < 4294967296) (w : World) : Calls Tryz.prog 54 #[.int .u32 (s : Int)] w fun e w' => e = .returned (.int .u32 (crcN 8 s : Nat)) ∧ w' = w := by
  go_enter Tryz.func54, Tryz.ntmps54
  go_wp2_with fail
  go_loopw [0, 4] (fun p i wr => ∃ k x : Nat, k ≤ 8 ∧ i = .int .i64 k ∧ p = .int .u32 (x : Int) ∧ Hid (x = crcN k s) ∧ wr = w) (fun _ i _ => 8 - (intOf i).toNat)
  case atStart => exact ⟨0, s, by omega, rfl, rfl, rfl, rfl⟩
  case round =>
    obtain ⟨k, x, hk, rfl, rfl, HX, rfl⟩ := hrel
    have hlt : x < 4294967296 := by rw [HX.out]; exact crcN_lt hs k
    have hn : crcN (k + 1) s = crcBit x := by rw [HX.out]; rfl
    have e1 : bits .and .u32 (x : Int) 1 = ((x &&& 1 : Nat) : Int) := u32_and_nat x 1 hlt (by omega)
    have e2 : bits .xor .u32 ((x : Int) / 2) 3988292384 = ((x / 2 ^^^ 3988292384 : Nat) : Int) := u32_xor_nat (x / 2) 3988292384 (by omega) (by omega)
    by_cases hk8 : k < 8
    · by_cases hb : x &&& 1 = 1
      · have hb' : (bits .and .u32 (x : Int) 1 == 1) = true := by rw [e1, hb]; rfl
        clear e1
        have HE : Hid (bits .xor .u32 ((x : Int) / 2) 3988292384 = ((x / 2 ^^^ 3988292384 : Nat) : Int)) := e2
        clear e2
        go_wp2_with fail
        refine ⟨⟨k + 1, x / 2 ^^^ 3988292384, by omega, by simp, by rw [HE.out], ?_, trivial⟩, by simp [intOf]; omega⟩
        show _ = _
        rw [hn, crcBit, if_pos hb]
      · have hb' : (bits .and .u32 (x : Int) 1 == 1) = false := by
          rw [e1]
          refine beq_eq_false_iff_ne.2 fun h => hb ?_
          omega
        clear e1 e2
        go_wp2_with fail
        refine ⟨⟨k + 1, x / 2, by omega, by simp, by simp, ?_, trivial⟩, by simp [intOf]; omega⟩
        show _ = _
        rw [hn, crcBit, if_neg hb]
    · obtain rfl : k = 8 := by omega
      clear e1 e2
      go_wp2_with fail
      go_ret
      exact ⟨by rw [HX.out]; rfl, rfl⟩

/-- The sum of bytes, on and on. -/
def crcL (s : ByteArray) : Nat → Nat
  | 0 => 4294967295
  | k + 1 => crcN 8 (crcL s k ^^^ (s.data[k]?.getD 0).toNat)
def crcR (s : ByteArray) : Nat := 4294967295 ^^^ crcL s s.size
theorem crcL_lt (s : ByteArray) : ∀ k, crcL s k < 4294967296
  | 0 => by simp [crcL]
  | k + 1 => by
    refine crcN_lt (Nat.xor_lt_two_pow (n := 32) (crcL_lt s k) ?_) 8
    have := (s.data[k]?.getD 0).toNat_lt
    omega

set_option maxRecDepth 100000 in
set_option maxHeartbeats 1000000 in
theorem sum_any (s : ByteArray) (hs : s.size ≤ 1000000) (w : World) : Calls Tryz.prog 31 #[.string s] w fun e w' => e = .returned (.int .u32 (crcR s : Nat)) ∧ w' = w := by
  go_enter Tryz.func31, Tryz.ntmps31
  go_wp2_with fail
  go_loopw [3, 7] (fun p i wr => ∃ k x : Nat, k ≤ s.size ∧ i = .int .i64 k ∧ p = .int .u32 (x : Int) ∧ Hid (x = crcL s k) ∧ wr = w) (fun _ i _ => s.size - (intOf i).toNat)
  case atStart => exact ⟨0, 4294967295, Nat.zero_le _, rfl, rfl, rfl, rfl⟩
  case round =>
    obtain ⟨k, x, hk, rfl, rfl, HX, rfl⟩ := hrel
    have hlt : x < 4294967296 := by rw [HX.out]; exact crcL_lt s k
    by_cases hks : k < s.size
    · have hc' : Hid (s.data[k]?.getD 0 = s[k]) := by
        show _ = _
        rw [Array.getElem?_eq_getElem (show k < s.data.size from hks)]; rfl
      have hu := s[k].toNat_lt
      have e2 : bits .xor .u32 (x : Int) (s[k].toNat : Int) = ((x ^^^ s[k].toNat : Nat) : Int) := u32_xor_nat x s[k].toNat hlt (by omega)
      have hl2 : x ^^^ s[k].toNat < 4294967296 := Nat.xor_lt_two_pow (n := 32) hlt (by omega)
      have HC := divide_any (x ^^^ s[k].toNat) hl2
      have HN : Hid (crcL s (k + 1) = crcN 8 (x ^^^ s[k].toNat)) := by show _ = _; rw [HX.out, ← hc'.out]; rfl
      clear hl2
      go_wp2_with (go_at_call 54; refine (HC _).mono ?_; rintro e w' ⟨rfl, rfl⟩)
      refine ⟨⟨k + 1, _, by omega, by simp, rfl, ?_, trivial⟩, by simp [intOf]; omega⟩
      exact HN.out.symm
    · obtain rfl : k = s.size := by omega
      have e3 : Hid (bits .xor .u32 IntKind.u32.max (x : Int) = ((4294967295 ^^^ x : Nat) : Int)) := u32_xor_nat 4294967295 x (by omega) hlt
      go_wp2_with fail
      go_ret
      refine ⟨?_, rfl⟩
      show Ending.returned (Value.int IntKind.u32 (bits BinOp.xor IntKind.u32 IntKind.u32.max ↑x)) = _
      rw [e3.out, crcR, HX.out]

/-- Zeros. -/
def zerosB (n : Nat) : ByteArray := ⟨(List.replicate n (0 : UInt8)).toArray⟩
theorem zerosB_succ (n : Nat) : zerosB (n + 1) = zerosB n ++ ⟨#[0]⟩ := by
  apply ByteArray.ext
  rw [ByteArray.data_append]
  show (List.replicate (n + 1) (0 : UInt8)).toArray = (List.replicate n (0 : UInt8)).toArray ++ #[0]
  rw [List.replicate_succ']; apply Array.ext'; simp

theorem sum_nine : crcR ⟨#[49, 50, 51, 52, 53, 54, 55, 56, 57]⟩ = 3421780262 := by kernel_rfl
end Go.Proofs.YtnmknngpihjhnaaGreatDoor
