/-
  The contracts of the document's answer, trees as text: Byte, below, Decimal.
  Conditions: none beside the numbers' bounds.
-/
import Derived.Test.YtilkjafggfdjeaaDoorPacks
import Derived.Test.YtilkjafggfdjeaaDoorOwn
import Derived.Test.YtilkjafggfdjeaaDoorReads
import Derived.Laws.IdiomStrings
namespace Go.Proofs.YtilkjafggfdjeaaDoor
open Go.RowKit
attribute [local go_sem ↓] Go.wp_at_zero Go.wp_at_succ

theorem dec_big {n : Nat} (h : ¬ n < 10) : Lib.decDigits n = Lib.decDigits (n / 10) ++ [UInt8.ofNat (48 + n % 10)] := by rw [Lib.decDigits, dif_neg h]
theorem nd_le : ∀ (n : Nat), n ≤ 1000000000000 → Lib.nDigits n ≤ 100 := by
  intro n hn
  have key : ∀ k, ∀ m, m < 10 ^ (k + 1) → Lib.nDigits m ≤ k + 1 := by
    intro k
    induction k with
    | zero => intro m hm; rw [Lib.nDigits_small (by simpa using hm)]; omega
    | succ k ih =>
      intro m hm
      by_cases h : m < 10
      · rw [Lib.nDigits_small h]; omega
      · rw [Lib.nDigits_big h]
        have := ih (m / 10) (by rw [Nat.pow_succ] at hm; omega)
        omega
  have := key 12 n (by omega)
  omega
theorem back_byte (w : World) (c : Nat) (hc : c < 256) : (convert 72 9 (.slice (some ⟨w.heap.size, 0, none⟩) 1 1)).run Tryd.prog (w.alloc (.cells #[.int .u8 (c : Int)] 5)) = .ok (.string (bs [UInt8.ofNat c])) (w.alloc (.cells #[.int .u8 (c : Int)] 5)) := by
  refine run_convert_bytes_back _ _ _ 5 ⟨w.heap.size, 0, none⟩ 1 [UInt8.ofNat c] Tryd.underlying72 Tryd.underlying5 Tryd.underlying9 (fun j hj => ?_)
  have hj0 : j = 0 := by simp at hj; omega
  subst hj0
  have hv : ((UInt8.ofNat c).toNat : Int) = (c : Int) := by rw [UInt8.toNat_ofNat']; omega
  have ha : (⟨w.heap.size, 0, none⟩ : Addr).add 0 = ⟨w.heap.size, 0, none⟩ := by unfold Addr.add; split <;> simp_all
  rw [ha, cell_of_row _ _ _ _ _ _ (row_alloc' w _ _)]
  show some (Value.int .u8 (c : Int)) = some (Value.int .u8 ((UInt8.ofNat c).toNat : Int))
  rw [hv]

set_option maxRecDepth 100000 in
set_option maxHeartbeats 1000000 in
theorem byte_any (c : Nat) (hc : c < 256) (w : World) : Calls Tryd.prog 96 #[.int .i64 (c : Int)] w fun e w' => e = .returned (.string (bs [UInt8.ofNat c])) ∧ Below w.heap.size w w' := by
  have HB : Hid (∀ o, Below w.heap.size w (w.alloc o)) := fun o => (Below.refl _ _).alloc (Nat.le_refl _) o
  have hb := back_byte w c hc
  have hc1 : (0 : Int) ≤ (c : Int) := by omega
  have hc2 : (c : Int) ≤ 255 := by omega
  have hw : IntKind.u8.wrap (c : Int) = (c : Int) := by simp (disch := omega) only [IntWalk.u8_in]
  go_enter Tryd.func96, Tryd.ntmps96
  go_wp2_with fail
  go_ret
  exact ⟨rfl, HB.out _⟩

set_option maxRecDepth 100000 in
set_option maxHeartbeats 1000000 in
theorem below_any : ∀ (n : Nat) (w : World), n ≤ 1000000000000 → Calls Tryd.prog 85 #[.int .i64 (-(n : Int))] w fun e w' => e = .returned (.string (bs (Lib.decDigits n))) ∧ Below w.heap.size w w' := by
  intro n
  induction n using Nat.strongRecOn with
  | _ n ih =>
    intro w hn
    by_cases h : n < 10
    · have h1 : (-10 : Int) < -(n : Int) := by omega
      have h2 : IntKind.i64.wrap (48 - -(n : Int)) = ((48 + n : Nat) : Int) := by
        have : (48 - -(n : Int)) = ((48 + n : Nat) : Int) := by omega
        rw [this]
        simp (disch := omega) only [IntWalk.i64_in]
      have HD : Hid (bs (Lib.decDigits n) = bs [UInt8.ofNat (48 + n)]) := by rw [Lib.decDigits_one h]; exact rfl
      have HB : Hid _ := byte_any (48 + n) (by omega) w
      clear ih
      go_enter Tryd.func85, Tryd.ntmps85
      go_wp2_with fail
      refine Calls.mono HB.out ?_
      rintro e w1 ⟨rfl, hb⟩
      rw [← HD.out]
      have HB1 : Hid _ := hb
      clear hb
      go_wp2_with fail
      go_ret
      exact ⟨rfl, HB1.out⟩
    · have h1 : -(n : Int) ≤ -10 := by omega
      have hq : Int.tdiv (-(n : Int)) 10 = -((n / 10 : Nat) : Int) := by
        rw [Int.neg_tdiv, Int.tdiv_eq_ediv_of_nonneg (by omega)]
        omega
      have hr : Int.tmod (-(n : Int)) 10 = -((n % 10 : Nat) : Int) := by
        rw [Int.neg_tmod, Int.tmod_eq_emod_of_nonneg (by omega)]
        omega
      have h2 : IntKind.i64.wrap (48 - -((n % 10 : Nat) : Int)) = ((48 + n % 10 : Nat) : Int) := by
        have : (48 - -((n % 10 : Nat) : Int)) = ((48 + n % 10 : Nat) : Int) := by omega
        rw [this]
        simp (disch := omega) only [IntWalk.i64_in]
      have HI : Hid _ := ih (n / 10) (by omega) w (by omega)
      have HBY : Hid (∀ w', Calls Tryd.prog 96 #[.int .i64 ((48 + n % 10 : Nat) : Int)] w' fun e w'' => e = .returned (.string (bs [UInt8.ofNat (48 + n % 10)])) ∧ Below w'.heap.size w' w'') := fun w' => byte_any (48 + n % 10) (by omega) w'
      have HD : Hid (bs (Lib.decDigits (n / 10)) ++ bs [UInt8.ofNat (48 + n % 10)] = bs (Lib.decDigits n)) := by
        rw [bs_append, ← dec_big h]
        exact rfl
      have hlen : (Lib.decDigits (n / 10)).length ≤ 100 := by
        rw [Lib.decDigits_length]
        exact nd_le (n / 10) (by omega)
      have HAD : Hid (∀ w', (Op.stringOp .add (bs (Lib.decDigits (n / 10))) (bs [UInt8.ofNat (48 + n % 10)])).run Tryd.prog w' = .ok (.string (bs (Lib.decDigits n))) w') := fun w' => by
        rw [← HD.out]
        exact run_string_add_sum w' _ _ (by rw [bs_size, bs_size]; simp only [List.length_cons, List.length_nil]; omega)
      clear ih
      go_enter Tryd.func85, Tryd.ntmps85
      go_wp2_with fail
      refine Calls.mono HI.out ?_
      rintro e w1 ⟨rfl, hb1⟩
      have HB1 : Hid _ := hb1
      clear hb1 HI
      go_wp2_with fail
      refine Calls.mono (HBY.out _) ?_
      rintro e w2 ⟨rfl, hb2⟩
      have HB2 : Hid (Below w.heap.size w w2) := HB1.out.trans (hb2.mono HB1.out.size)
      have hadd := HAD.out
      clear hb2 HBY HD HAD h2 hq hr h1
      generalize bs [UInt8.ofNat (48 + n % 10)] = y at hadd ⊢
      generalize bs (Lib.decDigits (n / 10)) = x at hadd ⊢
      go_wp2_with fail
      go_ret
      exact ⟨rfl, HB2.out⟩

set_option maxRecDepth 100000 in
theorem decimal_any (n : Nat) (w : World) (hn : n ≤ 1000000000000) : Calls Tryd.prog 67 #[.int .i64 (n : Int)] w fun e w' => e = .returned (.string (bs (Lib.decDigits n))) ∧ Below w.heap.size w w' := by
  have h1 : ¬ (n : Int) < 0 := by omega
  have h2 : IntKind.i64.wrap (-(n : Int)) = -(n : Int) := by simp (disch := omega) only [IntWalk.i64_in]
  have HB : Hid _ := below_any n w hn
  go_enter Tryd.func67, Tryd.ntmps67
  go_wp2_with fail
  refine Calls.mono HB.out ?_
  rintro e w1 ⟨rfl, hb⟩
  have HB1 : Hid _ := hb
  clear hb
  go_wp2_with fail
  go_ret
  exact ⟨rfl, HB1.out⟩
end Go.Proofs.YtilkjafggfdjeaaDoor
