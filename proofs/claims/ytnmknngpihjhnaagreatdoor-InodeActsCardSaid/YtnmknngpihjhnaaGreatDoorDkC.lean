/-
  The contracts of package disk's New, Len, has, Waits and turn.
  Conditions: the disk lies in memory.
-/
import Derived.Test.YtnmknngpihjhnaaGreatDoorDk
import Derived.Test.YtnmknngpihjhnaaGreatDoorProg
import Derived.WalkKit
import Derived.Laws.BitsAllLaws
import Derived.Laws.MakeOwn
import Derived.Deep.WholeRow
import Derived.LoopN
import Derived.BigQuiet
import Derived.KernelRfl
import Derived.Handy
namespace Go.Proofs.YtnmknngpihjhnaaGreatDoor
open Go.RowKit

theorem infoBk : (Tryz.prog.info? 100).map (fun i => (i.zero, i.size, i.bytes)) = some (some (.agg (Array.replicate 16 (.int .u8 0))), 16, 16) := by kernel_rfl
theorem infoWr : (Tryz.prog.info? 104).map (fun i => (i.zero, i.size, i.bytes)) = some (some (.agg (#[.int .i64 0] ++ Array.replicate 16 (.int .u8 0))), 17, 24) := by kernel_rfl

set_option maxRecDepth 100000 in
set_option maxHeartbeats 1000000 in
theorem len_any {bb : Nat} {va : Option Addr} {vc : Nat} {bl : List (List UInt8)} {wt : List (Nat × List UInt8)} (w : World) (D : DkAt w bb va vc bl wt) :
    Calls Tryz.prog 27 #[.pointer (some ⟨bb + 1, 0, none⟩)] w fun e w' => e = .returned (.int .i64 (bl.length : Int)) ∧ w' = w := by
  obtain ⟨h1, h2, _⟩ := D.cells
  clear D
  go_enter Tryz.func27, Tryz.ntmps27
  go_wp2_with fail
  go_ret
  exact ⟨rfl, rfl⟩
/-- Is it a block's number? -/
def hasB (n : Nat) (k : Int) : Bool := decide (0 ≤ k ∧ k < (n : Int))
theorem hasB_yes {n : Nat} {k : Int} (h0 : 0 ≤ k) (h1 : k < (n : Int)) : hasB n k = true := decide_eq_true ⟨h0, h1⟩
theorem hasB_no {n : Nat} {k : Int} (h : ¬ (0 ≤ k ∧ k < (n : Int))) : hasB n k = false := decide_eq_false h
set_option maxRecDepth 100000 in
set_option maxHeartbeats 1000000 in
theorem has_any {bb : Nat} {va : Option Addr} {vc : Nat} {bl : List (List UInt8)} {wt : List (Nat × List UInt8)} (k : Int) (w : World) (D : DkAt w bb va vc bl wt) :
    Calls Tryz.prog 47 #[.pointer (some ⟨bb + 1, 0, none⟩), .int .i64 k] w fun e w' => e = .returned (.bool (hasB bl.length k)) ∧ w' = w := by
  have HL := len_any w D
  clear D
  by_cases h0 : 0 ≤ k
  · by_cases h1 : k < (bl.length : Int)
    · go_enter Tryz.func47, Tryz.ntmps47
      go_wp2_with (go_at_call 27; refine HL.mono ?_; rintro e w' ⟨rfl, rfl⟩)
      go_ret
      exact ⟨by rw [hasB_yes h0 h1]; rfl, rfl⟩
    · go_enter Tryz.func47, Tryz.ntmps47
      go_wp2_with (go_at_call 27; refine HL.mono ?_; rintro e w' ⟨rfl, rfl⟩)
      go_ret
      exact ⟨by rw [hasB_no (by omega)]; show Ending.returned (Value.bool (decide (k < (bl.length : Int)))) = _; rw [decide_eq_false (p := k < (bl.length : Int)) (by omega)], rfl⟩
  · go_enter Tryz.func47, Tryz.ntmps47
    go_wp2_with (go_at_call 27; refine HL.mono ?_; rintro e w' ⟨rfl, rfl⟩)
    go_ret
    exact ⟨by rw [hasB_no (by omega)]; rfl, rfl⟩

/-- A block of zeros. -/
def zb : List UInt8 := List.replicate 16 0
theorem flat_zero : ∀ n, (List.replicate n zb).flatMap bc = List.replicate (n * 16) (.int .u8 0)
  | 0 => by simp
  | n + 1 => by
    rw [List.replicate_succ, List.flatMap_cons, flat_zero n, Nat.succ_mul, Nat.add_comm (n * 16), ← List.replicate_append_replicate]
    rfl
theorem made_zero (n : Nat) : madeCells (Value.agg (Array.replicate 16 (.int .u8 0))).cells (n * 16) = ((List.replicate n zb).flatMap bc).toArray := by
  rw [flat_zero]
  apply Array.ext
  · simp [size_madeCells]
  · intro i h1 h2
    have hm : i % 16 < 16 := Nat.mod_lt _ (by decide)
    simp [madeCells, Value.cells, hm]
set_option maxRecDepth 100000 in
set_option maxHeartbeats 1000000 in
theorem new_any (n : Nat) (h1 : 1 ≤ n) (h2 : n ≤ 512) (w : World) :
    Calls Tryz.prog 14 #[.int .i64 (n : Int)] w fun e w' => e = .returned (.tuple #[.pointer (some ⟨w.heap.size + 1, 0, none⟩), .nilIface]) ∧ DkAt w' w.heap.size none 0 (List.replicate n zb) [] ∧ Below w.heap.size w w' := by
  obtain ⟨i0, hi0, hz0, hz1, hz2⟩ := info_parts infoBk
  have HM : (Instr.makeSlice 88 (.int .i64 (n : Int)) (.int .i64 (n : Int))).run Tryz.prog w = .ok (.slice (some ⟨w.heap.size, 0, none⟩) n n) (w.alloc (.cells ((List.replicate n zb).flatMap bc).toArray 100)) := by
    have := run_make (P := Tryz.prog) w 88 100 i0 _ Tryz.underlying88 hi0 hz0 .i64 .i64 n n (by omega) (Int.le_refl _) (by rw [hz2]; omega) (by omega)
    simp only [Int.toNat_natCast] at this
    rw [this, hz1, made_zero]
  obtain ⟨C, hC⟩ : ∃ C, C = ((List.replicate n zb).flatMap bc).toArray := ⟨_, rfl⟩
  rw [← hC] at HM
  have HC : Hid (C = ((List.replicate n zb).flatMap bc).toArray) := hC
  clear hC
  go_enter Tryz.func14, Tryz.ntmps14
  go_wp2_with fail
  go_ret2
  have hs1 : (w.alloc (.cells C 100)).heap.size = w.heap.size + 1 := by simp
  refine ⟨rfl, ⟨?_, ?_, ⟨rfl, .inl ⟨rfl, rfl⟩⟩, fun b hb => ?_, fun x hx => by cases hx⟩, ((Below.refl _ w).alloc (Nat.le_refl _) _).alloc (by simp) _⟩
  · rw [← hs1, heap_alloc_last, List.length_replicate]; rfl
  · rw [Below.heap_alloc _ _ _ (by simp), heap_alloc_last, HC.out]
  · rw [(List.mem_replicate.1 hb).2]; rfl

/-- A byte with a bit turned. -/
def turnB (x : UInt8) (k : Nat) : UInt8 := x ^^^ UInt8.ofNat (2 ^ (k % 8))
theorem turnB_twice (x : UInt8) (k : Nat) : turnB (turnB x k) k = x := by
  unfold turnB
  rw [UInt8.xor_assoc, UInt8.xor_self, UInt8.xor_zero]
/-- A block with a bit turned. -/
def turnL (l : List UInt8) (k : Nat) : List UInt8 := l.set (k / 8) (turnB (l[k / 8]?.getD 0) k)

set_option maxRecDepth 100000 in
set_option maxHeartbeats 1000000 in
theorem turn_any (b o bit : Nat) (l : List UInt8) (hl : l.length = 16) (hbit : bit < 128) (w : World) (hr : w.rangeAt b o (bc l)) (ht : w.there b o 16) :
    Calls Tryz.prog 48 #[.pointer (some ⟨b, o, none⟩), .int .i64 (bit : Int)] w fun e w' => e = .returned (.tuple #[]) ∧ w'.heap = (w.setCell ⟨b, o + bit / 8, none⟩ (.int .u8 ((turnB (l[bit / 8]?.getD 0) bit).toNat : Int))).heap ∧ w'.os = w.os ∧ w'.tape = w.tape ∧ w'.output = w.output := by
  have hj : bit / 8 < 16 := by omega
  obtain ⟨x, hx⟩ : ∃ x, l[bit / 8]? = some x := ⟨_, List.getElem?_eq_getElem (by omega)⟩
  have hc : w.cell? ⟨b, o + bit / 8, none⟩ = some (.int .u8 (x.toNat : Int)) := hr (bit / 8) _ (by simp [bc, hx])
  have hf := (ht (bit / 8) hj).2
  have HV : Hid (bits .xor .u8 (x.toNat : Int) (2 ^ (bit % 8) % 256) = ((turnB (l[bit / 8]?.getD 0) bit).toNat : Int)) := by
    have hb2 : (2 : Nat) ^ (bit % 8) < 256 := Nat.pow_lt_pow_right (by decide) (Nat.mod_lt _ (by decide) : bit % 8 < 8)
    have e0 : ((2 : Int) ^ (bit % 8)) = ((2 ^ (bit % 8) : Nat) : Int) := by push_cast; rfl
    have e : (2 : Int) ^ (bit % 8) % 256 = ((2 ^ (bit % 8) : Nat) : Int) := by
      rw [e0]
      generalize 2 ^ (bit % 8) = y at hb2 ⊢
      omega
    show _ = _
    rw [e, u8_xor_nat _ _ x.toNat_lt hb2, hx]
    simp only [Option.getD_some, turnB, UInt8.toNat_xor, UInt8.toNat_ofNat']
    rw [Nat.mod_eq_of_lt hb2]
  have HX : Hid (l[bit / 8]? = some x) := hx
  clear hr ht hx
  go_enter Tryz.func48, Tryz.ntmps48
  go_wp2_with fail
  go_region
  go_wp2_with fail
  go_returns
  refine ⟨rfl, ?_, rfl, rfl, rfl⟩
  rw [← HV.out]
  rfl
end Go.Proofs.YtnmknngpihjhnaaGreatDoor
