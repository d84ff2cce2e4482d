/-
  The contracts of package disk's New, Len, has, Waits and turn.
  Conditions: the disk lies in memory.
-/
import Derived.Test.YtcjocgpdlmdflaaDoorDk
import Derived.Test.YtcjocgpdlmdflaaDoorProg
import Derived.WalkKit
import Derived.Laws.BitsAllLaws
import Derived.Laws.MakeOwn
import Derived.Deep.WholeRow
import Derived.LoopN
import Derived.BigQuiet
import Derived.KernelRfl
import Derived.Handy
namespace Go.Proofs.YtcjocgpdlmdflaaDoor
open Go.RowKit

theorem infoBk : (Tryd.prog.info? 102).map (fun i => (i.zero, i.size, i.bytes)) = some (some (.agg (Array.replicate 16 (.int .u8 0))), 16, 16) := by kernel_rfl
theorem infoWr : (Tryd.prog.info? 104).map (fun i => (i.zero, i.size, i.bytes)) = some (some (.agg (#[.int .i64 0] ++ Array.replicate 16 (.int .u8 0))), 17, 24) := by kernel_rfl

set_option maxRecDepth 100000 in
set_option maxHeartbeats 1000000 in
theorem len_any {bb : Nat} {va : Option Addr} {vc : Nat} {bl : List (List UInt8)} {wt : List (Nat × List UInt8)} (w : World) (D : DkAt w bb va vc bl wt) :
    Calls Tryd.prog 28 #[.pointer (some ⟨bb + 1, 0, none⟩)] w fun e w' => e = .returned (.int .i64 (bl.length : Int)) ∧ w' = w := by
  obtain ⟨h1, h2, _⟩ := D.cells
  clear D
  go_enter Tryd.func28, Tryd.ntmps28
  go_wp2_with fail
  go_ret
  exact ⟨rfl, rfl⟩
/-- Is it a block's number? -/
def hasB (n : Nat) (k : Int) : Bool := decide (0 ≤ k ∧ k < (n : Int))
theorem hasB_yes {n : Nat} {k : Int} (h0 : 0 ≤ k) (h1 : k < (n : Int)) : hasB n k = true := decide_eq_true ⟨h0, h1⟩
theorem hasB_no {n : Nat} {k : Int} (h : ¬ (0 ≤ k ∧ k < (n : Int))) : hasB n k = false := decide_eq_false h
set_option maxRecDepth 100000 in
set_option maxHeartbeats 1000000 in
theorem has_any {bb : Nat} {va : Option Addr} {vc : Nat} {bl : List (List UInt8)} {wt : List (Nat × List UInt8)} (k : Int) (w : World) (D : DkAt w bb va vc bl wt) :
    Calls Tryd.prog 44 #[.pointer (some ⟨bb + 1, 0, none⟩), .int .i64 k] w fun e w' => e = .returned (.bool (hasB bl.length k)) ∧ w' = w := by
  have HL := len_any w D
  clear D
  by_cases h0 : 0 ≤ k
  · by_cases h1 : k < (bl.length : Int)
    · go_enter Tryd.func44, Tryd.ntmps44
      go_wp2_with (go_at_call 28; refine HL.mono ?_; rintro e w' ⟨rfl, rfl⟩)
      go_ret
      exact ⟨by rw [hasB_yes h0 h1]; rfl, rfl⟩
    · go_enter Tryd.func44, Tryd.ntmps44
      go_wp2_with (go_at_call 28; refine HL.mono ?_; rintro e w' ⟨rfl, rfl⟩)
      go_ret
      exact ⟨by rw [hasB_no (by omega)]; show Ending.returned (Value.bool (decide (k < (bl.length : Int)))) = _; rw [decide_eq_false (p := k < (bl.length : Int)) (by omega)], rfl⟩
  · go_enter Tryd.func44, Tryd.ntmps44
    go_wp2_with (go_at_call 28; refine HL.mono ?_; rintro e w' ⟨rfl, rfl⟩)
    go_ret
    exact ⟨by rw [hasB_no (by omega)]; rfl, rfl⟩

/-- A block of zeros. -/
def zb : List UInt8 := List.replicate 16 0
theorem flat_zero : ∀ n, (List.replicate n zb).flatMap bc = List.replicate (n * 16) (.int .u8 0)
  | 0 => by simp
  | n + 1 => by
    rw [List.replicate_succ, List.flatMap_cons, flat_zero n, Nat.succ_mul, Nat.add_comm (n * 16), ← List.replicate_append_replicate]
    rfl
theorem made_zero (n : Nat) : madeCells (Value.agg (Array.replicate 16 (.int .u8 0))).cells (n * 16) = ((List.replicate n zb).flatMap bc).toArray := by
  rw [flat_zero]
  apply Array.ext
  · simp [size_madeCells]
  · intro i h1 h2
    have hm : i % 16 < 16 := Nat.mod_lt _ (by decide)
    simp [madeCells, Value.cells, hm]
set_option maxRecDepth 100000 in
set_option maxHeartbeats 1000000 in
theorem new_any (n : Nat) (h1 : 1 ≤ n) (h2 : n ≤ 512) (w : World) :
    Calls Tryd.prog 14 #[.int .i64 (n : Int)] w fun e w' => e = .returned (.tuple #[.pointer (some ⟨w.heap.size + 1, 0, none⟩), .nilIface]) ∧ DkAt w' w.heap.size none 0 (List.replicate n zb) [] ∧ Below w.heap.size w w' := by
  obtain ⟨i0, hi0, hz0, hz1, hz2⟩ := info_parts infoBk
  have HM : (Instr.makeSlice 73 (.int .i64 (n : Int)) (.int .i64 (n : Int))).run Tryd.prog w = .ok (.slice (some ⟨w.heap.size, 0, none⟩) n n) (w.alloc (.cells ((List.replicate n zb).flatMap bc).toArray 102)) := by
    have := run_make (P := Tryd.prog) w 73 102 i0 _ Tryd.underlying73 hi0 hz0 .i64 .i64 n n (by omega) (Int.le_refl _) (by rw [hz2]; omega) (by omega)
    simp only [Int.toNat_natCast] at this
    rw [this, hz1, made_zero]
  obtain ⟨C, hC⟩ : ∃ C, C = ((List.replicate n zb).flatMap bc).toArray := ⟨_, rfl⟩
  rw [← hC] at HM
  have HC : Hid (C = ((List.replicate n zb).flatMap bc).toArray) := hC
  clear hC
  go_enter Tryd.func14, Tryd.ntmps14
  go_wp2_with fail
  go_ret2
  have hs1 : (w.alloc (.cells C 102)).heap.size = w.heap.size + 1 := by simp
  refine ⟨rfl, ⟨?_, ?_, ⟨rfl, .inl ⟨rfl, rfl⟩⟩, fun b hb => ?_, fun x hx => by cases hx⟩, ((Below.refl _ w).alloc (Nat.le_refl _) _).alloc (by simp) _⟩
  · rw [← hs1, heap_alloc_last, List.length_replicate]; rfl
  · rw [Below.heap_alloc _ _ _ (by simp), heap_alloc_last, HC.out]
  · rw [(List.mem_replicate.1 hb).2]; rfl

/-- A byte with a bit turned. -/
def turnB (x : UInt8) (k : Nat) : UInt8 := x ^^^ UInt8.ofNat (2 ^ (k % 8))
theorem turnB_twice (x : UInt8) (k : Nat) : turnB (turnB x k) k = x := by
  unfold turnB
  rw [UInt8.xor_assoc, UInt8.xor_self, UInt8.xor_zero]
/-- A block with a bit turned. -/
def turnL (l : List UInt8) (k : Nat) : List UInt8 := l.set (k / 8) (turnB (l[k / 8]?.getD 0) k)

end Go.Proofs.YtcjocgpdlmdflaaDoor
