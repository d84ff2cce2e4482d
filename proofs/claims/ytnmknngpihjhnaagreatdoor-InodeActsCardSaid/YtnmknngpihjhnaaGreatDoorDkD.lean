/-
  The contracts of package disk's Barrier and Crash, and of the law's own copy of numbers.
  Conditions: the disk lies in memory.
-/
import Derived.Test.YtnmknngpihjhnaaGreatDoorDkB
import Derived.Test.YtnmknngpihjhnaaGreatDoorInts
namespace Go.Proofs.YtnmknngpihjhnaaGreatDoor
open Go.RowKit

set_option maxRecDepth 100000 in
theorem bar1_any (i : Nat) (W : World) : Calls Tryz.prog 86 (#[.int .i64 (i : Int)] ++ #[]) W fun e W' => e = .returned (.bool true) ∧ W' = W := by
  show Calls Tryz.prog 86 #[.int .i64 (i : Int)] W _
  go_enter Tryz.func86, Tryz.ntmps86
  go_wp2_with fail
  go_ret
  exact ⟨rfl, rfl⟩
set_option maxRecDepth 100000 in
set_option maxHeartbeats 1000000 in
theorem barrier_any {bb : Nat} {va : Option Addr} {vc : Nat} {bl : List (List UInt8)} {wt : List (Nat × List UInt8)} (w : World) (D : DkAt w bb va vc bl wt) (hwl : wt.length ≤ 100000) :
    Calls Tryz.prog 65 #[.pointer (some ⟨bb + 1, 0, none⟩)] w fun e w' => e = .returned (.tuple #[]) ∧ DkAt w' bb none 0 (setl (fun _ => true) wt bl wt.length) [] ∧ DkBut bb va w w' := by
  have HS := settle_any 86 #[] (fun _ => true) w D hwl (enters_of Tryz.func86 (by kernel_rfl) rfl) (fun i W _ _ => bar1_any i W)
  clear D
  go_enter Tryz.func65, Tryz.ntmps65
  go_wp2_with (go_at_call 85; refine HS.mono ?_; rintro e w1 ⟨rfl, hD, hB⟩)
  go_returns
  exact ⟨rfl, hD, hB⟩

/-- Which are kept, by the first j numbers. -/
def kpL (n : Nat) (keep : List Int) : Nat → List Bool
  | 0 => List.replicate n false
  | j + 1 => match keep[j]? with
    | some x => if 0 ≤ x ∧ x < (n : Int) then (kpL n keep j).set x.toNat true else kpL n keep j
    | none => kpL n keep j
theorem kpL_len (n : Nat) (keep : List Int) : ∀ j, (kpL n keep j).length = n
  | 0 => by simp [kpL]
  | j + 1 => by
    unfold kpL
    cases keep[j]? with
    | none => exact kpL_len n keep j
    | some x => by_cases h : 0 ≤ x ∧ x < (n : Int) <;> simp [h, kpL_len n keep j]
def keptB (n : Nat) (keep : List Int) (i : Nat) : Bool := (kpL n keep keep.length)[i]?.getD false


end Go.Proofs.YtnmknngpihjhnaaGreatDoor
