/-
  The contract of the law's closed fact of a disk.
  Conditions: package api's ErrBound is some value.
-/
import Derived.Test.YtghhhhbllpkcdacDoorDkD
import Derived.Test.YtghhhhbllpkcdacDoorDkW
import Derived.Test.YtghhhhbllpkcdacDoorDkS
namespace Go.Proofs.YtghhhhbllpkcdacDoor
open Go.RowKit

def abc : ByteArray := { data := #[97, 98, 99, 100, 101, 102, 103, 104, 105, 106, 107, 108, 109, 110, 111, 112] }
set_option maxRecDepth 100000 in
set_option maxHeartbeats 1000000 in
theorem spun_any (er : Value) (w : World) (hE : w.cell? ⟨0, 0, none⟩ = some er) : Calls Tryd.prog 5 #[] w fun e w' => e = .returned (.bool true) ∧ Below w.heap.size w w' := by
  have hgl : 0 < w.heap.size := World.block_lt_of_cell? w _ hE
  have HN : Hid (Calls Tryd.prog 6 #[.int .i64 2] w fun e w' => e = .returned (.tuple #[.pointer (some ⟨w.heap.size + 1, 0, none⟩), .nilIface]) ∧ DkAt w' w.heap.size none 0 (List.replicate 2 zb) [] ∧ Below w.heap.size w w') := new_any 2 (by omega) (by omega) w
  have HW : Hid (∀ w1, DkAt w1 w.heap.size none 0 (List.replicate 2 zb) [] → Below w.heap.size w w1 → Calls Tryd.prog 11 #[.pointer (some ⟨w.heap.size + 1, 0, none⟩), .int .i64 1, .string abc] w1 fun e w' => e = .returned .nilIface ∧ ∃ va vc, DkAt w' w.heap.size va vc (List.replicate 2 zb) [(1, abc.data.toList)] ∧ Below w.heap.size w w') := fun w1 D hb =>
    (write_any 1 abc er w1 D (by rw [hb.cell (p := ⟨0, 0, none⟩) hgl]; exact hE) (by simp)).mono fun e w' h => by
      rcases h with ⟨_, _, he, va', vc', D', hB, _⟩ | ⟨h | h, _⟩
      · exact ⟨he, va', vc', D', D.up (Nat.le_refl _) hb hB⟩
      · cases h
      · exact absurd rfl h
  have HR1 : Hid (∀ w1 va vc, DkAt w1 w.heap.size va vc (List.replicate 2 zb) [(1, abc.data.toList)] → Below w.heap.size w w1 → Calls Tryd.prog 8 #[.pointer (some ⟨w.heap.size + 1, 0, none⟩), .int .i64 1] w1 fun e w' => e = .returned (.tuple #[.string abc, .nilIface]) ∧ DkAt w' w.heap.size va vc (List.replicate 2 zb) [(1, abc.data.toList)] ∧ Below w.heap.size w w') := fun w1 va vc D hb =>
    (read_any 1 zb w1 D rfl (by simp)).mono fun e w' ⟨he, hB⟩ => ⟨he, D.below (Nat.le_refl _) hB, hb.trans (hB.mono hb.size)⟩
  have HC : Hid (∀ w1 va vc, DkAt w1 w.heap.size va vc (List.replicate 2 zb) [(1, abc.data.toList)] → Below w.heap.size w w1 → Calls Tryd.prog 9 #[.pointer (some ⟨w.heap.size + 1, 0, none⟩), .slice none 0 0] w1 fun e w' => e = .returned (.tuple #[]) ∧ DkAt w' w.heap.size none 0 (List.replicate 2 zb) [] ∧ Below w.heap.size w w') := fun w1 va vc D hb =>
    (crash_any (.slice none 0 0) [] w1 D (by simp) (IntsAt.nil _) (by simp)).mono fun e w' ⟨he, D', hB⟩ => ⟨he, D', D.up (Nat.le_refl _) hb hB⟩
  have HR2 : Hid (∀ w1, DkAt w1 w.heap.size none 0 (List.replicate 2 zb) [] → Below w.heap.size w w1 → Calls Tryd.prog 8 #[.pointer (some ⟨w.heap.size + 1, 0, none⟩), .int .i64 1] w1 fun e w' => e = .returned (.tuple #[.string (zerosB 16), .nilIface]) ∧ DkAt w' w.heap.size none 0 (List.replicate 2 zb) [] ∧ Below w.heap.size w w') := fun w1 D hb =>
    (read_any 1 zb w1 D rfl (by simp)).mono fun e w' ⟨he, hB⟩ => ⟨he, D.below (Nat.le_refl _) hB, hb.trans (hB.mono hb.size)⟩
  have HZ : Hid (∀ w1, Calls Tryd.prog 14 #[.int .i64 16] w1 fun e w' => e = .returned (.string (zerosB 16)) ∧ w' = w1) := fun w1 => zeros_any 16 (by omega) w1
  have HWt : Hid (∀ w1, DkAt w1 w.heap.size none 0 (List.replicate 2 zb) [] → Calls Tryd.prog 10 #[.pointer (some ⟨w.heap.size + 1, 0, none⟩)] w1 fun e w' => e = .returned (.int .i64 0) ∧ w' = w1) := fun w1 D => waits_any w1 D
  have HS : Hid (∀ w1, Calls Tryd.prog 15 #[.string { data := #[49, 50, 51, 52, 53, 54, 55, 56, 57] }] w1 fun e w' => e = .returned (.int .u32 3421780262) ∧ w' = w1) := fun w1 => by
    have := sum_any { data := #[49, 50, 51, 52, 53, 54, 55, 56, 57] } (by decide) w1
    rw [sum_nine] at this
    exact this
  clear hE
  have habc : (abc.toList == [97, 98, 99, 100, 101, 102, 103, 104, 105, 106, 107, 108, 109, 110, 111, 112]) = true := by kernel_rfl
  go_enter Tryd.func5, Tryd.ntmps5
  go_wp2_with (first
    | (go_at_call 6; refine HN.out.mono ?_; rintro e w1 ⟨rfl, D1, hb1⟩)
    | (go_at_call 11; refine (HW.out _ D1 hb1).mono ?_; rintro e w2 ⟨rfl, va, vc, D2, hb2⟩; clear HN HW D1 hb1)
    | (go_at_call 8; refine (HR1.out _ _ _ D2 hb2).mono ?_; rintro e w3 ⟨rfl, D3, hb3⟩; clear HR1 D2 hb2)
    | (go_at_call 9; refine (HC.out _ _ _ D3 hb3).mono ?_; rintro e w4 ⟨rfl, D4, hb4⟩; clear HC D3 hb3)
    | (go_at_call 8; refine (HR2.out _ D4 hb4).mono ?_; rintro e w5 ⟨rfl, D5, hb5⟩; clear HR2 D4 hb4)
    | (go_at_call 14; refine (HZ.out _).mono ?_; rintro e w6 ⟨rfl, hw⟩; rw [hw]; clear hw)
    | (go_at_call 10; refine (HWt.out _ D5).mono ?_; rintro e w6 ⟨rfl, hw⟩; rw [hw]; clear hw)
    | (go_at_call 15; refine (HS.out _).mono ?_; rintro e w6 ⟨rfl, hw⟩; rw [hw]; clear hw))
  go_ret
  exact ⟨rfl, hb5⟩
end Go.Proofs.YtghhhhbllpkcdacDoor
