/-
  The walk of the law 'Names': it returns true; nothing that was there has turned.
  Conditions: 'Sents': the sentinels and errors.errorType hold what the program's text lays.
-/
import Derived.Test.YtfchgecbimaonaaDoorCode
import Derived.BigQuiet
import Derived.WalkSmall
import Derived.Deep.QuietTactic
namespace Go.Proofs.YtfchgecbimaonaaDoor
open Go.RowKit Go.Extern.Stop Go.Stop Go.Extern

theorem new_any (s : ByteArray) (w : World) : Calls Tryd.prog 12 #[.string s] w fun e w' => e = .returned (.iface 65 (.pointer (some ⟨w.heap.size, 0, none⟩))) ∧ w' = w.alloc (.cells #[.string s] 67) := by
  go_enter Tryd.func12, Tryd.ntmps12
  go_wp2
  go_ret
  exact ⟨rfl, rfl⟩

set_option maxHeartbeats 1000000 in
theorem sameInts_same (b c : Nat) (n cap cap' : Nat) (f : Nat → Int) (w : World) (hn : n < 1000000) (hb : ∀ k, k < n → w.cell? ⟨b, k, none⟩ = some (.int .i64 (f k))) (hc : ∀ k, k < n → w.cell? ⟨c, k, none⟩ = some (.int .i64 (f k))) :
    Calls Tryd.prog 9 #[.slice (some ⟨b, 0, none⟩) n cap, .slice (some ⟨c, 0, none⟩) n cap'] w fun e w' => e = .returned (.bool true) ∧ ∃ m, w' = w.drewN m := by
  go_enter Tryd.func9, Tryd.ntmps9
  go_wp2_with fail
  go_loopw [5] (fun i wr => ∃ k m : Nat, k ≤ n ∧ i = .int .i64 k ∧ wr = w.drewN m) (fun i _ => n - (intOf i).toNat)
  case atStart => exact ⟨0, 0, Nat.zero_le _, rfl, rfl⟩
  case round =>
    obtain ⟨k, m, hk, rfl, rfl⟩ := hrel
    by_cases hlt : k < n
    · have h1 := hb k hlt
      have h2 := hc k hlt
      clear hb hc
      go_wp2_with fail
      go_quiet (fail)
      go_wp2_with fail
      go_roundw
      case rel => exact ⟨k + 1, _, by omega, by go_num, rfl⟩
      case measure => simp [intOf]; omega
    · clear hb hc
      go_wp2_with fail
      go_ret
      exact ⟨rfl, _, rfl⟩

theorem row_alloc (w : World) (c : Array Value) (t : TypeId) : (w.alloc (.cells c t)).heap[w.heap.size]? = some (.cells c t (0, 0)) := by
  show (w.heap.push _)[w.heap.size]? = _
  simp
def nums : List Int := [12, 2000, 40, 200, 8, 16, 20000, 16, 512, 40, 20, 1048576, 80, 16]
theorem fourteen (w : World) (k : Nat) (hk : k < 14) : (w.alloc (.cells #[.int .i64 12, .int .i64 2000, .int .i64 40, .int .i64 200, .int .i64 8, .int .i64 16, .int .i64 20000, .int .i64 16, .int .i64 512, .int .i64 40, .int .i64 20, .int .i64 1048576, .int .i64 80, .int .i64 16] 3)).cell? ⟨w.heap.size, k, none⟩ = some (.int .i64 (nums.getD k 0)) := by
  rw [World.cell?_alloc_at _ _ _ _ rfl]
  have h : k = 0 ∨ k = 1 ∨ k = 2 ∨ k = 3 ∨ k = 4 ∨ k = 5 ∨ k = 6 ∨ k = 7 ∨ k = 8 ∨ k = 9 ∨ k = 10 ∨ k = 11 ∨ k = 12 ∨ k = 13 := by omega
  rcases h with h | h | h | h | h | h | h | h | h | h | h | h | h | h <;> subst h <;> rfl

set_option maxHeartbeats 2000000 in
theorem names_any (a : Nat → Addr) (w : World) (S : Sents a w) : Calls Tryd.prog 3 #[] w fun e w' => e = .returned (.bool true) ∧ Below w.heap.size w w' := by
  go_enter Tryd.func3, Tryd.ntmps3
  go_wp2_with fail
  have q1 : ∀ k, k < 14 → ((w.alloc (.cells #[.int .i64 12, .int .i64 2000, .int .i64 40, .int .i64 200, .int .i64 8, .int .i64 16, .int .i64 20000, .int .i64 16, .int .i64 512, .int .i64 40, .int .i64 20, .int .i64 1048576, .int .i64 80, .int .i64 16] 3)).alloc (.cells #[.int .i64 12, .int .i64 2000, .int .i64 40, .int .i64 200, .int .i64 8, .int .i64 16, .int .i64 20000, .int .i64 16, .int .i64 512, .int .i64 40, .int .i64 20, .int .i64 1048576, .int .i64 80, .int .i64 16] 3)).cell? ⟨w.heap.size, k, none⟩ = some (.int .i64 (nums.getD k 0)) := fun k hk => by
    rw [World.cell?_alloc_lt _ _ _ (by simp)]; exact fourteen w k hk
  have q2 : ∀ k, k < 14 → ((w.alloc (.cells #[.int .i64 12, .int .i64 2000, .int .i64 40, .int .i64 200, .int .i64 8, .int .i64 16, .int .i64 20000, .int .i64 16, .int .i64 512, .int .i64 40, .int .i64 20, .int .i64 1048576, .int .i64 80, .int .i64 16] 3)).alloc (.cells #[.int .i64 12, .int .i64 2000, .int .i64 40, .int .i64 200, .int .i64 8, .int .i64 16, .int .i64 20000, .int .i64 16, .int .i64 512, .int .i64 40, .int .i64 20, .int .i64 1048576, .int .i64 80, .int .i64 16] 3)).cell? ⟨w.heap.size + 1, k, none⟩ = some (.int .i64 (nums.getD k 0)) := fun k hk => by
    have := fourteen (w.alloc (.cells #[.int .i64 12, .int .i64 2000, .int .i64 40, .int .i64 200, .int .i64 8, .int .i64 16, .int .i64 20000, .int .i64 16, .int .i64 512, .int .i64 40, .int .i64 20, .int .i64 1048576, .int .i64 80, .int .i64 16] 3)) k hk
    simpa using this
  refine (sameInts_same w.heap.size (w.heap.size + 1) 14 14 14 (fun k => nums.getD k 0) _ (by decide) q1 q2).mono ?_
  rintro e w1 ⟨rfl, m, hw1⟩
  have hb0 : Below w.heap.size w w1 := by rw [hw1]; exact below_drewN (by go_grown) m
  have S1 := S.below hb0
  clear q1 q2 hw1
  have c0 := S1.cell 0 (by decide)
  have c1 := S1.cell 1 (by decide)
  have c2 := S1.cell 2 (by decide)
  have c3 := S1.cell 3 (by decide)
  have c4 := S1.cell 4 (by decide)
  have c5 := S1.cell 5 (by decide)
  have c6 := S1.cell 6 (by decide)
  have c7 := S1.cell 7 (by decide)
  have c8 := S1.cell 8 (by decide)
  have c9 := S1.cell 9 (by decide)
  have c10 := S1.cell 10 (by decide)
  have c11 := S1.cell 11 (by decide)
  have c12 := S1.cell 12 (by decide)
  go_wp2_with fail
  have hb2 : Below w.heap.size w (w1.alloc (.cells #[.iface 65 (.pointer (some (a 0))), .iface 65 (.pointer (some (a 1))), .iface 65 (.pointer (some (a 2))), .iface 65 (.pointer (some (a 3))), .iface 65 (.pointer (some (a 4))), .iface 65 (.pointer (some (a 5))), .iface 65 (.pointer (some (a 6))), .iface 65 (.pointer (some (a 7))), .iface 65 (.pointer (some (a 8))), .iface 65 (.pointer (some (a 9))), .iface 65 (.pointer (some (a 10))), .iface 65 (.pointer (some (a 11))), .iface 65 (.pointer (some (a 12)))] 25)) := hb0.alloc hb0.size _
  have S2 := S.below hb2
  have hc := thirteen a w1
  have hz : (w1.alloc (.cells #[.iface 65 (.pointer (some (a 0))), .iface 65 (.pointer (some (a 1))), .iface 65 (.pointer (some (a 2))), .iface 65 (.pointer (some (a 3))), .iface 65 (.pointer (some (a 4))), .iface 65 (.pointer (some (a 5))), .iface 65 (.pointer (some (a 6))), .iface 65 (.pointer (some (a 7))), .iface 65 (.pointer (some (a 8))), .iface 65 (.pointer (some (a 9))), .iface 65 (.pointer (some (a 10))), .iface 65 (.pointer (some (a 11))), .iface 65 (.pointer (some (a 12)))] 25)).heap.size = w1.heap.size + 1 := by simp
  generalize w1.alloc (.cells #[.iface 65 (.pointer (some (a 0))), .iface 65 (.pointer (some (a 1))), .iface 65 (.pointer (some (a 2))), .iface 65 (.pointer (some (a 3))), .iface 65 (.pointer (some (a 4))), .iface 65 (.pointer (some (a 5))), .iface 65 (.pointer (some (a 6))), .iface 65 (.pointer (some (a 7))), .iface 65 (.pointer (some (a 8))), .iface 65 (.pointer (some (a 9))), .iface 65 (.pointer (some (a 10))), .iface 65 (.pointer (some (a 11))), .iface 65 (.pointer (some (a 12)))] 25) = W2 at *
  clear S1 c0 c1 c2 c3 c4 c5 c6 c7 c8 c9 c10 c11 c12 hb0
  go_loopw [4] (fun i wr => ∃ k : Nat, k ≤ 13 ∧ i = .int .i64 k ∧ Below W2.heap.size W2 wr) (fun i _ => 13 - (intOf i).toNat)
  case atStart => exact ⟨0, by omega, rfl, Below.refl _ _⟩
  case round =>
    obtain ⟨k, hk, rfl, hbr⟩ := hrel
    have S3 := S2.below hbr
    by_cases h13 : k < 13
    · have hck : wr.cell? ⟨w1.heap.size, k, none⟩ = some (.iface 65 (.pointer (some (a k)))) := by rw [hbr.cell (by simp [hz])]; exact hc k h13
      clear hc
      go_wp2_with fail
      have hbf : Below wr.heap.size wr (wr.alloc (.cells #[.int .i64 7, .iface 65 (.pointer (some (a k)))] 31)) := (Below.refl _ _).alloc (Nat.le_refl _) _
      refine (code_fault a wr.heap.size 0 7 k _ (S3.below hbf) h13 (by simp) (by simp)).mono ?_
      rintro e w3 ⟨rfl, hb3⟩
      have hb4 : Below wr.heap.size wr w3 := hbf.trans (hb3.mono (by simp))
      have S4 := S3.below hb4
      have hck4 : w3.cell? ⟨w1.heap.size, k, none⟩ = some (.iface 65 (.pointer (some (a k)))) := by rw [hb4.cell (lt_of_cell hck)]; exact hck
      clear hb3 hbf
      go_wp2_with fail
      refine (coded_sent a k _ _ S4 h13).mono ?_
      rintro e w4 ⟨rfl, hb5⟩
      have hd : decide (((k : Int) + 1) = (k : Int) + 1) = true := by simp
      have hb6 : Below W2.heap.size W2 w4 := hbr.trans ((hb4.trans (hb5.mono hb4.size)).mono hbr.size)
      clear S3 S4 hb4 hb5 hck hck4 hbr
      go_wp2_with fail
      go_roundw
      case rel => exact ⟨k + 1, by omega, by go_num, hb6⟩
      case measure => simp [intOf]; omega
    · clear hc
      go_wp2_with fail
      refine (new_any _ _).mono ?_
      rintro e w3 ⟨rfl, hw3⟩
      have hb3 : Below wr.heap.size wr w3 := by rw [hw3]; exact (Below.refl _ _).alloc (Nat.le_refl _) _
      have S4 := S3.below hb3
      have hrow : ∃ ca ta, w3.heap[wr.heap.size]? = some (.cells ca ta (0, 0)) := ⟨_, _, by rw [hw3]; exact row_alloc _ _ _⟩
      have hne : ∀ j, j < 13 → (⟨wr.heap.size, 0, none⟩ : Addr) ≠ a j := fun j hj e => by
        obtain ⟨ca, ta, h⟩ := S3.row j hj
        have := lt_of_row h
        rw [← e] at this
        exact Nat.lt_irrefl _ this
      clear hw3
      go_wp2_with fail
      refine (code_plain a ⟨wr.heap.size, 0, none⟩ 13 _ S4 (Nat.le_refl _) hne (fun h => absurd h (by decide)) hrow).mono ?_
      rintro e w4 ⟨rfl, hb4⟩
      have hb6 : Below w.heap.size w w4 := hb2.trans ((hbr.trans ((hb3.trans (hb4.mono hb3.size)).mono hbr.size)).mono hb2.size)
      clear S3 S4 hb3 hb4 hbr hrow hne
      go_wp2_with fail
      refine (coded_nil _ _).mono ?_
      rintro e w5 ⟨rfl, rfl⟩
      go_wp2_with fail
      go_ret
      exact ⟨rfl, hb6⟩
end Go.Proofs.YtfchgecbimaonaaDoor
