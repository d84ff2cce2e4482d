/-
  The contracts of the functions of package tree that tell a node's own error: checkFile, checkLink, checkDir, checkNode.
  Conditions: the sentinels hold what the program's text lays; the node's kids lie in memory.
-/
import Derived.Test.YtpjjpmikhjlgnaaGreatDoorSen
import Derived.Test.YtpjjpmikhjlgnaaGreatDoorLeafs
import Derived.BigQuiet
import Derived.Deep.QuietTactic
import Derived.WalkSmall
namespace Go.Proofs.YtpjjpmikhjlgnaaGreatDoor
open Go.RowKit

/-- An error as a value: nil, or the sentinel of that number. -/
def errV (a : Nat → Addr) : Option Nat → Value
  | none => .nilIface
  | some i => .iface 181 (.pointer (some (a i)))
/-- A node as a value, its kids' slice given. -/
def nodeV (t : Tree) (u : Value) : Value := .agg #[.string t.kind, .string t.data, .bool t.exec, u]
theorem ret_val {a b : Value} (h : a = b) : Ending.returned a = .returned b := by rw [h]

set_option maxHeartbeats 1000000 in
theorem checkFile_any (a : Nat → Addr) (t : Tree) (ad : Option Addr) (cap : Nat) (w : World) (S : Sen a w) :
    Calls Tryz.prog 94 #[.agg #[.string t.kind, .string t.data, .bool t.exec, .slice ad t.kids.length cap]] w fun e w' => e = .returned (errV a (fileErr t)) ∧ Below w.heap.size w w' := by
  have c1 := S.bound
  have c2 := S.shape
  have z1 := lt_of_cell c1
  have z2 := lt_of_cell c2
  have HB : Hid (∀ o, Below w.heap.size w (w.alloc o)) := fun o => (Below.refl _ _).alloc (Nat.le_refl _) o
  clear S
  by_cases h1 : 0 < t.kids.length
  · have HE : Hid (fileErr t = some 2) := show _ = _ by unfold fileErr; rw [if_pos h1]
    go_enter Tryz.func94, Tryz.ntmps94
    go_wp2
    go_ret
    exact ⟨ret_val (by rw [HE.out]; rfl), HB.out _⟩
  · by_cases h2 : 2000 < t.data.size
    · have HE : Hid (fileErr t = some 1) := show _ = _ by unfold fileErr; rw [if_neg h1, if_pos h2]
      go_enter Tryz.func94, Tryz.ntmps94
      go_wp2
      go_ret
      exact ⟨ret_val (by rw [HE.out]; rfl), HB.out _⟩
    · have HE : Hid (fileErr t = none) := show _ = _ by unfold fileErr; rw [if_neg h1, if_neg h2]
      go_enter Tryz.func94, Tryz.ntmps94
      go_wp2
      go_ret
      exact ⟨ret_val (by rw [HE.out]; rfl), HB.out _⟩

set_option maxHeartbeats 1000000 in
theorem checkLink_any (a : Nat → Addr) (t : Tree) (ad : Option Addr) (cap : Nat) (w : World) (S : Sen a w) (hs : t.data.size ≤ maxLen) :
    Calls Tryz.prog 96 #[.agg #[.string t.kind, .string t.data, .bool t.exec, .slice ad t.kids.length cap]] w fun e w' => e = .returned (errV a (linkErr t)) ∧ Below w.heap.size w w' := by
  unfold maxLen at hs
  have c0 := S.text
  have c1 := S.bound
  have c2 := S.shape
  have z0 := lt_of_cell c0
  have z1 := lt_of_cell c1
  have z2 := lt_of_cell c2
  have HB : Hid (∀ o, Below w.heap.size w (w.alloc o)) := fun o => (Below.refl _ _).alloc (Nat.le_refl _) o
  clear S
  by_cases h1 : t.exec = true ∨ 0 < t.kids.length
  · have HE : Hid (linkErr t = some 2) := show _ = _ by unfold linkErr; rw [if_pos h1]
    by_cases hx : t.exec = true
    · clear h1
      go_enter Tryz.func96, Tryz.ntmps96
      go_wp2
      go_ret
      exact ⟨ret_val (by rw [HE.out]; rfl), HB.out _⟩
    · have hl : 0 < t.kids.length := by rcases h1 with h | h; exact absurd h hx; exact h
      have hx : t.exec = false := by simpa using hx
      clear h1
      go_enter Tryz.func96, Tryz.ntmps96
      go_wp2
      go_ret
      exact ⟨ret_val (by rw [HE.out]; rfl), HB.out _⟩
  · have hx : t.exec = false := by cases h : t.exec; rfl; exact absurd (.inl h) h1
    have hl : ¬ 0 < t.kids.length := fun h => h1 (.inr h)
    by_cases h2 : t.data.size < 1 ∨ 40 < t.data.size
    · have HE : Hid (linkErr t = some 1) := show _ = _ by unfold linkErr; rw [if_neg h1, if_pos h2]
      clear h1
      rcases h2 with h2 | h2
      all_goals
        go_enter Tryz.func96, Tryz.ntmps96
        go_wp2
        go_ret
        exact ⟨ret_val (by rw [HE.out]; rfl), HB.out _⟩
    · have HE : Hid (linkErr t = if t.data.data.toList.all seen = true then none else some 0) := show _ = _ by unfold linkErr; rw [if_neg h1, if_neg h2]
      have h3 : 1 ≤ t.data.size := by omega
      have h4 : t.data.size ≤ 40 := by omega
      clear h1 h2
      go_enter Tryz.func96, Tryz.ntmps96
      go_wp2
      go_loop [27] (fun i => ∃ k : Nat, k ≤ t.data.size ∧ i = .int .i64 k ∧ (t.data.data.toList.take k).all seen = true) (fun i => t.data.size - (intOf i).toNat)
      case atStart => exact ⟨0, Nat.zero_le _, rfl, by simp⟩
      case round =>
        obtain ⟨k, hk, rfl, hall⟩ := hrel
        have HA : Hid ((t.data.data.toList.take k).all seen = true) := hall
        clear hall
        by_cases hlt : k < t.data.size
        · have HS : Hid _ := all_snoc (p := seen) t.data k hlt
          by_cases hc : seen t.data[k] = true
          · have HC : Hid (seen t.data[k] = true) := hc
            have hc1 : 33 ≤ (t.data[k].toNat : Int) := by unfold seen at hc; simp only [decide_eq_true_eq] at hc; exact hc.1
            have hc2 : (t.data[k].toNat : Int) ≤ 126 := by unfold seen at hc; simp only [decide_eq_true_eq] at hc; exact hc.2
            clear hc
            go_wp2
            go_round
            case rel => exact ⟨k + 1, by omega, by go_num, by rw [HS.out, HA.out]; exact HC.out⟩
            case measure => simp [intOf]; omega
          · have hc' : seen t.data[k] = false := by simpa using hc
            have HM : Hid (t.data.data.toList.all seen = false) := all_miss (p := seen) t.data k hlt hc'
            have hor : (t.data[k].toNat : Int) < 33 ∨ 126 < (t.data[k].toNat : Int) := by unfold seen at hc'; simp only [decide_eq_false_iff_not] at hc'; omega
            clear hc hc'
            rcases hor with hor | hor
            · go_wp2
              go_ret
              exact ⟨ret_val (by rw [HE.out, HM.out]; rfl), HB.out _⟩
            · have hor2 : 33 ≤ (t.data[k].toNat : Int) := by omega
              go_wp2
              go_ret
              exact ⟨ret_val (by rw [HE.out, HM.out]; rfl), HB.out _⟩
        · have ek : k = t.data.size := by omega
          have HM : Hid (t.data.data.toList.all seen = true) := by
            have := HA.out
            rw [ek, all_whole] at this
            exact this
          clear ek
          go_wp2
          go_ret
          exact ⟨ret_val (by rw [HE.out, HM.out]; rfl), HB.out _⟩
end Go.Proofs.YtpjjpmikhjlgnaaGreatDoor
