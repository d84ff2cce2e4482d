/-
  The contracts of the functions of package tree that look at one node, or at one name.
  Conditions: those of each theorem.
-/
import Derived.Test.YtpjjpmikhjlgnaaGreatDoorProg
import Derived.Test.YtpjjpmikhjlgnaaGreatDoorTrees
import Derived.WalkKit
import Derived.Handy
import Derived.Outline
import Derived.WalkLawsBesides
import Derived.WalkSpells
namespace Go.Proofs.YtpjjpmikhjlgnaaGreatDoor
open Go.RowKit

theorem ret_bool {a b : Bool} (h : a = b) : Ending.returned (.bool a) = .returned (.bool b) := by rw [h]

set_option maxHeartbeats 1000000 in
theorem nameByte_any (c : Int) (w : World) : Calls Tryz.prog 59 #[.int .u8 c] w fun e w' => e = .returned (.bool (nb c)) ∧ w' = w := by
  go_enter Tryz.func59, Tryz.ntmps59
  go_wp2
  all_goals (go_ret; refine ⟨ret_bool ?_, rfl⟩)
  all_goals (unfold nb; rw [Bool.eq_iff_iff]; simp; try omega)

set_option maxHeartbeats 1000000 in
theorem name_any (s : ByteArray) (w : World) (hs : s.size ≤ maxLen) : Calls Tryz.prog 33 #[.string s] w fun e w' => e = .returned (.bool (nameB s)) ∧ w' = w := by
  unfold maxLen at hs
  by_cases hg : (1 ≤ s.size ∧ s.size ≤ 12) ∧ (s.toList == [46]) = false ∧ (s.toList == [46, 46]) = false
  · obtain ⟨⟨h1, h2⟩, h3, h4⟩ := hg
    have HE : Hid (nameB s = s.data.toList.all fun c => nb (c.toNat : Int)) := nameB_yes h1 h2 h3 h4
    go_enter Tryz.func33, Tryz.ntmps33
    go_wp2_with fail
    go_loop [22] (fun i => ∃ k : Nat, k ≤ s.size ∧ i = .int .i64 k ∧ (s.data.toList.take k).all (fun c => nb (c.toNat : Int)) = true) (fun i => s.size - (intOf i).toNat)
    case atStart => exact ⟨0, Nat.zero_le _, rfl, by simp⟩
    case round =>
      obtain ⟨k, hk, rfl, hall⟩ := hrel
      have HA : Hid ((s.data.toList.take k).all (fun c => nb (c.toNat : Int)) = true) := hall
      clear hall
      by_cases hlt : k < s.size
      · have HS := all_snoc (p := fun c => nb (c.toNat : Int)) s k hlt
        have HS : Hid _ := HS
        cases hc : nb (s[k].toNat : Int)
        · have HM : Hid (s.data.toList.all (fun c => nb (c.toNat : Int)) = false) := all_miss (p := fun c => nb (c.toNat : Int)) s k hlt hc
          go_wp2_with fail
          refine (nameByte_any _ _).mono ?_
          rintro e w' ⟨rfl, rfl⟩
          go_wp2_with fail
          go_ret
          exact ⟨ret_bool (by rw [HE.out, HM.out]), rfl⟩
        · have HC : Hid (nb (s[k].toNat : Int) = true) := hc
          go_wp2_with fail
          refine (nameByte_any _ _).mono ?_
          rintro e w' ⟨rfl, rfl⟩
          go_wp2_with fail
          go_round
          case rel => exact ⟨k + 1, by omega, by go_num, by rw [HS.out, HA.out]; exact HC.out⟩
          case measure => simp [intOf]; omega
      · have ek : k = s.size := by omega
        have HB : Hid (s.data.toList.all (fun c => nb (c.toNat : Int)) = true) := by
          have := HA.out
          rw [ek, all_whole] at this
          exact this
        clear ek
        go_wp2_with fail
        go_ret
        exact ⟨ret_bool (by rw [HE.out, HB.out]), rfl⟩
  · have HE : Hid (nameB s = false) := nameB_no hg
    go_enter Tryz.func33, Tryz.ntmps33
    go_wp2_with fail
    all_goals first
      | (go_ret; exact ⟨ret_bool HE.out.symm, rfl⟩)
      | (exfalso; apply hg; refine ⟨⟨by omega, by omega⟩, ?_, ?_⟩ <;> simp_all)
end Go.Proofs.YtpjjpmikhjlgnaaGreatDoor
