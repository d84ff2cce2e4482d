/-
  The contracts of the document's answer for one name and for two trees: stillroomref1's IsLetter, IsName and SameTree.
  Conditions: both trees lie in memory below block B.
-/
import Derived.Test.YtlaenhohjcjilaaDoorLeafs
import Derived.Test.YtlaenhohjcjilaaDoorSen
import Derived.Deep.RegionHeld3
import Derived.Deep.DrawnRows
import Derived.WalkSmall
import Derived.BigQuiet
import Derived.Deep.QuietTactic
namespace Go.Proofs.YtlaenhohjcjilaaDoor
open Go.RowKit
attribute [local go_sem ↓] Go.wp_at_zero Go.wp_at_succ

set_option maxHeartbeats 1000000 in
theorem isLetter_any (c : Int) (w : World) : Calls Tryd.prog 45 #[.int .u8 c] w fun e w' => e = .returned (.bool (nb c)) ∧ w' = w := by
  go_enter Tryd.func45, Tryd.ntmps45
  go_wp2
  all_goals (go_ret; refine ⟨ret_bool ?_, rfl⟩)
  all_goals (unfold nb; rw [Bool.eq_iff_iff]; simp; try omega)

theorem nameB_miss {s : ByteArray} (h : (s.data.toList.all fun c => nb (c.toNat : Int)) = false) : nameB s = false := by
  unfold nameB
  rw [h]
  simp
theorem nameB_all {s : ByteArray} (h : (s.data.toList.all fun c => nb (c.toNat : Int)) = true) : nameB s = (decide (1 ≤ s.size ∧ s.size ≤ 12) && !(s.toList == [46]) && !(s.toList == [46, 46])) := by
  unfold nameB
  rw [h]
  simp

set_option maxHeartbeats 1000000 in
theorem isName_any (s : ByteArray) (w : World) (hs : s.size ≤ maxLen) : Calls Tryd.prog 27 #[.string s] w fun e w' => e = .returned (.bool (nameB s)) ∧ w' = w := by
  unfold maxLen at hs
  go_enter Tryd.func27, Tryd.ntmps27
  go_wp2_with fail
  go_loop [3] (fun i => ∃ k : Nat, k ≤ s.size ∧ i = .int .i64 k ∧ (s.data.toList.take k).all (fun c => nb (c.toNat : Int)) = true) (fun i => s.size - (intOf i).toNat)
  case atStart => exact ⟨0, Nat.zero_le _, rfl, by simp⟩
  case round =>
    obtain ⟨k, hk, rfl, hall⟩ := hrel
    have HA : Hid ((s.data.toList.take k).all (fun c => nb (c.toNat : Int)) = true) := hall
    clear hall
    by_cases hlt : k < s.size
    · have HS := all_snoc (p := fun c => nb (c.toNat : Int)) s k hlt
      have HS : Hid _ := HS
      cases hc : nb (s[k].toNat : Int)
      · have HM : Hid (nameB s = false) := nameB_miss (all_miss (p := fun c => nb (c.toNat : Int)) s k hlt hc)
        go_wp2_with fail
        refine (isLetter_any _ _).mono ?_
        rintro e w' ⟨rfl, rfl⟩
        go_wp2_with fail
        go_ret
        exact ⟨ret_bool (by rw [HM.out]), rfl⟩
      · have HC : Hid (nb (s[k].toNat : Int) = true) := hc
        go_wp2_with fail
        refine (isLetter_any _ _).mono ?_
        rintro e w' ⟨rfl, rfl⟩
        go_wp2_with fail
        go_round
        case rel => exact ⟨k + 1, by omega, by go_num, by rw [HS.out, HA.out]; exact HC.out⟩
        case measure => simp [intOf]; omega
    · have ek : k = s.size := by omega
      have HE : Hid (nameB s = (decide (1 ≤ s.size ∧ s.size ≤ 12) && !(s.toList == [46]) && !(s.toList == [46, 46]))) := by
        have h := HA.out
        rw [ek, all_whole] at h
        exact nameB_all h
      clear ek
      by_cases h1 : 1 ≤ s.size
      · by_cases h2 : s.size ≤ 12
        · cases h3 : (s.toList == [46])
          · cases h4 : (s.toList == [46, 46])
            · have h3' : (s.toList != [46]) = true := by simp only [bne, h3]; rfl
              have h4' : (s.toList != [46, 46]) = true := by simp only [bne, h4]; rfl
              go_wp2_with fail
              go_ret
              exact ⟨ret_bool (by rw [HE.out, h3, h4, decide_eq_true ⟨h1, h2⟩]; rfl), rfl⟩
            · have h3' : (s.toList != [46]) = true := by simp only [bne, h3]; rfl
              have h4' : (s.toList != [46, 46]) = false := by simp only [bne, h4]; rfl
              go_wp2_with fail
              go_ret
              exact ⟨ret_bool (by rw [HE.out, h4]; simp), rfl⟩
          · have h3' : (s.toList != [46]) = false := by simp only [bne, h3]; rfl
            go_wp2_with fail
            go_ret
            exact ⟨ret_bool (by rw [HE.out, h3]; simp), rfl⟩
        · go_wp2_with fail
          go_ret
          exact ⟨ret_bool (by rw [HE.out, decide_eq_false (fun h => h2 h.2)]; rfl), rfl⟩
      · go_wp2_with fail
        go_ret
        exact ⟨ret_bool (by rw [HE.out, decide_eq_false (fun h => h1 h.1)]; rfl), rfl⟩

end Go.Proofs.YtlaenhohjcjilaaDoor
