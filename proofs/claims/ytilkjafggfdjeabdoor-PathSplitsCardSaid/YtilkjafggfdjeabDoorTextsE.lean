/-
  The contract of the document's SameTexts.
  Conditions: both rows lie in memory.
-/
import Derived.Test.YtilkjafggfdjeabDoorTexts
import Derived.Test.YtilkjafggfdjeabDoorLeafs
import Derived.Deep.DrawnRows
import Derived.Deep.QuietTactic
import Derived.BigQuiet
namespace Go.Proofs.YtilkjafggfdjeabDoor
open Go.RowKit
attribute [local go_sem ↓] Go.wp_at_zero Go.wp_at_succ

/-! ### Lists of texts -/
theorem eqTo_succ {a b : List ByteArray} {k : Nat} {x y : ByteArray} (hx : a[k]? = some x) (hy : b[k]? = some y) : eqTo a b (k + 1) = (eqTo a b k && (x.toList == y.toList)) := by
  unfold eqTo
  rw [List.range_succ, List.all_append]
  simp [hx, hy]
theorem eqTo_mono {a b : List ByteArray} {k n : Nat} (h : k ≤ n) (hf : eqTo a b k = false) : eqTo a b n = false := by
  unfold eqTo at *
  rw [List.all_eq_false] at *
  obtain ⟨j, hj, hp⟩ := hf
  exact ⟨j, List.mem_range.2 (by have := List.mem_range.1 hj; omega), hp⟩

set_option maxHeartbeats 1000000 in
theorem sameTexts_any (va vb : Value) (a b : List ByteArray) (w : World) (ha : Texts w va a) (hb : Texts w vb b) (hla : a.length ≤ 1000000000) :
    Calls Tryd.prog 19 #[va, vb] w fun e w' => e = .returned (.bool (textsEq a b)) ∧ Below w.heap.size w w' := by
  obtain ⟨ada, ca, rfl, ha⟩ := ha
  obtain ⟨adb, cb, rfl, hb⟩ := hb
  have HA : Hid _ := ha
  have HB : Hid _ := hb
  clear ha hb
  by_cases hl : a.length = b.length
  · have hl' : ((a.length : Int) != (b.length : Int)) = false := by simp; omega
    have HE : Hid (textsEq a b = eqTo a b a.length) := show _ = _ by unfold textsEq; rw [decide_eq_true hl]; rfl
    have HLL : Hid _ := hl
    clear hl
    go_enter Tryd.func19, Tryd.ntmps19
    go_wp2_with fail
    clear hl'
    go_loopw [5] (fun i wr => ∃ k m : Nat, k ≤ a.length ∧ i = .int .i64 k ∧ wr = w.drewN m ∧ eqTo a b k = true) (fun i _ => a.length - (intOf i).toNat)
    case atStart => exact ⟨0, 0, Nat.zero_le _, rfl, rfl, rfl⟩
    case round =>
      obtain ⟨k, m, hk, rfl, rfl, hq⟩ := hrel
      have HQ : Hid _ := hq
      clear hq
      by_cases hlt : k < a.length
      · obtain ⟨x, hx⟩ : ∃ x, a[k]? = some x := ⟨a[k], List.getElem?_eq_getElem hlt⟩
        have hltb : k < b.length := by have := HLL.out; omega
        obtain ⟨y, hy⟩ : ∃ y, b[k]? = some y := ⟨b[k], List.getElem?_eq_getElem hltb⟩
        obtain ⟨b1, o1, rfl, c1⟩ := HA.out k x hx
        obtain ⟨b2, o2, rfl, c2⟩ := HB.out k y hy
        have HS : Hid _ := eqTo_succ hx hy
        clear hx hy
        cases hxy : (x.toList == y.toList)
        · have HF : Hid (eqTo a b a.length = false) := eqTo_mono (k := k + 1) (by omega) (by rw [HS.out, hxy]; simp)
          go_wp2_with fail
          go_quiet (fail)
          go_wp2_with fail
          go_ret
          exact ⟨ret_bool (by rw [HE.out, HF.out]), below_drewN (below_drewN (Below.refl _ _) _) _⟩
        · have HT : Hid (eqTo a b (k + 1) = true) := show _ = _ by rw [HS.out, HQ.out, hxy]; rfl
          go_wp2_with fail
          go_quiet (fail)
          go_wp2_with fail
          go_roundw
          case rel => exact ⟨k + 1, _, by omega, by go_num, rfl, HT.out⟩
          case measure => simp [intOf]; omega
      · have HT : Hid (eqTo a b a.length = true) := by
          have e : a.length = k := by omega
          rw [e]; exact HQ.out
        go_wp2_with fail
        go_ret
        exact ⟨ret_bool (by rw [HE.out, HT.out]), below_drewN (Below.refl _ _) _⟩
  · have hl' : ((a.length : Int) != (b.length : Int)) = true := by simp; omega
    have HE : Hid (textsEq a b = false) := show _ = _ by unfold textsEq; rw [decide_eq_false hl]; rfl
    clear hl
    go_enter Tryd.func19, Tryd.ntmps19
    go_wp2_with fail
    go_ret
    exact ⟨ret_bool (by rw [HE.out]), Below.refl _ _⟩
end Go.Proofs.YtilkjafggfdjeabDoor
