/-
  The law 'PathSplits' returns true.
  Conditions: the sentinels hold what the program's text lays; the library's MaxLen holds a number; the texts lie in memory.
-/
import Derived.Test.YtilkjafggfdjeabDoorPathed
import Derived.Test.YtilkjafggfdjeabDoorJoins
import Derived.Test.YtilkjafggfdjeabDoorTextsE
import Derived.Test.YtilkjafggfdjeabDoorPathT
import Derived.Laws.Concat
import Derived.Deep.DeepCutAuto
import Derived.Deep.DeepFit
namespace Go.Proofs.YtilkjafggfdjeabDoor
open Go.RowKit
attribute [local go_sem ↓] Go.wp_at_zero Go.wp_at_succ

/-- What Split hands back, in one form. -/
def SpRes (a : Nat → Addr) (s : ByteArray) (va : Option Addr) (vn vc : Nat) (ev : Value) (w' : World) : Prop :=
  (splitR s = none ∧ va = none ∧ vn = 0 ∧ vc = 0 ∧ ev = .iface 153 (.pointer (some (a 4)))) ∨ ∃ l, splitR s = some l ∧ vn = l.length ∧ ev = .nilIface ∧ Texts w' (.slice va vn vc) l
theorem split_one (a : Nat → Addr) (s : ByteArray) (w : World) (S : PSen a w) (hs : s.size < 4294967281) : Calls Tryd.prog 17 #[.string s] w fun e w' => ∃ va vn vc ev, e = .returned (.tuple #[.slice va vn vc, ev]) ∧ Below w.heap.size w w' ∧ SpRes a s va vn vc ev w' := by
  refine (split_any a s w S hs).mono ?_
  rintro e w' ⟨hb, ⟨h, rfl⟩ | ⟨l, v, h, rfl, hv, _⟩⟩
  · exact ⟨none, 0, 0, _, rfl, hb, .inl ⟨h, rfl, rfl, rfl, rfl⟩⟩
  · obtain ⟨va, vc, rfl⟩ : ∃ va vc, v = .slice va l.length vc := by
      obtain ⟨va, vc, e, _⟩ := hv
      exact ⟨va, vc, e⟩
    exact ⟨va, _, vc, _, rfl, hb, .inr ⟨l, h, rfl, rfl, hv⟩⟩
theorem add_two (x y : ByteArray) (hx : x.size ≤ 1000000) (hy : y.size ≤ 1000000) : ∃ z1 z2, Hid (z2 = x ++ strokeB ++ y) ∧ (∀ w', (Op.stringOp .add x { data := #[47] }).run Tryd.prog w' = .ok (.string z1) w') ∧ ∀ w', (Op.stringOp .add z1 y).run Tryd.prog w' = .ok (.string z2) w' := by
  refine ⟨x ++ strokeB, x ++ strokeB ++ y, rfl, fun w' => run_string_add_sum w' _ _ (show x.size + 1 ≤ _ by omega), fun w' => run_string_add_sum w' _ _ ?_⟩
  rw [ByteArray.size_append]
  show x.size + 1 + y.size ≤ _
  omega
theorem name_size {x : ByteArray} (h : nameB x = true) : x.size ≤ 12 := by
  unfold nameB at h
  simp only [Bool.and_eq_true, decide_eq_true_eq] at h
  exact h.1.1.1.2
theorem splitR_size {s : ByteArray} {l : List ByteArray} (h : splitR s = some l) : ∀ x ∈ l, x.size ≤ 12 := fun x hx => name_size (List.all_eq_true.1 (splitR_names h) x hx)
/-- The law's second list. -/
def wellB (l : List ByteArray) (j : Nat) : Bool := decide (l.length ≤ 8) && (l.take j).all nameB
theorem wellB_succ {l : List ByteArray} {j : Nat} {x : ByteArray} (hx : l[j]? = some x) : wellB l (j + 1) = (wellB l j && nameB x) := by
  unfold wellB
  rw [all_to hx, Bool.and_assoc]
theorem wellB_zero (l : List ByteArray) : decide ((l.length : Int) ≤ 8) = wellB l 0 := by
  unfold wellB
  simp only [List.take_zero, List.all_nil, Bool.and_true]
  by_cases h : l.length ≤ 8
  · rw [decide_eq_true h, decide_eq_true (by omega)]
  · rw [decide_eq_false h, decide_eq_false (by omega)]
theorem textsEq_self (l : List ByteArray) : textsEq l l = true := by
  unfold textsEq eqTo
  simp
theorem ret_bool' {b c : Bool} (h : b = c) : Ending.returned (.bool b) = .returned (.bool c) := by rw [h]

set_option maxRecDepth 100000 in
set_option maxHeartbeats 4000000 in
theorem pathSplits_any (a : Nat → Addr) (s : ByteArray) (v : Value) (l : List ByteArray) (w : World) (S : PSen a w) (hv : Texts w v l) (hs : s.size ≤ maxLen) (hl : l.length ≤ maxLen) (hsz : ∀ x ∈ l, x.size ≤ maxLen) :
    Calls Tryd.prog 5 #[.string s, v] w fun e w' => e = .returned (.bool true) ∧ Below w.heap.size w w' := by
  unfold maxLen at hs hl
  obtain ⟨ad, cap, e0, hcs⟩ := hv
  subst e0
  have HCS : Hid (∀ (w' : World), Below w.heap.size w w' → ∀ (i : Nat) (x : ByteArray), l[i]? = some x → ∃ b off, ad = some ⟨b, off, none⟩ ∧ w'.cell? ⟨b, off + i, none⟩ = some (.string x)) := fun w' h i x hx => by
    obtain ⟨b, off, e, hc⟩ := hcs i x hx
    exact ⟨b, off, e, by rw [h.cell (p := ⟨b, off + i, none⟩) (lt_of_cell hc)]; exact hc⟩
  have HSZ : Hid (∀ x ∈ l, x.size ≤ maxLen) := hsz
  have HPA : Hid _ := pathed_any a w S
  have HS : Hid (∀ w', Below w.heap.size w w' → PSen a w') := fun w' h => S.below h
  clear hcs S hsz
  go_enter Tryd.func5, Tryd.ntmps5
  go_wp2_with fail
  refine Calls.mono HPA.out ?_
  rintro e w1 ⟨rfl, hb1⟩
  have HB1 : Hid (Below w.heap.size w w1) := hb1
  clear hb1 HPA
  by_cases h200 : 200 < s.size
  · have h200' : (200 : Int) < (s.size : Int) := by omega
    go_wp2_with fail
    go_ret
    exact ⟨rfl, HB1.out⟩
  have h200' : (s.size : Int) ≤ 200 := by omega
  by_cases h12 : 12 < l.length
  · have h12' : (12 : Int) < (l.length : Int) := by omega
    go_wp2_with fail
    go_ret
    exact ⟨rfl, HB1.out⟩
  have h12' : (l.length : Int) ≤ 12 := by omega
  have HSP1 : Hid _ := split_one a s w1 (HS.out w1 HB1.out) (by omega)
  go_wp2_with fail
  refine Calls.mono HSP1.out ?_
  clear HSP1
  rintro e w2 ⟨va, vn, vc, ev, rfl, hb2, hres⟩
  have HB2 : Hid (Below w.heap.size w w2) := HB1.out.trans (hb2.mono HB1.out.size)
  have HRES : Hid (SpRes a s va vn vc ev w2) := hres
  clear hb2 hres
  go_upto_region 5 with fail
  go_cut [35] (fun c wx => wx = w2 ∧ ∃ b : Bool, c = .bool b ∧ Hid ((b = false ∧ va = none ∧ vn = 0 ∧ vc = 0) ∨ (b = true ∧ ∃ ls, splitR s = some ls ∧ vn = ls.length ∧ Texts w2 (.slice va vn vc) ls)))
  case first =>
    rcases HRES.out with ⟨h, rfl, rfl, rfl, rfl⟩ | ⟨ls, h, rfl, rfl, ht⟩
    · clear HRES h
      go_wp2_with fail
      go_meet
      case rel => exact ⟨rfl, false, rfl, by show _ ∨ _; left; simp⟩
    · have HT : Hid _ := ht
      have HH : Hid _ := h
      clear HRES h ht
      go_wp2_with fail
      go_meet
      case rel => exact ⟨rfl, true, rfl, .inr ⟨rfl, ls, HH.out, rfl, HT.out⟩⟩
  case rest =>
  obtain ⟨rfl, b, rfl, HRS⟩ := hcut
  clear HRES
  go_upto_if 35 with fail
  go_cut [8] (fun _ wx => wx = wc)
  case first =>
    rcases HRS.out with ⟨rfl, rfl, rfl, rfl⟩ | ⟨rfl, ls, h, rfl, ht⟩
    · clear HRS
      go_wp2_with fail
      go_meet
      case rel => exact rfl
    · have HSJ : Hid _ := split_join h
      have hl8 := splitR_len h
      have HNM : Hid (∀ x ∈ ls, x.size ≤ 12) := splitR_size h
      obtain ⟨ta, tc, e, htx⟩ := ht
      simp only [Value.slice.injEq] at e
      obtain ⟨rfl, _, rfl⟩ := e
      have HTX : Hid _ := htx
      clear HRS h htx
      go_wp2_with fail
      go_loop [8, 9] (fun t i => ∃ j : Nat, j ≤ ls.length ∧ i = .int .i64 j ∧ t = .string (joinB (ls.take j))) (fun _ i => ls.length - (intOf i).toNat)
      case atStart => exact ⟨0, Nat.zero_le _, rfl, rfl⟩
      case round =>
        obtain ⟨j, hj, rfl, rfl⟩ := hrel
        by_cases hlt : j < ls.length
        · obtain ⟨x, hx⟩ : ∃ x, ls[j]? = some x := ⟨ls[j], List.getElem?_eq_getElem hlt⟩
          obtain ⟨tb, tof, rfl, hc⟩ := HTX.out j x hx
          have HJS : Hid _ := joinB_snoc hx
          have hjz : (joinB (ls.take j)).size ≤ 1000000 := by
            have h1 := joinB_size (l := ls.take j) (n := 12) fun y hy => HNM.out y (List.mem_of_mem_take hy)
            rw [List.length_take] at h1
            have h2 : min j ls.length * (12 + 1) ≤ 8 * 13 := Nat.mul_le_mul (by omega) (Nat.le_refl _)
            omega
          obtain ⟨z1, z2, HZ, a1, a2⟩ := add_two (joinB (ls.take j)) x hjz (by have := HNM.out x (List.mem_of_getElem? hx); omega)
          have hj0 : (0 : Int) ≤ (j : Int) := by omega
          have hj1 : (j : Int) < (ls.length : Int) := by omega
          clear hx
          generalize joinB (ls.take j) = tj at *
          go_wp2_with fail
          go_round
          case rel => exact ⟨j + 1, by omega, by go_num, by rw [HZ.out, HJS.out]⟩
          case measure => simp [intOf]; omega
        · have ej : ls.take j = ls := List.take_of_length_le (by omega)
          rw [ej]
          rcases HSJ.out with ⟨h1, h2⟩ | ⟨h1, h2⟩
          · subst h2
            have hst : (s.toList == [47]) = true := by rw [h1, ba_toList]; rfl
            have hjn : joinB [] = { data := #[] } := rfl
            rw [hjn]
            clear HSJ HTX HNM h1 hjn
            go_wp2_with fail
            go_meet
            case rel => exact rfl
          · have hst := stroke_ne h1
            rw [h2]
            have hss : (s.toList == s.toList) = true := by simp
            clear HSJ HTX HNM h1 h2
            go_wp2_with fail
            go_meet
            case rel => exact rfl
  case rest =>
    obtain rfl := hcut
    clear HRS
    go_wp2_with fail
    go_loop [10, 11, 12] (fun t b i => ∃ j : Nat, j ≤ l.length ∧ i = .int .i64 j ∧ t = .string (joinB (l.take j)) ∧ b = .bool (wellB l j) ∧ ∀ x ∈ l.take j, x.size ≤ 30) (fun _ _ i => l.length - (intOf i).toNat)
    case atStart => exact ⟨0, Nat.zero_le _, rfl, rfl, congrArg Value.bool (wellB_zero l), fun x hx => by simp at hx⟩
    case round =>
      obtain ⟨j, hj, rfl, rfl, rfl, h30⟩ := hrel
      have H30 : Hid _ := h30
      have hjz : (joinB (l.take j)).size ≤ 1000000 := by
        have h1 := joinB_size (l := l.take j) (n := 30) h30
        rw [List.length_take] at h1
        have h2 : min j l.length * (30 + 1) ≤ 12 * 31 := Nat.mul_le_mul (by omega) (Nat.le_refl _)
        omega
      clear h30
      by_cases hlt : j < l.length
      · obtain ⟨x, hx⟩ : ∃ x, l[j]? = some x := ⟨l[j], List.getElem?_eq_getElem hlt⟩
        obtain ⟨tb, tof, rfl, hc⟩ := HCS.out wc HB2.out j x hx
        have hj0 : (0 : Int) ≤ (j : Int) := by omega
        have hj1 : (j : Int) < (l.length : Int) := by omega
        by_cases hx30 : 30 < x.size
        · have hx30' : (30 : Int) < (x.size : Int) := by omega
          clear hx
          go_wp2_with fail
          go_ret
          exact ⟨rfl, HB2.out⟩
        · have hx30' : (x.size : Int) ≤ 30 := by omega
          have HJS : Hid _ := joinB_snoc hx
          have HWS : Hid _ := wellB_succ hx
          have HNM : Hid _ := name_any x wc (HSZ.out x (List.mem_of_getElem? hx))
          have HM : Hid (∀ y ∈ l.take (j + 1), y.size ≤ 30) := fun y hy => by
            rw [List.take_succ_eq_append_getElem hlt, (List.getElem?_eq_some_iff.1 hx).2] at hy
            rcases List.mem_append.1 hy with h | h
            · exact H30.out y h
            · simp only [List.mem_singleton] at h
              subst h; omega
          obtain ⟨z1, z2, HZ, a1, a2⟩ := add_two (joinB (l.take j)) x hjz (by omega)
          clear hx hjz
          generalize joinB (l.take j) = tj at *
          cases hwl : wellB l j with
          | false =>
            have HW2 : Hid (wellB l (j + 1) = false) := show _ = _ by rw [HWS.out, hwl]; rfl
            go_wp2_with fail
            go_round
            case rel => exact ⟨j + 1, by omega, by go_num, by rw [HZ.out, HJS.out], by rw [HW2.out], HM.out⟩
            case measure => simp [intOf]; omega
          | true =>
            have HW2 : Hid (wellB l (j + 1) = nameB x) := show _ = _ by rw [HWS.out, hwl]; rfl
            go_wp2_with fail
            refine Calls.mono HNM.out ?_
            rintro e w3 ⟨rfl, rfl⟩
            go_wp2_with fail
            go_round
            case rel => exact ⟨j + 1, by omega, by go_num, by rw [HZ.out, HJS.out], by rw [HW2.out], HM.out⟩
            case measure => simp [intOf]; omega
      · obtain rfl : j = l.length := by omega
        rw [List.take_length] at H30 hjz ⊢
        obtain ⟨t, ht⟩ : ∃ t, t = if l = [] then strokeB else joinB l := ⟨_, rfl⟩
        have HTT : Hid (t = if l = [] then strokeB else joinB l) := ht
        have htz : t.size < 4294967281 := by
          rw [ht]
          split
          · decide
          · omega
        have HSP : Hid _ := split_one a t wc (HS.out wc HB2.out) htz
        clear hj ht htz
        have HLE : Hid ((l = [] → t = strokeB) ∧ (l ≠ [] → t = joinB l)) := ⟨fun h => by rw [HTT.out, if_pos h], fun h => by rw [HTT.out, if_neg h]⟩
        go_upto_if 99 with fail
        go_cut [10] (fun t' wx => wx = wc ∧ t' = .string t)
        case first =>
          by_cases hl0 : l = []
          · have h0 : ((l.length : Int) == 0) = true := by rw [hl0]; rfl
            have HT0 : Hid (t = strokeB) := HLE.out.1 hl0
            clear hl0
            go_wp2_with fail
            go_meet
            case rel => exact ⟨rfl, by rw [HT0.out]; rfl⟩
          · have h0 : ((l.length : Int) == 0) = false := beq_eq_false_iff_ne.2 (fun e => hl0 (List.eq_nil_of_length_eq_zero (by omega)))
            have HT0 : Hid (t = joinB l) := HLE.out.2 hl0
            clear hl0
            go_wp2_with fail
            go_meet
            case rel => exact ⟨rfl, by rw [HT0.out]⟩
        case rest =>
        obtain ⟨rfl, rfl⟩ := hcut
        go_wp2_with fail
        refine Calls.mono HSP.out ?_
        clear HSP
        rintro e w3 ⟨va, vn, vc, ev, rfl, hb3, hres⟩
        have HB3 : Hid (Below w.heap.size w w3) := HB2.out.trans (hb3.mono HB2.out.size)
        have HRES : Hid (SpRes a t va vn vc ev w3) := hres
        have HTL : Hid (Texts w3 (.slice ad l.length cap) l) := ⟨ad, cap, rfl, HCS.out w3 HB3.out⟩
        clear hb3 hres hjz
        go_wp2_with fail
        go_loop [13] (fun i => ∃ j : Nat, j ≤ l.length ∧ i = .int .i64 j ∧ ∀ x ∈ l.take j, NoStroke x) (fun i => l.length - (intOf i).toNat)
        case atStart => exact ⟨0, Nat.zero_le _, rfl, fun x hx => by simp at hx⟩
        case round =>
          obtain ⟨j, hj, rfl, hns⟩ := hrel
          have HNS : Hid _ := hns
          clear hns
          by_cases hlt : j < l.length
          · obtain ⟨x, hx⟩ : ∃ x, l[j]? = some x := ⟨l[j], List.getElem?_eq_getElem hlt⟩
            obtain ⟨tb, tof, rfl, hc⟩ := HCS.out w3 HB3.out j x hx
            have hj0 : (0 : Int) ≤ (j : Int) := by omega
            have hj1 : (j : Int) < (l.length : Int) := by omega
            have HX : Hid _ := hx
            have hx30 : x.size ≤ 30 := H30.out x (List.mem_of_getElem? hx)
            clear hx
            go_wp2_with fail
            go_loop [14] (fun i => ∃ k : Nat, k ≤ x.size ∧ i = .int .i64 k ∧ ∀ c ∈ x.data.toList.take k, c ≠ 47) (fun i => x.size - (intOf i).toNat)
            case atStart => exact ⟨0, Nat.zero_le _, rfl, fun c hc => by simp at hc⟩
            case round =>
              obtain ⟨k, hk, rfl, hno⟩ := hrel
              have HNO : Hid _ := hno
              clear hno
              by_cases hkl : k < x.size
              · have hk0 : (0 : Int) ≤ (k : Int) := by omega
                have hk1 : (k : Int) < (x.size : Int) := by omega
                by_cases h47 : x[k] = 47
                · have hc47 : ((x[k].toNat : Int) == 47) = true := by rw [h47]; rfl
                  clear h47
                  go_wp2_with fail
                  go_ret
                  exact ⟨rfl, HB3.out⟩
                · have hc47 : ((x[k].toNat : Int) == 47) = false := by
                    rw [beq_eq_false_iff_ne]
                    intro e
                    apply h47
                    apply UInt8.toNat_inj.1
                    show x[k].toNat = 47
                    omega
                  have HN2 : Hid (∀ c ∈ x.data.toList.take (k + 1), c ≠ 47) := fun c hcm => by
                    rw [take_snoc x k hkl] at hcm
                    rcases List.mem_append.1 hcm with h | h
                    · exact HNO.out c h
                    · simp only [List.mem_singleton] at h
                      subst h; exact h47
                  clear h47
                  go_wp2_with fail
                  go_round
                  case rel => exact ⟨k + 1, by omega, by go_num, HN2.out⟩
                  case measure => simp [intOf]; omega
              · have HNX : Hid (∀ y ∈ l.take (j + 1), NoStroke y) := fun y hy => by
                  rw [List.take_succ_eq_append_getElem hlt, (List.getElem?_eq_some_iff.1 HX.out).2] at hy
                  rcases List.mem_append.1 hy with h | h
                  · exact HNS.out y h
                  · simp only [List.mem_singleton] at h
                    subst h
                    have h2 := HNO.out
                    rw [List.take_of_length_le (by simp; omega)] at h2
                    exact h2
                go_wp2_with fail
                go_round
                case rel => exact ⟨j + 1, by omega, by go_num, HNX.out⟩
                case measure => simp [intOf]; omega
          · have HNA : Hid (∀ x ∈ l, NoStroke x) := by
              have h := HNS.out
              rw [List.take_of_length_le (by omega)] at h
              exact h
            have HWL : Hid (wellB l l.length = (decide (l.length ≤ 8) && l.all nameB)) := show _ = _ by unfold wellB; rw [List.take_length]
            have HF : Hid (l ≠ [ByteArray.empty] → (wellB l l.length = true ∧ splitR t = some l) ∨ (wellB l l.length = false ∧ splitR t = none)) := fun hne => by
              cases hl : l with
              | nil =>
                left
                refine ⟨by rfl, ?_⟩
                rw [HLE.out.1 hl, splitR_one]
              | cons x r =>
                have ht : t = joinB (x :: r) := by rw [← hl]; exact HLE.out.2 (by rw [hl]; simp)
                have hs := join_split (x := x) (l := r) (by rw [← hl]; exact HNA.out) (fun h => hne (by rw [hl, h.1, h.2]))
                have hw := HWL.out
                rw [hl] at hw
                rw [ht, hs, ← hw]
                cases hb : wellB (x :: r) (x :: r).length
                · right; exact ⟨rfl, rfl⟩
                · left; exact ⟨rfl, rfl⟩
            by_cases hl1 : l.length = 1
            · obtain ⟨x, hx⟩ : ∃ x, l = [x] := by
                cases hl : l with
                | nil => rw [hl] at hl1; cases hl1
                | cons x r =>
                  rw [hl] at hl1
                  simp at hl1
                  exact ⟨x, by rw [hl1]⟩
              obtain ⟨tb, tof, rfl, hc⟩ := HCS.out w3 HB3.out 0 x (by rw [hx]; rfl)
              rw [Nat.add_zero] at hc
              have hl1' : ((l.length : Int) == 1) = true := by rw [hl1]; rfl
              have hl0 : (0 : Int) < (l.length : Int) := by omega
              by_cases hx0 : x = ByteArray.empty
              · have hxe : (x.toList == []) = true := by rw [hx0, ba_toList]; rfl
                have ht : t = strokeB := by rw [HLE.out.2 (by rw [hx]; simp), hx, hx0]; rfl
                rcases HRES.out with ⟨h, _⟩ | ⟨ls, h, rfl, rfl, _⟩
                · rw [ht, splitR_one] at h; cases h
                · rw [ht, splitR_one] at h
                  obtain rfl := Option.some.inj h
                  clear HF HRES h ht hx hx0 hl1 HLE HTT HWL
                  go_wp2_with fail
                  go_ret
                  exact ⟨ret_bool' (by simp), HB3.out⟩
              · have hxe : (x.toList == []) = false := by
                  rw [beq_eq_false_iff_ne]
                  intro e
                  apply hx0
                  apply ba_ext
                  rw [e, ba_toList]
                  rfl
                have HF : Hid _ := HF.out (by rw [hx]; intro e; injection e with e; exact hx0 e)
                clear hx hx0 hl1 HLE HTT HWL
                rcases HF.out with ⟨hw, hsp⟩ | ⟨hw, hsp⟩
                · rcases HRES.out with ⟨h, _⟩ | ⟨ls, h, rfl, rfl, htx⟩
                  · rw [hsp] at h; cases h
                  · rw [hsp] at h
                    obtain rfl := Option.some.inj h
                    have HST : Hid _ := sameTexts_any _ _ l l w3 htx HTL.out (by omega)
                    have HTE : Hid _ := textsEq_self l
                    clear HF HRES h hsp htx
                    go_wp2_with fail
                    refine Calls.mono HST.out ?_
                    rintro e w4 ⟨rfl, hb4⟩
                    have HB4 : Hid (Below w.heap.size w w4) := HB3.out.trans (hb4.mono HB3.out.size)
                    clear hb4 HST
                    rw [HTE.out]
                    go_wp2_with fail
                    go_ret
                    exact ⟨ret_bool' (by simp), HB4.out⟩
                · rcases HRES.out with ⟨h, rfl, rfl, rfl, rfl⟩ | ⟨ls, h, _⟩
                  · clear HF HRES h hsp
                    go_wp2_with fail
                    go_ret
                    exact ⟨ret_bool' (by simp), HB3.out⟩
                  · rw [hsp] at h; cases h
            · have hl1' : ((l.length : Int) == 1) = false := beq_eq_false_iff_ne.2 (by omega)
              have HF : Hid _ := HF.out (fun e => hl1 (by rw [e]; rfl))
              clear HLE HTT HWL
              rcases HF.out with ⟨hw, hsp⟩ | ⟨hw, hsp⟩
              · rcases HRES.out with ⟨h, _⟩ | ⟨ls, h, rfl, rfl, htx⟩
                · rw [hsp] at h; cases h
                · rw [hsp] at h
                  obtain rfl := Option.some.inj h
                  have HST : Hid _ := sameTexts_any _ _ l l w3 htx HTL.out (by omega)
                  have HTE : Hid _ := textsEq_self l
                  clear HF HRES h hsp htx
                  go_wp2_with fail
                  refine Calls.mono HST.out ?_
                  rintro e w4 ⟨rfl, hb4⟩
                  have HB4 : Hid (Below w.heap.size w w4) := HB3.out.trans (hb4.mono HB3.out.size)
                  clear hb4 HST
                  rw [HTE.out]
                  go_wp2_with fail
                  go_ret
                  exact ⟨ret_bool' (by simp), HB4.out⟩
              · rcases HRES.out with ⟨h, rfl, rfl, rfl, rfl⟩ | ⟨ls, h, _⟩
                · clear HF HRES h hsp
                  go_wp2_with fail
                  go_ret
                  exact ⟨ret_bool' (by simp), HB3.out⟩
                · rw [hsp] at h; cases h
end Go.Proofs.YtilkjafggfdjeabDoor
