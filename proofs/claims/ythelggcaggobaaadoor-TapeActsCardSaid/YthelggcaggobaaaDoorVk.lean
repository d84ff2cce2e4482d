/-
  The document's ReadTape.
  Conditions: the bytes are at most 250000.
-/
import Derived.Test.YthelggcaggobaaaDoorVj
namespace Go.Proofs.YthelggcaggobaaaDoor
open Go.RowKit
attribute [local go_sem ↓] Go.wp_at_zero Go.wp_at_succ

theorem drop_atV (s : ByteArray) {k : Nat} (h : k < s.size) : s.data.toList.drop k = s[k] :: s.data.toList.drop (k + 1) := by
  rw [List.drop_eq_getElem_cons (by simpa using h)]
  rfl
theorem part_listV (s : ByteArray) (j k : Nat) : (s.extract j k).data.toList = (s.data.toList.take k).drop j := by
  rw [ByteArray.data_extract, Array.toList_extract, List.extract_eq_take_drop, ← List.drop_take]
/-- No colon from here to there. -/
def NoC (l : List UInt8) (d k : Nat) : Prop := ∀ c ∈ (l.take k).drop d, (c != 58) = true
theorem noC_start (l : List UInt8) (d : Nat) : NoC l d d := fun c hc => by
  rw [List.drop_eq_nil_of_le (by rw [List.length_take]; omega)] at hc
  cases hc
theorem noC_next {s : ByteArray} {d k : Nat} (h : NoC s.data.toList d k) (hd : d ≤ k) (hk : k < s.size) (hc : (s[k] != 58) = true) : NoC s.data.toList d (k + 1) := fun c hm => by
  rw [take_snoc s k hk, List.drop_append_of_le_length (by simp; omega), List.mem_append, List.mem_singleton] at hm
  rcases hm with hm | rfl
  · exact h c hm
  · exact hc
theorem noC_end {s : ByteArray} {d : Nat} (h : NoC s.data.toList d s.size) : firstT (s.data.toList.drop d) = none := by
  have e : s.data.toList.take s.size = s.data.toList := List.take_of_length_le (by simp)
  unfold NoC at h
  rw [e] at h
  unfold firstT
  rw [num_all h, List.drop_length]
theorem noC_colon {s : ByteArray} {d k : Nat} (h : NoC s.data.toList d k) (hd : d ≤ k) (hk : k < s.size) (hc : s[k] = 58) :
    firstT (s.data.toList.drop d) = match cntR (s.extract d k).data.toList with
      | none => none
      | some n => if List.isPrefixOf [10, 46] (s.data.toList.drop (k + 1 + n)) = true then some ((s.data.toList.drop (k + 1)).take n, s.data.toList.drop (k + 3 + n)) else none := by
  have e : s.data.toList.drop d = (s.data.toList.take k).drop d ++ 58 :: s.data.toList.drop (k + 1) := by
    conv => lhs; rw [← List.take_append_drop k s.data.toList]
    rw [List.drop_append_of_le_length (by simp; omega), drop_atV s hk, hc]
  have hn : numP (s.data.toList.drop d) = (s.data.toList.take k).drop d := by rw [e]; exact num_cons h
  unfold firstT
  rw [hn, part_listV]
  conv => lhs; rw [show List.drop (List.drop d (List.take k s.data.toList)).length (List.drop d s.data.toList) = 58 :: s.data.toList.drop (k + 1) by rw [e, List.drop_left]]
  simp only
  cases cntR ((s.data.toList.take k).drop d) with
  | none => rfl
  | some n =>
    simp only
    rw [List.drop_drop, List.drop_drop, show k + 1 + (n + 2) = k + 3 + n by omega]
theorem pre_two {s : ByteArray} {j : Nat} (h : j + 1 < s.size) : List.isPrefixOf [10, 46] (s.data.toList.drop j) = (decide (s[j] = 10) && decide (s[j + 1] = 46)) := by
  rw [drop_atV s (by omega), drop_atV s h]
  simp only [List.isPrefixOf, Bool.and_true]
  congr 1
  · rw [Bool.eq_iff_iff, beq_iff_eq, decide_eq_true_eq, eq_comm]
  · rw [Bool.eq_iff_iff, beq_iff_eq, decide_eq_true_eq, eq_comm]
theorem num9_le (s : ByteArray) : numV9 s.data.toList ≤ 10000000000 := by
  have hl : s.data.toList.length = s.size := by simp
  unfold numV9
  split
  · rename_i hh
    rw [Bool.and_eq_true] at hh
    have h9 : s.size ≤ 9 := by
      have h1 := hh.1
      unfold ok9 at h1
      rw [Bool.and_eq_true, decide_eq_true_eq, hl] at h1
      exact h1.1.2
    have e : s.data.toList.take s.size = s.data.toList := List.take_of_length_le (by omega)
    have h2 := val_lt9 s.size s (Nat.le_refl _) (by rw [e]; exact hh.2)
    rw [e] at h2
    have h3 : (10 : Nat) ^ s.size ≤ 10 ^ 9 := Nat.pow_le_pow_right (by omega) h9
    omega
  · omega
theorem pre_short {s : ByteArray} {j : Nat} (h : ¬ j + 1 < s.size) : List.isPrefixOf [10, 46] (s.data.toList.drop j) = false := by
  cases hb : List.isPrefixOf [10, 46] (s.data.toList.drop j) with
  | false => rfl
  | true =>
    obtain ⟨x, hx⟩ := List.isPrefixOf_iff_prefix.1 hb
    have := congrArg List.length hx
    rw [List.length_drop, List.length_append] at this
    simp only [List.length_cons, List.length_nil, Array.length_toList] at this
    have h2 : s.data.size = s.size := rfl
    omega
theorem byte_iff (c : UInt8) (n : Nat) (hn : n < 256) : c = UInt8.ofNat n ↔ (c.toNat : Int) = (n : Int) := by
  constructor
  · rintro rfl; rw [UInt8.toNat_ofNat']; omega
  · intro h
    apply UInt8.toNat_inj.1
    rw [UInt8.toNat_ofNat']
    omega
theorem byte_no {c : UInt8} {n : Nat} (hn : n < 256) (h : c ≠ UInt8.ofNat n) : ((c.toNat : Int) == (n : Int)) = false := by
  rw [beq_eq_false_iff_ne]
  exact fun e => h ((byte_iff c n hn).2 e)
theorem byte_yes {c : UInt8} {n : Nat} (hn : n < 256) (h : c = UInt8.ofNat n) : ((c.toNat : Int) == (n : Int)) = true := by
  rw [beq_iff_eq]
  exact (byte_iff c n hn).1 h
set_option maxRecDepth 100000 in
set_option maxHeartbeats 4000000 in
theorem readTape_any (b : ByteArray) (w : World) (hb : b.size ≤ 250000) :
    Calls Tryd.prog 20 #[.string b] w fun e w' => (∃ va vc, e = .returned (.tuple #[.slice va (readA b.data.toList).1.length vc, .int .i64 (readN b.data.toList : Int)]) ∧ OwnS w' w.heap.size (.slice va (readA b.data.toList).1.length vc) (readA b.data.toList).1) ∧ Below w.heap.size w w' := by
  have hbl : b.data.toList.length = b.size := by simp
  go_enter Tryd.func20, Tryd.ntmps20
  go_wp2_with fail
  go_loopw [4, 5] (fun o r wr => ∃ (xs : List ByteArray) (dn : Nat) (va : Option Addr) (vc : Nat), o = .slice va xs.length vc ∧ r = .int .i64 (dn : Int) ∧ 3 * xs.length ≤ dn ∧ dn ≤ b.size ∧ Hid (OwnS wr w.heap.size (.slice va xs.length vc) xs ∧ readA b.data.toList = (xs ++ (readA (b.data.toList.drop dn)).1, (readA (b.data.toList.drop dn)).2) ∧ Below w.heap.size w wr)) (fun _ r _ => b.size - (intOf r).toNat)
  case atStart => exact ⟨[], 0, none, 0, rfl, rfl, by simp, Nat.zero_le _, OwnS.nil _ _, by simp, Below.refl _ _⟩
  case round =>
    obtain ⟨xs, dn, va, vc, rfl, rfl, hx4, hdn, HI⟩ := hrel
    have HEND : Hid (firstT (b.data.toList.drop dn) = none → (readA b.data.toList).1 = xs ∧ (readN b.data.toList : Int) = (dn : Int)) := fun hf => by
      have e := readA_none hf
      have h2 := HI.out.2.1
      rw [e, List.append_nil] at h2
      refine ⟨by rw [h2], ?_⟩
      unfold readN
      rw [h2, hbl]
      simp only
      rw [List.length_drop, hbl]
      omega
    have HO : Hid (OwnS wr w.heap.size (.slice va xs.length vc) xs) := HI.out.1
    have HBW : Hid (Below w.heap.size w wr) := HI.out.2.2
    have HRD : Hid (readA b.data.toList = (xs ++ (readA (b.data.toList.drop dn)).1, (readA (b.data.toList.drop dn)).2)) := HI.out.2.1
    clear HI
    have hdn0 : (0 : Int) ≤ (dn : Int) := by omega
    go_wp2_with fail
    go_loop [6] (fun i => ∃ k : Nat, dn ≤ k ∧ k ≤ b.size ∧ i = .int .i64 (k : Int) ∧ Hid (NoC b.data.toList dn k)) (fun i => b.size - (intOf i).toNat)
    case atStart => exact ⟨dn, Nat.le_refl _, hdn, rfl, noC_start _ _⟩
    case round =>
      obtain ⟨k, hk1, hk2, rfl, HN⟩ := hrel
      have hk0 : (0 : Int) ≤ (k : Int) := by omega
      by_cases hlt : k < b.size
      · have hlt' : (k : Int) < (b.size : Int) := by omega
        have hne' : ((k : Int) == (b.size : Int)) = false := by rw [beq_eq_false_iff_ne]; omega
        by_cases hc : b[k] = 58
        · have hc' : ((b[k].toNat : Int) == 58) = true := byte_yes (n := 58) (by omega) hc
          have HF : Hid _ := noC_colon HN.out hk1 hlt hc
          have HNU : Hid _ := numberOf9_any (b.extract dn k) wr (by rw [ByteArray.size_extract]; omega)
          have hkd : (dn : Int) ≤ (k : Int) := by omega
          have hkb : (k : Int) ≤ (b.size : Int) := by omega
          rw [cnt_num] at HF
          have hvb := num9_le (b.extract dn k)
          generalize numV9 (b.extract dn k).data.toList = v at HF HNU hvb
          clear HN hc
          go_wp2_with fail
          refine Calls.mono HNU.out ?_
          rintro e w1 ⟨rfl, rfl⟩
          clear HNU
          by_cases hv0 : v < 0
          · have HE : Hid _ := HEND.out (by rw [HF.out, if_neg (by omega)])
            clear HF
            go_wp2_with fail
            go_ret2
            exact ⟨⟨va, vc, by rw [HE.out.1, HE.out.2]; rfl, by rw [HE.out.1]; exact HO.out⟩, HBW.out⟩
          have hv0' : 0 ≤ v := by omega
          by_cases hv1 : 20000 < v
          · have HE : Hid _ := HEND.out (by rw [HF.out, if_neg (by omega)])
            clear HF
            go_wp2_with fail
            go_ret2
            exact ⟨⟨va, vc, by rw [HE.out.1, HE.out.2]; rfl, by rw [HE.out.1]; exact HO.out⟩, HBW.out⟩
          have hv1' : v ≤ 20000 := by omega
          obtain ⟨n, rfl⟩ : ∃ n : Nat, v = (n : Int) := ⟨v.toNat, by omega⟩
          rw [if_pos ⟨hv0', hv1'⟩] at HF
          simp only [Int.toNat_natCast] at HF
          by_cases hsh : (b.size : Int) - (k : Int) - 1 < (n : Int) + 2
          · have HE : Hid _ := HEND.out (by rw [HF.out, pre_short (by omega), if_neg (by decide)])
            clear HF
            go_wp2_with fail
            go_ret2
            exact ⟨⟨va, vc, by rw [HE.out.1, HE.out.2]; rfl, by rw [HE.out.1]; exact HO.out⟩, HBW.out⟩
          have hj1 : k + 1 + n + 1 < b.size := by omega
          have hj0 : k + 1 + n < b.size := by omega
          rw [pre_two hj1] at HF
          have HT : Hid ((b.data.toList.drop (k + 1)).take n = (b.extract (k + 1) (k + 1 + n)).data.toList) := by
            show _ = _
            rw [part_listV, List.drop_take]
            congr 1
            omega
          have i1 : (0 : Int) ≤ (k : Int) + 1 := by omega
          have i2 : (k : Int) + 1 ≤ (k : Int) + 1 + (n : Int) := by omega
          have i3 : (k : Int) + 1 + (n : Int) ≤ (b.size : Int) := by omega
          have hj2 : k + 2 + n < b.size := by omega
          have HJ : Hid (b[k + 1 + n + 1] = b[k + 2 + n]) := by
            show _ = _
            simp only [show k + 1 + n + 1 = k + 2 + n by omega]
          rw [HJ.out] at HF
          clear HJ
          by_cases h10 : b[k + 1 + n] = 10
          · have h10' : (b[k + 1 + n].toNat : Int) = 10 := (byte_iff _ 10 (by omega)).1 h10
            by_cases h46 : b[k + 2 + n] = 46
            · have h46' : (b[k + 2 + n].toNat : Int) = 46 := (byte_iff _ 46 (by omega)).1 h46
              rw [decide_eq_true h10, decide_eq_true h46, Bool.true_and, if_pos rfl, HT.out] at HF
              have HR2 : Hid (readA b.data.toList = ((xs ++ [b.extract (k + 1) (k + 1 + n)]) ++ (readA (b.data.toList.drop (k + 3 + n))).1, (readA (b.data.toList.drop (k + 3 + n))).2)) := by show _ = _; rw [HRD.out, readA_some HF.out, List.append_assoc]; rfl
              have hlx : xs.length + 1 ≤ 100000 := by omega
              have HS1 : Hid (w.heap.size ≤ w1.heap.size) := HBW.out.size
              clear HF h10 h46 HEND HRD HT
              go_wp2_with (at_builtin; go_must (refine wpList_app1 w1 (by rfl) _ _ (by rfl) w.heap.size (.slice va xs.length vc) xs (b.extract (k + 1) (k + 1 + n)) (by rfl) (by rfl) HO.out hlx HS1.out ?_; intro va2 vc2 w3 h3 g3; (have H3 : Hid (OwnS w3 w.heap.size (.slice va2 (xs.length + 1) vc2) (xs ++ [b.extract (k + 1) (k + 1 + n)])) := h3); (have G3 : Hid (Below w.heap.size w w3) := HBW.out.grown g3 HS1.out (fun j e => (HO.out.block e).1)); clear h3 g3))
              go_roundw
              case rel => exact ⟨xs ++ [b.extract (k + 1) (k + 1 + n)], k + 3 + n, va2, vc2, by rw [List.length_append]; rfl, by go_num, by rw [List.length_append]; simp only [List.length_cons, List.length_nil]; omega, by omega, by rw [List.length_append]; exact H3.out, HR2.out, G3.out⟩
              case measure => simp [intOf]; omega
            · have h46' : ¬ (b[k + 2 + n].toNat : Int) = 46 := fun e => h46 ((byte_iff _ 46 (by omega)).2 e)
              have HE : Hid _ := HEND.out (by rw [HF.out, decide_eq_false h46, Bool.and_false, if_neg (by decide)])
              clear HF h46 h10
              go_wp2_with fail
              go_ret2
              exact ⟨⟨va, vc, by rw [HE.out.1, HE.out.2]; rfl, by rw [HE.out.1]; exact HO.out⟩, HBW.out⟩
          · have h10' : ((b[k + 1 + n].toNat : Int) == 10) = false := byte_no (n := 10) (by omega) h10
            have HE : Hid _ := HEND.out (by rw [HF.out, decide_eq_false h10, Bool.false_and, if_neg (by decide)])
            clear HF h10
            go_wp2_with fail
            go_ret2
            exact ⟨⟨va, vc, by rw [HE.out.1, HE.out.2]; rfl, by rw [HE.out.1]; exact HO.out⟩, HBW.out⟩
        · have hc' : ((b[k].toNat : Int) == 58) = false := byte_no (n := 58) (by omega) hc
          have HN2 : Hid _ := noC_next HN.out hk1 hlt (by rw [bne_iff_ne]; exact hc)
          clear HN hc
          go_wp2_with fail
          go_round
          case rel => exact ⟨k + 1, by omega, by omega, by go_num, HN2⟩
          case measure => simp [intOf]; omega
      · have hlt' : ¬ (k : Int) < (b.size : Int) := by omega
        obtain rfl : k = b.size := by omega
        have HE : Hid _ := HEND.out (noC_end HN.out)
        clear HN
        go_wp2_with fail
        go_ret2
        exact ⟨⟨va, vc, by rw [HE.out.1, HE.out.2]; rfl, by rw [HE.out.1]; exact HO.out⟩, HBW.out⟩
end Go.Proofs.YthelggcaggobaaaDoor
