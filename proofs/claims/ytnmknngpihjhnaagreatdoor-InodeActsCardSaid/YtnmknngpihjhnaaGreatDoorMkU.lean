/-
  The contracts of the document's Byte and turned.
  Conditions: none.
-/
import Derived.Test.YtnmknngpihjhnaaGreatDoorMkS
import Derived.Laws.IdiomStrings
namespace Go.Proofs.YtnmknngpihjhnaaGreatDoor
open Go.RowKit

set_option maxRecDepth 100000 in
set_option maxHeartbeats 1000000 in
theorem byte_any (c : Nat) (hc : c < 256) (w : World) : Calls Tryz.prog 69 #[.int .i64 (c : Int)] w fun e w' => e = .returned (.string ⟨#[UInt8.ofNat c]⟩) ∧ Below w.heap.size w w' := by
  have HCV : (convert 112 9 (.slice (some ⟨w.heap.size, 0, none⟩) 1 1)).run Tryz.prog (w.alloc (.cells #[.int .u8 (c : Int)] 5)) = .ok (.string ⟨#[UInt8.ofNat c]⟩) (w.alloc (.cells #[.int .u8 (c : Int)] 5)) := by
    have h := run_convert_bytes_back (P := Tryz.prog) (w.alloc (.cells #[.int .u8 (c : Int)] 5)) 112 9 5 ⟨w.heap.size, 0, none⟩ 1 [UInt8.ofNat c] Tryz.underlying112 Tryz.underlying5 Tryz.underlying9 (fun j hj => by
      obtain rfl : j = 0 := by simpa using hj
      rw [Addr.add_mid, cell_of_row _ _ _ _ _ _ (heap_alloc_last w _)]
      simp; omega)
    exact h
  have hm : IntKind.u8.wrap (c : Int) = (c : Int) := by simp [IntKind.wrap, IntKind.bits, IntKind.signed]; omega
  have hm2 : (c : Int) % 256 = (c : Int) := by omega
  go_enter Tryz.func69, Tryz.ntmps69
  go_wp2_with fail
  go_ret
  exact ⟨rfl, (Below.refl _ _).alloc (Nat.le_refl _) _⟩

theorem xor_pow_all : ((List.range 256).all fun x => (List.range 8).all fun t => (x ^^^ 2 ^ t) == (if x / 2 ^ t % 2 = 1 then x - 2 ^ t else x + 2 ^ t)) = true := by kernel_rfl
theorem xor_pow {x t : Nat} (hx : x < 256) (ht : t < 8) : x ^^^ 2 ^ t = if x / 2 ^ t % 2 = 1 then x - 2 ^ t else x + 2 ^ t := by
  have h := List.all_eq_true.1 (List.all_eq_true.1 xor_pow_all x (List.mem_range.2 hx)) t (List.mem_range.2 ht)
  simpa using h
theorem turnB_nat (x : UInt8) (bit : Nat) : (turnB x bit).toNat = if x.toNat / 2 ^ (bit % 8) % 2 = 1 then x.toNat - 2 ^ (bit % 8) else x.toNat + 2 ^ (bit % 8) := by
  have ht : bit % 8 < 8 := Nat.mod_lt _ (by decide)
  have hb2 : (2 : Nat) ^ (bit % 8) < 256 := Nat.pow_lt_pow_right (by decide) ht
  rw [← xor_pow x.toNat_lt ht, turnB, UInt8.toNat_xor, UInt8.toNat_ofNat', Nat.mod_eq_of_lt hb2]
theorem w64_small (z : Nat) (h : z < 256) : wrap64 (z : Int) = (z : Int) := by
  simp [wrap64]; omega
theorem odd_yes (z : Nat) (h : z % 2 = 1) : (((z : Nat) : Int).tmod 2 == 1) = true := by
  rw [Int.tmod_eq_emod_of_nonneg (by omega)]
  have : (z : Int) % 2 = 1 := by omega
  rw [this]; rfl
theorem odd_no (z : Nat) (h : ¬ z % 2 = 1) : (((z : Nat) : Int).tmod 2 == 1) = false := by
  rw [Int.tmod_eq_emod_of_nonneg (by omega)]
  exact beq_eq_false_iff_ne.2 (by omega)
/-- A text with a bit turned, as far as its first k bytes. -/
def outT (l : List UInt8) (bit k : Nat) : ByteArray := ⟨((turnL l bit).take k).toArray⟩
theorem outT_next {l : List UInt8} {bit k : Nat} {x : UInt8} (h : (turnL l bit)[k]? = some x) : outT l bit (k + 1) = outT l bit k ++ ⟨#[x]⟩ := by
  obtain ⟨hk, e⟩ := List.getElem?_eq_some_iff.1 h
  apply ByteArray.ext
  rw [ByteArray.data_append]
  show ((turnL l bit).take (k + 1)).toArray = ((turnL l bit).take k).toArray ++ #[x]
  rw [List.take_succ_eq_append_getElem hk, e]
  simp

set_option maxRecDepth 100000 in
set_option maxHeartbeats 1000000 in
theorem turned_any (l : List UInt8) (bit : Nat) (hl : l.length = 16) (hbit : bit < 128) (w : World) : Calls Tryz.prog 49 #[.string (sB l), .int .i64 (bit : Int)] w fun e w' => e = .returned (.string (sB (turnL l bit))) ∧ Below w.heap.size w w' := by
  obtain ⟨s, HS⟩ : ∃ s, Hid (s = sB l) := ⟨_, (rfl : sB l = _)⟩
  rw [← HS.out]
  have hsz : s.size = 16 := by rw [HS.out]; show l.toArray.size = 16; simpa using hl
  have HG : Hid (∀ k (h : k < s.size), l[k]? = some s[k]) := fun k h => by
    have hk : k < l.length := by omega
    rw [List.getElem?_eq_getElem hk]
    congr 1
    subst_vars
    rfl
  go_enter Tryz.func49, Tryz.ntmps49
  go_wp2_with fail
  go_loopw [5, 6] (fun p i wr => ∃ (k : Nat) (o : ByteArray), k ≤ 16 ∧ i = .int .i64 k ∧ p = .string o ∧ Hid (o = outT l bit k) ∧ Below w.heap.size w wr) (fun _ i _ => 16 - (intOf i).toNat)
  case atStart => exact ⟨0, _, Nat.zero_le _, rfl, rfl, rfl, Below.refl _ _⟩
  case round =>
    obtain ⟨k, o, hk, rfl, rfl, HO, hB⟩ := hrel
    have HB : Hid _ := hB
    have hos : o.size ≤ 16 := by
      rw [HO.out]
      show ((turnL l bit).take k).toArray.size ≤ 16
      simp; omega
    by_cases hk16 : k < 16
    · have hks : k < s.size := by omega
      have hu := s[k].toNat_lt
      have HGk := HG.out k hks
      by_cases hkb : k = bit / 8
      · have hb : ((k : Int) == (bit : Int) / 8) = true := by rw [hkb]; simp
        clear hB
        have ht8 : bit % 8 < 8 := Nat.mod_lt _ (by decide)
        have HT : Hid ((turnL l bit)[k]? = some (turnB s[k] bit)) := by
          show _ = _
          unfold turnL
          rw [← hkb, List.getElem?_set_self (by omega), HGk]; rfl
        have HKB : Hid (k = bit / 8) := hkb
        obtain ⟨W0, hW0⟩ : ∃ W0, W0 = wr := ⟨_, rfl⟩
        subst hW0
        clear HGk hkb
        go_wp2_with fail
        go_loopw [8, 9] (fun p i wr => ∃ (t y : Nat), t ≤ bit % 8 ∧ i = .int .i64 t ∧ p = .int .i64 (y : Int) ∧ Hid (y = 2 ^ t) ∧ wr = W0) (fun _ i _ => bit % 8 - (intOf i).toNat)
        case atStart => exact ⟨0, 1, Nat.zero_le _, rfl, rfl, rfl, rfl⟩
        case round =>
          obtain ⟨t, y, ht, rfl, rfl, HY, hwr⟩ := hrel
          subst hwr
          have hy : y ≤ 128 := by rw [HY.out]; exact Nat.pow_le_pow_right (by decide) (by omega : t ≤ 7)
          have hy0 : 0 < y := by rw [HY.out]; exact Nat.pow_pos (by decide)
          by_cases htl : t < bit % 8
          · have htl' : (t : Int) < (bit : Int) % 8 := by omega
            go_wp2_with fail
            exact ⟨⟨t + 1, 2 * y, by omega, by simp, by simp, (by show _ = _; rw [HY.out, Nat.pow_succ, Nat.mul_comm]), (by first | rfl | trivial)⟩, by simp [intOf]; omega⟩
          · obtain rfl : t = bit % 8 := by omega
            have htl' : ¬ (((bit % 8 : Nat) : Int) < (bit : Int) % 8) := by omega
            have hTN := turnB_nat s[k] bit
            rw [← HY.out] at hTN
            have hdc : Hid (((s[k].toNat / y : Nat) : Int) = (s[k].toNat : Int) / (y : Int)) := by show _ = _; push_cast; rfl
            have hdl := Nat.div_le_self s[k].toNat y
            have hw64 : wrap64 ((s[k].toNat : Int) / (y : Int)) = ((s[k].toNat / y : Nat) : Int) := by
              rw [← hdc.out]
              exact w64_small _ (Nat.lt_of_le_of_lt hdl hu)
            by_cases hodd : s[k].toNat / y % 2 = 1
            · rw [if_pos hodd] at hTN
              have hge : y ≤ s[k].toNat := by
                rcases Nat.lt_or_ge s[k].toNat y with h | h
                · rw [Nat.div_eq_of_lt h] at hodd; cases hodd
                · exact h
              have hb2 : ((wrap64 ((s[k].toNat : Int) / (y : Int))).tmod 2 == 1) = true := by
                rw [hw64]; exact odd_yes _ hodd
              have HC := byte_any (s[k].toNat - y) (Nat.lt_of_le_of_lt (Nat.sub_le _ _) hu)
              have hsub : ((s[k].toNat - y : Nat) : Int) = (s[k].toNat : Int) - (y : Int) := Int.ofNat_sub hge
              rw [hsub] at HC
              have HNX : Hid (UInt8.ofNat (s[k].toNat - y) = turnB s[k] bit) := by show _ = _; rw [← hTN]; simp
              rw [HNX.out] at HC
              have HCC : Hid (∀ (w : World), Calls Tryz.prog 69 #[.int .i64 ((s[k].toNat : Int) - (y : Int))] w fun e w' => e = .returned (.string ⟨#[turnB s[k] bit]⟩) ∧ Below w.heap.size w w') := HC
              clear HC hsub hTN hw64 hodd hdl
              go_wp2_with (go_at_call 69; refine (HCC.out _).mono ?_; rintro e w2 ⟨rfl, hbb⟩)
              exact ⟨⟨k + 1, _, by omega, by simp, rfl, (by show _ = _; rw [outT_next HT.out, HO.out]), HB.out.trans (hbb.mono HB.out.size)⟩, by simp [intOf]; omega⟩
            · rw [if_neg hodd] at hTN
              have hlt2 := (turnB s[k] bit).toNat_lt
              have hb2 : ((wrap64 ((s[k].toNat : Int) / (y : Int))).tmod 2 == 1) = false := by
                rw [hw64]; exact odd_no _ hodd
              have HC := byte_any (s[k].toNat + y) (by rw [← hTN]; exact hlt2)
              have hsub : ((s[k].toNat + y : Nat) : Int) = (s[k].toNat : Int) + (y : Int) := by push_cast; rfl
              rw [hsub] at HC
              have HNX : Hid (UInt8.ofNat (s[k].toNat + y) = turnB s[k] bit) := by show _ = _; rw [← hTN]; simp
              rw [HNX.out] at HC
              have HCC : Hid (∀ (w : World), Calls Tryz.prog 69 #[.int .i64 ((s[k].toNat : Int) + (y : Int))] w fun e w' => e = .returned (.string ⟨#[turnB s[k] bit]⟩) ∧ Below w.heap.size w w') := HC
              clear HC hsub hTN hw64 hlt2 hodd hdl
              go_wp2_with (go_at_call 69; refine (HCC.out _).mono ?_; rintro e w2 ⟨rfl, hbb⟩)
              exact ⟨⟨k + 1, _, by omega, by simp, rfl, (by show _ = _; rw [outT_next HT.out, HO.out]), HB.out.trans (hbb.mono HB.out.size)⟩, by simp [intOf]; omega⟩
      · have hb : ((k : Int) == (bit : Int) / 8) = false := beq_eq_false_iff_ne.2 (by omega)
        have HT : Hid ((turnL l bit)[k]? = some s[k]) := by
          show _ = _
          unfold turnL
          rw [List.getElem?_set_ne (by omega)]; exact HGk
        have HC := byte_any s[k].toNat hu
        clear hB HGk
        go_wp2_with (go_at_call 69; refine (HC _).mono ?_; rintro e w2 ⟨rfl, hb2⟩)
        exact ⟨⟨k + 1, _, by omega, by simp, rfl, (by show _ = _; rw [outT_next HT.out, HO.out]), HB.out.trans (hb2.mono HB.out.size)⟩, by simp [intOf]; omega⟩
    · obtain rfl : k = 16 := by omega
      clear hB
      go_wp2_with fail
      go_ret
      refine ⟨?_, HB.out⟩
      show Ending.returned (Value.string o) = _
      rw [HO.out, outT, List.take_of_length_le (by unfold turnL; rw [List.length_set]; omega)]
      rfl
end Go.Proofs.YtnmknngpihjhnaaGreatDoor
