/-
  The contracts of package pack's reader: number and bytes.
  Conditions: the sentinels hold what the program's text lays; the reader lies in a block of its own.
-/
import Derived.Test.YtilkjafggfdjeaaDoorPacks
import Derived.Test.YtilkjafggfdjeaaDoorCheck
import Derived.BigQuiet
import Derived.Laws.Strings2
import Derived.Deep.QuietTactic
namespace Go.Proofs.YtilkjafggfdjeaaDoor
open Go.RowKit

theorem valOf_snoc (l : List UInt8) (c : UInt8) : valOf (l ++ [c]) = 10 * valOf l + (c.toNat - 48) := by simp [valOf]
theorem valOf_lt : ∀ (k : Nat) (s : ByteArray), k ≤ s.size → (s.data.toList.take k).all digit = true → valOf (s.data.toList.take k) < 10 ^ k
  | 0, _, _, _ => by simp [valOf]
  | k + 1, s, hk, h => by
    rw [take_snoc s k (by omega)] at h ⊢
    rw [List.all_append] at h
    simp only [Bool.and_eq_true, List.all_cons, List.all_nil] at h
    have h1 := valOf_lt k s (by omega) h.1
    have h2 := h.2.1
    unfold digit at h2
    simp only [decide_eq_true_eq] at h2
    rw [valOf_snoc, Nat.pow_succ]
    omega
theorem while_at {s : ByteArray} {k : Nat} (h : (s.data.toList.take k).all digit = true) (hk : k ≤ s.size) (hn : ∀ hlt : k < s.size, digit s[k] = false) : s.data.toList.takeWhile digit = s.data.toList.take k := by
  have e : s.data.toList = s.data.toList.take k ++ s.data.toList.drop k := (List.take_append_drop k _).symm
  rw [e, List.takeWhile_append_of_pos (by simpa using h)]
  have hl : s.data.toList.length = s.size := by simp
  by_cases hlt : k < s.size
  · rw [List.drop_eq_getElem_cons (by omega), List.takeWhile_cons]
    have : digit s.data.toList[k] = false := hn hlt
    simp only [this, Bool.false_eq_true, if_false, List.append_nil]
    rw [List.take_append_of_le_length (by simp; omega), List.take_take, Nat.min_self]
  · have : k = s.size := by omega
    rw [this, List.drop_of_length_le (by omega)]
    simp only [List.takeWhile_nil, List.append_nil]
    rw [List.take_take, Nat.min_self]
theorem numR_long {s : ByteArray} (h : (s.data.toList.take 7).all digit = true) (hk : 7 ≤ s.size) : numR s.data.toList = none := by
  have hl : s.data.toList.length = s.size := by simp
  have e : s.data.toList = s.data.toList.take 7 ++ s.data.toList.drop 7 := (List.take_append_drop 7 _).symm
  have h7 : 7 ≤ (s.data.toList.takeWhile digit).length := by
    rw [e, List.takeWhile_append_of_pos (by simpa using h), List.length_append, List.length_take]
    omega
  unfold numR
  rw [if_neg]
  unfold numOk
  simp
  omega
theorem numR_seven {s : ByteArray} {k : Nat} (h6 : k = 6) (h : (s.data.toList.take (k + 1)).all digit = true) (hk : k < s.size) : numR s.data.toList = none := by
  subst h6
  exact numR_long h hk
theorem numR_at {s : ByteArray} {k : Nat} (h : (s.data.toList.take k).all digit = true) (hk : k ≤ s.size) (hn : ∀ hlt : k < s.size, digit s[k] = false) :
    numR s.data.toList = if numOk (s.data.toList.take k) = true then (if hlt : k < s.size then (if s[k] = 58 then some (valOf (s.data.toList.take k), s.data.toList.drop (k + 1)) else none) else none) else none := by
  have hl : s.data.toList.length = s.size := by simp
  unfold numR
  rw [while_at h hk hn]
  have hlk : (s.data.toList.take k).length = k := by rw [List.length_take]; omega
  rw [hlk]
  by_cases hlt : k < s.size
  · rw [List.drop_eq_getElem_cons (by omega), dif_pos hlt]
    rfl
  · rw [List.drop_of_length_le (by omega), dif_neg hlt]
theorem numOk_no {s : ByteArray} {k : Nat} (hk : k ≤ s.size) (h : k = 0 ∨ (1 < k ∧ ∃ h0 : 0 < s.size, s[0] = 48)) : numOk (s.data.toList.take k) = false := by
  have hl : s.data.toList.length = s.size := by simp
  have hlk : (s.data.toList.take k).length = k := by rw [List.length_take]; omega
  unfold numOk
  rw [hlk]
  rcases h with rfl | ⟨h1, h0, h2⟩
  · simp
  · have e : (s.data.toList.take k).head? = some 48 := by
      rw [List.head?_take, if_neg (by omega), List.head?_eq_getElem?, List.getElem?_eq_getElem (by omega)]
      exact congrArg some h2
    rw [e]
    simp [h1]
theorem numOk_yes {s : ByteArray} {k : Nat} (hk : k ≤ s.size) (h0 : k ≠ 0) (h6 : k ≤ 6) (h : ¬ (1 < k ∧ ∃ h0 : 0 < s.size, s[0] = 48)) : numOk (s.data.toList.take k) = true := by
  have hl : s.data.toList.length = s.size := by simp
  have hlk : (s.data.toList.take k).length = k := by rw [List.length_take]; omega
  unfold numOk
  rw [hlk]
  have e : (s.data.toList.take k).head? = some (s[0]'(by omega)) := by
    rw [List.head?_take, if_neg h0, List.head?_eq_getElem?, List.getElem?_eq_getElem (by omega)]
    rfl
  rw [e]
  by_cases h1 : 1 < k
  · have : ¬ s[0]'(by omega) = 48 := fun e => h ⟨h1, by omega, e⟩
    simp [this]
    omega
  · simp [h1]
    omega

theorem byte58 (c : UInt8) : c = 58 ↔ (c.toNat : Int) = 58 := by
  constructor
  · rintro rfl; rfl
  · intro h
    apply UInt8.toNat_inj.1
    show c.toNat = 58
    omega
theorem byte48 (c : UInt8) : c = 48 ↔ (c.toNat : Int) = 48 := by
  constructor
  · rintro rfl; rfl
  · intro h
    apply UInt8.toNat_inj.1
    show c.toNat = 48
    omega
/-- A reader in its block. -/
def Rd (rb : Nat) (s : ByteArray) (n : Nat) (w : World) : Prop := w.heap[rb]? = some (.cells #[.string s, .int .i64 (n : Int)] 99 (0, 0))
theorem two_setCell {w : World} {c : Nat} {x y z : Value} {t : TypeId} (h : w.heap[c]? = some (.cells #[x, z] t (0, 0))) : (w.setCell ⟨c, 0, none⟩ y).heap[c]? = some (.cells #[y, z] t (0, 0)) := by
  simp [World.setCell, Array.getElem?_modify, h]
theorem Kept.drew {C : Nat → Prop} {w w' : World} (h : Kept C w w') : Kept C w w'.drew := ⟨h.os, h.tape, h.output, h.size, h.block⟩
theorem Kept.drewN {C : Nat → Prop} {w w' : World} (h : Kept C w w') {k : Nat} : Kept C w (w'.drewN k) := by
  exact ⟨h.os, h.tape, h.output, h.size, h.block⟩
theorem Rd.drewN {rb : Nat} {s : ByteArray} {n : Nat} {w : World} (h : Rd rb s n w) (k : Nat) : Rd rb s n (w.drewN k) := by
  unfold Rd
  have e : (w.drewN k).heap = w.heap := by simp
  rw [e]
  exact h
theorem Kept.refl (C : Nat → Prop) (w : World) : Kept C w w := ⟨rfl, rfl, rfl, Nat.le_refl _, fun _ _ _ => rfl⟩

/-- What number hands back. -/
def NumPost (a : Nat → Addr) (rb n : Nat) (s : ByteArray) (w : World) (e : Ending) (w' : World) : Prop := ∃ s', Rd rb s' n w' ∧ Kept (fun k => k = rb) w w' ∧
  ((numR s.data.toList = none ∧ e = .returned (.tuple #[.int .i64 0, errV a (some 0)])) ∨ ∃ (c : Nat) (r : List UInt8), numR s.data.toList = some (c, r) ∧ e = .returned (.tuple #[.int .i64 (c : Int), .nilIface]) ∧ s' = bs r)
theorem NumPost.no {a : Nat → Addr} {rb n : Nat} {s s' : ByteArray} {w w' : World} (h : numR s.data.toList = none) (hr : Rd rb s' n w') (hk : Kept (fun k => k = rb) w w') : NumPost a rb n s w (.returned (.tuple #[.int .i64 0, errV a (some 0)])) w' :=
  ⟨s', hr, hk, .inl ⟨h, rfl⟩⟩
theorem NumPost.yes {a : Nat → Addr} {rb n c : Nat} {s : ByteArray} {r : List UInt8} {w w' : World} (h : numR s.data.toList = some (c, r)) (hr : Rd rb (bs r) n w') (hk : Kept (fun k => k = rb) w w') : NumPost a rb n s w (.returned (.tuple #[.int .i64 (c : Int), .nilIface])) w' :=
  ⟨bs r, hr, hk, .inr ⟨c, r, h, rfl, rfl⟩⟩

theorem num_rest {rb n k : Nat} {s : ByteArray} {w : World} (R : Rd rb s n w) (hk : k ≤ s.size) : Rd rb (bs (s.data.toList.drop k)) n (w.setCell ⟨rb, 0, none⟩ (.string (s.extract k s.size))) ∧ Kept (fun j => j = rb) w (w.setCell ⟨rb, 0, none⟩ (.string (s.extract k s.size))) := by
  have e : s.extract k s.size = bs (s.data.toList.drop k) := by
    obtain ⟨⟨l⟩⟩ := s
    have h := ByteArray.extract_mk l k l.length
    have hl : (ByteArray.mk l.toArray).size = l.length := rfl
    show (ByteArray.mk l.toArray).extract k (ByteArray.mk l.toArray).size = bs (l.drop k)
    rw [hl, h, List.take_of_length_le (by rw [List.length_drop]; exact Nat.le_refl _)]
    rfl
  rw [e]
  exact ⟨two_setCell R, Kept.setCell (C := fun j => j = rb) (p := ⟨rb, 0, none⟩) (Kept.refl _ _) rfl _⟩

set_option maxRecDepth 100000 in
set_option maxHeartbeats 2000000 in
theorem number_any (a : Nat → Addr) (rb n : Nat) (s : ByteArray) (w : World) (S : Sen a w) (R : Rd rb s n w) (hs : s.size ≤ maxLen) :
    Calls Tryd.prog 97 #[.pointer (some ⟨rb, 0, none⟩)] w (NumPost a rb n s w) := by
  unfold maxLen at hs
  have c0 := S.text
  have hcell : w.cell? ⟨rb, 0, none⟩ = some (.string s) := by rw [cell_of_row w _ _ _ _ _ R]; rfl
  have hfree : w.frozen? ⟨rb, 0, none⟩ = false := by simp [World.frozen?, show w.heap[rb]? = _ from R]
  have HR : Hid (Rd rb s n w) := R
  clear S R
  go_enter Tryd.func97, Tryd.ntmps97
  go_wp2_with fail
  go_loop [4, 5] (fun v i => ∃ k : Nat, k ≤ 6 ∧ k ≤ s.size ∧ i = .int .i64 k ∧ v = .int .i64 (valOf (s.data.toList.take k)) ∧ (s.data.toList.take k).all digit = true) (fun _ i => s.size - (intOf i).toNat)
  case atStart => exact ⟨0, by omega, Nat.zero_le _, rfl, by simp [valOf], by simp⟩
  case round =>
    obtain ⟨k, hk6, hk, rfl, rfl, hall⟩ := hrel
    have HA : Hid ((s.data.toList.take k).all digit = true) := hall
    have hv : valOf (s.data.toList.take k) < 1000000 := Nat.lt_of_lt_of_le (valOf_lt k s hk hall) (Nat.pow_le_pow_right (by omega) hk6 : 10 ^ k ≤ 10 ^ 6)
    have HV : Hid (∀ hlt : k < s.size, valOf (s.data.toList.take (k + 1)) = 10 * valOf (s.data.toList.take k) + (s[k].toNat - 48)) := fun hlt => by rw [take_snoc s k hlt, valOf_snoc]
    have HX : Hid (∀ hn : (∀ hlt : k < s.size, digit s[k] = false), numR s.data.toList = if numOk (s.data.toList.take k) = true then (if hlt : k < s.size then (if s[k] = 58 then some (valOf (s.data.toList.take k), s.data.toList.drop (k + 1)) else none) else none) else none) := fun hn => numR_at hall hk hn
    generalize valOf (s.data.toList.take k) = v at hv HV HX ⊢
    clear hall
    by_cases hlt : k < s.size
    · have HS : Hid _ := all_snoc (p := digit) s k hlt
      by_cases hd : digit s[k] = true
      · have HD : Hid (digit s[k] = true) := hd
        have h1 : 48 ≤ (s[k].toNat : Int) := by unfold digit at hd; simp only [decide_eq_true_eq] at hd; omega
        have h2 : (s[k].toNat : Int) ≤ 57 := by unfold digit at hd; simp only [decide_eq_true_eq] at hd; omega
        clear hd
        by_cases h6 : k = 6
        · have HN : Hid (numR s.data.toList = none) := numR_seven h6 (by rw [HS.out, HA.out]; exact HD.out) hlt
          clear HV
          subst h6
          go_wp2_with fail
          go_quiet (fail)
          go_wp2_with fail
          go_ret2
          exact NumPost.no HN.out (HR.out.drewN _) (Kept.refl _ _).drewN
        · have h6' : ¬ (k : Int) = 6 := by omega
          have HVV : Hid _ := HV.out hlt
          clear HV
          go_wp2_with fail
          go_round
          case rel => exact ⟨k + 1, by omega, by omega, by go_num, by rw [HVV.out]; go_num, by rw [HS.out, HA.out]; exact HD.out⟩
          case measure => simp [intOf]; omega
      · have HE : Hid _ := HX.out fun _ => by simpa using hd
        have hor : (s[k].toNat : Int) < 48 ∨ (48 ≤ (s[k].toNat : Int) ∧ 57 < (s[k].toNat : Int)) := by
          unfold digit at hd
          simp only [decide_eq_true_eq] at hd
          omega
        clear HX HV HS hd
        by_cases hk0 : k = 0
        · have HO : Hid _ := numOk_no (s := s) hk (.inl hk0)
          have HN : Hid (numR s.data.toList = none) := by rw [HE.out, if_neg (by rw [HO.out]; decide)]; exact rfl
          clear HE HO
          subst hk0
          rcases hor with hor | ⟨hor, hor2⟩
          all_goals
            go_wp2_with fail
            go_quiet (fail)
            go_wp2_with fail
            go_ret2
            exact NumPost.no HN.out (HR.out.drewN _) (Kept.refl _ _).drewN
        · by_cases h10 : 1 < k ∧ ∃ h0 : 0 < s.size, s[0] = 48
          · have HO : Hid _ := numOk_no (s := s) hk (.inr h10)
            have HN : Hid (numR s.data.toList = none) := by rw [HE.out, if_neg (by rw [HO.out]; decide)]; exact rfl
            obtain ⟨h1k, h00, h48⟩ := h10
            have h1k' : 1 < (k : Int) := by omega
            have h48' : ((s[0].toNat : Int) == 48) = true := by rw [h48]; rfl
            have hk0' : ¬ (k : Int) = 0 := by omega
            clear HE HO h48
            rcases hor with hor | ⟨hor, hor2⟩
            all_goals
              go_wp2_with fail
              go_quiet (fail)
              go_wp2_with fail
              go_ret2
              exact NumPost.no HN.out (HR.out.drewN _) (Kept.refl _ _).drewN
          · have HO : Hid _ := numOk_yes (s := s) hk hk0 hk6 h10
            have hk0' : ¬ (k : Int) = 0 := by omega
            have hend : ((k : Int) == (s.size : Int)) = false := by simp only [beq_eq_false_iff_ne, ne_eq]; omega
            by_cases h58 : s[k] = 58
            · have HN : Hid (numR s.data.toList = some (v, s.data.toList.drop (k + 1))) := by rw [HE.out, if_pos HO.out, dif_pos hlt, if_pos h58]; exact rfl
              have h58' : ((s[k].toNat : Int) != 58) = false := by simp only [bne_eq_false_iff_eq]; exact (byte58 _).1 h58
              have HQ : Hid _ := num_rest (k := k + 1) HR.out (by omega)
              clear HE HO h58
              by_cases h1k : 1 < k
              · have h1k' : 1 < (k : Int) := by omega
                have h00 : 0 < s.size := by omega
                have h48' : ((s[0].toNat : Int) == 48) = false := by
                  simp only [beq_eq_false_iff_ne, ne_eq]
                  intro e
                  exact h10 ⟨h1k, h00, (byte48 _).2 e⟩
                clear h10
                rcases hor with hor | ⟨hor, hor2⟩
                · exfalso; have : (s[k].toNat : Int) = 58 := by simpa using h58'
                  omega
                · go_wp2_with fail
                  go_ret2
                  exact NumPost.yes HN.out HQ.out.1 HQ.out.2
              · have h1k' : (k : Int) ≤ 1 := by omega
                clear h10
                rcases hor with hor | ⟨hor, hor2⟩
                · exfalso; have : (s[k].toNat : Int) = 58 := by simpa using h58'
                  omega
                · go_wp2_with fail
                  go_ret2
                  exact NumPost.yes HN.out HQ.out.1 HQ.out.2
            · have HN : Hid (numR s.data.toList = none) := by rw [HE.out, if_pos HO.out, dif_pos hlt, if_neg h58]; exact rfl
              have h58' : ((s[k].toNat : Int) != 58) = true := by simp only [bne_iff_ne, ne_eq]; exact fun e => h58 ((byte58 _).2 e)
              clear HE HO h58
              by_cases h1k : 1 < k
              · have h1k' : 1 < (k : Int) := by omega
                have h00 : 0 < s.size := by omega
                have h48' : ((s[0].toNat : Int) == 48) = false := by
                  simp only [beq_eq_false_iff_ne, ne_eq]
                  intro e
                  exact h10 ⟨h1k, h00, (byte48 _).2 e⟩
                clear h10
                rcases hor with hor | ⟨hor, hor2⟩
                all_goals
                  go_wp2_with fail
                  go_quiet (fail)
                  go_wp2_with fail
                  go_ret2
                  exact NumPost.no HN.out (HR.out.drewN _) (Kept.refl _ _).drewN
              · have h1k' : (k : Int) ≤ 1 := by omega
                clear h10
                rcases hor with hor | ⟨hor, hor2⟩
                all_goals
                  go_wp2_with fail
                  go_quiet (fail)
                  go_wp2_with fail
                  go_ret2
                  exact NumPost.no HN.out (HR.out.drewN _) (Kept.refl _ _).drewN
    · have HE : Hid _ := HX.out fun h => absurd h hlt
      clear HX HV
      by_cases hk0 : k = 0
      · have HO : Hid _ := numOk_no (s := s) hk (.inl hk0)
        have HN : Hid (numR s.data.toList = none) := by rw [HE.out, if_neg (by rw [HO.out]; decide)]; exact rfl
        clear HE HO
        subst hk0
        go_wp2_with fail
        go_quiet (fail)
        go_wp2_with fail
        go_ret2
        exact NumPost.no HN.out (HR.out.drewN _) (Kept.refl _ _).drewN
      · by_cases h10 : 1 < k ∧ ∃ h0 : 0 < s.size, s[0] = 48
        · have HO : Hid _ := numOk_no (s := s) hk (.inr h10)
          have HN : Hid (numR s.data.toList = none) := by rw [HE.out, if_neg (by rw [HO.out]; decide)]; exact rfl
          obtain ⟨h1k, h00, h48⟩ := h10
          have h1k' : 1 < (k : Int) := by omega
          have h48' : ((s[0].toNat : Int) == 48) = true := by rw [h48]; rfl
          have hk0' : ¬ (k : Int) = 0 := by omega
          clear HE HO h48
          go_wp2_with fail
          go_quiet (fail)
          go_wp2_with fail
          go_ret2
          exact NumPost.no HN.out (HR.out.drewN _) (Kept.refl _ _).drewN
        · have HO : Hid _ := numOk_yes (s := s) hk hk0 hk6 h10
          have HN : Hid (numR s.data.toList = none) := by rw [HE.out, if_pos HO.out, dif_neg hlt]; exact rfl
          have hk0' : ¬ (k : Int) = 0 := by omega
          have hend : ((k : Int) == (s.size : Int)) = true := by simp only [beq_iff_eq]; omega
          clear HE HO
          by_cases h1k : 1 < k
          · have h1k' : 1 < (k : Int) := by omega
            have h00 : 0 < s.size := by omega
            have h48' : ((s[0].toNat : Int) == 48) = false := by
              simp only [beq_eq_false_iff_ne, ne_eq]
              intro e
              exact h10 ⟨h1k, h00, (byte48 _).2 e⟩
            clear h10
            go_wp2_with fail
            go_quiet (fail)
            go_wp2_with fail
            go_ret2
            exact NumPost.no HN.out (HR.out.drewN _) (Kept.refl _ _).drewN
          · have h1k' : (k : Int) ≤ 1 := by omega
            clear h10
            go_wp2_with fail
            go_quiet (fail)
            go_wp2_with fail
            go_ret2
            exact NumPost.no HN.out (HR.out.drewN _) (Kept.refl _ _).drewN
end Go.Proofs.YtilkjafggfdjeaaDoor
