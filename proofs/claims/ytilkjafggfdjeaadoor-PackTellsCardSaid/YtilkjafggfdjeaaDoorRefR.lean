/-
  The contracts of the document's answer, a text that is read: NumberOf, headOf, reading's bytes.
  Conditions: the reading lies in a block of its own.
-/
import Derived.Test.YtilkjafggfdjeaaDoorPackB
import Derived.Test.YtilkjafggfdjeaaDoorPackE
import Derived.Deep.RegionHeld3
import Derived.Deep.DrawnRows
import Derived.Deep.DeepCutAuto
import Derived.Deep.DeepFit
namespace Go.Proofs.YtilkjafggfdjeaaDoor
open Go.RowKit

/-- A number of just these digits; -1: it is none. -/
def numV (l : List UInt8) : Int := if (numOk l && l.all digit) = true then (valOf l : Int) else -1
theorem numV_no {l : List UInt8} (h : numOk l = false ∨ l.all digit = false) : numV l = -1 := by
  unfold numV
  rw [if_neg]
  rcases h with h | h <;> simp [h]
theorem numV_yes {l : List UInt8} (h : numOk l = true) (h2 : l.all digit = true) : numV l = (valOf l : Int) := by
  unfold numV
  rw [if_pos (by simp [h, h2])]
theorem numOk_whole {s : ByteArray} : numOk s.data.toList = numOk (s.data.toList.take s.size) := by rw [List.take_of_length_le (by simp)]
theorem numOk_size {s : ByteArray} (h : s.size = 0 ∨ 6 < s.size) : numOk s.data.toList = false := by
  have hl : s.data.toList.length = s.size := by simp
  unfold numOk
  rw [hl]
  rcases h with h | h
  · simp [h]
  · simp; omega

set_option maxRecDepth 100000 in
set_option maxHeartbeats 2000000 in
theorem numberOf_any (s : ByteArray) (w : World) (hs : s.size ≤ 1000000) : Calls Tryd.prog 88 #[.string s, .int .i64 6] w fun e w' => e = .returned (.int .i64 (numV s.data.toList)) ∧ w' = w := by
  by_cases h0 : s.size = 0
  · have HE : Hid (numV s.data.toList = -1) := numV_no (.inl (numOk_size (.inl h0)))
    have h1 : (s.size : Int) < 1 := by omega
    clear h0
    go_enter Tryd.func88, Tryd.ntmps88
    go_wp2_with fail
    go_ret
    exact ⟨by rw [HE.out]; rfl, rfl⟩
  have h1 : (1 : Int) ≤ (s.size : Int) := by omega
  by_cases h6 : 6 < s.size
  · have HE : Hid (numV s.data.toList = -1) := numV_no (.inl (numOk_size (.inr h6)))
    have h6' : (6 : Int) < (s.size : Int) := by omega
    go_enter Tryd.func88, Tryd.ntmps88
    go_wp2_with fail
    go_ret
    exact ⟨by rw [HE.out]; rfl, rfl⟩
  have h6' : (s.size : Int) ≤ 6 := by omega
  have h00 : 0 < s.size := by omega
  by_cases h10 : 1 < s.size ∧ ∃ h0 : 0 < s.size, s[0] = 48
  · have HE : Hid (numV s.data.toList = -1) := numV_no (.inl (by rw [numOk_whole]; exact numOk_no (Nat.le_refl _) (.inr h10)))
    obtain ⟨h2, _, h48⟩ := h10
    have h2' : (1 : Int) < (s.size : Int) := by omega
    have h48' : ((s[0].toNat : Int) == 48) = true := by rw [h48]; rfl
    clear h48
    go_enter Tryd.func88, Tryd.ntmps88
    go_wp2_with fail
    go_ret
    exact ⟨by rw [HE.out]; rfl, rfl⟩
  have HOK : Hid (numOk s.data.toList = true) := by
    rw [numOk_whole]
    exact numOk_yes (Nat.le_refl _) h0 (by omega) h10
  have hcase : ((s.size : Int) ≤ 1) ∨ ((1 : Int) < (s.size : Int) ∧ ((s[0].toNat : Int) == 48) = false) := by
    by_cases h2 : 1 < s.size
    · refine .inr ⟨by omega, ?_⟩
      simp only [beq_eq_false_iff_ne, ne_eq]
      exact fun e => h10 ⟨h2, h00, (byte48 _).2 e⟩
    · exact .inl (by omega)
  clear h10 h0 h6
  rcases hcase with hc | ⟨hc, hc2⟩
  all_goals
    go_enter Tryd.func88, Tryd.ntmps88
    go_wp2_with fail
    go_loop [5, 6] (fun v i => ∃ k : Nat, k ≤ s.size ∧ i = .int .i64 k ∧ v = .int .i64 (valOf (s.data.toList.take k)) ∧ (s.data.toList.take k).all digit = true) (fun _ i => s.size - (intOf i).toNat)
    case atStart => exact ⟨0, Nat.zero_le _, rfl, by simp [valOf], by simp⟩
    case round =>
      obtain ⟨k, hk, rfl, rfl, hall⟩ := hrel
      have HA : Hid ((s.data.toList.take k).all digit = true) := hall
      have hv : valOf (s.data.toList.take k) < 1000000 := Nat.lt_of_lt_of_le (valOf_lt k s hk hall) (Nat.pow_le_pow_right (by omega) (by omega) : 10 ^ k ≤ 10 ^ 6)
      have HV : Hid (∀ hlt : k < s.size, valOf (s.data.toList.take (k + 1)) = 10 * valOf (s.data.toList.take k) + (s[k].toNat - 48)) := fun hlt => by rw [take_snoc s k hlt, valOf_snoc]
      have HW : Hid (¬ k < s.size → numV s.data.toList = (valOf (s.data.toList.take k) : Int)) := fun hlt => by
        have e : s.data.toList.take k = s.data.toList := List.take_of_length_le (by simp; omega)
        rw [e] at hall ⊢
        exact numV_yes HOK.out hall
      generalize valOf (s.data.toList.take k) = v at hv HV HW ⊢
      clear hall
      by_cases hlt : k < s.size
      · have HS : Hid _ := all_snoc (p := digit) s k hlt
        by_cases hd : digit s[k] = true
        · have HD : Hid (digit s[k] = true) := hd
          have g1 : 48 ≤ (s[k].toNat : Int) := by unfold digit at hd; simp only [decide_eq_true_eq] at hd; omega
          have g2 : (s[k].toNat : Int) ≤ 57 := by unfold digit at hd; simp only [decide_eq_true_eq] at hd; omega
          have HVV : Hid _ := HV.out hlt
          clear HV hd HW
          go_wp2_with fail
          go_round
          case rel => exact ⟨k + 1, by omega, by go_num, by rw [HVV.out]; go_num, by rw [HS.out, HA.out]; exact HD.out⟩
          case measure => simp [intOf]; omega
        · have hd' : digit s[k] = false := by simpa using hd
          have HM : Hid (numV s.data.toList = -1) := numV_no (.inr (all_miss (p := digit) s k hlt hd'))
          have hor : (s[k].toNat : Int) < 48 ∨ (48 ≤ (s[k].toNat : Int) ∧ 57 < (s[k].toNat : Int)) := by
            unfold digit at hd
            simp only [decide_eq_true_eq] at hd
            omega
          clear HV hd hd' HW
          rcases hor with hor | ⟨hor, hor2⟩
          all_goals
            go_wp2_with fail
            go_ret
            exact ⟨by rw [HM.out]; rfl, rfl⟩
      · have HM : Hid _ := HW.out hlt
        clear HV HW
        go_wp2_with fail
        go_ret
        exact ⟨by rw [HM.out]; rfl, rfl⟩
end Go.Proofs.YtilkjafggfdjeaaDoor
namespace Go.Proofs.YtilkjafggfdjeaaDoor
open Go.RowKit

theorem colon_no {l : List UInt8} (h : ∀ c ∈ l.take 7, c ≠ 58) : numR l = none := by
  unfold numR
  split
  · rename_i hok
    have h6 : (l.takeWhile digit).length ≤ 6 := by
      unfold numOk at hok
      simp only [Bool.and_eq_true, decide_eq_true_eq] at hok
      exact hok.1.2
    generalize (l.takeWhile digit).length = n at h6 ⊢
    split
    · rfl
    · rename_i c r e
      have hc : l[n]? = some c := by rw [← List.head?_drop, e]; rfl
      have hm : c ∈ l.take 7 := List.mem_of_getElem? (i := n) (by rw [List.getElem?_take, if_pos (by omega)]; exact hc)
      rw [if_neg (h c hm)]
  · rfl
theorem colon_split {l q r : List UInt8} (h : l = q ++ 58 :: r) (hp : ∀ c ∈ q, c ≠ 58) : numR l = if (numOk q && q.all digit) = true then some (valOf q, r) else none := by
  by_cases hall : q.all digit = true
  · have ht : l.takeWhile digit = q := by rw [h]; exact take_digits hall
    unfold numR
    rw [ht, h, List.drop_left, hall, Bool.and_true]
    rfl
  · have hf : q.all digit = false := by simpa using hall
    rw [hf, Bool.and_false, if_neg (by simp)]
    unfold numR
    split
    · generalize hn : (l.takeWhile digit).length = n
      have hlt : n < q.length := by
        rcases Nat.lt_or_ge n q.length with h' | h'
        · exact h'
        · exfalso
          apply hall
          have hpre : l.takeWhile digit <+: l := List.takeWhile_prefix _
          have e1 : l.takeWhile digit = l.take n := by rw [← hn]; exact List.prefix_iff_eq_take.1 hpre
          have e2 : q = (l.takeWhile digit).take q.length := by rw [e1, List.take_take, Nat.min_eq_left h', h, List.take_left]
          rw [e2, List.all_eq_true]
          intro x hx
          exact List.all_eq_true.1 List.all_takeWhile x (List.mem_of_mem_take hx)
      split
      · rfl
      · rename_i c r' e
        have hc : l[n]? = some c := by rw [← List.head?_drop, e]; rfl
        rw [h, List.getElem?_append_left hlt] at hc
        rw [if_neg (hp c (List.mem_of_getElem? hc))]
    · rfl

/-- What headOf hands back. -/
def HeadPost (s : ByteArray) (o : Nat) (w : World) (e : Ending) (w' : World) : Prop := w' = w ∧
  ((numR (s.data.toList.drop o) = none ∧ ∃ p : Int, e = .returned (.tuple #[.int .i64 (-1), .int .i64 p])) ∨ ∃ (c p : Nat), numR (s.data.toList.drop o) = some (c, s.data.toList.drop p) ∧ o ≤ p ∧ p ≤ s.size ∧ e = .returned (.tuple #[.int .i64 (c : Int), .int .i64 (p : Int)]))
theorem HeadPost.no {s : ByteArray} {o : Nat} {w : World} {p : Int} (h : numR (s.data.toList.drop o) = none) : HeadPost s o w (.returned (.tuple #[.int .i64 (-1), .int .i64 p])) w := ⟨rfl, .inl ⟨h, p, rfl⟩⟩
theorem head_num {s : ByteArray} {o i : Nat} {w : World} (hk : o + i < s.size) (hp : ∀ c ∈ (s.data.toList.drop o).take i, c ≠ 58) (h58 : s[o + i] = 58) :
    HeadPost s o w (.returned (.tuple #[.int .i64 (numV ((s.extract o (o + i)).data.toList)), .int .i64 (((o + i + 1 : Nat)) : Int)])) w := by
  have hl : s.data.toList.length = s.size := by simp
  have ex : (s.extract o (o + i)).data.toList = (s.data.toList.drop o).take i := by
    obtain ⟨⟨l⟩⟩ := s
    have h := ByteArray.extract_mk l o (o + i)
    show ((ByteArray.mk l.toArray).extract o (o + i)).data.toList = (l.drop o).take i
    rw [h, Nat.add_sub_cancel_left]
  have e1 : s.data.toList.drop o = (s.data.toList.drop o).take i ++ 58 :: s.data.toList.drop (o + i + 1) := by
    have e2 : (s.data.toList.drop o).drop i = 58 :: s.data.toList.drop (o + i + 1) := by
      rw [List.drop_drop, List.drop_eq_getElem_cons (by omega)]
      congr 1
    rw [← e2, List.take_append_drop]
  have hs := colon_split e1 hp
  rw [ex]
  refine ⟨rfl, ?_⟩
  by_cases hok : (numOk ((s.data.toList.drop o).take i) && ((s.data.toList.drop o).take i).all digit) = true
  · rw [if_pos hok] at hs
    refine .inr ⟨_, o + i + 1, hs, by omega, by omega, ?_⟩
    unfold numV
    rw [if_pos hok]
  · rw [if_neg hok] at hs
    refine .inl ⟨hs, ((o + i + 1 : Nat) : Int), ?_⟩
    unfold numV
    rw [if_neg hok]

set_option maxRecDepth 100000 in
set_option maxHeartbeats 2000000 in
theorem headOf_any (s : ByteArray) (o : Nat) (w : World) (hs : s.size ≤ 1000000) (ho : o ≤ s.size) : Calls Tryd.prog 70 #[.string s, .int .i64 (o : Int)] w (HeadPost s o w) := by
  have hl : s.data.toList.length = s.size := by simp
  have HL : Hid _ := hl
  clear hl
  go_enter Tryd.func70, Tryd.ntmps70
  go_wp2_with fail
  go_loop [6] (fun v => ∃ i : Nat, i ≤ 7 ∧ o + i ≤ s.size ∧ v = .int .i64 ((o + i : Nat) : Int) ∧ ∀ c ∈ (s.data.toList.drop o).take i, c ≠ 58) (fun v => s.size - (intOf v).toNat)
  case atStart => exact ⟨0, by omega, by omega, by simp, fun c h => by simp at h⟩
  case round =>
    obtain ⟨i, hi, hk, rfl, hne⟩ := hrel
    have HNE : Hid _ := hne
    have hw : IntKind.i64.wrap ((o : Int) + 7) = (o : Int) + 7 := by simp (disch := omega) only [IntWalk.i64_in]
    clear hne
    obtain ⟨k, hke⟩ : ∃ k, k = o + i := ⟨_, rfl⟩
    rw [← hke]
    by_cases hlt : k < s.size
    · have HEX : Hid (∀ h : s[k] = 58, HeadPost s o w (.returned (.tuple #[.int .i64 (numV ((s.extract o k).data.toList)), .int .i64 ((k + 1 : Nat) : Int)])) w) := fun h => by
        subst hke
        exact head_num hlt HNE.out h
      have HNX : Hid (s[k] ≠ 58 → ∀ c ∈ (s.data.toList.drop o).take (i + 1), c ≠ 58) := fun h c hc => by
        subst hke
        have e : (s.data.toList.drop o).take (i + 1) = (s.data.toList.drop o).take i ++ [s[o + i]] := by
          rw [List.take_succ_eq_append_getElem (by rw [List.length_drop, HL.out]; omega)]
          congr 2
          rw [List.getElem_drop]
          rfl
        rw [e] at hc
        rcases List.mem_append.1 hc with h' | h'
        · exact HNE.out c h'
        · rw [List.mem_singleton.1 h']; exact h
      have HNN : Hid (¬ k < o + 7 → numR (s.data.toList.drop o) = none) := fun h => colon_no (by rw [show 7 = i by omega]; exact HNE.out)
      have HNO : Hid (∀ w', Calls Tryd.prog 88 #[.string (s.extract o k), .int .i64 6] w' fun e w'' => e = .returned (.int .i64 (numV (s.extract o k).data.toList)) ∧ w'' = w') := fun w' => numberOf_any _ w' (by
        have h1 : (s.extract o k).size ≤ s.size := by rw [ByteArray.size_extract]; omega
        omega)
      have HKE : Hid (k = o + i) := hke
      have hok : o ≤ k := by omega
      have hok2 : k ≤ s.size := by omega
      clear HNE hke hk hi
      have g1 : (k : Int) < (s.size : Int) := by omega
      by_cases h58 : s[k] = 58
      · have h58' : ((s[k].toNat : Int) != 58) = false := by simp only [bne_eq_false_iff_eq]; exact (byte58 _).1 h58
        have HP : Hid (HeadPost s o w (.returned (.tuple #[.int .i64 (numV ((s.extract o k).data.toList)), .int .i64 ((k : Int) + 1)])) w) := HEX.out h58
        have hw2 : IntKind.i64.wrap ((k : Int) + 1) = (k : Int) + 1 := by simp (disch := omega) only [IntWalk.i64_in]
        clear HEX HNX h58
        by_cases h7 : k < o + 7
        · have g2 : (k : Int) < (o : Int) + 7 := by omega
          go_wp2_with fail
          refine Calls.mono (HNO.out _) ?_
          rintro e w1 ⟨rfl, rfl⟩
          generalize numV (s.extract o k).data.toList = z at HP ⊢
          clear HNO
          go_wp2_with fail
          go_ret2
          exact HP.out
        · have g2 : ¬ (k : Int) < (o : Int) + 7 := by omega
          go_wp2_with fail
          refine Calls.mono (HNO.out _) ?_
          rintro e w1 ⟨rfl, rfl⟩
          generalize numV (s.extract o k).data.toList = z at HP ⊢
          clear HNO
          go_wp2_with fail
          go_ret2
          exact HP.out
      · have h58' : ((s[k].toNat : Int) != 58) = true := by simp only [bne_iff_ne, ne_eq]; exact fun e => h58 ((byte58 _).2 e)
        have HX : Hid _ := HNX.out h58
        clear HEX HNX h58 HNO
        by_cases h7 : k < o + 7
        · have g2 : (k : Int) < (o : Int) + 7 := by omega
          go_wp2_with fail
          go_round
          case rel => exact ⟨i + 1, by have := HKE.out; omega, by have := HKE.out; omega, by rw [HKE.out]; go_num, HX.out⟩
          case measure => simp [intOf]; omega
        · have g2 : ¬ (k : Int) < (o : Int) + 7 := by omega
          have HN : Hid _ := HNN.out h7
          go_wp2_with fail
          go_ret2
          exact HeadPost.no HN.out
    · have HN : Hid (numR (s.data.toList.drop o) = none) := colon_no (fun c hc => HNE.out c (by
        have e : (s.data.toList.drop o).take i = s.data.toList.drop o := List.take_of_length_le (by rw [List.length_drop, HL.out]; omega)
        rw [e]
        exact List.mem_of_mem_take hc))
      clear HNE hke hk hi
      have g1 : ¬ (k : Int) < (s.size : Int) := by omega
      go_wp2_with fail
      go_ret2
      exact HeadPost.no HN.out
end Go.Proofs.YtilkjafggfdjeaaDoor
namespace Go.Proofs.YtilkjafggfdjeaaDoor
open Go.RowKit
attribute [local go_sem ↓] Go.wp_at_zero Go.wp_at_succ

/-- A reading in its block: the text, where it is, how many nodes it had. -/
def Rg (rb : Nat) (s : ByteArray) (o n : Nat) (w : World) : Prop := w.heap[rb]? = some (.cells #[.string s, .int .i64 (o : Int), .int .i64 (n : Int)] 79 (0, 0))
theorem Rg.cells {rb o n : Nat} {s : ByteArray} {w : World} (R : Rg rb s o n w) : w.cell? ⟨rb, 0, none⟩ = some (.string s) ∧ w.cell? ⟨rb, 1, none⟩ = some (.int .i64 (o : Int)) ∧ w.cell? ⟨rb, 2, none⟩ = some (.int .i64 (n : Int)) := by
  refine ⟨?_, ?_, ?_⟩
  all_goals (rw [cell_of_row w _ _ _ _ _ R]; rfl)
theorem Rg.free {rb o n : Nat} {s : ByteArray} {w : World} (R : Rg rb s o n w) (i : Nat) : w.frozen? ⟨rb, i, none⟩ = false := by simp [World.frozen?, show w.heap[rb]? = _ from R]
theorem Rg.set1 {rb o n : Nat} {s : ByteArray} {w : World} (R : Rg rb s o n w) (m : Nat) : Rg rb s m n (w.setCell ⟨rb, 1, none⟩ (.int .i64 (m : Int))) := by
  unfold Rg at *
  simp [World.setCell, Array.getElem?_modify, R]
theorem Rg.set2 {rb o n : Nat} {s : ByteArray} {w : World} (R : Rg rb s o n w) (m : Nat) : Rg rb s o m (w.setCell ⟨rb, 2, none⟩ (.int .i64 (m : Int))) := by
  unfold Rg at *
  simp [World.setCell, Array.getElem?_modify, R]
theorem Rg.drewN {rb o n : Nat} {s : ByteArray} {w : World} (R : Rg rb s o n w) (k : Nat) : Rg rb s o n (w.drewN k) := R
theorem Rg.drew {rb o n : Nat} {s : ByteArray} {w : World} (R : Rg rb s o n w) : Rg rb s o n w.drew := R
theorem Rg.alloc {rb o n : Nat} {s : ByteArray} {w : World} (R : Rg rb s o n w) (x : Obj) : Rg rb s o n (w.alloc x) := by
  unfold Rg
  rw [Below.heap_alloc _ _ _ (lt_of_row R)]
  exact R

/-- What reading's bytes hands back. -/
def RbPost (rb n : Nat) (s : ByteArray) (o : Nat) (w : World) (e : Ending) (w' : World) : Prop := ∃ o', Rg rb s o' n w' ∧ Kept (fun k => k = rb) w w' ∧
  ((bytesR (s.data.toList.drop o) = none ∧ e = .returned (.tuple #[.string { data := #[] }, .bool false])) ∨ ∃ d, bytesR (s.data.toList.drop o) = some (d, s.data.toList.drop o') ∧ o' ≤ s.size ∧ e = .returned (.tuple #[.string (bs d), .bool true]))
theorem RbPost.no {rb n o o' : Nat} {s : ByteArray} {w w' : World} (h : bytesR (s.data.toList.drop o) = none) (hr : Rg rb s o' n w') (hk : Kept (fun k => k = rb) w w') : RbPost rb n s o w (.returned (.tuple #[.string { data := #[] }, .bool false])) w' :=
  ⟨o', hr, hk, .inl ⟨h, rfl⟩⟩
theorem RbPost.yes {rb n o o' : Nat} {s d' : ByteArray} {d : List UInt8} {w w' : World} (h : bytesR (s.data.toList.drop o) = some (d, s.data.toList.drop o')) (hd : d' = bs d) (ho : o' ≤ s.size) (hr : Rg rb s o' n w') (hk : Kept (fun k => k = rb) w w') : RbPost rb n s o w (.returned (.tuple #[.string d', .bool true])) w' :=
  ⟨o', hr, hk, .inr ⟨d, h, ho, by rw [hd]⟩⟩
theorem extract_mid (s : ByteArray) (p c : Nat) : s.extract p (p + c) = bs ((s.data.toList.drop p).take c) := by
  obtain ⟨⟨l⟩⟩ := s
  have h := ByteArray.extract_mk l p (p + c)
  show (ByteArray.mk l.toArray).extract p (p + c) = bs ((l.drop p).take c)
  rw [h, Nat.add_sub_cancel_left]
  rfl

set_option maxRecDepth 100000 in
set_option maxHeartbeats 4000000 in
theorem rBytes_any (rb n : Nat) (s : ByteArray) (o : Nat) (w : World) (R : Rg rb s o n w) (hs : s.size ≤ 1000000) (ho : o ≤ s.size) :
    Calls Tryd.prog 69 #[.pointer (some ⟨rb, 0, none⟩)] w (RbPost rb n s o w) := by
  have HR : Hid (Rg rb s o n w) := R
  have HC : Hid (∀ w', Rg rb s o n w' → w'.cell? ⟨rb, 0, none⟩ = some (.string s) ∧ w'.cell? ⟨rb, 1, none⟩ = some (.int .i64 (o : Int))) := fun w' h => ⟨h.cells.1, h.cells.2.1⟩
  have HHD : Hid (∀ w', Calls Tryd.prog 70 #[.string s, .int .i64 (o : Int)] w' (HeadPost s o w')) := fun w' => headOf_any s o w' hs ho
  have hlL : s.data.toList.length = s.size := by simp
  have HLL : Hid _ := hlL
  clear R hlL
  go_enter Tryd.func69, Tryd.ntmps69
  go_upto_region 1 with fail
  refine wp_region_held_drew (S := fun w' => w'.cell? ⟨rb, 0, none⟩ = some (.string s) ∧ w'.cell? ⟨rb, 1, none⟩ = some (.int .i64 (o : Int))) (by kernel_rfl) (HC.out _ HR.out) (fun hHeld => ?_)
  refine wpAnyH_take (i := 0) (v := .pointer (some ⟨rb, 0, none⟩)) rfl (by kernel_rfl) (by kernel_rfl) (by kernel_rfl) (fun _ _ _ h => h) (Or.inl ⟨by rfl, ?_⟩) hHeld ?_
  · intro w hSw; (try dsimp only at hSw); simp only [List.getElem_toArray, List.getElem_cons_zero]; go_simp
  simp only [List.getElem_toArray, List.getElem_cons_zero, Act.put, List.setIfInBounds_toArray, List.set_cons_zero, List.set_cons_succ]
  refine wpAnyH_take (i := 1) (v := .pointer (some ⟨rb, 0, none⟩)) rfl (by kernel_rfl) (by kernel_rfl) (by kernel_rfl) (fun _ _ _ h => h) (Or.inl ⟨by rfl, ?_⟩) hHeld ?_
  · intro w hSw; (try dsimp only at hSw); simp only [List.getElem_toArray, List.getElem_cons_zero, List.getElem_cons_succ]; go_simp
  simp only [List.getElem_toArray, List.getElem_cons_zero, List.getElem_cons_succ, Act.put, List.setIfInBounds_toArray, List.set_cons_zero, List.set_cons_succ]
  refine wpAnyH_take (i := 2) (v := .pointer (some ⟨rb, 0, none⟩)) rfl (by kernel_rfl) (by kernel_rfl) (by kernel_rfl) (fun _ _ _ h => h) (Or.inl ⟨by rfl, ?_⟩) hHeld ?_
  · intro w hSw; (try dsimp only at hSw); simp only [List.getElem_toArray, List.getElem_cons_zero, List.getElem_cons_succ]; go_simp
  simp only [List.getElem_toArray, List.getElem_cons_zero, List.getElem_cons_succ, Act.put, List.setIfInBounds_toArray, List.set_cons_zero, List.set_cons_succ]
  refine wpAnyH_take (i := 3) (v := .string s) rfl (by kernel_rfl) (by kernel_rfl) (by kernel_rfl) (fun _ _ _ h => h) (Or.inl ⟨by rfl, ?_⟩) hHeld ?_
  · intro w hSw; (try dsimp only at hSw); simp only [List.getElem_toArray, List.getElem_cons_zero, List.getElem_cons_succ]; go_simp
  simp only [List.getElem_toArray, List.getElem_cons_zero, List.getElem_cons_succ, Act.put, List.setIfInBounds_toArray, List.set_cons_zero, List.set_cons_succ]
  refine wpAnyH_take (i := 4) (v := .pointer (some ⟨rb, 0, none⟩)) rfl (by kernel_rfl) (by kernel_rfl) (by kernel_rfl) (fun _ _ _ h => h) (Or.inl ⟨by rfl, ?_⟩) hHeld ?_
  · intro w hSw; (try dsimp only at hSw); simp only [List.getElem_toArray, List.getElem_cons_zero, List.getElem_cons_succ]; go_simp
  simp only [List.getElem_toArray, List.getElem_cons_zero, List.getElem_cons_succ, Act.put, List.setIfInBounds_toArray, List.set_cons_zero, List.set_cons_succ]
  refine wpAnyH_take (i := 5) (v := .pointer (some ⟨rb, 0, none⟩)) rfl (by kernel_rfl) (by kernel_rfl) (by kernel_rfl) (fun _ _ _ h => h) (Or.inl ⟨by rfl, ?_⟩) hHeld ?_
  · intro w hSw; (try dsimp only at hSw); simp only [List.getElem_toArray, List.getElem_cons_zero, List.getElem_cons_succ]; go_simp
  simp only [List.getElem_toArray, List.getElem_cons_zero, List.getElem_cons_succ, Act.put, List.setIfInBounds_toArray, List.set_cons_zero, List.set_cons_succ]
  refine wpAnyH_take (i := 6) (v := .pointer (some ⟨rb, 1, none⟩)) rfl (by kernel_rfl) (by kernel_rfl) (by kernel_rfl) (fun _ _ _ h => h) (Or.inl ⟨by rfl, ?_⟩) hHeld ?_
  · intro w hSw; (try dsimp only at hSw); simp only [List.getElem_toArray, List.getElem_cons_zero, List.getElem_cons_succ]; go_simp
  simp only [List.getElem_toArray, List.getElem_cons_zero, List.getElem_cons_succ, Act.put, List.setIfInBounds_toArray, List.set_cons_zero, List.set_cons_succ]
  refine wpAnyH_take (i := 7) (v := .int .i64 (o : Int)) rfl (by kernel_rfl) (by kernel_rfl) (by kernel_rfl) (fun _ _ _ h => h) (Or.inl ⟨by rfl, ?_⟩) hHeld ?_
  · intro w hSw; (try dsimp only at hSw); simp only [List.getElem_toArray, List.getElem_cons_zero, List.getElem_cons_succ]; go_simp
  simp only [List.getElem_toArray, List.getElem_cons_zero, List.getElem_cons_succ, Act.put, List.setIfInBounds_toArray, List.set_cons_zero, List.set_cons_succ]
  refine wpAnyH_ready (rs := [8]) (by kernel_rfl) (by simp) ?_
  refine AllReadyH.cons rfl (fun K' hK => ?_) AllReadyH.nil
  simp only [List.getElem_toArray, List.getElem_cons_zero, List.getElem_cons_succ]
  go_simp
  refine Calls.mono (HHD.out _) ?_
  rintro e wx ⟨rfl, ⟨hn, p, rfl⟩ | ⟨c, p, hn, hp1, hp2, rfl⟩⟩
  · skip
    have HN : Hid (bytesR (s.data.toList.drop o) = none) := show _ = _ by unfold bytesR; rw [hn]
    clear hn
    go_wp2_with fail
    refine hK.out _ _ (HC.out _ HR.out) (fun hHeld' => ?_)
    clear hK K' hHeld
    have hHeld := hHeld'
    clear hHeld'
    refine wpAnyH_take (i := 9) (v := .tuple #[.int .i64 (-1), .int .i64 p]) rfl (by kernel_rfl) (by kernel_rfl) (by kernel_rfl) (fun _ _ _ h => h) (Or.inl ⟨by rfl, ?_⟩) hHeld ?_
    · intro w hSw; (try dsimp only at hSw); simp only [List.getElem_toArray, List.getElem_cons_zero, List.getElem_cons_succ]; go_simp
    simp only [List.getElem_toArray, List.getElem_cons_zero, List.getElem_cons_succ, Act.put, List.setIfInBounds_toArray, List.set_cons_zero, List.set_cons_succ]
    refine wpAnyH_take (i := 10) (v := .int .i64 (-1)) rfl (by kernel_rfl) (by kernel_rfl) (by kernel_rfl) (fun _ _ _ h => h) (Or.inl ⟨by rfl, ?_⟩) hHeld ?_
    · intro w hSw; (try dsimp only at hSw); simp only [List.getElem_toArray, List.getElem_cons_zero, List.getElem_cons_succ]; go_simp
    simp only [List.getElem_toArray, List.getElem_cons_zero, List.getElem_cons_succ, Act.put, List.setIfInBounds_toArray, List.set_cons_zero, List.set_cons_succ]
    refine wpAnyH_take (i := 11) (v := .int .i64 p) rfl (by kernel_rfl) (by kernel_rfl) (by kernel_rfl) (fun _ _ _ h => h) (Or.inl ⟨by rfl, ?_⟩) hHeld ?_
    · intro w hSw; (try dsimp only at hSw); simp only [List.getElem_toArray, List.getElem_cons_zero, List.getElem_cons_succ]; go_simp
    simp only [List.getElem_toArray, List.getElem_cons_zero, List.getElem_cons_succ, Act.put, List.setIfInBounds_toArray, List.set_cons_zero, List.set_cons_succ]
    refine wpAnyH_take (i := 12) (v := .int .i64 (-1)) rfl (by kernel_rfl) (by kernel_rfl) (by kernel_rfl) (fun _ _ _ h => h) (Or.inl ⟨by rfl, ?_⟩) hHeld ?_
    · intro w hSw; (try dsimp only at hSw); simp only [List.getElem_toArray, List.getElem_cons_zero, List.getElem_cons_succ]; go_simp
    simp only [List.getElem_toArray, List.getElem_cons_zero, List.getElem_cons_succ, Act.put, List.setIfInBounds_toArray, List.set_cons_zero, List.set_cons_succ]
    refine wpAnyH_take (i := 13) (v := .int .i64 p) rfl (by kernel_rfl) (by kernel_rfl) (by kernel_rfl) (fun _ _ _ h => h) (Or.inl ⟨by rfl, ?_⟩) hHeld ?_
    · intro w hSw; (try dsimp only at hSw); simp only [List.getElem_toArray, List.getElem_cons_zero, List.getElem_cons_succ]; go_simp
    simp only [List.getElem_toArray, List.getElem_cons_zero, List.getElem_cons_succ, Act.put, List.setIfInBounds_toArray, List.set_cons_zero, List.set_cons_succ]
    refine wpAnyH_done (by kernel_rfl) ?_ _
    go_wp2_with fail
    go_ret2
    exact RbPost.no HN.out HR.out.drew (Kept.refl _ _).drew
  · skip
    have hcb := (numR_len hn).2
    have HNN : Hid _ := hn
    clear hn
    go_wp2_with fail
    refine hK.out _ _ (HC.out _ HR.out) (fun hHeld' => ?_)
    clear hK K' hHeld
    have hHeld := hHeld'
    clear hHeld'
    refine wpAnyH_take (i := 9) (v := .tuple #[.int .i64 (c : Int), .int .i64 (p : Int)]) rfl (by kernel_rfl) (by kernel_rfl) (by kernel_rfl) (fun _ _ _ h => h) (Or.inl ⟨by rfl, ?_⟩) hHeld ?_
    · intro w hSw; (try dsimp only at hSw); simp only [List.getElem_toArray, List.getElem_cons_zero, List.getElem_cons_succ]; go_simp
    simp only [List.getElem_toArray, List.getElem_cons_zero, List.getElem_cons_succ, Act.put, List.setIfInBounds_toArray, List.set_cons_zero, List.set_cons_succ]
    refine wpAnyH_take (i := 10) (v := .int .i64 (c : Int)) rfl (by kernel_rfl) (by kernel_rfl) (by kernel_rfl) (fun _ _ _ h => h) (Or.inl ⟨by rfl, ?_⟩) hHeld ?_
    · intro w hSw; (try dsimp only at hSw); simp only [List.getElem_toArray, List.getElem_cons_zero, List.getElem_cons_succ]; go_simp
    simp only [List.getElem_toArray, List.getElem_cons_zero, List.getElem_cons_succ, Act.put, List.setIfInBounds_toArray, List.set_cons_zero, List.set_cons_succ]
    refine wpAnyH_take (i := 11) (v := .int .i64 (p : Int)) rfl (by kernel_rfl) (by kernel_rfl) (by kernel_rfl) (fun _ _ _ h => h) (Or.inl ⟨by rfl, ?_⟩) hHeld ?_
    · intro w hSw; (try dsimp only at hSw); simp only [List.getElem_toArray, List.getElem_cons_zero, List.getElem_cons_succ]; go_simp
    simp only [List.getElem_toArray, List.getElem_cons_zero, List.getElem_cons_succ, Act.put, List.setIfInBounds_toArray, List.set_cons_zero, List.set_cons_succ]
    refine wpAnyH_take (i := 12) (v := .int .i64 (c : Int)) rfl (by kernel_rfl) (by kernel_rfl) (by kernel_rfl) (fun _ _ _ h => h) (Or.inl ⟨by rfl, ?_⟩) hHeld ?_
    · intro w hSw; (try dsimp only at hSw); simp only [List.getElem_toArray, List.getElem_cons_zero, List.getElem_cons_succ]; go_simp
    simp only [List.getElem_toArray, List.getElem_cons_zero, List.getElem_cons_succ, Act.put, List.setIfInBounds_toArray, List.set_cons_zero, List.set_cons_succ]
    refine wpAnyH_take (i := 13) (v := .int .i64 (p : Int)) rfl (by kernel_rfl) (by kernel_rfl) (by kernel_rfl) (fun _ _ _ h => h) (Or.inl ⟨by rfl, ?_⟩) hHeld ?_
    · intro w hSw; (try dsimp only at hSw); simp only [List.getElem_toArray, List.getElem_cons_zero, List.getElem_cons_succ]; go_simp
    simp only [List.getElem_toArray, List.getElem_cons_zero, List.getElem_cons_succ, Act.put, List.setIfInBounds_toArray, List.set_cons_zero, List.set_cons_succ]
    refine wpAnyH_done (by kernel_rfl) ?_ _
    have g0 := HR.out.cells.1
    have g1 := HR.out.cells.2.1
    have f1 := HR.out.free 1
    have hw1 : IntKind.i64.wrap ((s.size : Int) - (p : Int)) = (s.size : Int) - (p : Int) := by simp (disch := omega) only [IntWalk.i64_in]
    have hw2 : IntKind.i64.wrap ((p : Int) + (c : Int)) = (p : Int) + (c : Int) := by simp (disch := omega) only [IntWalk.i64_in]
    have hc0 : (0 : Int) ≤ (c : Int) := by omega
    by_cases hlt : s.size < p + c
    · have HN : Hid (bytesR (s.data.toList.drop o) = none) := bytesR_cut HNN.out (by rw [List.length_drop, HLL.out]; omega)
      have hlt' : (s.size : Int) - (p : Int) < (c : Int) := by omega
      go_wp2_with fail
      go_ret2
      exact RbPost.no HN.out HR.out.drew (Kept.refl _ _).drew
    · have HN : Hid (bytesR (s.data.toList.drop o) = some ((s.data.toList.drop p).take c, s.data.toList.drop (p + c))) := by
        have := bytesR_is HNN.out (by rw [List.length_drop, HLL.out]; omega)
        rw [List.drop_drop] at this
        exact this
      have hlt' : (c : Int) ≤ (s.size : Int) - (p : Int) := by omega
      have hpc : p + c ≤ s.size := by omega
      have hpp : p ≤ p + c := by omega
      have HE : Hid _ := extract_mid s p c
      have HRS : Hid (Rg rb s (p + c) n (w.setCell ⟨rb, 1, none⟩ (.int .i64 ((p : Int) + (c : Int)))).drew) := (HR.out.set1 (p + c)).drew
      have HKS : Hid (Kept (fun k => k = rb) w (w.setCell ⟨rb, 1, none⟩ (.int .i64 ((p : Int) + (c : Int)))).drew) := (Kept.setCell (C := fun k => k = rb) (p := ⟨rb, 1, none⟩) (Kept.refl _ _) rfl _).drew
      go_wp2_with fail
      go_ret2
      exact RbPost.yes HN.out HE.out hpc HRS.out HKS.out
end Go.Proofs.YtilkjafggfdjeaaDoor
