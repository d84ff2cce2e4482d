/-
  The contracts of package scan's next and mentions.
  Conditions: the text has no more than a million bytes; what is done with a mention keeps to a contract of its own.
-/
import Derived.Test.YtiemoipafeinoaaDoorNa
import Derived.Test.YtiemoipafeinoaaDoorLeafs
import Derived.Test.YtiemoipafeinoaaDoorTxA
import Derived.Test.YtiemoipafeinoaaDoorShelfI
import Derived.Lib.IndexLaws
namespace Go.Proofs.YtiemoipafeinoaaDoor
open Go.RowKit
attribute [local go_sem ↓] Go.wp_at_zero Go.wp_at_succ

theorem part_listN (s : ByteArray) (f j : Nat) : (s.extract f j).data.toList = (s.data.toList.take j).drop f := by
  rw [ByteArray.data_extract, Array.toList_extract]
  show (s.data.toList.drop f).take (j - f) = _
  rw [List.drop_take]
theorem part_end (s : ByteArray) (f : Nat) : (s.extract f s.size).data.toList = s.data.toList.drop f := by
  have e : s.data.toList.take s.size = s.data.toList := List.take_of_length_le (Nat.le_refl _)
  rw [part_listN, e]
theorem drop_atN (s : ByteArray) {j : Nat} (hj : j < s.size) : s.data.toList.drop j = s[j] :: s.data.toList.drop (j + 1) := by
  rw [List.drop_eq_getElem_cons (by have : s.data.toList.length = s.size := rfl; omega)]
  rfl
/-- Where a text goes on behind its next mark. -/
def nx (l : List UInt8) (k : Nat) : Int := if Lib.indexByte (l.drop k) 35 < 0 then 0 else k + Lib.indexByte (l.drop k) 35 + 1
theorem nx_spec (l : List UInt8) (k : Nat) (hk : k ≤ l.length) : (nx l k = 0 ∧ mv k (l.drop k) = []) ∨ ∃ a : Nat, nx l k = (a : Int) + 1 ∧ k ≤ a ∧ a < l.length ∧ l.drop a = 35 :: l.drop (a + 1) ∧ mv k (l.drop k) = mv a (l.drop a) := by
  unfold nx
  have hge := Lib.indexByte_ge (l.drop k) 35
  split
  · left
    rename_i h
    refine ⟨rfl, ?_⟩
    have hn := Lib.indexByte_none (show Lib.indexByte (l.drop k) 35 = -1 by omega)
    have h2 : ∀ c ∈ l.drop k, c ≠ 35 := fun c hc e => by
      obtain ⟨i, hi⟩ := List.getElem?_of_mem hc
      exact hn i (by rw [hi, e])
    have := mv_skip h2 k []
    rw [List.append_nil] at this
    rw [this]; rfl
  · right
    rename_i h
    obtain ⟨o, ho⟩ : ∃ o : Nat, Lib.indexByte (l.drop k) 35 = o := ⟨_, (Int.toNat_of_nonneg (by omega)).symm⟩
    obtain ⟨h1, h2⟩ := Lib.indexByte_some ho
    obtain ⟨h3, h4⟩ := List.getElem?_eq_some_iff.1 h1
    rw [List.length_drop] at h3
    rw [List.getElem_drop] at h4
    refine ⟨k + o, by rw [ho]; omega, by omega, by omega, by rw [List.drop_eq_getElem_cons (by omega), h4], ?_⟩
    have e : l.drop k = (l.drop k).take o ++ l.drop (k + o) := by
      rw [← List.drop_drop, List.take_append_drop]
    rw [e, mv_skip (fun c hc e2 => ?_), List.length_take, List.length_drop, Nat.min_eq_left (by omega)]
    obtain ⟨i, hi⟩ := List.getElem?_of_mem hc
    have hlt := (List.getElem?_eq_some_iff.1 hi).1
    rw [List.length_take] at hlt
    rw [List.getElem?_take_of_lt (by omega), e2] at hi
    exact h2 i (by omega) hi

set_option maxRecDepth 100000 in
theorem next_any (s : ByteArray) (k : Nat) (w : World) (hs : s.size ≤ 1000000) (hk : k ≤ s.size) :
    Calls Tryd.prog 44 #[.string s, .int .i64 k] w fun e w' => e = .returned (.int .i64 (nx s.data.toList k)) ∧ w' = w := by
  have hge := Lib.indexByte_ge (s.data.toList.drop k) 35
  have hk0 : (0 : Int) ≤ (k : Int) := by omega
  have hks : (k : Int) ≤ (s.size : Int) := by omega
  have HI : Hid _ := Tryd.strings_IndexByte (s.extract k s.size) 35 w
  have hlt : Lib.indexByte (s.data.toList.drop k) 35 ≤ 1000000 := by
    rcases nx_spec s.data.toList k hk with ⟨h, _⟩ | ⟨a, h, h1, h2, _⟩
    · unfold nx at h
      split at h <;> omega
    · unfold nx at h
      have h2' : a < s.size := h2
      split at h <;> omega
  have HX : Hid (nx s.data.toList k = if Lib.indexByte (s.data.toList.drop k) 35 < 0 then 0 else k + Lib.indexByte (s.data.toList.drop k) 35 + 1) := show _ = _ by rfl
  rw [part_end, show (35 : Int).toNat.toUInt8 = 35 from rfl] at HI
  obtain ⟨z, hz⟩ : ∃ z, z = Lib.indexByte (s.data.toList.drop k) 35 := ⟨_, rfl⟩
  rw [← hz] at hge hlt HI HX
  clear hz
  have hsz : (s.size : Int).toNat = s.size := by omega
  have hkz : (k : Int).toNat = k := by omega
  go_enter Tryd.func44, Tryd.ntmps44
  go_wp2_with fail
  refine Calls.mono HI.out ?_
  rintro e w1 ⟨rfl, rfl⟩
  by_cases h0 : z < 0
  · have HE : Hid (nx s.data.toList k = 0) := show _ = _ by rw [HX.out, if_pos h0]
    go_wp2_with fail
    go_ret
    exact ⟨by rw [HE.out]; rfl, rfl⟩
  · have HE : Hid (nx s.data.toList k = (k : Int) + z + 1) := show _ = _ by rw [HX.out, if_neg h0]
    have hzz : 0 ≤ z := by omega
    have hw1 : IntKind.i64.wrap ((k : Int) + z) = (k : Int) + z := IntWalk.i64_in _ (by omega)
    have hw2 : IntKind.i64.wrap ((k : Int) + z + 1) = (k : Int) + z + 1 := IntWalk.i64_in _ (by omega)
    go_wp2_with fail
    go_ret
    exact ⟨by rw [HE.out]; rfl, rfl⟩

/-- The word's end. -/
theorem wd_at {l : List UInt8} {a j : Nat} (haj : a ≤ j) (h : ∀ c ∈ (l.take j).drop a, isL c = true) (he : wd (l.drop j) = []) : wd (l.drop a) = (l.take j).drop a := by
  have e : l.drop a = (l.take j).drop a ++ l.drop j := by
    rcases Nat.lt_or_ge l.length j with hj | hj
    · rw [List.take_of_length_le (by omega), List.drop_of_length_le (show l.length ≤ j by omega), List.append_nil]
    · rw [← List.drop_append_of_le_length (by rw [List.length_take]; omega), List.take_append_drop]
  rw [e]
  exact wd_app h he
theorem part_snocN (s : ByteArray) {f j : Nat} (hf : f ≤ j) (hj : j < s.size) : (s.data.toList.take (j + 1)).drop f = (s.data.toList.take j).drop f ++ [s[j]] := mid_snoc hf (drop_atN s hj)
theorem mv_next {l : List UInt8} {k j : Nat} {x : ByteArray} (hd : l.drop k = 35 :: l.drop (k + 1)) (hx : x.data.toList = (l.take j).drop (k + 1)) (hj : k + 1 ≤ j) (hjl : j ≤ l.length) (hw : wd (l.drop (k + 1)) = (l.take j).drop (k + 1)) : mv k (l.drop k) = if nameB x = true then (k + 1, x) :: mv j (l.drop j) else mv j (l.drop j) := by
  have e : bOf (wd (l.drop (k + 1))) = x := bOf_eq.2 (by rw [hw, hx])
  have e2 : mv (k + 1) (l.drop (k + 1)) = mv j (l.drop j) := by
    have hlen : (wd (l.drop (k + 1))).length = j - (k + 1) := by rw [hw, List.length_drop, List.length_take]; omega
    rw [mv_word, hlen, List.drop_drop]
    congr 2 <;> omega
  rw [hd]
  split
  · rename_i h
    rw [mv_hit (by rw [e]; exact h), e, e2]
  · rename_i h
    rw [mv_not (fun h2 => h (by rw [← e]; exact h2.2)), e2]

set_option maxRecDepth 100000 in
set_option maxHeartbeats 2000000 in
theorem mentions_any (cl : FuncId) (eg : ∀ args w, (callFunc cl args).run Tryd.prog w = .ok (.enter cl args) w) (cp : Array Value) (I : List (Nat × ByteArray) → World → Prop) (s : ByteArray) (hs : s.size ≤ 1000000)
    (hc : ∀ pre x post W, mv 0 s.data.toList = pre ++ x :: post → I pre W → Calls Tryd.prog cl (#[.int .i64 (x.1 : Int), .string x.2] ++ cp) W fun e w' => e = .returned (.tuple #[]) ∧ I (pre ++ [x]) w') (w : World) (h : I [] w) :
    Calls Tryd.prog 30 #[.string s, .func (.func cl) #[] cp] w fun e w' => e = .returned (.tuple #[]) ∧ I (mv 0 s.data.toList) w' := by
  have hsl : s.data.toList.length = s.size := rfl
  have HC : Hid (∀ pre x post W, mv 0 s.data.toList = pre ++ x :: post → I pre W → Calls Tryd.prog cl (#[.int .i64 (x.1 : Int), .string x.2] ++ cp) W fun e w' => e = .returned (.tuple #[]) ∧ I (pre ++ [x]) w') := hc
  have HN : Hid (∀ (k : Nat) (w : World), k ≤ s.size → Calls Tryd.prog 44 #[.string s, .int .i64 k] w fun e w' => e = .returned (.int .i64 (nx s.data.toList k)) ∧ w' = w) := fun k w hk => next_any s k w hs hk
  have HSP : Hid (∀ k, k ≤ s.data.toList.length → (nx s.data.toList k = 0 ∧ mv k (s.data.toList.drop k) = []) ∨ ∃ a : Nat, nx s.data.toList k = (a : Int) + 1 ∧ k ≤ a ∧ a < s.data.toList.length ∧ s.data.toList.drop a = 35 :: s.data.toList.drop (a + 1) ∧ mv k (s.data.toList.drop k) = mv a (s.data.toList.drop a)) := fun k hk => nx_spec _ k hk
  have HH : Hid (I [] w) := h
  clear hc h
  go_enter Tryd.func30, Tryd.ntmps30
  go_wp2_with fail
  refine Calls.mono (HN.out 0 w (Nat.zero_le _)) ?_
  rintro e w1 ⟨rfl, rfl⟩
  have HST : Hid (∃ pre, I pre w1 ∧ ((nx s.data.toList 0 = 0 ∧ mv 0 s.data.toList = pre) ∨ ∃ k : Nat, nx s.data.toList 0 = (k : Int) + 1 ∧ k < s.size ∧ s.data.toList.drop k = 35 :: s.data.toList.drop (k + 1) ∧ mv 0 s.data.toList = pre ++ mv k (s.data.toList.drop k))) := by
    refine ⟨[], HH.out, ?_⟩
    rcases HSP.out 0 (Nat.zero_le _) with ⟨h1, h2⟩ | ⟨a, h1, _, h3, h4, h5⟩
    · exact .inl ⟨h1, h2⟩
    · exact .inr ⟨a, h1, h3, h4, h5⟩
  obtain ⟨z, hz⟩ : ∃ z, z = nx s.data.toList 0 := ⟨_, rfl⟩
  rw [← hz] at HST ⊢
  clear hz
  go_wp2_with fail
  go_loopw [4] (fun a wr => ∃ z : Int, a = .int .i64 z ∧ Hid (∃ pre, I pre wr ∧ ((z = 0 ∧ mv 0 s.data.toList = pre) ∨ ∃ k : Nat, z = (k : Int) + 1 ∧ k < s.size ∧ s.data.toList.drop k = 35 :: s.data.toList.drop (k + 1) ∧ mv 0 s.data.toList = pre ++ mv k (s.data.toList.drop k)))) (fun a _ => if intOf a ≤ 0 then 0 else s.size + 1 - (intOf a).toNat)
  case atStart => exact ⟨z, rfl, HST⟩
  case round =>
    obtain ⟨z, rfl, HI⟩ := hrel
    obtain ⟨pre, hI, ⟨rfl, hm⟩ | ⟨k, rfl, hk, hd, hm⟩⟩ := HI.out
    · have HF : Hid (I (mv 0 s.data.toList) wr) := by rw [hm]; exact hI
      clear HI hI hm
      go_wp2_with fail
      go_returns
      exact ⟨rfl, HF.out⟩
    · have HP : Hid (I pre wr) := hI
      have HD : Hid (s.data.toList.drop k = 35 :: s.data.toList.drop (k + 1)) := hd
      have HM : Hid (mv 0 s.data.toList = pre ++ mv k (s.data.toList.drop k)) := hm
      have hk1 : (0 : Int) < (k : Int) + 1 := by omega
      clear HI hI hd hm
      go_wp2_with fail
      go_loop [5] (fun i => ∃ j : Nat, i = .int .i64 j ∧ k + 1 ≤ j ∧ j ≤ s.size ∧ Hid (∀ c ∈ (s.data.toList.take j).drop (k + 1), isL c = true)) (fun i => s.size - (intOf i).toNat)
      case atStart => exact ⟨k + 1, by go_num, Nat.le_refl _, by omega, fun c hc => by rw [List.drop_eq_nil_of_le (by rw [List.length_take]; omega)] at hc; cases hc⟩
      case round =>
        obtain ⟨j, rfl, hj1, hj2, HJ⟩ := hrel
        have hj0 : (0 : Int) ≤ (j : Int) := by omega
        by_cases hlt : j < s.size
        · have hlt' : (j : Int) < (s.size : Int) := by omega
          cases hb : nb (s[j].toNat : Int) with
          | true =>
            have HJ2 : Hid (∀ c ∈ (s.data.toList.take (j + 1)).drop (k + 1), isL c = true) := fun c hc => by
              rw [part_snocN s hj1 hlt, List.mem_append, List.mem_singleton] at hc
              rcases hc with hc | rfl
              · exact HJ.out c hc
              · exact hb
            go_wp2_with fail
            refine (nameByte_any _ _).mono ?_
            rintro e w2 ⟨rfl, rfl⟩
            rw [hb]
            go_wp2_with fail
            go_round
            case rel => exact ⟨j + 1, by go_num, by omega, by omega, HJ2⟩
            case measure => simp [intOf]; omega
          | false =>
            go_wp2_with fail
            refine (nameByte_any _ _).mono ?_
            rintro e w2 ⟨rfl, rfl⟩
            rw [hb]
            have HW : Hid (wd (s.data.toList.drop (k + 1)) = (s.data.toList.take j).drop (k + 1)) := wd_at hj1 HJ.out (by rw [drop_atN s hlt]; unfold wd; rw [List.takeWhile_cons, if_neg (by show ¬ nb _ = true; rw [hb]; simp)])
            have HX : Hid (mv k (s.data.toList.drop k) = if nameB (s.extract (k + 1) j) = true then (k + 1, s.extract (k + 1) j) :: mv j (s.data.toList.drop j) else mv j (s.data.toList.drop j)) := mv_next HD.out (part_listN s (k + 1) j) hj1 hj2 HW.out
            have HXS : Hid ((s.extract (k + 1) j).size ≤ maxLen) := by show _ ≤ _; rw [ByteArray.size_extract]; unfold maxLen; omega
            go_wp2_with fail
            refine Calls.mono (name_any (s.extract (k + 1) j) _ HXS.out) ?_
            rintro e w3 ⟨rfl, rfl⟩
            cases hn : nameB (s.extract (k + 1) j) with
            | true =>
              have HM2 : Hid (mv 0 s.data.toList = pre ++ (k + 1, s.extract (k + 1) j) :: mv j (s.data.toList.drop j)) := by show _ = _; rw [HM.out, HX.out, if_pos hn]
              have HCC : Hid (Calls Tryd.prog cl (#[.int .i64 ((k : Int) + 1), .string (s.extract (k + 1) j)] ++ cp) w3 fun e w' => e = .returned (.tuple #[]) ∧ I (pre ++ [(k + 1, s.extract (k + 1) j)]) w') := HC.out pre (k + 1, s.extract (k + 1) j) _ w3 HM2.out HP.out
              go_wp2_with fail
              refine Calls.mono HCC.out ?_
              rintro e w4 ⟨rfl, hI4⟩
              have HI4 : Hid (∃ pre', I pre' w4 ∧ mv 0 s.data.toList = pre' ++ mv j (s.data.toList.drop j)) := ⟨_, hI4, by rw [HM2.out]; simp⟩
              clear hI4 HCC HM2
              go_wp2_with fail
              refine Calls.mono (HN.out j w4 hj2) ?_
              rintro e w5 ⟨rfl, rfl⟩
              have HST : Hid (∃ pre, I pre w5 ∧ ((nx s.data.toList j = 0 ∧ mv 0 s.data.toList = pre) ∨ ∃ k : Nat, nx s.data.toList j = (k : Int) + 1 ∧ k < s.size ∧ s.data.toList.drop k = 35 :: s.data.toList.drop (k + 1) ∧ mv 0 s.data.toList = pre ++ mv k (s.data.toList.drop k))) := by
                obtain ⟨pre', h1, h2⟩ := HI4.out
                refine ⟨pre', h1, ?_⟩
                rcases HSP.out j hj2 with ⟨g1, g2⟩ | ⟨a, g1, _, g3, g4, g5⟩
                · exact .inl ⟨g1, by rw [h2, g2, List.append_nil]⟩
                · exact .inr ⟨a, g1, g3, g4, by rw [h2, g5]⟩
              have HMS : Hid ((if nx s.data.toList j ≤ 0 then 0 else s.size + 1 - (nx s.data.toList j).toNat) < s.size - k) := by
                show _ < _
                rcases HSP.out j hj2 with ⟨g1, _⟩ | ⟨a, g1, g2, _⟩
                · rw [g1]; simp; omega
                · rw [g1]; split <;> omega
              obtain ⟨z2, hz2⟩ : ∃ z2, z2 = nx s.data.toList j := ⟨_, rfl⟩
              rw [← hz2] at HST HMS ⊢
              clear hz2
              go_wp2_with fail
              go_roundw
              case rel => exact ⟨z2, rfl, HST⟩
              case measure =>
                have := HMS.out
                show (if z2 ≤ 0 then 0 else s.size + 1 - z2.toNat) < if (k : Int) + 1 ≤ 0 then 0 else s.size + 1 - ((k : Int) + 1).toNat
                rw [if_neg (show ¬ ((k : Int) + 1 ≤ 0) by omega)]
                omega
            | false =>
              have HI4 : Hid (∃ pre', I pre' w3 ∧ mv 0 s.data.toList = pre' ++ mv j (s.data.toList.drop j)) := ⟨pre, HP.out, by rw [HM.out, HX.out, if_neg (by simp [hn])]⟩
              go_wp2_with fail
              refine Calls.mono (HN.out j w3 hj2) ?_
              rintro e w5 ⟨rfl, rfl⟩
              have HST : Hid (∃ pre, I pre w5 ∧ ((nx s.data.toList j = 0 ∧ mv 0 s.data.toList = pre) ∨ ∃ k : Nat, nx s.data.toList j = (k : Int) + 1 ∧ k < s.size ∧ s.data.toList.drop k = 35 :: s.data.toList.drop (k + 1) ∧ mv 0 s.data.toList = pre ++ mv k (s.data.toList.drop k))) := by
                obtain ⟨pre', h1, h2⟩ := HI4.out
                refine ⟨pre', h1, ?_⟩
                rcases HSP.out j hj2 with ⟨g1, g2⟩ | ⟨a, g1, _, g3, g4, g5⟩
                · exact .inl ⟨g1, by rw [h2, g2, List.append_nil]⟩
                · exact .inr ⟨a, g1, g3, g4, by rw [h2, g5]⟩
              have HMS : Hid ((if nx s.data.toList j ≤ 0 then 0 else s.size + 1 - (nx s.data.toList j).toNat) < s.size - k) := by
                show _ < _
                rcases HSP.out j hj2 with ⟨g1, _⟩ | ⟨a, g1, g2, _⟩
                · rw [g1]; simp; omega
                · rw [g1]; split <;> omega
              obtain ⟨z2, hz2⟩ : ∃ z2, z2 = nx s.data.toList j := ⟨_, rfl⟩
              rw [← hz2] at HST HMS ⊢
              clear hz2
              go_wp2_with fail
              go_roundw
              case rel => exact ⟨z2, rfl, HST⟩
              case measure =>
                have := HMS.out
                show (if z2 ≤ 0 then 0 else s.size + 1 - z2.toNat) < if (k : Int) + 1 ≤ 0 then 0 else s.size + 1 - ((k : Int) + 1).toNat
                rw [if_neg (show ¬ ((k : Int) + 1 ≤ 0) by omega)]
                omega
        · have HW : Hid (wd (s.data.toList.drop (k + 1)) = (s.data.toList.take j).drop (k + 1)) := wd_at hj1 HJ.out (by rw [List.drop_of_length_le (show s.data.toList.length ≤ j by omega)]; rfl)
          have HX : Hid (mv k (s.data.toList.drop k) = if nameB (s.extract (k + 1) j) = true then (k + 1, s.extract (k + 1) j) :: mv j (s.data.toList.drop j) else mv j (s.data.toList.drop j)) := mv_next HD.out (part_listN s (k + 1) j) hj1 hj2 HW.out
          have HXS : Hid ((s.extract (k + 1) j).size ≤ maxLen) := by show _ ≤ _; rw [ByteArray.size_extract]; unfold maxLen; omega
          go_wp2_with fail
          refine Calls.mono (name_any (s.extract (k + 1) j) _ HXS.out) ?_
          rintro e w3 ⟨rfl, rfl⟩
          cases hn : nameB (s.extract (k + 1) j) with
          | true =>
            have HM2 : Hid (mv 0 s.data.toList = pre ++ (k + 1, s.extract (k + 1) j) :: mv j (s.data.toList.drop j)) := by show _ = _; rw [HM.out, HX.out, if_pos hn]
            have HCC : Hid (Calls Tryd.prog cl (#[.int .i64 ((k : Int) + 1), .string (s.extract (k + 1) j)] ++ cp) w3 fun e w' => e = .returned (.tuple #[]) ∧ I (pre ++ [(k + 1, s.extract (k + 1) j)]) w') := HC.out pre (k + 1, s.extract (k + 1) j) _ w3 HM2.out HP.out
            go_wp2_with fail
            refine Calls.mono HCC.out ?_
            rintro e w4 ⟨rfl, hI4⟩
            have HI4 : Hid (∃ pre', I pre' w4 ∧ mv 0 s.data.toList = pre' ++ mv j (s.data.toList.drop j)) := ⟨_, hI4, by rw [HM2.out]; simp⟩
            clear hI4 HCC HM2
            go_wp2_with fail
            refine Calls.mono (HN.out j w4 hj2) ?_
            rintro e w5 ⟨rfl, rfl⟩
            have HST : Hid (∃ pre, I pre w5 ∧ ((nx s.data.toList j = 0 ∧ mv 0 s.data.toList = pre) ∨ ∃ k : Nat, nx s.data.toList j = (k : Int) + 1 ∧ k < s.size ∧ s.data.toList.drop k = 35 :: s.data.toList.drop (k + 1) ∧ mv 0 s.data.toList = pre ++ mv k (s.data.toList.drop k))) := by
              obtain ⟨pre', h1, h2⟩ := HI4.out
              refine ⟨pre', h1, ?_⟩
              rcases HSP.out j hj2 with ⟨g1, g2⟩ | ⟨a, g1, _, g3, g4, g5⟩
              · exact .inl ⟨g1, by rw [h2, g2, List.append_nil]⟩
              · exact .inr ⟨a, g1, g3, g4, by rw [h2, g5]⟩
            have HMS : Hid ((if nx s.data.toList j ≤ 0 then 0 else s.size + 1 - (nx s.data.toList j).toNat) < s.size - k) := by
              show _ < _
              rcases HSP.out j hj2 with ⟨g1, _⟩ | ⟨a, g1, g2, _⟩
              · rw [g1]; simp; omega
              · rw [g1]; split <;> omega
            obtain ⟨z2, hz2⟩ : ∃ z2, z2 = nx s.data.toList j := ⟨_, rfl⟩
            rw [← hz2] at HST HMS ⊢
            clear hz2
            go_wp2_with fail
            go_roundw
            case rel => exact ⟨z2, rfl, HST⟩
            case measure =>
              have := HMS.out
              show (if z2 ≤ 0 then 0 else s.size + 1 - z2.toNat) < if (k : Int) + 1 ≤ 0 then 0 else s.size + 1 - ((k : Int) + 1).toNat
              rw [if_neg (show ¬ ((k : Int) + 1 ≤ 0) by omega)]
              omega
          | false =>
            have HI4 : Hid (∃ pre', I pre' w3 ∧ mv 0 s.data.toList = pre' ++ mv j (s.data.toList.drop j)) := ⟨pre, HP.out, by rw [HM.out, HX.out, if_neg (by simp [hn])]⟩
            go_wp2_with fail
            refine Calls.mono (HN.out j w3 hj2) ?_
            rintro e w5 ⟨rfl, rfl⟩
            have HST : Hid (∃ pre, I pre w5 ∧ ((nx s.data.toList j = 0 ∧ mv 0 s.data.toList = pre) ∨ ∃ k : Nat, nx s.data.toList j = (k : Int) + 1 ∧ k < s.size ∧ s.data.toList.drop k = 35 :: s.data.toList.drop (k + 1) ∧ mv 0 s.data.toList = pre ++ mv k (s.data.toList.drop k))) := by
              obtain ⟨pre', h1, h2⟩ := HI4.out
              refine ⟨pre', h1, ?_⟩
              rcases HSP.out j hj2 with ⟨g1, g2⟩ | ⟨a, g1, _, g3, g4, g5⟩
              · exact .inl ⟨g1, by rw [h2, g2, List.append_nil]⟩
              · exact .inr ⟨a, g1, g3, g4, by rw [h2, g5]⟩
            have HMS : Hid ((if nx s.data.toList j ≤ 0 then 0 else s.size + 1 - (nx s.data.toList j).toNat) < s.size - k) := by
              show _ < _
              rcases HSP.out j hj2 with ⟨g1, _⟩ | ⟨a, g1, g2, _⟩
              · rw [g1]; simp; omega
              · rw [g1]; split <;> omega
            obtain ⟨z2, hz2⟩ : ∃ z2, z2 = nx s.data.toList j := ⟨_, rfl⟩
            rw [← hz2] at HST HMS ⊢
            clear hz2
            go_wp2_with fail
            go_roundw
            case rel => exact ⟨z2, rfl, HST⟩
            case measure =>
              have := HMS.out
              show (if z2 ≤ 0 then 0 else s.size + 1 - z2.toNat) < if (k : Int) + 1 ≤ 0 then 0 else s.size + 1 - ((k : Int) + 1).toNat
              rw [if_neg (show ¬ ((k : Int) + 1 ≤ 0) by omega)]
              omega
end Go.Proofs.YtiemoipafeinoaaDoor
