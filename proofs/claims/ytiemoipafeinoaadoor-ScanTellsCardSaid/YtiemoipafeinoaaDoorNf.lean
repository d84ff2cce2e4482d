/-
  The contracts of the document's answer for mentions: stillroomref3's wordAt, FindIn, TurnOf.
  Conditions: the names lie in memory, and are few; the text is small.
-/
import Derived.Test.YtiemoipafeinoaaDoorNc
import Derived.Test.YtiemoipafeinoaaDoorTxL
import Derived.Test.YtiemoipafeinoaaDoorRefA
namespace Go.Proofs.YtiemoipafeinoaaDoor
open Go.RowKit Go.Maps
attribute [local go_sem ↓] Go.wp_at_zero Go.wp_at_succ

theorem mn_hit {r : List UInt8} (h : nameB (bOf (wd r)) = true) : mn (35 :: r) = bOf (wd r) :: mn r := by
  rw [← mv_mn 0, mv_hit h, List.map_cons, mv_mn]
theorem mn_not {c : UInt8} {r : List UInt8} (h : ¬ (c = 35 ∧ nameB (bOf (wd r)) = true)) : mn (c :: r) = mn r := by
  rw [← mv_mn 0, mv_not h, mv_mn]
theorem byte_is {c : UInt8} (h : ((c.toNat : Int) == 35) = true) : c = 35 := by
  have h2 : (c.toNat : Int) = 35 := by simpa using h
  exact UInt8.toNat_inj.1 (by have : c.toNat = 35 := by omega
                              rw [this]; rfl)
theorem byte_isnt {c : UInt8} (h : ((c.toNat : Int) == 35) = false) : c ≠ 35 := fun e => by rw [e] at h; exact absurd h (by decide)
set_option maxRecDepth 100000 in
theorem wordAt_any (s : ByteArray) (k : Nat) (w : World) (hs : s.size ≤ 1000000) (hk : k ≤ s.size) :
    Calls Tryd.prog 22 #[.string s, .int .i64 (k : Int)] w fun e w' => (∃ j : Nat, e = .returned (.int .i64 (j : Int)) ∧ k ≤ j ∧ j ≤ s.size ∧ wd (s.data.toList.drop k) = (s.data.toList.take j).drop k) ∧ w' = w := by
  have hsl : s.data.toList.length = s.size := rfl
  go_enter Tryd.func22, Tryd.ntmps22
  go_wp2_with fail
  go_loop [1] (fun i => ∃ j : Nat, i = .int .i64 j ∧ k ≤ j ∧ j ≤ s.size ∧ Hid (∀ c ∈ (s.data.toList.take j).drop k, isL c = true)) (fun i => s.size - (intOf i).toNat)
  case atStart => exact ⟨k, rfl, Nat.le_refl _, hk, fun c hc => by rw [List.drop_eq_nil_of_le (by rw [List.length_take]; omega)] at hc; cases hc⟩
  case round =>
    obtain ⟨j, rfl, hj1, hj2, HJ⟩ := hrel
    have hj0 : (0 : Int) ≤ (j : Int) := by omega
    by_cases hlt : j < s.size
    · have hlt' : (j : Int) < (s.size : Int) := by omega
      cases hb : nb (s[j].toNat : Int) with
      | true =>
        have HJ2 : Hid (∀ c ∈ (s.data.toList.take (j + 1)).drop k, isL c = true) := fun c hc => by
          rw [part_snocN s hj1 hlt, List.mem_append, List.mem_singleton] at hc
          rcases hc with hc | rfl
          · exact HJ.out c hc
          · exact hb
        go_wp2_with fail
        refine (isLetter_any _ _).mono ?_
        rintro e w2 ⟨rfl, rfl⟩
        rw [hb]
        go_wp2_with fail
        go_round
        case rel => exact ⟨j + 1, by go_num, by omega, by omega, HJ2⟩
        case measure => simp [intOf]; omega
      | false =>
        have HW : Hid (wd (s.data.toList.drop k) = (s.data.toList.take j).drop k) := wd_at hj1 HJ.out (by rw [drop_atN s hlt]; unfold wd; rw [List.takeWhile_cons, if_neg (by show ¬ nb _ = true; rw [hb]; simp)])
        go_wp2_with fail
        refine (isLetter_any _ _).mono ?_
        rintro e w2 ⟨rfl, rfl⟩
        rw [hb]
        go_wp2_with fail
        go_ret
        exact ⟨⟨j, rfl, hj1, hj2, HW.out⟩, rfl⟩
    · have HW : Hid (wd (s.data.toList.drop k) = (s.data.toList.take j).drop k) := wd_at hj1 HJ.out (by rw [List.drop_of_length_le (show s.data.toList.length ≤ j by omega)]; rfl)
      go_wp2_with fail
      go_ret
      exact ⟨⟨j, rfl, hj1, hj2, HW.out⟩, rfl⟩

/-- What was found up to a place. -/
def FiI (names : List ByteArray) (l : List UInt8) (k : Nat) (r : List ByteArray) : Prop := Rising r ∧ ∀ x, (x ∈ r ∨ (x ∈ names ∧ x ∈ mn (l.drop k))) ↔ x ∈ names ∧ x ∈ mn l
section
variable {names r : List ByteArray} {l : List UInt8} {k : Nat}
theorem FiI.start : FiI names l 0 [] := ⟨List.Pairwise.nil, fun x => by rw [List.drop_zero]; simp⟩
theorem FiI.len (h : FiI names l k r) : r.length ≤ names.length := nodup_len (h.1.imp fun h e => bl_ne h e) fun x hx => ((h.2 x).1 (.inl hx)).1
theorem FiI.skip (h : FiI names l k r) {c : UInt8} (hd : l.drop k = c :: l.drop (k + 1)) (hn : ¬ (c = 35 ∧ nameB (bOf (wd (l.drop (k + 1)))) = true)) : FiI names l (k + 1) r := ⟨h.1, fun x => by rw [← h.2, hd, mn_not hn]⟩
theorem FiI.none (h : FiI names l k r) (hd : l.drop k = 35 :: l.drop (k + 1)) (hn : nameB (bOf (wd (l.drop (k + 1)))) = true) (hm : bOf (wd (l.drop (k + 1))) ∉ names) : FiI names l (k + 1) r := ⟨h.1, fun x => by
  rw [← h.2, hd, mn_hit hn, List.mem_cons]
  constructor
  · rintro (h | h)
    · exact .inl h
    · exact .inr ⟨h.1, .inr h.2⟩
  · rintro (h | ⟨h, rfl | h2⟩)
    · exact .inl h
    · exact absurd h hm
    · exact .inr ⟨h, h2⟩⟩
theorem FiI.put (h : FiI names l k r) (hd : l.drop k = 35 :: l.drop (k + 1)) (hn : nameB (bOf (wd (l.drop (k + 1)))) = true) (hm : bOf (wd (l.drop (k + 1))) ∈ names) : FiI names l (k + 1) (withR r (bOf (wd (l.drop (k + 1))))) := ⟨rising_withR h.1, fun x => by
  rw [← h.2, hd, mn_hit hn, List.mem_cons, mem_withR]
  constructor
  · rintro ((rfl | h) | h)
    · exact .inr ⟨hm, .inl rfl⟩
    · exact .inl h
    · exact .inr ⟨h.1, .inr h.2⟩
  · rintro (h | ⟨h, rfl | h2⟩)
    · exact .inl (.inr h)
    · exact .inl (.inl rfl)
    · exact .inr ⟨h, h2⟩⟩
theorem FiI.done (h : FiI names l k r) (hk : l.length ≤ k) : IsFd names (mn l) r := ⟨h.1, fun x => by
  rw [← h.2, List.drop_of_length_le hk]
  constructor
  · exact .inl
  · rintro (h | ⟨_, h⟩)
    · exact h
    · cases h⟩
end
theorem TxR.nil (w : World) : TxR w (.slice none 0 0) [] := ⟨texts_none _ _ _, none, 0, rfl, Nat.le_refl _, by decide, .inl ⟨rfl, rfl⟩⟩
set_option maxRecDepth 100000 in
set_option maxHeartbeats 2000000 in
theorem findIn_any (s : ByteArray) (v : Value) (names : List ByteArray) (w : World) (hv : Texts w v names) (hl : names.length ≤ 1000) (hs : s.size ≤ 1000000) :
    Calls Tryd.prog 10 #[.string s, v] w fun e w' => (∃ r va vc, e = .returned (.slice va r.length vc) ∧ r.length ≤ 1000 ∧ Hid (IsFd names (mn s.data.toList) r ∧ TxR w' (.slice va r.length vc) r)) ∧ Below w.heap.size w w' := by
  have hsl : s.data.toList.length = s.size := rfl
  obtain ⟨ad, cap, rfl, _⟩ := id hv
  have HV : Hid (Texts w (.slice ad names.length cap) names) := hv
  clear hv
  go_enter Tryd.func10, Tryd.ntmps10
  go_wp2_with fail
  go_loopw [5, 6] (fun o i wr => ∃ (k : Nat) (r : List ByteArray) (va : Option Addr) (vc : Nat), i = .int .i64 k ∧ o = .slice va r.length vc ∧ k ≤ s.size ∧ Hid (FiI names s.data.toList k r ∧ TxR wr (.slice va r.length vc) r ∧ Below w.heap.size w wr)) (fun _ i _ => s.size - (intOf i).toNat)
  case atStart => exact ⟨0, [], none, 0, rfl, rfl, Nat.zero_le _, FiI.start, TxR.nil _, Below.refl _ _⟩
  case round =>
    obtain ⟨k, r, va, vc, rfl, rfl, hk, HI⟩ := hrel
    have hk0 : (0 : Int) ≤ (k : Int) := by omega
    by_cases hlt : k < s.size
    · have hlt' : (k : Int) < (s.size : Int) := by omega
      have HD : Hid (s.data.toList.drop k = s[k] :: s.data.toList.drop (k + 1)) := drop_atN s hlt
      cases hb : ((s[k].toNat : Int) == 35) with
      | false =>
        have HI2 : Hid (FiI names s.data.toList (k + 1) r ∧ TxR wr (.slice va r.length vc) r ∧ Below w.heap.size w wr) := ⟨HI.out.1.skip HD.out (fun h => byte_isnt hb h.1), HI.out.2⟩
        go_wp2_with fail
        go_roundw
        case rel => exact ⟨k + 1, r, va, vc, by go_num, rfl, by omega, HI2⟩
        case measure => simp [intOf]; omega
      | true =>
        have HD2 : Hid (s.data.toList.drop k = 35 :: s.data.toList.drop (k + 1)) := by show _ = _; rw [HD.out, byte_is hb]
        have HWA : Hid (Calls Tryd.prog 22 #[.string s, .int .i64 ((k : Int) + 1)] wr fun e w' => (∃ j : Nat, e = .returned (.int .i64 (j : Int)) ∧ k + 1 ≤ j ∧ j ≤ s.size ∧ wd (s.data.toList.drop (k + 1)) = (s.data.toList.take j).drop (k + 1)) ∧ w' = wr) := wordAt_any s (k + 1) wr hs (by omega)
        go_wp2_with fail
        refine Calls.mono HWA.out ?_
        clear HWA
        rintro e w2 ⟨⟨j, rfl, hj1, hj2, hw⟩, rfl⟩
        have hj0 : (0 : Int) ≤ (j : Int) := by omega
        have hk1 : (0 : Int) ≤ (k : Int) + 1 := by omega
        have hkj : (k : Int) + 1 ≤ (j : Int) := by omega
        have HX : Hid (bOf (wd (s.data.toList.drop (k + 1))) = s.extract (k + 1) j) := bOf_eq.2 (by rw [hw, part_listN])
        have HXS : Hid ((s.extract (k + 1) j).size ≤ maxLen) := by show _ ≤ _; rw [ByteArray.size_extract]; unfold maxLen; omega
        clear hw
        go_wp2_with fail
        refine Calls.mono (isName_any (s.extract (k + 1) j) _ HXS.out) ?_
        rintro e w3 ⟨rfl, rfl⟩
        cases hn : nameB (s.extract (k + 1) j) with
        | false =>
          have HI2 : Hid (FiI names s.data.toList (k + 1) r ∧ TxR w3 (.slice va r.length vc) r ∧ Below w.heap.size w w3) := ⟨HI.out.1.skip HD2.out (fun h => by rw [HX.out, hn] at h; cases h.2), HI.out.2⟩
          go_wp2_with fail
          go_roundw
          case rel => exact ⟨k + 1, r, va, vc, by go_num, rfl, by omega, HI2⟩
          case measure => simp [intOf]; omega
        | true =>
          have HIN : Hid _ := inTexts_any (s.extract (k + 1) j) (.slice ad names.length cap) names w3 (HV.out.below HI.out.2.2) (by omega)
          cases hm : memB (s.extract (k + 1) j) names with
          | false =>
            have HI2 : Hid (FiI names s.data.toList (k + 1) r ∧ TxR w3 (.slice va r.length vc) r ∧ Below w.heap.size w w3) := ⟨HI.out.1.none HD2.out (by rw [HX.out]; exact hn) (by rw [HX.out]; exact memB_not.1 hm), HI.out.2⟩
            rw [hm] at HIN
            go_wp2_with fail
            refine Calls.mono HIN.out ?_
            rintro e w4 ⟨rfl, rfl⟩
            go_wp2_with fail
            go_roundw
            case rel => exact ⟨k + 1, r, va, vc, by go_num, rfl, by omega, HI2⟩
            case measure => simp [intOf]; omega
          | true =>
            rw [hm] at HIN
            have HLE : Hid (r.length ≤ names.length) := HI.out.1.len
            go_wp2_with fail
            refine Calls.mono HIN.out ?_
            rintro e w4 ⟨rfl, rfl⟩
            have HWI : Hid _ := with_any (s.extract (k + 1) j) (.slice va r.length vc) r w4 HI.out.2.1 (by have := HLE.out; omega)
            go_wp2_with fail
            refine Calls.mono HWI.out ?_
            clear HWI
            rintro e w5 ⟨⟨va2, vc2, rfl, hT⟩, hb5⟩
            have HI2 : Hid (FiI names s.data.toList (k + 1) (withR r (s.extract (k + 1) j)) ∧ TxR w5 (.slice va2 (withR r (s.extract (k + 1) j)).length vc2) (withR r (s.extract (k + 1) j)) ∧ Below w.heap.size w w5) := ⟨by rw [← HX.out]; exact HI.out.1.put HD2.out (by rw [HX.out]; exact hn) (by rw [HX.out]; exact memB_iff.1 hm), hT, HI.out.2.2.trans (hb5.mono HI.out.2.2.size)⟩
            clear hT hb5
            go_wp2_with fail
            go_roundw
            case rel => exact ⟨k + 1, _, va2, vc2, by go_num, rfl, by omega, HI2⟩
            case measure => simp [intOf]; omega
    · have HE : Hid (IsFd names (mn s.data.toList) r ∧ TxR wr (.slice va r.length vc) r) := ⟨HI.out.1.done (by omega), HI.out.2.1⟩
      have HLE : Hid (r.length ≤ 1000) := Nat.le_trans HI.out.1.len hl
      have HB : Hid (Below w.heap.size w wr) := HI.out.2.2
      clear HI
      go_wp2_with fail
      go_ret
      exact ⟨⟨r, va, vc, rfl, HLE.out, HE⟩, HB.out⟩

/-- What TurnOf answers. -/
def TuO (s f t : ByteArray) (e : Ending) : Prop :=
  ((nameB f = false ∨ nameB t = false) ∧ e = .returned (.tuple #[.string ⟨#[]⟩, .int .i64 5])) ∨ (nameB f = true ∧ nameB t = true ∧ ((2000 < (tl f.data.toList t.data.toList s.data.toList).length ∧ e = .returned (.tuple #[.string ⟨#[]⟩, .int .i64 2])) ∨ ((tl f.data.toList t.data.toList s.data.toList).length ≤ 2000 ∧ e = .returned (.tuple #[.string (bOf (tl f.data.toList t.data.toList s.data.toList)), .int .i64 0]))))
theorem app_list (a b : ByteArray) : (a ++ b).data.toList = a.data.toList ++ b.data.toList := by simp
theorem one_byte (s : ByteArray) {k : Nat} (hk : k < s.size) : (s.extract k (k + 1)).data.toList = [s[k]] := by
  rw [part_listN, part_snocN s (Nat.le_refl _) hk, List.drop_eq_nil_of_le (by rw [List.length_take]; omega)]; rfl
set_option maxRecDepth 100000 in
set_option maxHeartbeats 2000000 in
theorem turnOf_any (s f t : ByteArray) (w : World) (hs : s.size ≤ 1000) (hf : f.size ≤ 1000) (ht : t.size ≤ 1000) :
    Calls Tryd.prog 15 #[.string s, .string f, .string t] w fun e w' => TuO s f t e ∧ w' = w := by
  have hsl : s.data.toList.length = s.size := rfl
  have HFS : Hid (f.size ≤ maxLen) := by show _ ≤ _; unfold maxLen; omega
  have HTS : Hid (t.size ≤ maxLen) := by show _ ≤ _; unfold maxLen; omega
  have HTL : Hid ((tl f.data.toList t.data.toList s.data.toList).length ≤ 10000000) := by
    have h1 := tl_len (f := f.data.toList) (t := t.data.toList) s.data.toList.length s.data.toList (Nat.le_refl _)
    have h2 : t.data.toList.length = t.size := rfl
    rw [h2, hsl] at h1
    have h3 : s.size * (t.size + 1) ≤ 1000 * 1001 := Nat.mul_le_mul hs (by omega)
    show _ ≤ _
    omega
  go_enter Tryd.func15, Tryd.ntmps15
  go_wp2_with fail
  refine Calls.mono (isName_any f _ HFS.out) ?_
  rintro e w1 ⟨rfl, rfl⟩
  go_wp2_with fail
  refine Calls.mono (isName_any t _ HTS.out) ?_
  rintro e w2 ⟨rfl, rfl⟩
  cases hnf : nameB f with
  | false =>
    go_wp2_with fail
    go_ret2
    exact ⟨.inl ⟨.inl hnf, rfl⟩, rfl⟩
  | true =>
  cases hnt : nameB t with
  | false =>
    go_wp2_with fail
    go_ret2
    exact ⟨.inl ⟨.inr hnt, rfl⟩, rfl⟩
  | true =>
  go_wp2_with fail
  go_loop [10, 11] (fun o i => ∃ (k : Nat) (q : ByteArray), i = .int .i64 k ∧ o = .string q ∧ k ≤ s.size ∧ Hid (q.data.toList ++ tl f.data.toList t.data.toList (s.data.toList.drop k) = tl f.data.toList t.data.toList s.data.toList)) (fun _ i => s.size - (intOf i).toNat)
  case atStart => exact ⟨0, ⟨#[]⟩, rfl, rfl, Nat.zero_le _, rfl⟩
  case round =>
    obtain ⟨k, q, rfl, rfl, hk, HI⟩ := hrel
    have hk0 : (0 : Int) ≤ (k : Int) := by omega
    by_cases hlt : k < s.size
    · have hlt' : (k : Int) < (s.size : Int) := by omega
      have hk1 : (0 : Int) ≤ (k : Int) + 1 := by omega
      have hk2 : (k : Int) ≤ (k : Int) + 1 := by omega
      have hk3 : (k : Int) + 1 ≤ (s.size : Int) := by omega
      have HD : Hid (s.data.toList.drop k = s[k] :: s.data.toList.drop (k + 1)) := drop_atN s hlt
      have hqs : q.size ≤ 10000000 := by
        have e := congrArg List.length HI.out
        rw [List.length_append] at e
        have e2 : q.data.toList.length = q.size := rfl
        have := HTL.out
        omega
      have hx1 : (s.extract k (k + 1)).size ≤ 1 := by rw [ByteArray.size_extract]; omega
      have HO : Hid ((q ++ s.extract k (k + 1)).data.toList = q.data.toList ++ [s[k]]) := by show _ = _; rw [app_list, one_byte s hlt]
      cases hb : ((s[k].toNat : Int) == 35) with
      | false =>
        have HI2 : Hid ((q ++ s.extract k (k + 1)).data.toList ++ tl f.data.toList t.data.toList (s.data.toList.drop (k + 1)) = tl f.data.toList t.data.toList s.data.toList) := by
          show _ = _
          rw [HO.out, ← HI.out, HD.out, tl_not (fun h => byte_isnt hb h.1), List.append_assoc]; rfl
        go_wp2_with fail
        go_round
        case rel => exact ⟨k + 1, _, by go_num, rfl, by omega, HI2⟩
        case measure => simp [intOf]; omega
      | true =>
        have HD2 : Hid (s.data.toList.drop k = 35 :: s.data.toList.drop (k + 1)) := by show _ = _; rw [HD.out, byte_is hb]
        have HO2 : Hid ((q ++ s.extract k (k + 1)).data.toList = q.data.toList ++ [35]) := by show _ = _; rw [HO.out, byte_is hb]
        have HWA : Hid (∀ w, Calls Tryd.prog 22 #[.string s, .int .i64 ((k : Int) + 1)] w fun e w' => (∃ j : Nat, e = .returned (.int .i64 (j : Int)) ∧ k + 1 ≤ j ∧ j ≤ s.size ∧ wd (s.data.toList.drop (k + 1)) = (s.data.toList.take j).drop (k + 1)) ∧ w' = w) := fun w => wordAt_any s (k + 1) w (by omega) (by omega)
        go_wp2_with fail
        refine Calls.mono (HWA.out _) ?_
        clear HWA
        rintro e w3 ⟨⟨j, rfl, hj1, hj2, hw⟩, rfl⟩
        have hj0 : (0 : Int) ≤ (j : Int) := by omega
        have hkj : (k : Int) + 1 ≤ (j : Int) := by omega
        have hjs : (j : Int) ≤ (s.size : Int) := by omega
        have HX : Hid (wd (s.data.toList.drop (k + 1)) = (s.extract (k + 1) j).data.toList) := by show _ = _; rw [hw, part_listN]
        have HY : Hid ((s.data.toList.drop (k + 1)).dropWhile isL = s.data.toList.drop j) := by
          show _ = _
          have hlen : (wd (s.data.toList.drop (k + 1))).length = j - (k + 1) := by rw [hw, List.length_drop, List.length_take]; omega
          rw [← wd_drop, hlen, List.drop_drop]
          congr 1; omega
        clear hw
        cases he : ((s.extract (k + 1) j).toList == f.toList) with
        | false =>
          have HI2 : Hid ((q ++ s.extract k (k + 1)).data.toList ++ tl f.data.toList t.data.toList (s.data.toList.drop (k + 1)) = tl f.data.toList t.data.toList s.data.toList) := by
            show _ = _
            rw [HO2.out, ← HI.out, HD2.out, tl_not (fun h => by
              have e2 := h.2
              rw [HX.out] at e2
              exact ba_bne.1 he (ba_eq (by rw [ba_toList2, ba_toList2, e2]))), List.append_assoc]; rfl
          go_wp2_with fail
          go_round
          case rel => exact ⟨k + 1, _, by go_num, rfl, by omega, HI2⟩
          case measure => simp [intOf]; omega
        | true =>
          have HI2 : Hid ((q ++ s.extract k (k + 1) ++ t).data.toList ++ tl f.data.toList t.data.toList (s.data.toList.drop j) = tl f.data.toList t.data.toList s.data.toList) := by
            show _ = _
            rw [app_list, HO2.out, ← HI.out, HD2.out, tl_hit (by rw [HX.out, ba_beq.1 he]), HY.out]
            simp
          go_wp2_with fail
          go_round
          case rel => exact ⟨j, _, by go_num, rfl, by omega, HI2⟩
          case measure => simp [intOf]; omega
    · have HQ : Hid (q.data.toList = tl f.data.toList t.data.toList s.data.toList) := by
        show _ = _
        rw [← HI.out, List.drop_of_length_le (by omega), tl_nil, List.append_nil]
      have HQS : Hid (q.size = (tl f.data.toList t.data.toList s.data.toList).length) := by
        show _ = _
        rw [← HQ.out]; rfl
      have hqb : q.size ≤ 10000000 := by rw [HQS.out]; exact HTL.out
      rcases Nat.lt_or_ge 2000 q.size with hbig | hbig
      · have hbig' : (2000 : Int) < (q.size : Int) := by omega
        go_wp2_with fail
        go_ret2
        exact ⟨.inr ⟨hnf, hnt, .inl ⟨by rw [← HQS.out]; omega, rfl⟩⟩, rfl⟩
      · have hbig' : (q.size : Int) ≤ 2000 := by omega
        go_wp2_with fail
        go_ret2
        exact ⟨.inr ⟨hnf, hnt, .inr ⟨by rw [← HQS.out]; omega, by rw [← HQ.out, bOf_back]; rfl⟩⟩, rfl⟩
end Go.Proofs.YtiemoipafeinoaaDoor
