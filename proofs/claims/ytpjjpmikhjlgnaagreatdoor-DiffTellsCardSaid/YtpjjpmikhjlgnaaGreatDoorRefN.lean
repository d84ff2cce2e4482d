/-
  The contract of the document's answer for one node: stillroomref1's nodeError tells the number of the node's own error.
  Conditions: the node's kids lie in memory below block B.
-/
import Derived.Test.YtpjjpmikhjlgnaaGreatDoorRefA
import Derived.Test.YtpjjpmikhjlgnaaGreatDoorCheckDir
import Derived.Test.YtpjjpmikhjlgnaaGreatDoorLarge
import Derived.Laws.Strings
namespace Go.Proofs.YtpjjpmikhjlgnaaGreatDoor
open Go.RowKit
attribute [local go_sem ↓] Go.wp_at_zero Go.wp_at_succ

/-- An error's number: 0, or one more than its place. -/
def num : Option Nat → Int
  | none => 0
  | some i => (i : Int) + 1

theorem empty_size {s : ByteArray} (h : s.toList.isEmpty = true) : s.size = 0 := by
  have h1 : s.toList = [] := by simpa using h
  rw [ByteArray.toList_eq] at h1
  have h2 := congrArg List.length h1
  rw [Array.length_toList, List.length_nil] at h2
  exact h2
theorem less_not : ∀ (x y : List UInt8), Op.bytesLess x y = false → Op.bytesLess y x = true ∨ (Op.bytesLess y x = false ∧ (y == x) = true)
  | [], [], _ => .inr ⟨rfl, rfl⟩
  | _ :: _, [], _ => .inl rfl
  | [], _ :: _, h => by simp [Op.bytesLess] at h
  | a :: x, b :: y, h => by
    simp only [Op.bytesLess, Bool.or_eq_false_iff, decide_eq_false_iff_not, Bool.and_eq_false_iff] at h
    obtain ⟨h1, h2⟩ := h
    by_cases hab : b < a
    · left; simp [Op.bytesLess, hab]
    · have e : a = b := UInt8.le_antisymm (UInt8.not_lt.1 hab) (UInt8.not_lt.1 h1)
      subst e
      have h3 : Op.bytesLess x y = false := by rcases h2 with h | h; simp at h; exact h
      rcases less_not x y h3 with h | ⟨h, h'⟩
      · left; simp [Op.bytesLess, h]
      · right
        refine ⟨by simp [Op.bytesLess, h], ?_⟩
        rw [eq_of_beq h']
        simp
theorem less_yes : ∀ (x y : List UInt8), Op.bytesLess x y = true → Op.bytesLess y x = false ∧ (y == x) = false
  | [], [], h => by simp [Op.bytesLess] at h
  | _ :: _, [], h => by simp [Op.bytesLess] at h
  | [], _ :: _, _ => ⟨rfl, rfl⟩
  | a :: x, b :: y, h => by
    simp only [Op.bytesLess, Bool.or_eq_true, decide_eq_true_eq, Bool.and_eq_true, beq_iff_eq] at h
    rcases h with h | ⟨e, h⟩
    · have h1 : ¬ b < a := fun h' => UInt8.lt_irrefl _ (UInt8.lt_trans h h')
      have h2 : b ≠ a := fun e => by rw [e] at h; exact UInt8.lt_irrefl _ h
      refine ⟨by simp [Op.bytesLess, h1, h2], by simp [h2]⟩
    · subst e
      obtain ⟨h1, h2⟩ := less_yes x y h
      have h3 : y ≠ x := fun e => by rw [e] at h2; simp at h2
      exact ⟨by simp [Op.bytesLess, h1], by simp [h3]⟩
theorem nodeErr_other {t : Tree} (h1 : (t.kind.toList == [102, 105, 108, 101]) = false) (h2 : (t.kind.toList == [100, 105, 114]) = false) (h3 : (t.kind.toList == [108, 105, 110, 107]) = false) : nodeErr t = some 3 := by
  unfold nodeErr isFile isDir isLink
  rw [h1, h2, h3]; rfl
theorem nodeErr_file {t : Tree} (h1 : (t.kind.toList == [102, 105, 108, 101]) = true) : nodeErr t = fileErr t := by
  unfold nodeErr isFile
  rw [h1]; rfl
theorem nodeErr_dir {t : Tree} (h1 : (t.kind.toList == [102, 105, 108, 101]) = false) (h2 : (t.kind.toList == [100, 105, 114]) = true) : nodeErr t = dirErr t := by
  unfold nodeErr isFile isDir
  rw [h1, h2]; rfl
theorem nodeErr_link {t : Tree} (h1 : (t.kind.toList == [102, 105, 108, 101]) = false) (h2 : (t.kind.toList == [100, 105, 114]) = false) (h3 : (t.kind.toList == [108, 105, 110, 107]) = true) : nodeErr t = linkErr t := by
  unfold nodeErr isFile isDir isLink
  rw [h1, h2, h3]; rfl
theorem kinds_file {l : List UInt8} (h : (l == [102, 105, 108, 101]) = true) : (l == [100, 105, 114]) = false ∧ (l == [108, 105, 110, 107]) = false := by
  have := eq_of_beq h
  subst this
  exact ⟨rfl, rfl⟩
theorem kinds_dir {l : List UInt8} (h : (l == [100, 105, 114]) = true) : (l == [108, 105, 110, 107]) = false := by
  have := eq_of_beq h
  subst this
  rfl

set_option maxRecDepth 100000 in
set_option maxHeartbeats 4000000 in
theorem nodeError_any (B d : Nat) (t : Tree) (u : Value) (w : World) (hB : B ≤ w.heap.size) (hl : Lies w B (d + 1) t.kids u) (hs : t.data.size ≤ maxLen) :
    Calls Tryz.prog 63 #[.agg #[.string t.kind, .string t.data, .bool t.exec, u]] w fun e w' => e = .returned (.int .i64 (num (nodeErr t))) ∧ Below w.heap.size w w' := by
  unfold maxLen at hs
  have hlo := hl.open
  obtain ⟨ad, cap, rfl⟩ := hl.form
  have hlen := hlo.1
  have HL : Hid _ := hlo
  have HB : Hid (∀ o, Below w.heap.size w (w.alloc o)) := fun o => (Below.refl _ _).alloc (Nat.le_refl _) o
  clear hlo hl
  cases hf : (t.kind.toList == [102, 105, 108, 101])
  · cases hd : (t.kind.toList == [100, 105, 114])
    · cases hk : (t.kind.toList == [108, 105, 110, 107])
      · have HE : Hid (nodeErr t = some 3) := nodeErr_other hf hd hk
        go_enter Tryz.func63, Tryz.ntmps63
        go_wp2_with fail
        go_ret
        exact ⟨ret_int (by rw [HE.out]; rfl), HB.out _⟩
      · have HN : Hid (nodeErr t = linkErr t) := nodeErr_link hf hd hk
        by_cases h1 : t.exec = true ∨ 0 < t.kids.length
        · have HE : Hid (nodeErr t = some 2) := show _ = _ by rw [HN.out]; unfold linkErr; rw [if_pos h1]
          by_cases hx : t.exec = true
          · clear h1
            by_cases hl0 : 0 < t.kids.length
            · go_enter Tryz.func63, Tryz.ntmps63
              go_wp2_with fail
              go_ret
              exact ⟨ret_int (by rw [HE.out]; rfl), HB.out _⟩
            · go_enter Tryz.func63, Tryz.ntmps63
              go_wp2_with fail
              go_ret
              exact ⟨ret_int (by rw [HE.out]; rfl), HB.out _⟩
          · have hl0 : 0 < t.kids.length := by rcases h1 with h | h; exact absurd h hx; exact h
            have hx : t.exec = false := by simpa using hx
            clear h1
            go_enter Tryz.func63, Tryz.ntmps63
            go_wp2_with fail
            go_ret
            exact ⟨ret_int (by rw [HE.out]; rfl), HB.out _⟩
        · have hx : t.exec = false := by cases h : t.exec; rfl; exact absurd (.inl h) h1
          have hl0 : ¬ 0 < t.kids.length := fun h => h1 (.inr h)
          by_cases h2 : t.data.size < 1 ∨ 40 < t.data.size
          · have HE : Hid (nodeErr t = some 1) := show _ = _ by rw [HN.out]; unfold linkErr; rw [if_neg h1, if_pos h2]
            clear h1
            rcases h2 with h2 | h2
            · have h3 : ¬ 2000 < t.data.size := by omega
              go_enter Tryz.func63, Tryz.ntmps63
              go_wp2_with fail
              go_ret
              exact ⟨ret_int (by rw [HE.out]; rfl), HB.out _⟩
            · by_cases h3 : 2000 < t.data.size
              · go_enter Tryz.func63, Tryz.ntmps63
                go_wp2_with fail
                go_ret
                exact ⟨ret_int (by rw [HE.out]; rfl), HB.out _⟩
              · have h4 : ¬ t.data.size < 1 := by omega
                go_enter Tryz.func63, Tryz.ntmps63
                go_wp2_with fail
                go_ret
                exact ⟨ret_int (by rw [HE.out]; rfl), HB.out _⟩
          · have HE : Hid (nodeErr t = if t.data.data.toList.all seen = true then none else some 0) := show _ = _ by rw [HN.out]; unfold linkErr; rw [if_neg h1, if_neg h2]
            have h3 : 1 ≤ t.data.size := by omega
            have h4 : t.data.size ≤ 40 := by omega
            clear h1 h2
            go_enter Tryz.func63, Tryz.ntmps63
            go_wp2_with fail
            go_loop [6] (fun i => ∃ k : Nat, k ≤ t.data.size ∧ i = .int .i64 k ∧ (t.data.data.toList.take k).all seen = true) (fun i => t.data.size - (intOf i).toNat)
            case atStart => exact ⟨0, Nat.zero_le _, rfl, by simp⟩
            case round =>
              obtain ⟨k, hk', rfl, hall⟩ := hrel
              have HA : Hid ((t.data.data.toList.take k).all seen = true) := hall
              clear hall
              by_cases hlt : k < t.data.size
              · have HS : Hid _ := all_snoc (p := seen) t.data k hlt
                by_cases hc : seen t.data[k] = true
                · have HC : Hid (seen t.data[k] = true) := hc
                  have hc1 : 33 ≤ (t.data[k].toNat : Int) := by unfold seen at hc; simp only [decide_eq_true_eq] at hc; exact hc.1
                  have hc2 : (t.data[k].toNat : Int) ≤ 126 := by unfold seen at hc; simp only [decide_eq_true_eq] at hc; exact hc.2
                  clear hc
                  go_wp2
                  go_round
                  case rel => exact ⟨k + 1, by omega, by go_num, by rw [HS.out, HA.out]; exact HC.out⟩
                  case measure => simp [intOf]; omega
                · have hc' : seen t.data[k] = false := by simpa using hc
                  have HM : Hid (t.data.data.toList.all seen = false) := all_miss (p := seen) t.data k hlt hc'
                  have hor : (t.data[k].toNat : Int) < 33 ∨ 126 < (t.data[k].toNat : Int) := by unfold seen at hc'; simp only [decide_eq_false_iff_not] at hc'; omega
                  clear hc hc'
                  rcases hor with hor | hor
                  · go_wp2
                    go_ret
                    exact ⟨ret_int (by rw [HE.out, HM.out]; rfl), HB.out _⟩
                  · have hor2 : 33 ≤ (t.data[k].toNat : Int) := by omega
                    go_wp2
                    go_ret
                    exact ⟨ret_int (by rw [HE.out, HM.out]; rfl), HB.out _⟩
              · have ek : k = t.data.size := by omega
                have HM : Hid (t.data.data.toList.all seen = true) := by
                  have := HA.out
                  rw [ek, all_whole] at this
                  exact this
                clear ek
                go_wp2_with fail
                refine wp_loop_rounds 1 ?_
                rw [rounds_succ]
                go_wp2_with fail
                refine wp_loop_rounds 1 ?_
                rw [rounds_succ]
                go_wp2_with fail
                go_ret
                exact ⟨ret_int (by rw [HE.out, HM.out]; rfl), HB.out _⟩
    · have HN : Hid (nodeErr t = dirErr t) := nodeErr_dir hf hd
      have hk := kinds_dir hd
      by_cases h1 : t.data.toList.isEmpty = false ∨ t.exec = true
      · have HE : Hid (nodeErr t = some 2) := show _ = _ by rw [HN.out]; unfold dirErr; rw [if_pos h1]
        by_cases hx : t.exec = true
        · clear h1
          go_enter Tryz.func63, Tryz.ntmps63
          go_wp2_with fail
          go_ret
          exact ⟨ret_int (by rw [HE.out]; rfl), HB.out _⟩
        · have hx' : t.exec = false := by simpa using hx
          have he : t.data.toList.isEmpty = false := by rcases h1 with h | h; exact h; exact absurd h hx
          clear h1 hx
          go_enter Tryz.func63, Tryz.ntmps63
          go_wp2_with fail
          go_ret
          exact ⟨ret_int (by rw [HE.out]; rfl), HB.out _⟩
      · have HE : Hid (nodeErr t = if (t.kids.all fun x => nameB x.1) = true then (if risesTo t.kids t.kids.length = true then none else some 9) else some 4) := show _ = _ by rw [HN.out]; unfold dirErr; rw [if_neg h1]
        have he : t.data.toList.isEmpty = true := by cases h : t.data.toList.isEmpty; exact absurd (.inl h) h1; rfl
        have hx : t.exec = false := by cases h : t.exec; rfl; exact absurd (.inr h) h1
        have hz := empty_size he
        clear h1
        go_enter Tryz.func63, Tryz.ntmps63
        go_wp2_with fail
        refine wp_loop_rounds 1 ?_
        rw [rounds_succ]
        go_wp2_with fail
        have q3 : (w.alloc (.cells #[.string t.kind, .string t.data, .bool false, .slice ad t.kids.length cap] 24)).cell? ⟨w.heap.size, 3, none⟩ = some (.slice ad t.kids.length cap) := by rw [World.cell?_alloc_at _ _ _ _ rfl]; rfl
        have hW : Below w.heap.size w (w.alloc (.cells #[.string t.kind, .string t.data, .bool false, .slice ad t.kids.length cap] 24)) := HB.out _
        have hz' : (w.alloc (.cells #[.string t.kind, .string t.data, .bool false, .slice ad t.kids.length cap] 24)).heap.size = w.heap.size + 1 := by simp
        generalize w.alloc (.cells #[.string t.kind, .string t.data, .bool false, .slice ad t.kids.length cap] 24) = W1 at *
        have HZ : Hid (W1.heap.size = w.heap.size + 1) := hz'
        clear hz hz' hd hx hf hk he
        go_loop [7] (fun i => ∃ k : Nat, k ≤ t.kids.length ∧ i = .int .i64 k ∧ (t.kids.take k).all (fun x => nameB x.1) = true) (fun i => t.kids.length - (intOf i).toNat)
        case atStart => exact ⟨0, Nat.zero_le _, rfl, by simp⟩
        case round =>
          obtain ⟨k, hk, rfl, hall⟩ := hrel
          have HA : Hid ((t.kids.take k).all (fun x => nameB x.1) = true) := hall
          clear hall
          by_cases hlt : k < t.kids.length
          · obtain ⟨x, hx'⟩ : ∃ x, t.kids[k]? = some x := ⟨t.kids[k], List.getElem?_eq_getElem hlt⟩
            obtain ⟨b, off, rfl, ux, K0⟩ : ∃ b off, ad = some ⟨b, off, none⟩ ∧ ∃ u, KidAt w B d b off k x u := by
              rcases HL.out.2 with ⟨h0, _⟩ | ⟨b, off, cp, e, _, hk⟩
              · rw [h0] at hlt; exact absurd hlt (by simp)
              · simp only [Value.slice.injEq] at e
                exact ⟨b, off, e.1, hk k x hx'⟩
            have K := K0.below hW hB
            have HS : Hid _ := kids_snoc (p := fun x => nameB x.1) hx'
            have HX : Hid (t.kids[k]? = some x) := hx'
            have n0 := K.name
            have hs : x.1.size ≤ maxLen := by have := K.size; unfold maxLen; omega
            clear hx' K0 K
            cases hn : nameB x.1
            · have HM : Hid (t.kids.all (fun x => nameB x.1) = false) := kids_miss (p := fun x => nameB x.1) HX.out hn
              go_wp2_with fail
              refine (isName_any x.1 _ hs).mono ?_
              rintro e w' ⟨rfl, rfl⟩
              go_wp2_with fail
              go_ret
              exact ⟨ret_int (by rw [HE.out, HM.out]; rfl), hW⟩
            · have HN : Hid (nameB x.1 = true) := hn
              go_wp2_with fail
              refine (isName_any x.1 _ hs).mono ?_
              rintro e w' ⟨rfl, rfl⟩
              go_wp2_with fail
              go_round
              case rel => exact ⟨k + 1, by omega, by go_num, by rw [HS.out, HA.out]; exact HN.out⟩
              case measure => simp [intOf]; omega
          · have HM : Hid (t.kids.all (fun x => nameB x.1) = true) := by
              have := HA.out
              rw [List.take_of_length_le (by omega)] at this
              exact this
            go_wp2_with fail
            go_loopw [9] (fun i w2 => ∃ j m : Nat, (j = 0 ∨ j < t.kids.length) ∧ i = .int .i64 ((j : Int) + 1) ∧ w2 = W1.drewN m ∧ risesTo t.kids (j + 1) = true) (fun i _ => t.kids.length - (intOf i).toNat)
            case atStart => exact ⟨0, 0, .inl rfl, by simp, rfl, risesTo_one _⟩
            case round =>
              obtain ⟨j, m, hj, rfl, rfl, hr⟩ := hrel
              have HR : Hid (risesTo t.kids (j + 1) = true) := hr
              clear hr
              by_cases hlt : j + 1 < t.kids.length
              · obtain ⟨x, hx'⟩ : ∃ x, t.kids[j]? = some x := ⟨t.kids[j], List.getElem?_eq_getElem (by omega)⟩
                obtain ⟨y, hy'⟩ : ∃ y, t.kids[j + 1]? = some y := ⟨t.kids[j + 1], List.getElem?_eq_getElem hlt⟩
                obtain ⟨b, off, rfl, ux, K0, uy, L0⟩ : ∃ b off, ad = some ⟨b, off, none⟩ ∧ ∃ u, KidAt w B d b off j x u ∧ ∃ u', KidAt w B d b off (j + 1) y u' := by
                  rcases HL.out.2 with ⟨h0, _⟩ | ⟨b, off, cp, e, _, hk⟩
                  · rw [h0] at hlt; exact absurd hlt (by simp)
                  · simp only [Value.slice.injEq] at e
                    obtain ⟨u1, k1⟩ := hk j x hx'
                    exact ⟨b, off, e.1, u1, k1, hk (j + 1) y hy'⟩
                have n0 := (K0.below hW hB).name
                have n1 := (L0.below hW hB).name
                have HS : Hid _ := risesTo_succ hx' hy'
                clear hx' hy' K0 L0
                cases hn : Op.bytesLess x.1.toList y.1.toList
                · have HM2 : Hid (risesTo t.kids t.kids.length = false) := risesTo_mono (k := j + 1 + 1) (by omega) (by rw [HS.out, hn]; simp)
                  rcases less_not _ _ hn with hn2 | ⟨hn2, hn3⟩
                  all_goals
                    go_wp2_with fail
                    go_quiet (fail)
                    go_wp2_with fail
                    go_ret
                    exact ⟨ret_int (by rw [HE.out, HM.out, HM2.out]; rfl), below_drewN (below_drewN hW _) _⟩
                · have HN : Hid (Op.bytesLess x.1.toList y.1.toList = true) := hn
                  obtain ⟨hn2, hn3⟩ := less_yes _ _ hn
                  go_wp2_with fail
                  go_quiet (fail)
                  go_wp2_with fail
                  go_roundw
                  case rel => exact ⟨j + 1, _, .inr hlt, by go_num, rfl, by rw [HS.out, HR.out]; exact HN.out⟩
                  case measure => simp [intOf]; omega
              · have HM2 : Hid (risesTo t.kids t.kids.length = true) := by
                  cases h : risesTo t.kids t.kids.length
                  · have := risesTo_mono (n := j + 1) (by omega) h
                    rw [HR.out] at this; cases this
                  · exact (rfl : true = true)
                go_wp2_with fail
                go_ret
                exact ⟨ret_int (by rw [HE.out, HM.out, HM2.out]; rfl), below_drewN hW _⟩
  · obtain ⟨hd, hk⟩ := kinds_file hf
    have HN : Hid (nodeErr t = fileErr t) := nodeErr_file hf
    by_cases h1 : 0 < t.kids.length
    · have HE : Hid (nodeErr t = some 2) := show _ = _ by rw [HN.out]; unfold fileErr; rw [if_pos h1]
      go_enter Tryz.func63, Tryz.ntmps63
      go_wp2_with fail
      go_ret
      exact ⟨ret_int (by rw [HE.out]; rfl), HB.out _⟩
    · by_cases h2 : 2000 < t.data.size
      · have HE : Hid (nodeErr t = some 1) := show _ = _ by rw [HN.out]; unfold fileErr; rw [if_neg h1, if_pos h2]
        go_enter Tryz.func63, Tryz.ntmps63
        go_wp2_with fail
        go_ret
        exact ⟨ret_int (by rw [HE.out]; rfl), HB.out _⟩
      · have HE : Hid (nodeErr t = none) := show _ = _ by rw [HN.out]; unfold fileErr; rw [if_neg h1, if_neg h2]
        go_enter Tryz.func63, Tryz.ntmps63
        go_wp2_with fail
        refine wp_loop_rounds 1 ?_
        rw [rounds_succ]
        go_wp2_with fail
        refine wp_loop_rounds 1 ?_
        rw [rounds_succ]
        go_wp2_with fail
        refine wp_loop_rounds 1 ?_
        rw [rounds_succ]
        go_wp2_with fail
        go_ret
        exact ⟨ret_int (by rw [HE.out]; rfl), HB.out _⟩
end Go.Proofs.YtpjjpmikhjlgnaaGreatDoor
