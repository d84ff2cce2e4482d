/-
  The contracts of checkDir and checkNode.
  Conditions: the sentinels hold what the program's text lays; the node's kids lie in memory below block B, which the call does not reach.
-/
import Derived.Test.YtpjjpmikhjlgnaaGreatDoorChecks
namespace Go.Proofs.YtpjjpmikhjlgnaaGreatDoor
open Go.RowKit

/-- checkDir, no kids. -/
theorem checkDir_none (a : Nat → Addr) (t : Tree) (ad : Option Addr) (cap : Nat) (w : World) (S : Sen a w) (hk : t.kids = []) :
    Calls Tryz.prog 95 #[.agg #[.string t.kind, .string t.data, .bool t.exec, .slice ad 0 cap]] w fun e w' => e = .returned (errV a (dirErr t)) ∧ Below w.heap.size w w' := by
  have c2 := S.shape
  have z2 := lt_of_cell c2
  have HB : Hid (∀ o, Below w.heap.size w (w.alloc o)) := fun o => (Below.refl _ _).alloc (Nat.le_refl _) o
  clear S
  by_cases h1 : t.data.toList.isEmpty = false ∨ t.exec = true
  · have HE : Hid (dirErr t = some 2) := show _ = _ by unfold dirErr; rw [if_pos h1]
    cases hd : t.data.toList.isEmpty
    · clear h1 hk
      go_enter Tryz.func95, Tryz.ntmps95
      go_wp2
      go_ret
      exact ⟨ret_val (by rw [HE.out]; rfl), HB.out _⟩
    · have hx : t.exec = true := by rcases h1 with h | h; exact absurd h (by simp [hd]); exact h
      clear h1 hk
      go_enter Tryz.func95, Tryz.ntmps95
      go_wp2
      go_ret
      exact ⟨ret_val (by rw [HE.out]; rfl), HB.out _⟩
  · have HE : Hid (dirErr t = none) := show _ = _ by unfold dirErr; rw [if_neg h1, hk]; rfl
    have hd : t.data.toList.isEmpty = true := by cases h : t.data.toList.isEmpty; exact absurd (.inl h) h1; rfl
    have hx : t.exec = false := by cases h : t.exec; rfl; exact absurd (.inr h) h1
    clear h1 hk
    go_enter Tryz.func95, Tryz.ntmps95
    go_wp2
    refine wp_loop_rounds 1 ?_
    rw [rounds_succ]
    go_wp2
    refine wp_loop_rounds 1 ?_
    rw [rounds_succ]
    go_wp2
    go_ret
    exact ⟨ret_val (by rw [HE.out]; rfl), HB.out _⟩

set_option maxHeartbeats 1000000 in
theorem checkDir_some (a : Nat → Addr) (t : Tree) (B d b off cap : Nat) (w : World) (S : Sen a w) (hlen : t.kids.length ≤ 1759218604390) (hB : B ≤ w.heap.size)
    (hk : ∀ i x, t.kids[i]? = some x → ∃ u, KidAt w B d b off i x u) :
    Calls Tryz.prog 95 #[.agg #[.string t.kind, .string t.data, .bool t.exec, .slice (some ⟨b, off, none⟩) t.kids.length cap]] w fun e w' => e = .returned (errV a (dirErr t)) ∧ Below w.heap.size w w' := by
  have c2 := S.shape
  have z2 := lt_of_cell c2
  have HB : Hid (∀ o, Below w.heap.size w (w.alloc o)) := fun o => (Below.refl _ _).alloc (Nat.le_refl _) o
  by_cases h1 : t.data.toList.isEmpty = false ∨ t.exec = true
  · have HE : Hid (dirErr t = some 2) := show _ = _ by unfold dirErr; rw [if_pos h1]
    clear S
    cases hd : t.data.toList.isEmpty
    · clear h1 hk
      go_enter Tryz.func95, Tryz.ntmps95
      go_wp2
      go_ret
      exact ⟨ret_val (by rw [HE.out]; rfl), HB.out _⟩
    · have hx : t.exec = true := by rcases h1 with h | h; exact absurd h (by simp [hd]); exact h
      clear h1 hk
      go_enter Tryz.func95, Tryz.ntmps95
      go_wp2
      go_ret
      exact ⟨ret_val (by rw [HE.out]; rfl), HB.out _⟩
  · have HE : Hid (dirErr t = if (t.kids.all fun x => nameB x.1) = true then (if risesTo t.kids t.kids.length = true then none else some 9) else some 4) := show _ = _ by unfold dirErr; rw [if_neg h1]
    have hd : t.data.toList.isEmpty = true := by cases h : t.data.toList.isEmpty; exact absurd (.inl h) h1; rfl
    have hx : t.exec = false := by cases h : t.exec; rfl; exact absurd (.inr h) h1
    clear h1 c2 z2
    have HK : Hid (∀ i x, t.kids[i]? = some x → ∃ u, KidAt w B d b off i x u) := hk
    clear hk
    go_enter Tryz.func95, Tryz.ntmps95
    go_wp2
    have q3 : (w.alloc (.cells #[.string t.kind, .string t.data, .bool false, .slice (some ⟨b, off, none⟩) t.kids.length cap] 24)).cell? ⟨w.heap.size, 3, none⟩ = some (.slice (some ⟨b, off, none⟩) t.kids.length cap) := by rw [World.cell?_alloc_at _ _ _ _ rfl]; rfl
    have hW : Below w.heap.size w (w.alloc (.cells #[.string t.kind, .string t.data, .bool false, .slice (some ⟨b, off, none⟩) t.kids.length cap] 24)) := HB.out _
    have hz : (w.alloc (.cells #[.string t.kind, .string t.data, .bool false, .slice (some ⟨b, off, none⟩) t.kids.length cap] 24)).heap.size = w.heap.size + 1 := by simp
    generalize w.alloc (.cells #[.string t.kind, .string t.data, .bool false, .slice (some ⟨b, off, none⟩) t.kids.length cap] 24) = W1 at *
    have HZ : Hid (W1.heap.size = w.heap.size + 1) := hz
    clear hz hd hx
    go_loopw [17] (fun i wr => ∃ k : Nat, k ≤ t.kids.length ∧ i = .int .i64 k ∧ Below W1.heap.size W1 wr ∧ (t.kids.take k).all (fun x => nameB x.1) = true) (fun i _ => t.kids.length - (intOf i).toNat)
    case atStart => exact ⟨0, Nat.zero_le _, rfl, Below.refl _ _, by simp⟩
    case round =>
      obtain ⟨k, hk, rfl, hb, hall⟩ := hrel
      have HA : Hid ((t.kids.take k).all (fun x => nameB x.1) = true) := hall
      have hbw : Below w.heap.size w wr := hW.trans (hb.mono hW.size)
      have S' := S.below hbw
      clear hall
      by_cases hlt : k < t.kids.length
      · obtain ⟨x, hx'⟩ : ∃ x, t.kids[k]? = some x := ⟨t.kids[k], List.getElem?_eq_getElem hlt⟩
        obtain ⟨u, K0⟩ := HK.out k x hx'
        have K := K0.below hbw hB
        obtain ⟨ua, uc, rfl⟩ := K.lies.form
        have HS : Hid _ := kids_snoc (p := fun x => nameB x.1) hx'
        have HX : Hid (t.kids[k]? = some x) := hx'
        clear hx' K0
        have n0 := K.name
        have n1 := K.kind
        have n2 := K.data
        have n3 := K.exec
        have n4 := K.kids
        have hs : x.1.size ≤ maxLen := by have := K.size; unfold maxLen; omega
        cases hn : nameB x.1
        · have HM : Hid (t.kids.all (fun x => nameB x.1) = false) := kids_miss (p := fun x => nameB x.1) HX.out hn
          have c4 := S'.name
          have z4 := lt_of_cell c4
          clear S' S
          go_wp2_with fail
          refine (name_any x.1 _ hs).mono ?_
          rintro e w' ⟨rfl, rfl⟩
          go_wp2_with fail
          go_ret
          exact ⟨ret_val (by rw [HE.out, HM.out]; rfl), hbw.alloc hbw.size _⟩
        · have HN : Hid (nameB x.1 = true) := hn
          have hbn := hb.alloc hb.size
          go_wp2_with fail
          refine (name_any x.1 _ hs).mono ?_
          rintro e w' ⟨rfl, rfl⟩
          go_wp2_with fail
          go_roundw
          case rel => exact ⟨k + 1, by omega, by go_num, hbn _, by rw [HS.out, HA.out]; exact HN.out⟩
          case measure => simp [intOf]; omega
      · have HM : Hid (t.kids.all (fun x => nameB x.1) = true) := by
          have := HA.out
          rw [List.take_of_length_le (by omega)] at this
          exact this
        have q3' : wr.cell? ⟨w.heap.size, 3, none⟩ = some (.slice (some ⟨b, off, none⟩) t.kids.length cap) := by rw [hb.cell (p := ⟨w.heap.size, 3, none⟩) (by rw [HZ.out]; exact Nat.lt_succ_self _)]; exact q3
        have c9 := S'.order
        have z9 := lt_of_cell c9
        clear q3 S
        go_wp2_with fail
        go_loopw [5] (fun i w2 => ∃ j m : Nat, (j = 0 ∨ j < t.kids.length) ∧ i = .int .i64 ((j : Int) + 1) ∧ w2 = wr.drewN m ∧ risesTo t.kids (j + 1) = true) (fun i _ => t.kids.length - (intOf i).toNat)
        case atStart => exact ⟨0, 0, .inl rfl, by simp, rfl, risesTo_one _⟩
        case round =>
          obtain ⟨j, m, hj, rfl, rfl, hr⟩ := hrel
          have HR : Hid (risesTo t.kids (j + 1) = true) := hr
          clear hr
          by_cases hlt : j + 1 < t.kids.length
          · obtain ⟨x, hx'⟩ : ∃ x, t.kids[j]? = some x := ⟨t.kids[j], List.getElem?_eq_getElem (by omega)⟩
            obtain ⟨y, hy'⟩ : ∃ y, t.kids[j + 1]? = some y := ⟨t.kids[j + 1], List.getElem?_eq_getElem hlt⟩
            obtain ⟨u, K0⟩ := HK.out j x hx'
            obtain ⟨v, L0⟩ := HK.out (j + 1) y hy'
            have n0 := (K0.below hbw hB).name
            have n1 := (L0.below hbw hB).name
            have HS : Hid _ := risesTo_succ hx' hy'
            clear hx' hy' K0 L0
            cases hn : Op.bytesLess x.1.toList y.1.toList
            · have HM2 : Hid (risesTo t.kids t.kids.length = false) := risesTo_mono (k := j + 1 + 1) (by omega) (by rw [HS.out, hn]; simp)
              go_wp2_with fail
              go_quiet (fail)
              go_wp2_with fail
              go_ret
              exact ⟨ret_val (by rw [HE.out, HM.out, HM2.out]; rfl), below_drewN hbw _⟩
            · have HN : Hid (Op.bytesLess x.1.toList y.1.toList = true) := hn
              go_wp2_with fail
              go_quiet (fail)
              go_wp2_with fail
              go_roundw
              case rel => exact ⟨j + 1, _, .inr hlt, by go_num, rfl, by rw [HS.out, HR.out]; exact HN.out⟩
              case measure => simp [intOf]; omega
          · have HM2 : Hid (risesTo t.kids t.kids.length = true) := by
              cases h : risesTo t.kids t.kids.length
              · have := risesTo_mono (n := j + 1) (by omega) h
                rw [HR.out] at this; cases this
              · exact (rfl : true = true)
            go_wp2_with fail
            go_ret
            exact ⟨ret_val (by rw [HE.out, HM.out, HM2.out]; rfl), below_drewN hbw _⟩

/-- checkDir, whatever kids. -/
theorem checkDir_any (a : Nat → Addr) (t : Tree) (B d : Nat) (u : Value) (w : World) (S : Sen a w) (hB : B ≤ w.heap.size) (hl : Lies w B (d + 1) t.kids u) :
    Calls Tryz.prog 95 #[.agg #[.string t.kind, .string t.data, .bool t.exec, u]] w fun e w' => e = .returned (errV a (dirErr t)) ∧ Below w.heap.size w w' := by
  obtain ⟨hlen, ⟨hn, ad, cap, rfl⟩ | ⟨b, off, cap, rfl, hb, hk⟩⟩ := hl.open
  · exact checkDir_none a t ad cap w S hn
  · exact checkDir_some a t B d b off cap w S hlen hB hk

set_option maxHeartbeats 1000000 in
theorem checkNode_any (a : Nat → Addr) (t : Tree) (B d : Nat) (u : Value) (w : World) (S : Sen a w) (hB : B ≤ w.heap.size) (hl : Lies w B (d + 1) t.kids u) (hs : t.data.size ≤ maxLen) :
    Calls Tryz.prog 67 #[.agg #[.string t.kind, .string t.data, .bool t.exec, u]] w fun e w' => e = .returned (errV a (nodeErr t)) ∧ Below w.heap.size w w' := by
  have c3 := S.kind
  have z3 := lt_of_cell c3
  have HB : Hid (∀ o, Below w.heap.size w (w.alloc o)) := fun o => (Below.refl _ _).alloc (Nat.le_refl _) o
  have HS : Hid (∀ o, Sen a (w.alloc o)) := fun o => S.below (HB.out o)
  have HL : Hid (∀ o, Lies (w.alloc o) B (d + 1) t.kids u) := fun o => hl.below (HB.out o) hB
  obtain ⟨ad, cap, rfl⟩ := hl.form
  clear hl S
  cases hf : (t.kind.toList == [102, 105, 108, 101])
  · cases hd : (t.kind.toList == [100, 105, 114])
    · cases hk : (t.kind.toList == [108, 105, 110, 107])
      · have HE : Hid (nodeErr t = some 3) := show _ = _ by unfold nodeErr isFile isDir isLink; rw [hf, hd, hk]; rfl
        go_enter Tryz.func67, Tryz.ntmps67
        go_wp2_with fail
        go_ret
        exact ⟨ret_val (by rw [HE.out]; rfl), HB.out _⟩
      · have HE : Hid (nodeErr t = linkErr t) := show _ = _ by unfold nodeErr isFile isDir isLink; rw [hf, hd, hk]; rfl
        go_enter Tryz.func67, Tryz.ntmps67
        go_wp2_with fail
        refine (checkLink_any a t ad cap _ (HS.out _) hs).mono ?_
        rintro e w' ⟨rfl, hb⟩
        go_wp2_with fail
        go_ret
        exact ⟨ret_val (by rw [HE.out]; rfl), (HB.out _).trans (hb.mono (by simp))⟩
    · have HE : Hid (nodeErr t = dirErr t) := show _ = _ by unfold nodeErr isFile isDir isLink; rw [hf, hd]; rfl
      go_enter Tryz.func67, Tryz.ntmps67
      go_wp2_with fail
      refine (checkDir_any a t B d _ _ (HS.out _) (by simp; omega) (HL.out _)).mono ?_
      rintro e w' ⟨rfl, hb⟩
      go_wp2_with fail
      go_ret
      exact ⟨ret_val (by rw [HE.out]; rfl), (HB.out _).trans (hb.mono (by simp))⟩
  · have HE : Hid (nodeErr t = fileErr t) := show _ = _ by unfold nodeErr isFile isDir isLink; rw [hf]; rfl
    go_enter Tryz.func67, Tryz.ntmps67
    go_wp2_with fail
    refine (checkFile_any a t ad cap _ (HS.out _)).mono ?_
    rintro e w' ⟨rfl, hb⟩
    go_wp2_with fail
    go_ret
    exact ⟨ret_val (by rw [HE.out]; rfl), (HB.out _).trans (hb.mono (by simp))⟩
end Go.Proofs.YtpjjpmikhjlgnaaGreatDoor
