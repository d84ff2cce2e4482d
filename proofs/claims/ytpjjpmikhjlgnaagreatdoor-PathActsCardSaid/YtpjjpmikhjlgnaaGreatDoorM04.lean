/-
  The contracts of the functions of package tree that tell a node's own error: checkFile, checkLink, checkDir, checkNode.
  The contracts of checkDir and checkNode.
  Lists of a tree's nodes, as the document's answer makes them: each node's kids right behind it, one node after the other. No program stands here.
  A tree in memory of its own: each list of kids in a row that nothing else of the tree shares; kids below a block, each list with its room told.
  Conditions: those that each states.
-/
import Derived.Test.YtpjjpmikhjlgnaaGreatDoorM02
import Derived.Test.YtpjjpmikhjlgnaaGreatDoorM03
import Derived.BigQuiet
import Derived.Deep.QuietTactic
import Derived.WalkSmall
import Derived.OneCell
namespace Go.Proofs.YtpjjpmikhjlgnaaGreatDoor
open Go.RowKit

/-- An error as a value: nil, or the sentinel of that number. -/
def errV (a : Nat → Addr) : Option Nat → Value
  | none => .nilIface
  | some i => .iface 181 (.pointer (some (a i)))
/-- A node as a value, its kids' slice given. -/
def nodeV (t : Tree) (u : Value) : Value := .agg #[.string t.kind, .string t.data, .bool t.exec, u]
theorem ret_val {a b : Value} (h : a = b) : Ending.returned a = .returned b := by rw [h]

set_option maxHeartbeats 1000000 in
theorem checkFile_any (a : Nat → Addr) (t : Tree) (ad : Option Addr) (cap : Nat) (w : World) (S : Sen a w) :
    Calls Tryz.prog 94 #[.agg #[.string t.kind, .string t.data, .bool t.exec, .slice ad t.kids.length cap]] w fun e w' => e = .returned (errV a (fileErr t)) ∧ Below w.heap.size w w' := by
  have c1 := S.bound
  have c2 := S.shape
  have z1 := lt_of_cell c1
  have z2 := lt_of_cell c2
  have HB : Hid (∀ o, Below w.heap.size w (w.alloc o)) := fun o => (Below.refl _ _).alloc (Nat.le_refl _) o
  clear S
  by_cases h1 : 0 < t.kids.length
  · have HE : Hid (fileErr t = some 2) := show _ = _ by unfold fileErr; rw [if_pos h1]
    go_enter Tryz.func94, Tryz.ntmps94
    go_wp2
    go_ret
    exact ⟨ret_val (by rw [HE.out]; rfl), HB.out _⟩
  · by_cases h2 : 2000 < t.data.size
    · have HE : Hid (fileErr t = some 1) := show _ = _ by unfold fileErr; rw [if_neg h1, if_pos h2]
      go_enter Tryz.func94, Tryz.ntmps94
      go_wp2
      go_ret
      exact ⟨ret_val (by rw [HE.out]; rfl), HB.out _⟩
    · have HE : Hid (fileErr t = none) := show _ = _ by unfold fileErr; rw [if_neg h1, if_neg h2]
      go_enter Tryz.func94, Tryz.ntmps94
      go_wp2
      go_ret
      exact ⟨ret_val (by rw [HE.out]; rfl), HB.out _⟩

set_option maxHeartbeats 1000000 in
theorem checkLink_any (a : Nat → Addr) (t : Tree) (ad : Option Addr) (cap : Nat) (w : World) (S : Sen a w) (hs : t.data.size ≤ maxLen) :
    Calls Tryz.prog 96 #[.agg #[.string t.kind, .string t.data, .bool t.exec, .slice ad t.kids.length cap]] w fun e w' => e = .returned (errV a (linkErr t)) ∧ Below w.heap.size w w' := by
  unfold maxLen at hs
  have c0 := S.text
  have c1 := S.bound
  have c2 := S.shape
  have z0 := lt_of_cell c0
  have z1 := lt_of_cell c1
  have z2 := lt_of_cell c2
  have HB : Hid (∀ o, Below w.heap.size w (w.alloc o)) := fun o => (Below.refl _ _).alloc (Nat.le_refl _) o
  clear S
  by_cases h1 : t.exec = true ∨ 0 < t.kids.length
  · have HE : Hid (linkErr t = some 2) := show _ = _ by unfold linkErr; rw [if_pos h1]
    by_cases hx : t.exec = true
    · clear h1
      go_enter Tryz.func96, Tryz.ntmps96
      go_wp2
      go_ret
      exact ⟨ret_val (by rw [HE.out]; rfl), HB.out _⟩
    · have hl : 0 < t.kids.length := by rcases h1 with h | h; exact absurd h hx; exact h
      have hx : t.exec = false := by simpa using hx
      clear h1
      go_enter Tryz.func96, Tryz.ntmps96
      go_wp2
      go_ret
      exact ⟨ret_val (by rw [HE.out]; rfl), HB.out _⟩
  · have hx : t.exec = false := by cases h : t.exec; rfl; exact absurd (.inl h) h1
    have hl : ¬ 0 < t.kids.length := fun h => h1 (.inr h)
    by_cases h2 : t.data.size < 1 ∨ 40 < t.data.size
    · have HE : Hid (linkErr t = some 1) := show _ = _ by unfold linkErr; rw [if_neg h1, if_pos h2]
      clear h1
      rcases h2 with h2 | h2
      all_goals
        go_enter Tryz.func96, Tryz.ntmps96
        go_wp2
        go_ret
        exact ⟨ret_val (by rw [HE.out]; rfl), HB.out _⟩
    · have HE : Hid (linkErr t = if t.data.data.toList.all seen = true then none else some 0) := show _ = _ by unfold linkErr; rw [if_neg h1, if_neg h2]
      have h3 : 1 ≤ t.data.size := by omega
      have h4 : t.data.size ≤ 40 := by omega
      clear h1 h2
      go_enter Tryz.func96, Tryz.ntmps96
      go_wp2
      go_loop [27] (fun i => ∃ k : Nat, k ≤ t.data.size ∧ i = .int .i64 k ∧ (t.data.data.toList.take k).all seen = true) (fun i => t.data.size - (intOf i).toNat)
      case atStart => exact ⟨0, Nat.zero_le _, rfl, by simp⟩
      case round =>
        obtain ⟨k, hk, rfl, hall⟩ := hrel
        have HA : Hid ((t.data.data.toList.take k).all seen = true) := hall
        clear hall
        by_cases hlt : k < t.data.size
        · have HS : Hid _ := all_snoc (p := seen) t.data k hlt
          by_cases hc : seen t.data[k] = true
          · have HC : Hid (seen t.data[k] = true) := hc
            have hc1 : 33 ≤ (t.data[k].toNat : Int) := by unfold seen at hc; simp only [decide_eq_true_eq] at hc; exact hc.1
            have hc2 : (t.data[k].toNat : Int) ≤ 126 := by unfold seen at hc; simp only [decide_eq_true_eq] at hc; exact hc.2
            clear hc
            go_wp2
            go_round
            case rel => exact ⟨k + 1, by omega, by go_num, by rw [HS.out, HA.out]; exact HC.out⟩
            case measure => simp [intOf]; omega
          · have hc' : seen t.data[k] = false := by simpa using hc
            have HM : Hid (t.data.data.toList.all seen = false) := all_miss (p := seen) t.data k hlt hc'
            have hor : (t.data[k].toNat : Int) < 33 ∨ 126 < (t.data[k].toNat : Int) := by unfold seen at hc'; simp only [decide_eq_false_iff_not] at hc'; omega
            clear hc hc'
            rcases hor with hor | hor
            · go_wp2
              go_ret
              exact ⟨ret_val (by rw [HE.out, HM.out]; rfl), HB.out _⟩
            · have hor2 : 33 ≤ (t.data[k].toNat : Int) := by omega
              go_wp2
              go_ret
              exact ⟨ret_val (by rw [HE.out, HM.out]; rfl), HB.out _⟩
        · have ek : k = t.data.size := by omega
          have HM : Hid (t.data.data.toList.all seen = true) := by
            have := HA.out
            rw [ek, all_whole] at this
            exact this
          clear ek
          go_wp2
          go_ret
          exact ⟨ret_val (by rw [HE.out, HM.out]; rfl), HB.out _⟩
end Go.Proofs.YtpjjpmikhjlgnaaGreatDoor
namespace Go.Proofs.YtpjjpmikhjlgnaaGreatDoor
open Go.RowKit

/-- checkDir, no kids. -/
theorem checkDir_none (a : Nat → Addr) (t : Tree) (ad : Option Addr) (cap : Nat) (w : World) (S : Sen a w) (hk : t.kids = []) :
    Calls Tryz.prog 95 #[.agg #[.string t.kind, .string t.data, .bool t.exec, .slice ad 0 cap]] w fun e w' => e = .returned (errV a (dirErr t)) ∧ Below w.heap.size w w' := by
  have c2 := S.shape
  have z2 := lt_of_cell c2
  have HB : Hid (∀ o, Below w.heap.size w (w.alloc o)) := fun o => (Below.refl _ _).alloc (Nat.le_refl _) o
  clear S
  by_cases h1 : t.data.toList.isEmpty = false ∨ t.exec = true
  · have HE : Hid (dirErr t = some 2) := show _ = _ by unfold dirErr; rw [if_pos h1]
    cases hd : t.data.toList.isEmpty
    · clear h1 hk
      go_enter Tryz.func95, Tryz.ntmps95
      go_wp2
      go_ret
      exact ⟨ret_val (by rw [HE.out]; rfl), HB.out _⟩
    · have hx : t.exec = true := by rcases h1 with h | h; exact absurd h (by simp [hd]); exact h
      clear h1 hk
      go_enter Tryz.func95, Tryz.ntmps95
      go_wp2
      go_ret
      exact ⟨ret_val (by rw [HE.out]; rfl), HB.out _⟩
  · have HE : Hid (dirErr t = none) := show _ = _ by unfold dirErr; rw [if_neg h1, hk]; rfl
    have hd : t.data.toList.isEmpty = true := by cases h : t.data.toList.isEmpty; exact absurd (.inl h) h1; rfl
    have hx : t.exec = false := by cases h : t.exec; rfl; exact absurd (.inr h) h1
    clear h1 hk
    go_enter Tryz.func95, Tryz.ntmps95
    go_wp2
    refine wp_loop_rounds 1 ?_
    rw [rounds_succ]
    go_wp2
    refine wp_loop_rounds 1 ?_
    rw [rounds_succ]
    go_wp2
    go_ret
    exact ⟨ret_val (by rw [HE.out]; rfl), HB.out _⟩

set_option maxHeartbeats 1000000 in
theorem checkDir_some (a : Nat → Addr) (t : Tree) (B d b off cap : Nat) (w : World) (S : Sen a w) (hlen : t.kids.length ≤ 1759218604390) (hB : B ≤ w.heap.size)
    (hk : ∀ i x, t.kids[i]? = some x → ∃ u, KidAt w B d b off i x u) :
    Calls Tryz.prog 95 #[.agg #[.string t.kind, .string t.data, .bool t.exec, .slice (some ⟨b, off, none⟩) t.kids.length cap]] w fun e w' => e = .returned (errV a (dirErr t)) ∧ Below w.heap.size w w' := by
  have c2 := S.shape
  have z2 := lt_of_cell c2
  have HB : Hid (∀ o, Below w.heap.size w (w.alloc o)) := fun o => (Below.refl _ _).alloc (Nat.le_refl _) o
  by_cases h1 : t.data.toList.isEmpty = false ∨ t.exec = true
  · have HE : Hid (dirErr t = some 2) := show _ = _ by unfold dirErr; rw [if_pos h1]
    clear S
    cases hd : t.data.toList.isEmpty
    · clear h1 hk
      go_enter Tryz.func95, Tryz.ntmps95
      go_wp2
      go_ret
      exact ⟨ret_val (by rw [HE.out]; rfl), HB.out _⟩
    · have hx : t.exec = true := by rcases h1 with h | h; exact absurd h (by simp [hd]); exact h
      clear h1 hk
      go_enter Tryz.func95, Tryz.ntmps95
      go_wp2
      go_ret
      exact ⟨ret_val (by rw [HE.out]; rfl), HB.out _⟩
  · have HE : Hid (dirErr t = if (t.kids.all fun x => nameB x.1) = true then (if risesTo t.kids t.kids.length = true then none else some 9) else some 4) := show _ = _ by unfold dirErr; rw [if_neg h1]
    have hd : t.data.toList.isEmpty = true := by cases h : t.data.toList.isEmpty; exact absurd (.inl h) h1; rfl
    have hx : t.exec = false := by cases h : t.exec; rfl; exact absurd (.inr h) h1
    clear h1 c2 z2
    have HK : Hid (∀ i x, t.kids[i]? = some x → ∃ u, KidAt w B d b off i x u) := hk
    clear hk
    go_enter Tryz.func95, Tryz.ntmps95
    go_wp2
    have q3 : (w.alloc (.cells #[.string t.kind, .string t.data, .bool false, .slice (some ⟨b, off, none⟩) t.kids.length cap] 24)).cell? ⟨w.heap.size, 3, none⟩ = some (.slice (some ⟨b, off, none⟩) t.kids.length cap) := by rw [World.cell?_alloc_at _ _ _ _ rfl]; rfl
    have hW : Below w.heap.size w (w.alloc (.cells #[.string t.kind, .string t.data, .bool false, .slice (some ⟨b, off, none⟩) t.kids.length cap] 24)) := HB.out _
    have hz : (w.alloc (.cells #[.string t.kind, .string t.data, .bool false, .slice (some ⟨b, off, none⟩) t.kids.length cap] 24)).heap.size = w.heap.size + 1 := by simp
    generalize w.alloc (.cells #[.string t.kind, .string t.data, .bool false, .slice (some ⟨b, off, none⟩) t.kids.length cap] 24) = W1 at *
    have HZ : Hid (W1.heap.size = w.heap.size + 1) := hz
    clear hz hd hx
    go_loopw [17] (fun i wr => ∃ k : Nat, k ≤ t.kids.length ∧ i = .int .i64 k ∧ Below W1.heap.size W1 wr ∧ (t.kids.take k).all (fun x => nameB x.1) = true) (fun i _ => t.kids.length - (intOf i).toNat)
    case atStart => exact ⟨0, Nat.zero_le _, rfl, Below.refl _ _, by simp⟩
    case round =>
      obtain ⟨k, hk, rfl, hb, hall⟩ := hrel
      have HA : Hid ((t.kids.take k).all (fun x => nameB x.1) = true) := hall
      have hbw : Below w.heap.size w wr := hW.trans (hb.mono hW.size)
      have S' := S.below hbw
      clear hall
      by_cases hlt : k < t.kids.length
      · obtain ⟨x, hx'⟩ : ∃ x, t.kids[k]? = some x := ⟨t.kids[k], List.getElem?_eq_getElem hlt⟩
        obtain ⟨u, K0⟩ := HK.out k x hx'
        have K := K0.below hbw hB
        obtain ⟨ua, uc, rfl⟩ := K.lies.form
        have HS : Hid _ := kids_snoc (p := fun x => nameB x.1) hx'
        have HX : Hid (t.kids[k]? = some x) := hx'
        clear hx' K0
        have n0 := K.name
        have n1 := K.kind
        have n2 := K.data
        have n3 := K.exec
        have n4 := K.kids
        have hs : x.1.size ≤ maxLen := by have := K.size; unfold maxLen; omega
        cases hn : nameB x.1
        · have HM : Hid (t.kids.all (fun x => nameB x.1) = false) := kids_miss (p := fun x => nameB x.1) HX.out hn
          have c4 := S'.name
          have z4 := lt_of_cell c4
          clear S' S
          go_wp2_with fail
          refine (name_any x.1 _ hs).mono ?_
          rintro e w' ⟨rfl, rfl⟩
          go_wp2_with fail
          go_ret
          exact ⟨ret_val (by rw [HE.out, HM.out]; rfl), hbw.alloc hbw.size _⟩
        · have HN : Hid (nameB x.1 = true) := hn
          have hbn := hb.alloc hb.size
          go_wp2_with fail
          refine (name_any x.1 _ hs).mono ?_
          rintro e w' ⟨rfl, rfl⟩
          go_wp2_with fail
          go_roundw
          case rel => exact ⟨k + 1, by omega, by go_num, hbn _, by rw [HS.out, HA.out]; exact HN.out⟩
          case measure => simp [intOf]; omega
      · have HM : Hid (t.kids.all (fun x => nameB x.1) = true) := by
          have := HA.out
          rw [List.take_of_length_le (by omega)] at this
          exact this
        have q3' : wr.cell? ⟨w.heap.size, 3, none⟩ = some (.slice (some ⟨b, off, none⟩) t.kids.length cap) := by rw [hb.cell (p := ⟨w.heap.size, 3, none⟩) (by rw [HZ.out]; exact Nat.lt_succ_self _)]; exact q3
        have c9 := S'.order
        have z9 := lt_of_cell c9
        clear q3 S
        go_wp2_with fail
        go_loopw [5] (fun i w2 => ∃ j m : Nat, (j = 0 ∨ j < t.kids.length) ∧ i = .int .i64 ((j : Int) + 1) ∧ w2 = wr.drewN m ∧ risesTo t.kids (j + 1) = true) (fun i _ => t.kids.length - (intOf i).toNat)
        case atStart => exact ⟨0, 0, .inl rfl, by simp, rfl, risesTo_one _⟩
        case round =>
          obtain ⟨j, m, hj, rfl, rfl, hr⟩ := hrel
          have HR : Hid (risesTo t.kids (j + 1) = true) := hr
          clear hr
          by_cases hlt : j + 1 < t.kids.length
          · obtain ⟨x, hx'⟩ : ∃ x, t.kids[j]? = some x := ⟨t.kids[j], List.getElem?_eq_getElem (by omega)⟩
            obtain ⟨y, hy'⟩ : ∃ y, t.kids[j + 1]? = some y := ⟨t.kids[j + 1], List.getElem?_eq_getElem hlt⟩
            obtain ⟨u, K0⟩ := HK.out j x hx'
            obtain ⟨v, L0⟩ := HK.out (j + 1) y hy'
            have n0 := (K0.below hbw hB).name
            have n1 := (L0.below hbw hB).name
            have HS : Hid _ := risesTo_succ hx' hy'
            clear hx' hy' K0 L0
            cases hn : Op.bytesLess x.1.toList y.1.toList
            · have HM2 : Hid (risesTo t.kids t.kids.length = false) := risesTo_mono (k := j + 1 + 1) (by omega) (by rw [HS.out, hn]; simp)
              go_wp2_with fail
              go_quiet (fail)
              go_wp2_with fail
              go_ret
              exact ⟨ret_val (by rw [HE.out, HM.out, HM2.out]; rfl), below_drewN hbw _⟩
            · have HN : Hid (Op.bytesLess x.1.toList y.1.toList = true) := hn
              go_wp2_with fail
              go_quiet (fail)
              go_wp2_with fail
              go_roundw
              case rel => exact ⟨j + 1, _, .inr hlt, by go_num, rfl, by rw [HS.out, HR.out]; exact HN.out⟩
              case measure => simp [intOf]; omega
          · have HM2 : Hid (risesTo t.kids t.kids.length = true) := by
              cases h : risesTo t.kids t.kids.length
              · have := risesTo_mono (n := j + 1) (by omega) h
                rw [HR.out] at this; cases this
              · exact (rfl : true = true)
            go_wp2_with fail
            go_ret
            exact ⟨ret_val (by rw [HE.out, HM.out, HM2.out]; rfl), below_drewN hbw _⟩

/-- checkDir, whatever kids. -/
theorem checkDir_any (a : Nat → Addr) (t : Tree) (B d : Nat) (u : Value) (w : World) (S : Sen a w) (hB : B ≤ w.heap.size) (hl : Lies w B (d + 1) t.kids u) :
    Calls Tryz.prog 95 #[.agg #[.string t.kind, .string t.data, .bool t.exec, u]] w fun e w' => e = .returned (errV a (dirErr t)) ∧ Below w.heap.size w w' := by
  obtain ⟨hlen, ⟨hn, ad, cap, rfl⟩ | ⟨b, off, cap, rfl, hb, hk⟩⟩ := hl.open
  · exact checkDir_none a t ad cap w S hn
  · exact checkDir_some a t B d b off cap w S hlen hB hk

set_option maxHeartbeats 1000000 in
theorem checkNode_any (a : Nat → Addr) (t : Tree) (B d : Nat) (u : Value) (w : World) (S : Sen a w) (hB : B ≤ w.heap.size) (hl : Lies w B (d + 1) t.kids u) (hs : t.data.size ≤ maxLen) :
    Calls Tryz.prog 67 #[.agg #[.string t.kind, .string t.data, .bool t.exec, u]] w fun e w' => e = .returned (errV a (nodeErr t)) ∧ Below w.heap.size w w' := by
  have c3 := S.kind
  have z3 := lt_of_cell c3
  have HB : Hid (∀ o, Below w.heap.size w (w.alloc o)) := fun o => (Below.refl _ _).alloc (Nat.le_refl _) o
  have HS : Hid (∀ o, Sen a (w.alloc o)) := fun o => S.below (HB.out o)
  have HL : Hid (∀ o, Lies (w.alloc o) B (d + 1) t.kids u) := fun o => hl.below (HB.out o) hB
  obtain ⟨ad, cap, rfl⟩ := hl.form
  clear hl S
  cases hf : (t.kind.toList == [102, 105, 108, 101])
  · cases hd : (t.kind.toList == [100, 105, 114])
    · cases hk : (t.kind.toList == [108, 105, 110, 107])
      · have HE : Hid (nodeErr t = some 3) := show _ = _ by unfold nodeErr isFile isDir isLink; rw [hf, hd, hk]; rfl
        go_enter Tryz.func67, Tryz.ntmps67
        go_wp2_with fail
        go_ret
        exact ⟨ret_val (by rw [HE.out]; rfl), HB.out _⟩
      · have HE : Hid (nodeErr t = linkErr t) := show _ = _ by unfold nodeErr isFile isDir isLink; rw [hf, hd, hk]; rfl
        go_enter Tryz.func67, Tryz.ntmps67
        go_wp2_with fail
        refine (checkLink_any a t ad cap _ (HS.out _) hs).mono ?_
        rintro e w' ⟨rfl, hb⟩
        go_wp2_with fail
        go_ret
        exact ⟨ret_val (by rw [HE.out]; rfl), (HB.out _).trans (hb.mono (by simp))⟩
    · have HE : Hid (nodeErr t = dirErr t) := show _ = _ by unfold nodeErr isFile isDir isLink; rw [hf, hd]; rfl
      go_enter Tryz.func67, Tryz.ntmps67
      go_wp2_with fail
      refine (checkDir_any a t B d _ _ (HS.out _) (by simp; omega) (HL.out _)).mono ?_
      rintro e w' ⟨rfl, hb⟩
      go_wp2_with fail
      go_ret
      exact ⟨ret_val (by rw [HE.out]; rfl), (HB.out _).trans (hb.mono (by simp))⟩
  · have HE : Hid (nodeErr t = fileErr t) := show _ = _ by unfold nodeErr isFile isDir isLink; rw [hf]; rfl
    go_enter Tryz.func67, Tryz.ntmps67
    go_wp2_with fail
    refine (checkFile_any a t ad cap _ (HS.out _)).mono ?_
    rintro e w' ⟨rfl, hb⟩
    go_wp2_with fail
    go_ret
    exact ⟨ret_val (by rw [HE.out]; rfl), (HB.out _).trans (hb.mono (by simp))⟩
end Go.Proofs.YtpjjpmikhjlgnaaGreatDoor
namespace Go.Proofs.YtpjjpmikhjlgnaaGreatDoor
open Go.RowKit

def kidsOf (most : Nat) (x : ByteArray × Nat × Tree) : List (ByteArray × Nat × Tree) := (x.2.2.kids.take (most + 1)).map fun y => (x.1 ++ slash ++ y.1, x.2.1 + 1, y.2)
def grow (most deep : Nat) (l : List (ByteArray × Nat × Tree)) (i : Nat) : List (ByteArray × Nat × Tree) :=
  match l[i]? with
  | none => l
  | some x => if deep < x.2.1 then l else l.take (i + 1) ++ kidsOf most x ++ l.drop (i + 1)
def listTo (most deep : Nat) (l : List (ByteArray × Nat × Tree)) : Nat → List (ByteArray × Nat × Tree)
  | 0 => l
  | i + 1 => grow most deep (listTo most deep l i) i
def listOf (most deep : Nat) (t : Tree) : List (ByteArray × Nat × Tree) := listTo most deep [(ByteArray.empty, 0, t)] (most + 1)

theorem listTo_done {most deep : Nat} {l : List (ByteArray × Nat × Tree)} {i : Nat} (h : (listTo most deep l i).length ≤ i) : ∀ n, i ≤ n → listTo most deep l n = listTo most deep l i := by
  intro n hn
  induction n with
  | zero => have : i = 0 := by omega
            subst this; rfl
  | succ n ih =>
    rcases Nat.lt_or_ge n i with hlt | hge
    · have : i = n + 1 := by omega
      subst this; rfl
    · have e := ih hge
      show grow most deep (listTo most deep l n) n = _
      rw [e]
      unfold grow
      rw [List.getElem?_eq_none (by omega)]
theorem listTo_len {most deep : Nat} {l : List (ByteArray × Nat × Tree)} : ∀ i, (listTo most deep l i).length ≤ l.length + i * (most + 1)
  | 0 => by simp [listTo]
  | i + 1 => by
    have ih := listTo_len (most := most) (deep := deep) (l := l) i
    have e : (i + 1) * (most + 1) = i * (most + 1) + (most + 1) := by rw [Nat.add_mul]; omega
    show (grow most deep (listTo most deep l i) i).length ≤ _
    unfold grow
    split
    · omega
    · rename_i x hx
      split
      · omega
      · have hi : i < (listTo most deep l i).length := (List.getElem?_eq_some_iff.1 hx).1
        have hk : (kidsOf most x).length ≤ most + 1 := by unfold kidsOf; simp; omega
        simp only [List.length_append, List.length_take, List.length_drop]
        omega

/-- An item in memory: its cells, with its kids' slice. -/
def itCells : List ((ByteArray × Nat × Tree) × Value) → List Value
  | [] => []
  | x :: l => .string x.1.1 :: .int .i64 (x.1.2.1 : Int) :: .string x.1.2.2.kind :: .string x.1.2.2.data :: .bool x.1.2.2.exec :: x.2 :: itCells l
theorem itCells_append : ∀ (a b : List ((ByteArray × Nat × Tree) × Value)), itCells (a ++ b) = itCells a ++ itCells b
  | [], b => rfl
  | x :: a, b => by simp only [List.cons_append, itCells]; rw [itCells_append a b]
theorem itCells_length : ∀ (a : List ((ByteArray × Nat × Tree) × Value)), (itCells a).length = a.length * 6
  | [] => rfl
  | x :: a => by simp only [itCells, List.length_cons, itCells_length a]; omega
theorem itCells_at : ∀ {l : List ((ByteArray × Nat × Tree) × Value)} {i : Nat} {x : (ByteArray × Nat × Tree) × Value}, l[i]? = some x →
    (itCells l)[i * 6]? = some (.string x.1.1) ∧ (itCells l)[i * 6 + 1]? = some (.int .i64 (x.1.2.1 : Int)) ∧ (itCells l)[i * 6 + 2]? = some (.string x.1.2.2.kind) ∧ (itCells l)[i * 6 + 3]? = some (.string x.1.2.2.data) ∧ (itCells l)[i * 6 + 4]? = some (.bool x.1.2.2.exec) ∧ (itCells l)[i * 6 + 5]? = some x.2
  | [], i, x, h => by simp at h
  | y :: l, 0, x, h => by
    simp only [List.getElem?_cons_zero, Option.some.injEq] at h
    subst h
    exact ⟨rfl, rfl, rfl, rfl, rfl, rfl⟩
  | y :: l, i + 1, x, h => by
    simp only [List.getElem?_cons_succ] at h
    have := itCells_at h
    have e : ∀ k, (i + 1) * 6 + k = (i * 6 + k) + 1 + 1 + 1 + 1 + 1 + 1 := fun k => by omega
    simp only [itCells]
    refine ⟨?_, ?_, ?_, ?_, ?_, ?_⟩
    · rw [show (i + 1) * 6 = (i * 6) + 1 + 1 + 1 + 1 + 1 + 1 from by omega]; simpa using this.1
    · rw [e]; simpa using this.2.1
    · rw [e]; simpa using this.2.2.1
    · rw [e]; simpa using this.2.2.2.1
    · rw [e]; simpa using this.2.2.2.2.1
    · rw [e]; simpa using this.2.2.2.2.2
theorem itCells_oneCell {l : List ((ByteArray × Nat × Tree) × Value)} (h : ∀ x ∈ l, ∃ ad n c, x.2 = .slice ad n c) : ∀ u ∈ itCells l, u.oneCell' = true := by
  induction l with
  | nil => intro u hu; simp [itCells] at hu
  | cons x l ih =>
    intro u hu
    obtain ⟨ad, n, c, e⟩ := h x List.mem_cons_self
    simp only [itCells, List.mem_cons] at hu
    rcases hu with rfl | rfl | rfl | rfl | rfl | rfl | hu
    · rfl
    · rfl
    · rfl
    · rfl
    · rfl
    · rw [e]; rfl
    · exact ih (fun y hy => h y (List.mem_cons_of_mem _ hy)) u hu
theorem itCells_take {l : List ((ByteArray × Nat × Tree) × Value)} (k : Nat) : itCells (l.take k) = (itCells l).take (k * 6) := by
  induction l generalizing k with
  | nil => simp [itCells]
  | cons x l ih =>
    cases k with
    | zero => simp [itCells]
    | succ k =>
      simp only [List.take_succ_cons, itCells, ih]
      rw [show (k + 1) * 6 = k * 6 + 1 + 1 + 1 + 1 + 1 + 1 from by omega]
      simp only [List.take_succ_cons]
theorem itCells_drop {l : List ((ByteArray × Nat × Tree) × Value)} (k : Nat) : itCells (l.drop k) = (itCells l).drop (k * 6) := by
  induction l generalizing k with
  | nil => simp [itCells]
  | cons x l ih =>
    cases k with
    | zero => simp [itCells]
    | succ k =>
      simp only [List.drop_succ_cons, itCells, ih]
      rw [show (k + 1) * 6 = k * 6 + 1 + 1 + 1 + 1 + 1 + 1 from by omega]
      simp only [List.drop_succ_cons]
theorem ownsRow_lower {w : World} {base base' : Nat} {e : TypeId} {size : Nat} {v : Value} {n : Nat} {xs : List Value} (h : w.ownsRow base e size v n xs) (hb : base' ≤ base) : w.ownsRow base' e size v n xs := by
  obtain ⟨h1, h2⟩ := h
  refine ⟨h1, ?_⟩
  rcases h2 with h2 | ⟨g, cap, cur, hv, hg, hh, r⟩
  · exact .inl h2
  · exact .inr ⟨g, cap, cur, hv, by omega, hh, r⟩
theorem ownsRow_single (w : World) (base : Nat) (e : TypeId) (size : Nat) (cs : Array Value) (hb : base ≤ w.heap.size) (hs : cs.size = size) : (w.alloc (.cells cs e)).ownsRow base e size (.slice (some ⟨w.heap.size, 0, none⟩) 1 1) 1 cs.toList := by
  refine ⟨by simp [hs], .inr ⟨w.heap.size, 1, cs, rfl, hb, heap_alloc_new w _, Nat.le_refl _, by unfold maxLen; omega, by omega, ?_⟩⟩
  rw [List.take_of_length_le (by simp; omega)]
end Go.Proofs.YtpjjpmikhjlgnaaGreatDoor
namespace Go.Proofs.YtpjjpmikhjlgnaaGreatDoor
open Go.RowKit

theorem row_alloc' (w : World) (c : Array Value) (t : TypeId) : (w.alloc (.cells c t)).heap[w.heap.size]? = some (.cells c t (0, 0)) := by
  show (w.heap.push _)[w.heap.size]? = _
  simp
theorem free_of_row {w : World} {b : Nat} {c : Array Value} {t : TypeId} (h : w.heap[b]? = some (.cells c t (0, 0))) (i : Nat) : w.frozen? ⟨b, i, none⟩ = false := by simp [World.frozen?, h]
theorem ownsRow_ext' {w w' : World} {base : Nat} {e : TypeId} {size : Nat} {v : Value} {n : Nat} {xs : List Value} (h : w.ownsRow base e size v n xs) (hb : ∀ k, v.ownBlock = some k → w'.heap[k]? = w.heap[k]?) : w'.ownsRow base e size v n xs := by
  obtain ⟨h1, h2⟩ := h
  refine ⟨h1, ?_⟩
  rcases h2 with h2 | ⟨g, cap, cur, hv, hg, hh, r⟩
  · exact .inl h2
  · subst hv
    exact .inr ⟨g, cap, cur, rfl, hg, by rw [hb g rfl]; exact hh, r⟩
/-- Kids in memory of their own, in blocks of Q. -/
def OwnT (w : World) : (Nat → Prop) → Nat → List (ByteArray × Tree) → Value → Prop
  | _, 0, _, _ => False
  | Q, d + 1, l, v => l.length ≤ 1759218604390 ∧ (∀ x ∈ l, x.1.size ≤ 140737488355328) ∧ ∃ (us : List Value) (Qs : Nat → Nat → Prop), us.length = l.length ∧ w.ownsRow 0 65 5 v l.length (kidCells l us) ∧ (∀ g, v.ownBlock = some g → Q g) ∧
      (∀ i x u, l[i]? = some x → us[i]? = some u → OwnT w (Qs i) d x.2.kids u) ∧ (∀ i b, Qs i b → Q b ∧ v.ownBlock ≠ some b) ∧ ∀ i j b, i ≠ j → Qs i b → ¬ Qs j b
theorem OwnT.kept {w w' : World} : ∀ {d : Nat} {Q Q' : Nat → Prop} {l : List (ByteArray × Tree)} {v : Value}, (∀ k, Q k → w'.heap[k]? = w.heap[k]?) → (∀ k, Q k → Q' k) → OwnT w Q d l v → OwnT w' Q' d l v
  | 0, _, _, _, _, _, _, h => h
  | _ + 1, _, _, _, _, hb, hq, ⟨h1, h2, us, Qs, h3, h4, h5, h6, h7, h8⟩ =>
    ⟨h1, h2, us, Qs, h3, ownsRow_ext' h4 fun k hk => hb k (h5 k hk), fun g hg => hq g (h5 g hg), fun i x u hx hu => OwnT.kept (fun k hk => hb k (h7 i k hk).1) (fun _ hk => hk) (h6 i x u hx hu), fun i b hi => ⟨hq b (h7 i b hi).1, (h7 i b hi).2⟩, h8⟩
theorem OwnT.liesQ {w : World} : ∀ {d : Nat} {Q : Nat → Prop} {l : List (ByteArray × Tree)} {v : Value}, OwnT w Q d l v → LiesQ w Q d l v
  | 0, _, _, _, h => h
  | _ + 1, _, _, _, ⟨h1, h2, _, _, h3, h4, h5, h6, h7, _⟩ =>
    LiesQ.made h4 h1 h3 h5 h2 fun i x u hx hu => (OwnT.liesQ (h6 i x u hx hu)).kept (fun _ _ => rfl) fun k hk => (h7 i k hk).1
theorem OwnT.form {w : World} {Q : Nat → Prop} {d : Nat} {l : List (ByteArray × Tree)} {v : Value} (h : OwnT w Q d l v) : ∃ ad cap, v = .slice ad l.length cap := h.liesQ.form
theorem OwnT.up {w : World} : ∀ {d e : Nat} {Q : Nat → Prop} {l : List (ByteArray × Tree)} {v : Value}, d ≤ e → OwnT w Q d l v → OwnT w Q e l v
  | 0, _, _, _, _, _, h => h.elim
  | _ + 1, 0, _, _, _, h, _ => by omega
  | _ + 1, _ + 1, _, _, _, hd, ⟨h1, h2, us, Qs, h3, h4, h5, h6, h7, h8⟩ => ⟨h1, h2, us, Qs, h3, h4, h5, fun i x u hx hu => OwnT.up (by omega) (h6 i x u hx hu), h7, h8⟩
end Go.Proofs.YtpjjpmikhjlgnaaGreatDoor
namespace Go.Proofs.YtpjjpmikhjlgnaaGreatDoor
open Go.RowKit

def LiesC (w : World) (B : Nat) : Nat → List (ByteArray × Tree) → Value → Prop
  | 0, _, _ => False
  | d + 1, l, v => ∃ ad cap, v = .slice ad l.length cap ∧ l.length ≤ cap ∧ cap ≤ maxLen ∧ l.length ≤ 1759218604390 ∧ ∀ i x, l[i]? = some x → ∃ b off u, ad = some ⟨b, off, none⟩ ∧ b < B ∧ x.1.size ≤ 140737488355328 ∧
      w.cell? ⟨b, off + i * 5, none⟩ = some (.string x.1) ∧ w.cell? ⟨b, off + i * 5 + 1, none⟩ = some (.string x.2.kind) ∧ w.cell? ⟨b, off + i * 5 + 2, none⟩ = some (.string x.2.data) ∧
      w.cell? ⟨b, off + i * 5 + 3, none⟩ = some (.bool x.2.exec) ∧ w.cell? ⟨b, off + i * 5 + 4, none⟩ = some u ∧ LiesC w B d x.2.kids u
theorem LiesC.lies {w : World} {B : Nat} : ∀ {d : Nat} {l : List (ByteArray × Tree)} {v : Value}, LiesC w B d l v → Lies w B d l v
  | 0, _, _, h => h
  | d + 1, l, v, ⟨ad, cap, e, _, _, hlen, hk⟩ => ⟨ad, cap, e, hlen, fun i x hx => by
    obtain ⟨b, off, u, e, h1, h2, h3, h4, h5, h6, h7, h8⟩ := hk i x hx
    exact ⟨b, off, u, e, h1, h2, h3, h4, h5, h6, h7, LiesC.lies h8⟩⟩
theorem LiesC.kept {w w' : World} {B : Nat} (hb : ∀ k, k < B → w'.heap[k]? = w.heap[k]?) : ∀ {d : Nat} {l : List (ByteArray × Tree)} {v : Value}, LiesC w B d l v → LiesC w' B d l v
  | 0, _, _, h => h
  | d + 1, l, v, ⟨ad, cap, e, hc, hm, hlen, hk⟩ => ⟨ad, cap, e, hc, hm, hlen, fun i x hx => by
    obtain ⟨b, off, u, e, h1, h2, h3, h4, h5, h6, h7, h8⟩ := hk i x hx
    have hc : ∀ o, w'.cell? ⟨b, o, none⟩ = w.cell? ⟨b, o, none⟩ := fun o => World.cell?_of_block (hb b h1)
    exact ⟨b, off, u, e, h1, h2, by rw [hc]; exact h3, by rw [hc]; exact h4, by rw [hc]; exact h5, by rw [hc]; exact h6, by rw [hc]; exact h7, LiesC.kept hb h8⟩⟩
theorem LiesC.below {w w' : World} {B d : Nat} {l : List (ByteArray × Tree)} {v : Value} (h : LiesC w B d l v) {C : Nat} (hb : Below C w w') (hC : B ≤ C) : LiesC w' B d l v := h.kept fun k hk => hb.block k (by omega)
theorem LiesC.up {w : World} {B B' : Nat} (hB : B ≤ B') : ∀ {d : Nat} {l : List (ByteArray × Tree)} {v : Value}, LiesC w B d l v → LiesC w B' d l v
  | 0, _, _, h => h
  | d + 1, l, v, ⟨ad, cap, e, hc, hm, hlen, hk⟩ => ⟨ad, cap, e, hc, hm, hlen, fun i x hx => by
    obtain ⟨b, off, u, e, h1, h2, h3, h4, h5, h6, h7, h8⟩ := hk i x hx
    exact ⟨b, off, u, e, by omega, h2, h3, h4, h5, h6, h7, LiesC.up hB h8⟩⟩
/-- One ahead of the rest. -/
theorem LiesC.cons {w : World} {B d : Nat} {x : ByteArray × Tree} {r : List (ByteArray × Tree)} {v : Value} (h : LiesC w B (d + 1) (x :: r) v) : ∃ b off cap u, v = .slice (some ⟨b, off, none⟩) (r.length + 1) cap ∧ r.length + 1 ≤ cap ∧ cap ≤ maxLen ∧ b < B ∧ r.length + 1 ≤ 1759218604390 ∧
    w.cell? ⟨b, off, none⟩ = some (.string x.1) ∧ w.cell? ⟨b, off + 1, none⟩ = some (.string x.2.kind) ∧ w.cell? ⟨b, off + 2, none⟩ = some (.string x.2.data) ∧ w.cell? ⟨b, off + 3, none⟩ = some (.bool x.2.exec) ∧ w.cell? ⟨b, off + 4, none⟩ = some u ∧ LiesC w B d x.2.kids u ∧
    (cap = 1 → LiesC w B (d + 1) r (.slice (some ⟨b, off, none⟩) r.length (cap - 1))) ∧ LiesC w B (d + 1) r (.slice (some ⟨b, off + 5, none⟩) r.length (cap - 1)) := by
  obtain ⟨ad, cap, e, hc, hm, hlen, hk⟩ := h
  obtain ⟨b, off, u, rfl, h1, h2, h3, h4, h5, h6, h7, h8⟩ := hk 0 x rfl
  simp only [Nat.zero_mul, Nat.add_zero] at h3 h4 h5 h6 h7
  simp only [List.length_cons] at hc hlen e
  have hcap : cap = 1 → r = [] := fun e1 => by
    cases r with
    | nil => rfl
    | cons y r => simp only [List.length_cons] at hc; omega
  refine ⟨b, off, cap, u, e, hc, hm, h1, hlen, h3, h4, h5, h6, h7, h8, fun e1 => ?_, ?_⟩
  · rw [hcap e1]
    exact ⟨_, _, rfl, by simp, by omega, by simp, fun i x hx => by simp at hx⟩
  · refine ⟨_, _, rfl, by omega, by omega, by omega, fun i y hy => ?_⟩
    obtain ⟨b', off', u', e', g1, g2, g3, g4, g5, g6, g7, g8⟩ := hk (i + 1) y hy
    simp only [Option.some.injEq, Addr.mk.injEq, and_true] at e'
    obtain ⟨rfl, rfl⟩ := e'
    have ea : ∀ j, off + (i + 1) * 5 + j = off + 5 + i * 5 + j := fun j => by omega
    have e0 : off + (i + 1) * 5 = off + 5 + i * 5 := by omega
    rw [ea] at g4 g5 g6 g7
    rw [e0] at g3
    exact ⟨b, off + 5, u', rfl, g1, g2, g3, g4, g5, g6, g7, g8⟩
theorem LiesC.nil {w : World} {B d : Nat} {v : Value} (h : LiesC w B (d + 1) [] v) : ∃ ad cap, v = .slice ad 0 cap := by
  obtain ⟨ad, cap, e, _⟩ := h
  exact ⟨ad, cap, e⟩
theorem LiesC.form {w : World} {B : Nat} {d : Nat} {l : List (ByteArray × Tree)} {v : Value} (h : LiesC w B d l v) : ∃ ad cap, v = .slice ad l.length cap := h.lies.form
/-- Memory of its own tells its room. -/
theorem OwnT.liesC {w : World} {B : Nat} : ∀ {d : Nat} {Q : Nat → Prop} {l : List (ByteArray × Tree)} {v : Value}, (∀ q, Q q → q < B) → OwnT w Q d l v → LiesC w B d l v
  | 0, _, _, _, _, h => h
  | d + 1, Q, l, v, hq, ⟨h1, h2, us, Qs, h3, h4, h5, h6, h7, _⟩ => by
    rcases h4.2 with ⟨rfl, h0⟩ | ⟨g, cap, cur, rfl, _, hg, hnc, hcm, hs, ht⟩
    · have : l = [] := List.eq_nil_of_length_eq_zero h0
      subst this
      exact ⟨none, 0, rfl, by simp, by unfold maxLen; omega, by simp, fun i x hx => by simp at hx⟩
    · refine ⟨_, cap, rfl, hnc, hcm, h1, fun i x hx => ?_⟩
      have hi : i < l.length := (List.getElem?_eq_some_iff.1 hx).1
      obtain ⟨u, hui⟩ : ∃ u, us[i]? = some u := ⟨us[i]'(by omega), List.getElem?_eq_getElem (by omega)⟩
      have hc := h4.cells (g := g) rfl
      have hadd : ∀ j, (⟨g, 0, none⟩ : Addr).add j = ⟨g, j, none⟩ := fun j => by unfold Addr.add; split <;> simp_all
      obtain ⟨k0, k1, k2, k3, k4⟩ := kidCells_at hx hui
      have c0 := hc _ _ k0
      have c1 := hc _ _ k1
      have c2 := hc _ _ k2
      have c3 := hc _ _ k3
      have c4 := hc _ _ k4
      rw [hadd] at c0 c1 c2 c3 c4
      exact ⟨g, 0, u, rfl, hq g (h5 g rfl), h2 x (List.mem_of_getElem? hx), by rw [Nat.zero_add]; exact c0, by rw [Nat.zero_add]; exact c1, by rw [Nat.zero_add]; exact c2, by rw [Nat.zero_add]; exact c3, by rw [Nat.zero_add]; exact c4, OwnT.liesC (fun q h => hq q (h7 i q h).1) (h6 i x u hx hui)⟩
end Go.Proofs.YtpjjpmikhjlgnaaGreatDoor
