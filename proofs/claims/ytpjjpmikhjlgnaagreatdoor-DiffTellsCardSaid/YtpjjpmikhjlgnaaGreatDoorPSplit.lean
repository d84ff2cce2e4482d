/-
  The contract of path.Split.
  Conditions: the sentinels hold what the program's text lays; the library's MaxLen holds a number; the text is shorter than four thousand million bytes.
-/
import Derived.Test.YtpjjpmikhjlgnaaGreatDoorTexts
import Derived.Test.YtpjjpmikhjlgnaaGreatDoorCuts
import Derived.Test.YtpjjpmikhjlgnaaGreatDoorShelfP
import Derived.Test.YtpjjpmikhjlgnaaGreatDoorLeafs
import Derived.Test.YtpjjpmikhjlgnaaGreatDoorOwn
import Derived.Deep.DrawnRows
import Derived.Deep.QuietTactic
import Derived.BigQuiet
namespace Go.Proofs.YtpjjpmikhjlgnaaGreatDoor
open Go.RowKit
attribute [local go_sem ↓] Go.wp_at_zero Go.wp_at_succ

theorem below_drewN {B : Nat} {w w' : World} (h : Below B w w') (n : Nat) : Below B w (w'.drewN n) := ⟨h.os, h.tape, h.output, h.size, h.block⟩
/-- What package path wants of the world: eight sentinels, ErrNone, a number in the library's MaxLen. -/
structure PSen (a : Nat → Addr) (w : World) : Prop where
  is : Sen a w
  no : w.cell? ⟨1, 0, none⟩ = some (.iface 181 (.pointer (some (a 5))))
  max : ∃ m, w.cell? ⟨14, 0, none⟩ = some (.int .i64 m)
theorem PSen.below {a : Nat → Addr} {w w' : World} (S : PSen a w) (hb : Below w.heap.size w w') : PSen a w' where
  is := S.is.below hb
  no := by rw [hb.cell (p := ⟨1, 0, none⟩) (lt_of_cell S.no)]; exact S.no
  max := by
    obtain ⟨m, hm⟩ := S.max
    exact ⟨m, by rw [hb.cell (p := ⟨14, 0, none⟩) (lt_of_cell hm)]; exact hm⟩
/-- Room for so many, and not too much. -/
def RoomR (v : Value) (n : Nat) : Prop := ∃ ad cap, v = .slice ad n cap ∧ n ≤ cap ∧ cap ≤ maxLen
/-- What Split hands back. -/
def SplitPost (a : Nat → Addr) (s : ByteArray) (w : World) (e : Ending) (w' : World) : Prop := Below w.heap.size w w' ∧
  ((splitR s = none ∧ e = .returned (.tuple #[.slice none 0 0, .iface 181 (.pointer (some (a 4)))])) ∨ ∃ l v, splitR s = some l ∧ e = .returned (.tuple #[v, .nilIface]) ∧ Texts w' v l ∧ RoomR v l.length)
theorem splitR_cons {s : ByteArray} {c : UInt8} {l : List UInt8} (h : s ≠ strokeB) (e : s.data.toList = c :: l) : splitR s = if c = 47 ∧ (cutL l).length ≤ 8 ∧ ((cutL l).all fun x => nameB ⟨x.toArray⟩) = true then some ((cutL l).map fun x => ⟨x.toArray⟩) else none := by
  unfold splitR
  rw [if_neg h, e]
theorem splitR_nil {s : ByteArray} (h : s ≠ strokeB) (e : s.data.toList = []) : splitR s = none := by
  unfold splitR
  rw [if_neg h, e]
theorem stroke_ne {s : ByteArray} (h : s ≠ strokeB) : (s.toList == [47]) = false := by
  rw [beq_eq_false_iff_ne]
  intro e
  apply h
  rw [ByteArray.toList_eq] at e
  obtain ⟨⟨l⟩⟩ := s
  simp only at e
  subst e; rfl
theorem all_to {l : List ByteArray} {k : Nat} {x : ByteArray} (hx : l[k]? = some x) : (l.take (k + 1)).all nameB = ((l.take k).all nameB && nameB x) := by
  have hk : k < l.length := (List.getElem?_eq_some_iff.1 hx).1
  rw [List.take_succ_eq_append_getElem hk, (List.getElem?_eq_some_iff.1 hx).2]
  simp
theorem not_all {l : List ByteArray} {k : Nat} {x : ByteArray} (hx : l[k]? = some x) (h : nameB x = false) : l.all nameB = false := by
  rw [List.all_eq_false]
  exact ⟨x, List.mem_of_getElem? hx, by simp [h]⟩
theorem all_map {l : List (List UInt8)} : (l.all fun x => nameB ⟨x.toArray⟩) = (l.map fun x => (⟨x.toArray⟩ : ByteArray)).all nameB := by
  rw [List.all_map]; rfl
theorem piece_le : ∀ {l : List UInt8}, ∀ x ∈ cutL l, x.length ≤ l.length
  | [], x, h => by simp [cutL] at h; simp [h]
  | c :: l, x, h => by
    by_cases hc : c = 47
    · subst hc
      rw [cutL_stroke] at h
      rcases List.mem_cons.1 h with rfl | h
      · simp
      · have := piece_le x h; simp; omega
    · obtain ⟨h1, t, e⟩ : ∃ h t, cutL l = h :: t := by
        cases h : cutL l with
        | nil => exact absurd h (cutL_ne l)
        | cons a b => exact ⟨a, b, rfl⟩
      rw [cutL_byte hc e] at h
      rcases List.mem_cons.1 h with rfl | h
      · have := piece_le h1 (by rw [e]; simp); simp; omega
      · have := piece_le x (by rw [e]; simp [h]); simp; omega

set_option maxRecDepth 100000 in
set_option maxHeartbeats 4000000 in
theorem split_any (a : Nat → Addr) (s : ByteArray) (w : World) (S : PSen a w) (hs : s.size < 4294967281) : Calls Tryz.prog 8 #[.string s] w (SplitPost a s w) := by
  by_cases hst : s = strokeB
  · subst hst
    have HP : Hid (SplitPost a strokeB w (.returned (.tuple #[.slice none 0 0, .nilIface])) w) := ⟨Below.refl _ _, .inr ⟨[], _, splitR_one, rfl, ⟨none, 0, rfl, fun i x hx => by simp at hx⟩, ⟨none, 0, rfl, Nat.le_refl _, by unfold maxLen; omega⟩⟩⟩
    unfold strokeB at HP ⊢
    clear S hs
    go_enter Tryz.func8, Tryz.ntmps8
    go_wp2_with fail
    go_ret2
    exact HP.out
  · have hne := stroke_ne hst
    have c4 := S.is.name
    have z4 := lt_of_cell c4
    obtain ⟨m, hm⟩ := S.max
    have HNO : Hid (splitR s = none → ∀ w', Below w.heap.size w w' → SplitPost a s w (.returned (.tuple #[.slice none 0 0, .iface 181 (.pointer (some (a 4)))])) w') := fun h w' hb => ⟨hb, .inl ⟨h, rfl⟩⟩
    have HCP : Hid _ := Tryz.strings_CutPrefix s { data := #[47] } w
    cases hl : s.data.toList with
    | nil =>
      have HN := HNO.out (splitR_nil hst hl)
      have HB : Hid _ := HN
      have hp : Lib.hasPrefix s.data.toList ({ data := #[47] } : ByteArray).data.toList = false := by rw [hl]; rfl
      rw [hp] at HCP
      generalize Lib.trimPrefix s.data.toList ({ data := #[47] } : ByteArray).data.toList = r at HCP
      clear HN HNO hp hl hs S hm
      go_enter Tryz.func8, Tryz.ntmps8
      go_wp2_with fail
      refine Calls.mono HCP.out ?_
      rintro e w1 ⟨rfl, rfl⟩
      go_wp2_with fail
      go_quiet (fail)
      go_wp2_with fail
      go_ret2
      exact HB.out _ (below_drewN (Below.refl _ _) _)
    | cons c l =>
      by_cases hc : c = 47
      rotate_left
      · have HN := HNO.out (by rw [splitR_cons hst hl, if_neg (fun h => hc h.1)])
        have HB : Hid _ := HN
        have hp : Lib.hasPrefix s.data.toList ({ data := #[47] } : ByteArray).data.toList = false := by
          rw [hl]
          show List.isPrefixOf [47] (c :: l) = false
          simp [List.isPrefixOf, Ne.symm hc]
        rw [hp] at HCP
        generalize Lib.trimPrefix s.data.toList ({ data := #[47] } : ByteArray).data.toList = r at HCP
        clear HN HNO hp hl hs S hm
        go_enter Tryz.func8, Tryz.ntmps8
        go_wp2_with fail
        refine Calls.mono HCP.out ?_
        rintro e w1 ⟨rfl, rfl⟩
        go_wp2_with fail
        go_quiet (fail)
        go_wp2_with fail
        go_ret2
        exact HB.out _ (below_drewN (Below.refl _ _) _)
      · subst hc
        have hp : Lib.hasPrefix s.data.toList ({ data := #[47] } : ByteArray).data.toList = true := by
          rw [hl]
          show List.isPrefixOf [47] (47 :: l) = true
          simp [List.isPrefixOf]
        have ht : Lib.trimPrefix s.data.toList ({ data := #[47] } : ByteArray).data.toList = l := by
          unfold Lib.trimPrefix
          rw [if_pos hp, hl]
          rfl
        rw [hp, ht] at HCP
        have hll : s.size = l.length + 1 := by
          have := congrArg List.length hl
          simpa using this
        have HR : Hid _ := splitR_cons hst hl
        obtain ⟨r, hr⟩ : ∃ r : ByteArray, r = ⟨l.toArray⟩ := ⟨_, rfl⟩
        have hrl : r.data.toList = l := by rw [hr]
        have hrs : r.size = l.length := by rw [hr]; rfl
        rw [← hr] at HCP
        have HSP := Tryz.strings_SplitN r { data := #[47] } 9 m w (by omega) hm (by decide) (by omega) (by omega)
        have HPC := split_pieces (r := r)
        rw [hrl] at HPC
        obtain ⟨L, hL⟩ : ∃ L, L = Lib.splitB { data := #[47] } 0 (min 9 (r.size + 1) - 1) r := ⟨_, rfl⟩
        have HPC2 : Hid (((cutL l).length ≤ 8 → L = (cutL l).map fun x => (⟨x.toArray⟩ : ByteArray)) ∧ (8 < (cutL l).length → 8 < L.length)) := by rw [hL]; exact HPC
        rw [← hL] at HSP
        obtain ⟨N, hN⟩ : ∃ N, N = min 9 (r.size + 1) := ⟨_, rfl⟩
        rw [← hN] at HSP
        have hLN : L.length ≤ N := by
          rw [hL, hN]
          have := Lib.splitB_length_le { data := #[47] } 0 (min 9 (r.size + 1) - 1) r
          omega
        have hN9 : N ≤ 9 := by omega
        have HCL : Hid (∀ (i : Nat) (x : ByteArray), L[i]? = some x → (Lib.cellsOf L N)[i]? = some (Value.string x)) := fun i x hx => by
          have hi : i < L.length := (List.getElem?_eq_some_iff.1 hx).1
          unfold Lib.cellsOf
          rw [List.getElem?_toArray, List.getElem?_append_left (by simpa using hi), List.getElem?_map, hx]
          rfl
        have hsl : ∀ x ∈ (cutL l).map (fun x => (⟨x.toArray⟩ : ByteArray)), x.size ≤ maxLen := fun x hx => by
          obtain ⟨y, hy, rfl⟩ := List.mem_map.1 hx
          have := piece_le y hy
          show y.toArray.size ≤ maxLen
          unfold maxLen
          simp only [List.size_toArray]
          omega
        have HSL : Hid _ := hsl
        generalize Lib.cellsOf L N = ca at HSP HCL
        have HSP2 : Hid (Calls Tryz.prog 32 #[.string r, .string { data := #[47] }, .int .i64 9] w fun e w' => e = .returned (.slice (some ⟨w.heap.size, 0, none⟩) L.length N) ∧ w' = w.alloc (.cells ca 9)) := HSP
        have hA : Below w.heap.size w (w.alloc (.cells ca 9)) := (Below.refl _ _).alloc (Nat.le_refl _) _
        have HA : Hid _ := hA
        have hrow := row_alloc' w ca 9
        have hcell : ∀ (i : Nat) (x : ByteArray), L[i]? = some x → (w.alloc (.cells ca 9)).cell? ⟨w.heap.size, i, none⟩ = some (.string x) := fun i x hx => by
          rw [cell_of_row (w.alloc (.cells ca 9)) _ _ _ _ _ hrow]
          exact HCL.out i x hx
        have HCE : Hid _ := hcell
        have c4' : (w.alloc (.cells ca 9)).cell? ⟨0, 0, none⟩ = some (.iface 181 (.pointer (some (a 4)))) := by rw [hA.cell (p := ⟨0, 0, none⟩) z4]; exact c4
        have z4' : 0 < (w.alloc (.cells ca 9)).heap.size := lt_of_cell c4'
        clear hrow hcell HSP HPC hL hN hp ht hl hrl S hm hA hsl hr
        generalize w.alloc (.cells ca 9) = W at *
        clear HCL
        by_cases h8 : (cutL l).length ≤ 8
        rotate_left
        · have HN := HNO.out (by rw [HR.out, if_neg (fun h => h8 h.2.1)])
          have HB : Hid _ := HN
          have h9 : (8 : Int) < (L.length : Int) := by have := HPC2.out.2 (by omega); omega
          clear HN HNO HPC2 HR h8
          go_enter Tryz.func8, Tryz.ntmps8
          go_wp2_with fail
          refine Calls.mono HCP.out ?_
          rintro e w1 ⟨rfl, rfl⟩
          go_wp2_with fail
          refine Calls.mono HSP2.out ?_
          rintro e w1 ⟨rfl, rfl⟩
          go_wp2_with fail
          go_quiet (fail)
          go_wp2_with fail
          go_ret2
          exact HB.out _ (below_drewN HA.out _)
        · have hLe := HPC2.out.1 h8
          have h9 : (L.length : Int) ≤ 8 := by
            have : L.length = (cutL l).length := by rw [hLe, List.length_map]
            omega
          have HYES : Hid (L.all nameB = true → SplitPost a s w (.returned (.tuple #[.slice (some ⟨w.heap.size, 0, none⟩) L.length N, .nilIface])) W) := fun h => by
            refine ⟨HA.out, .inr ⟨L, _, ?_, rfl, ⟨_, _, rfl, fun i x hx => ⟨_, _, rfl, by rw [Nat.zero_add]; exact HCE.out i x hx⟩⟩, ⟨_, _, rfl, hLN, by unfold maxLen; omega⟩⟩⟩
            rw [HR.out, if_pos ⟨rfl, h8, by rw [all_map, ← hLe]; exact h⟩, hLe]
          have HBAD : Hid (L.all nameB = false → ∀ w', Below w.heap.size w w' → SplitPost a s w (.returned (.tuple #[.slice none 0 0, .iface 181 (.pointer (some (a 4)))])) w') := fun h =>
            HNO.out (by rw [HR.out, if_neg (fun h2 => by rw [all_map, ← hLe, h] at h2; exact absurd h2.2.2 (by simp))])
          have HSZ : Hid (∀ (i : Nat) (x : ByteArray), L[i]? = some x → x.size ≤ maxLen) := fun i x hx => HSL.out x (by rw [← hLe]; exact List.mem_of_getElem? hx)
          clear hLe HPC2 HR HNO h8 HSL
          go_enter Tryz.func8, Tryz.ntmps8
          go_wp2_with fail
          refine Calls.mono HCP.out ?_
          rintro e w1 ⟨rfl, rfl⟩
          go_wp2_with fail
          refine Calls.mono HSP2.out ?_
          rintro e w1 ⟨rfl, rfl⟩
          go_wp2_with fail
          go_loop [27] (fun i => ∃ j : Nat, j ≤ L.length ∧ i = .int .i64 j ∧ (L.take j).all nameB = true) (fun i => L.length - (intOf i).toNat)
          case atStart => exact ⟨0, Nat.zero_le _, rfl, by simp⟩
          case round =>
            obtain ⟨j, hj, rfl, hall⟩ := hrel
            have HALL : Hid _ := hall
            clear hall
            by_cases hlt : j < L.length
            · obtain ⟨x, hx⟩ : ∃ x, L[j]? = some x := ⟨L[j], List.getElem?_eq_getElem hlt⟩
              have cj := HCE.out j x hx
              have HNM : Hid _ := name_any x w1 (HSZ.out j x hx)
              have HX : Hid _ := hx
              have hj0 : (0 : Int) ≤ (j : Int) := by omega
              have hj1 : (j : Int) < (L.length : Int) := by omega
              clear hx
              cases hn : nameB x with
              | false =>
                have HB : Hid _ := HBAD.out (not_all HX.out hn)
                rw [hn] at HNM
                go_wp2_with fail
                refine Calls.mono HNM.out ?_
                rintro e w2 ⟨rfl, rfl⟩
                go_wp2_with fail
                go_quiet (fail)
                go_wp2_with fail
                go_ret2
                exact HB.out _ (below_drewN HA.out _)
              | true =>
                have HTR : Hid ((L.take (j + 1)).all nameB = true) := show _ = _ by rw [all_to HX.out, HALL.out, hn]; rfl
                rw [hn] at HNM
                go_wp2_with fail
                refine Calls.mono HNM.out ?_
                rintro e w2 ⟨rfl, rfl⟩
                go_wp2_with fail
                go_round
                case rel => exact ⟨j + 1, by omega, by go_num, HTR.out⟩
                case measure => simp [intOf]; omega
            · have HB : Hid _ := HYES.out (by have := HALL.out; rw [List.take_of_length_le (by omega)] at this; exact this)
              go_wp2_with fail
              go_ret2
              exact HB.out
end Go.Proofs.YtpjjpmikhjlgnaaGreatDoor
