/-
  The contracts of the laws' made, longFiles and tableOf.
  Conditions: those that each states.
-/
import Derived.Test.YtcejpeohkgchdaaGreatDoorQ12
import Derived.Test.YtcejpeohkgchdaaGreatDoorQ17
import Derived.Test.YtcejpeohkgchdaaGreatDoorQ10
import Derived.Test.YtcejpeohkgchdaaGreatDoorQ25
namespace Go.Proofs.YtcejpeohkgchdaaGreatDoor
open Go.RowKit

/-- An act on files. -/
structure FAct where
  kind : ByteArray
  s : ByteArray
  exec : Bool
  n : Int
  bit : Int
def FActsAt (w : World) (v : Value) (l : List FAct) : Prop := ∃ ad cap, v = .slice ad l.length cap ∧ ∀ (i : Nat) (a : FAct), l[i]? = some a → (Lit.int .i64 a.n).wf = true ∧ (Lit.int .i64 a.bit).wf = true ∧ a.s.size ≤ maxLen ∧ ∃ b off, ad = some ⟨b, off, none⟩ ∧ w.cell? ⟨b, off + i * 5, none⟩ = some (.string a.kind) ∧ w.cell? ⟨b, off + i * 5 + 1, none⟩ = some (.string a.s) ∧ w.cell? ⟨b, off + i * 5 + 2, none⟩ = some (.bool a.exec) ∧ w.cell? ⟨b, off + i * 5 + 3, none⟩ = some (.int .i64 a.n) ∧ w.cell? ⟨b, off + i * 5 + 4, none⟩ = some (.int .i64 a.bit)
theorem FActsAt.below {w w' : World} {v : Value} {l : List FAct} (h : FActsAt w v l) (hb : Below w.heap.size w w') : FActsAt w' v l := by
  obtain ⟨ad, cap, rfl, hc⟩ := h
  refine ⟨ad, cap, rfl, fun i a ha => ?_⟩
  obtain ⟨h1, h2, h3, b, off, e, c0, c1, c2, c3, c4⟩ := hc i a ha
  have hlt : b < w.heap.size := World.block_lt_of_cell? w _ c0
  refine ⟨h1, h2, h3, b, off, e, ?_, ?_, ?_, ?_, ?_⟩
  · rw [hb.cell (p := ⟨b, off + i * 5, none⟩) hlt]; exact c0
  · rw [hb.cell (p := ⟨b, off + i * 5 + 1, none⟩) hlt]; exact c1
  · rw [hb.cell (p := ⟨b, off + i * 5 + 2, none⟩) hlt]; exact c2
  · rw [hb.cell (p := ⟨b, off + i * 5 + 3, none⟩) hlt]; exact c3
  · rw [hb.cell (p := ⟨b, off + i * 5 + 4, none⟩) hlt]; exact c4
/-- Acts that are not too long for a law. -/
def Shorts (l : List FAct) : Prop := l.length ≤ 40 ∧ ∀ a ∈ l, a.s.size ≤ 120 ∨ a.s.size = 2001

set_option maxRecDepth 100000 in
set_option maxHeartbeats 1000000 in
theorem longFiles_any (v : Value) (l : List FAct) (w : World) (hv : FActsAt w v l) :
    Calls Tryz.prog 9 #[v] w fun e w' => (∃ r, e = .returned (.bool r) ∧ (r = false → Shorts l)) ∧ w' = w := by
  obtain ⟨ad, cap, rfl, hc⟩ := hv
  have HC : Hid (∀ (i : Nat) (a : FAct), l[i]? = some a → a.s.size ≤ maxLen ∧ ∃ b off, ad = some ⟨b, off, none⟩ ∧ w.cell? ⟨b, off + i * 5 + 1, none⟩ = some (.string a.s)) := fun i a ha => by
    obtain ⟨_, _, h3, b, off, e, _, c1, _⟩ := hc i a ha
    exact ⟨h3, b, off, e, c1⟩
  clear hc
  by_cases h40 : l.length ≤ 40
  · have h40i : ¬ (40 : Int) < (l.length : Int) := by omega
    go_enter Tryz.func9, Tryz.ntmps9
    go_wp2_with fail
    go_loopw [3] (fun i wr => ∃ j : Nat, j ≤ l.length ∧ i = .int .i64 j ∧ wr = w ∧ ∀ a ∈ l.take j, a.s.size ≤ 120 ∨ a.s.size = 2001) (fun i _ => l.length - (intOf i).toNat)
    case atStart => exact ⟨0, Nat.zero_le _, rfl, rfl, fun a h => by simp at h⟩
    case round =>
      obtain ⟨j, hj, rfl, rfl, ha⟩ := hrel
      have HA : Hid (∀ a ∈ l.take j, a.s.size ≤ 120 ∨ a.s.size = 2001) := ha
      clear ha
      by_cases hlt : j < l.length
      · obtain ⟨a, hx⟩ : ∃ a, l[j]? = some a := ⟨_, List.getElem?_eq_getElem hlt⟩
        obtain ⟨hm, b, off, rfl, c1⟩ := HC.out j a hx
        have HN : Hid ((a.s.size ≤ 120 ∨ a.s.size = 2001) → ∀ x ∈ l.take (j + 1), x.s.size ≤ 120 ∨ x.s.size = 2001) := fun h x hx2 => by
          obtain ⟨hk, e⟩ := List.getElem?_eq_some_iff.1 hx
          rw [List.take_succ_eq_append_getElem hk, e, List.mem_append, List.mem_singleton] at hx2
          rcases hx2 with h2 | rfl
          · exact HA.out x h2
          · exact h
        clear hx
        generalize a.s = s at *
        by_cases h1 : s.size ≤ 120
        · have h1i : ¬ (120 : Int) < (s.size : Int) := by omega
          go_wp2_with fail
          exact ⟨⟨j + 1, by omega, by simp, by first | rfl | trivial, HN.out (.inl h1)⟩, by simp [intOf]; omega⟩
        · have h1i : (120 : Int) < (s.size : Int) := by omega
          by_cases h2 : s.size = 2001
          · have h2i : ((s.size : Int) == 2001) = true := by rw [h2]; rfl
            have H2 : Hid (s.size = 2001) := h2
            clear h2 h1
            go_wp2_with fail
            exact ⟨⟨j + 1, by omega, by simp, by first | rfl | trivial, HN.out (.inr H2.out)⟩, by simp [intOf]; omega⟩
          · have h2i : ¬ (s.size : Int) = 2001 := by omega
            clear h2 h1
            go_wp2_with fail
            go_ret
            exact ⟨⟨true, rfl, fun h => by cases h⟩, rfl⟩
      · obtain rfl : j = l.length := by omega
        rw [List.take_length] at HA
        go_wp2_with fail
        go_ret
        exact ⟨⟨false, rfl, fun _ => ⟨h40, HA.out⟩⟩, rfl⟩
  · have h40i : (40 : Int) < (l.length : Int) := by omega
    go_enter Tryz.func9, Tryz.ntmps9
    go_wp2_with fail
    go_ret
    exact ⟨⟨true, rfl, fun h => by cases h⟩, rfl⟩
set_option maxRecDepth 100000 in
set_option maxHeartbeats 1000000 in
theorem tableOf_any (F : Nat → Prop) (T0 n : Nat) (h1 : 1 ≤ n) (h2 : n ≤ 512) (w : World) (hT : T0 ≤ w.heap.size) :
    Calls Tryz.prog 10 #[.int .i64 (n : Int)] w fun e w' => ∃ tb bb sp sb cap mb md mt, e = .returned (.tuple #[.pointer (some ⟨tb, 0, none⟩), .pointer (some ⟨mt, 0, none⟩), .bool true]) ∧ TbAt w' F T0 tb bb sp sb cap mb 0 (List.replicate n zb) (List.replicate n false) [] ∧ ((∃ la lc, MkAt w' md la lc none 0 (List.replicate n zb) []) ∧ w'.heap[mt]? = some (.cells #[.pointer (some ⟨md, 0, none⟩), .slice none 0 0] 97 (0, 0)) ∧ w.heap.size ≤ md ∧ w.heap.size ≤ mt) ∧ Below w.heap.size w w' := by
  have HND := newDisk_any n h2 w
  have HDN : Hid (∀ W, Calls Tryz.prog 43 #[.int .i64 (n : Int)] W fun e w' => e = .returned (.tuple #[.pointer (some ⟨W.heap.size + 1, 0, none⟩), .nilIface]) ∧ DkAt w' W.heap.size none 0 (List.replicate n zb) [] ∧ Below W.heap.size W w') := fun W => new_any n h1 h2 W
  have HIN : Hid (∀ W bb, DkAt W bb none 0 (List.replicate n zb) [] → T0 ≤ bb → T0 ≤ W.heap.size → Calls Tryz.prog 12 #[.pointer (some ⟨bb + 1, 0, none⟩)] W fun e w' => ∃ tb sp sb cap mb, e = .returned (.tuple #[.pointer (some ⟨tb, 0, none⟩), .nilIface]) ∧ TbAt w' F T0 tb bb sp sb cap mb 0 (List.replicate n zb) (List.replicate n false) [] ∧ Below W.heap.size W w') := fun W bb D hb hw => by
    have := im_new (F := F) (T0 := T0) W D (by simpa using h1) (by simpa using h2) hb hw
    rw [List.length_replicate] at this
    exact this
  have hh1 : (1 : Int) ≤ (n : Int) := by omega
  clear h1
  go_enter Tryz.func10, Tryz.ntmps10
  go_wp2_with (go_at_call 46; refine HND.mono ?_; rintro e w1 ⟨rfl, hM, hb1⟩; (have HM : Hid _ := hM); (have HB1 : Hid _ := hb1); clear hM hb1)
  refine Calls.mono (HDN.out _) ?_
  rintro e w2 ⟨rfl, D2, hb2⟩
  obtain ⟨bb, Hbb⟩ : ∃ bb, Hid (bb = (w1.alloc (.cells #[.pointer (some ⟨w.heap.size, 0, none⟩), .slice none 0 0] 97)).heap.size) := ⟨_, (rfl : _ = _)⟩
  rw [← Hbb.out] at D2
  have HB2 : Hid (Below w.heap.size w w2) := (HB1.out.alloc HB1.out.size _).trans (hb2.mono (by have := HB1.out.size; simp; omega))
  have HD2 : Hid _ := D2
  have HM2 : Hid ((∃ la lc, MkAt w2 w.heap.size la lc none 0 (List.replicate n zb) []) ∧ w2.heap[w1.heap.size]? = some (.cells #[.pointer (some ⟨w.heap.size, 0, none⟩), .slice none 0 0] 97 (0, 0)) ∧ w.heap.size ≤ w1.heap.size ∧ bb = w1.heap.size + 1) := by
    obtain ⟨la, lc, M⟩ := HM.out
    have hba : Below w1.heap.size w1 (w1.alloc (.cells #[.pointer (some ⟨w.heap.size, 0, none⟩), .slice none 0 0] 97)) := (Below.refl _ w1).alloc (Nat.le_refl _) _
    refine ⟨⟨la, lc, M.below (Nat.le_refl _) (hba.trans (hb2.mono (by simp)))⟩, ?_, HB1.out.size, by rw [Hbb.out]; simp⟩
    rw [hb2.block _ (by simp)]; exact heap_alloc_last w1 _
  have HI2 := HIN.out w2 bb HD2.out (by rw [HM2.out.2.2.2]; have := HM2.out.2.2.1; omega) (Nat.le_trans hT HB2.out.size)
  have ebb : (⟨bb + 1, 0, none⟩ : Addr) = ⟨w1.heap.size + 1 + 1, 0, none⟩ := by rw [HM2.out.2.2.2]
  rw [ebb] at HI2
  clear D2 hb2 ebb
  go_wp2_with (go_at_call 12; refine HI2.mono ?_; rintro e w3 ⟨tb, sp, sb, cap, mb, rfl, T3, hb3⟩)
  go_ret3
  refine ⟨tb, bb, sp, sb, cap, mb, w.heap.size, w1.heap.size, rfl, T3, ?_, HB2.out.trans (hb3.mono HB2.out.size)⟩
  obtain ⟨⟨la, lc, M⟩, hr, hs, _⟩ := HM2.out
  exact ⟨⟨la, lc, M.below (Nat.le_refl _) hb3⟩, (hb3.block _ (Array.getElem?_eq_some_iff.1 hr).1).trans hr, Nat.le_refl _, hs⟩
/-- What a table of four blocks has behind its first file. -/
def x0 : Ino := ⟨3, 1, true, [0], crcR ⟨#[97, 98, 99]⟩⟩
set_option maxRecDepth 100000 in
set_option maxHeartbeats 1000000 in
theorem made_any (er es : Value) (w : World) (hE : w.cell? ⟨4, 0, none⟩ = some er) (hS : w.cell? ⟨2, 0, none⟩ = some es) : Calls Tryz.prog 8 #[] w fun e w' => e = .returned (.bool true) ∧ Below w.heap.size w w' := by
  have hgE : 4 < w.heap.size := World.block_lt_of_cell? w _ hE
  have hgS : 2 < w.heap.size := World.block_lt_of_cell? w _ hS
  obtain ⟨F, HF⟩ : ∃ F : Nat → Prop, Hid (F = fun _ => False) := ⟨_, (rfl : _ = _)⟩
  obtain ⟨T0, HT0⟩ : ∃ T0, Hid (T0 = w.heap.size) := ⟨_, (rfl : w.heap.size = _)⟩
  have HUP : Hid (∀ W mb, TbBut T0 mb w W → Below w.heap.size w W) := fun W mb h => h.below (by rw [HT0.out]; exact Nat.le_refl _) (Nat.le_refl _) (Below.refl _ _)
  have HDN : Hid (Calls Tryz.prog 43 #[.int .i64 4] w fun e w' => e = .returned (.tuple #[.pointer (some ⟨w.heap.size + 1, 0, none⟩), .nilIface]) ∧ DkAt w' w.heap.size none 0 (List.replicate 4 zb) [] ∧ Below w.heap.size w w') := new_any 4 (by omega) (by omega) w
  have HIN : Hid (∀ W, DkAt W w.heap.size none 0 (List.replicate 4 zb) [] → Below w.heap.size w W → Calls Tryz.prog 12 #[.pointer (some ⟨w.heap.size + 1, 0, none⟩)] W fun e w' => ∃ tb sp sb cap mb, e = .returned (.tuple #[.pointer (some ⟨tb, 0, none⟩), .nilIface]) ∧ TbAt w' F T0 tb w.heap.size sp sb cap mb 0 (List.replicate 4 zb) (List.replicate 4 false) [] ∧ TbBut T0 mb w w') := fun W D hb =>
    (im_new (F := F) (T0 := T0) W D (by simp) (by simp) (by rw [HT0.out]; exact Nat.le_refl _) (by rw [HT0.out]; exact hb.size)).mono fun e w' ⟨tb, sp, sb, cap, mb, he, T, hb'⟩ => ⟨tb, sp, sb, cap, mb, he, T, TbBut.of_below (hb.trans (hb'.mono hb.size))⟩
  have hu0 : (freeR (List.replicate 4 false)).take (needN 3) = [0] := by decide
  have hu1 : needN 3 ≤ (freeR (List.replicate 4 false)).length := by decide
  have hS0 := (SInv.start 4).make (data := ⟨#[97, 98, 99]⟩) (ex := true) (bks := [0]) (c := crcR ⟨#[97, 98, 99]⟩) (by decide) hu0.symm hu1
  have HMK : Hid (∀ W tb sp sb cap mb, TbAt W F T0 tb w.heap.size sp sb cap mb 0 (List.replicate 4 zb) (List.replicate 4 false) [] → TbBut T0 mb w W → Calls Tryz.prog 44 #[.pointer (some ⟨tb, 0, none⟩), .string ⟨#[97, 98, 99]⟩, .bool true] W fun e w' => e = .returned (.tuple #[.int .i64 0, .nilIface]) ∧ TbAt w' F T0 tb w.heap.size sp sb cap mb 1 (writeR (List.replicate 4 zb) [0] ⟨#[97, 98, 99]⟩) (markR (List.replicate 4 false) true [0]) [some x0] ∧ TbBut T0 mb w w') := fun W tb sp sb cap mb T B =>
    (im_make ⟨#[97, 98, 99]⟩ true [0] (by decide) hu0.symm hu1 (by omega) (by simp) er W T (B.cellE (by rw [HT0.out]; exact hgE) hE) (by rw [HT0.out]; exact hgE) (by rw [HT0.out]; exact B.size) (by rw [HF.out]; exact fun g h => h.elim)).mono fun e w' ⟨he, T', B'⟩ => ⟨he, T', B.trans B'⟩
  have hrd : readD (writeR (List.replicate 4 zb) [0] ⟨#[97, 98, 99]⟩) [0] 3 = ⟨#[97, 98, 99]⟩ := readD_written (bl := List.replicate 4 zb) (blocks := [0]) (data := ⟨#[97, 98, 99]⟩) (by simp) (by simp) (by decide)
  have hsl : slotT [some x0] 0 = some x0 := rfl
  have HRD : Hid (∀ W tb sp sb cap mb, TbAt W F T0 tb w.heap.size sp sb cap mb 1 (writeR (List.replicate 4 zb) [0] ⟨#[97, 98, 99]⟩) (markR (List.replicate 4 false) true [0]) [some x0] → TbBut T0 mb w W → Calls Tryz.prog 14 #[.pointer (some ⟨tb, 0, none⟩), .int .i64 0] W fun e w' => e = .returned (.tuple #[.string ⟨#[97, 98, 99]⟩, .nilIface]) ∧ TbAt w' F T0 tb w.heap.size sp sb cap mb 1 (writeR (List.replicate 4 zb) [0] ⟨#[97, 98, 99]⟩) (markR (List.replicate 4 false) true [0]) [some x0] ∧ TbBut T0 mb w w') := fun W tb sp sb cap mb T B => by
    have h := im_read 0 x0 es hsl (by show crcR (readD _ [0] 3) = _; rw [hrd]; rfl) W T (by show ∀ k ∈ [0], _; rw [writeR_len]; simp) (by decide) (by decide) (B.cellE (by rw [HT0.out]; exact hgS) hS)
    have e3 : readD (writeR (List.replicate 4 zb) [0] ⟨#[97, 98, 99]⟩) x0.blocks x0.bytes = ⟨#[97, 98, 99]⟩ := hrd
    rw [e3] at h
    exact h.mono fun e w' ⟨he, hb⟩ => ⟨he, T.below hb, B.trans (TbBut.of_below hb)⟩
  have HST : Hid (∀ W tb sp sb cap mb, TbAt W F T0 tb w.heap.size sp sb cap mb 1 (writeR (List.replicate 4 zb) [0] ⟨#[97, 98, 99]⟩) (markR (List.replicate 4 false) true [0]) [some x0] → TbBut T0 mb w W → Calls Tryz.prog 13 #[.pointer (some ⟨tb, 0, none⟩), .int .i64 0] W fun e w' => ∃ ad vc, e = .returned (.tuple #[.agg #[.int .i64 3, .int .i64 1, .bool true, .slice ad 1 vc, .int .u32 (x0.sum : Int)], .bool true]) ∧ IntsT w' (.slice ad 1 vc) [0] ∧ TbAt w' F T0 tb w.heap.size sp sb cap mb 1 (writeR (List.replicate 4 zb) [0] ⟨#[97, 98, 99]⟩) (markR (List.replicate 4 false) true [0]) [some x0] ∧ TbBut T0 mb w w') := fun W tb sp sb cap mb T B =>
    (im_stat 0 x0 hsl (by decide) W T).mono fun e w' ⟨v, he, iv, hb⟩ => by
      obtain ⟨ad, vc, ev, hx⟩ := id iv
      refine ⟨ad, vc, ?_, ?_, T.below hb, B.trans (TbBut.of_below hb)⟩
      · rw [he, ev]; rfl
      · rw [ev] at iv; exact iv
  have HFR : Hid (∀ W tb sp sb cap mb, TbAt W F T0 tb w.heap.size sp sb cap mb 1 (writeR (List.replicate 4 zb) [0] ⟨#[97, 98, 99]⟩) (markR (List.replicate 4 false) true [0]) [some x0] → Calls Tryz.prog 39 #[.pointer (some ⟨tb, 0, none⟩)] W fun e w' => e = .returned (.int .i64 3) ∧ Below W.heap.size W w') := fun W tb sp sb cap mb T => im_free W T
  have HS1 : Hid (∀ W v a, IntsT W v [0] → a = #[Value.int .i64 0] → Calls Tryz.prog 45 #[v, .slice (some ⟨W.heap.size, 0, none⟩) 1 1] (W.alloc (.cells a 3)) fun e w' => e = .returned (.bool true) ∧ Below (W.alloc (.cells a 3)).heap.size (W.alloc (.cells a 3)) w') := fun W v a h ha =>
    sameInts_any v _ [0] _ (h.below ((Below.refl _ _).alloc (Nat.le_refl _) _)).at (built_t W [0] a ha).at (by decide)
  generalize x0.sum = c0 at *
  generalize writeR (List.replicate 4 zb) [0] ⟨#[97, 98, 99]⟩ = bl1 at *
  generalize markR (List.replicate 4 false) true [0] = u1 at *
  generalize [some x0] = tab1 at *
  clear hE hS hS0 hrd hsl hu0 hu1 hgE hgS HF
  go_enter Tryz.func8, Tryz.ntmps8
  go_wp2_with (first
    | (go_at_call 43; refine HDN.out.mono ?_; rintro e w1 ⟨rfl, D1, b1⟩; (have HI1 := HIN.out _ D1 b1); clear HDN HIN D1 b1)
    | (go_at_call 12; refine HI1.mono ?_; rintro e w2 ⟨tb, sp, sb, cap, mb, rfl, T2, B2⟩; (have HM2 := HMK.out _ _ _ _ _ _ T2 B2); clear HI1 HMK T2 B2)
    | (go_at_call 44; refine HM2.mono ?_; rintro e w3 ⟨rfl, T3, B3⟩; (have HR3 := HRD.out _ _ _ _ _ _ T3 B3); clear HM2 HRD T3 B3)
    | (go_at_call 14; refine HR3.mono ?_; rintro e w4 ⟨rfl, T4, B4⟩; (have HS4 := HST.out _ _ _ _ _ _ T4 B4); clear HR3 HST T4 B4)
    | (go_at_call 13; refine HS4.mono ?_; rintro e w5 ⟨ad, vc, rfl, i5, T5, B5⟩; (have HS6 := HS1.out (w5.alloc (.cells #[.int .i64 3, .int .i64 1, .bool true, .slice ad 1 vc, .int .u32 (c0 : Int)] 39)) (.slice ad 1 vc) #[Value.int .i64 0] (i5.below ((Below.refl _ _).alloc (Nat.le_refl _) _)) rfl); (rw [World.size_alloc] at HS6); clear HS4 HS1)
    | (go_at_call 45; refine HS6.mono ?_; rintro e w6 ⟨rfl, b6⟩; (have hb5 : Below w5.heap.size w5 w6 := (((Below.refl _ w5).alloc (Nat.le_refl _) _).alloc (by simp) _).trans (b6.mono (by simp; omega))); (have HF6 := HFR.out w6 _ _ _ _ _ (T5.below hb5)); (have HE : Hid (Below w.heap.size w w6) := HUP.out _ _ (B5.trans (TbBut.of_below hb5))); clear HS6 i5 T5 B5 b6 hb5)
    | (go_at_call 39; refine HF6.mono ?_; rintro e w7 ⟨rfl, b7⟩))
  go_ret
  exact ⟨rfl, HE.out.trans (b7.mono HE.out.size)⟩
end Go.Proofs.YtcejpeohkgchdaaGreatDoor
