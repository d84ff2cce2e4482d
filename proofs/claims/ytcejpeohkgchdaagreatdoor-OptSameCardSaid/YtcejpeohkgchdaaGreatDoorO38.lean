/-
  The contracts of the laws' made, longFiles and tableOf.
  The contract of the law's dirsOf.
  The contract of the law's dired: one file is put, and got.
  The contract of the law's dired: the walk.
  What the law's longTrees tells: pure facts, and acts that stay.
  Conditions: those that each states.
-/
import Derived.Test.YtcejpeohkgchdaaGreatDoorO17
import Derived.Test.YtcejpeohkgchdaaGreatDoorO19
import Derived.Test.YtcejpeohkgchdaaGreatDoorO14
import Derived.Test.YtcejpeohkgchdaaGreatDoorO35
import Derived.Test.YtcejpeohkgchdaaGreatDoorO37
import Derived.Test.YtcejpeohkgchdaaGreatDoorO02
import Derived.Test.YtcejpeohkgchdaaGreatDoorO32
namespace Go.Proofs.YtcejpeohkgchdaaGreatDoor
open Go.RowKit

/-- An act on files. -/
structure FAct where
  kind : ByteArray
  s : ByteArray
  exec : Bool
  n : Int
  bit : Int
def FActsAt (w : World) (v : Value) (l : List FAct) : Prop := ∃ ad cap, v = .slice ad l.length cap ∧ ∀ (i : Nat) (a : FAct), l[i]? = some a → (Lit.int .i64 a.n).wf = true ∧ (Lit.int .i64 a.bit).wf = true ∧ a.s.size ≤ maxLen ∧ ∃ b off, ad = some ⟨b, off, none⟩ ∧ w.cell? ⟨b, off + i * 5, none⟩ = some (.string a.kind) ∧ w.cell? ⟨b, off + i * 5 + 1, none⟩ = some (.string a.s) ∧ w.cell? ⟨b, off + i * 5 + 2, none⟩ = some (.bool a.exec) ∧ w.cell? ⟨b, off + i * 5 + 3, none⟩ = some (.int .i64 a.n) ∧ w.cell? ⟨b, off + i * 5 + 4, none⟩ = some (.int .i64 a.bit)
theorem FActsAt.below {w w' : World} {v : Value} {l : List FAct} (h : FActsAt w v l) (hb : Below w.heap.size w w') : FActsAt w' v l := by
  obtain ⟨ad, cap, rfl, hc⟩ := h
  refine ⟨ad, cap, rfl, fun i a ha => ?_⟩
  obtain ⟨h1, h2, h3, b, off, e, c0, c1, c2, c3, c4⟩ := hc i a ha
  have hlt : b < w.heap.size := World.block_lt_of_cell? w _ c0
  refine ⟨h1, h2, h3, b, off, e, ?_, ?_, ?_, ?_, ?_⟩
  · rw [hb.cell (p := ⟨b, off + i * 5, none⟩) hlt]; exact c0
  · rw [hb.cell (p := ⟨b, off + i * 5 + 1, none⟩) hlt]; exact c1
  · rw [hb.cell (p := ⟨b, off + i * 5 + 2, none⟩) hlt]; exact c2
  · rw [hb.cell (p := ⟨b, off + i * 5 + 3, none⟩) hlt]; exact c3
  · rw [hb.cell (p := ⟨b, off + i * 5 + 4, none⟩) hlt]; exact c4
/-- Acts that are not too long for a law. -/
def Shorts (l : List FAct) : Prop := l.length ≤ 40 ∧ ∀ a ∈ l, a.s.size ≤ 120 ∨ a.s.size = 2001

set_option maxRecDepth 100000 in
set_option maxHeartbeats 1000000 in
theorem longFiles_any (v : Value) (l : List FAct) (w : World) (hv : FActsAt w v l) :
    Calls Tryz.prog 9 #[v] w fun e w' => (∃ r, e = .returned (.bool r) ∧ (r = false → Shorts l)) ∧ w' = w := by
  obtain ⟨ad, cap, rfl, hc⟩ := hv
  have HC : Hid (∀ (i : Nat) (a : FAct), l[i]? = some a → a.s.size ≤ maxLen ∧ ∃ b off, ad = some ⟨b, off, none⟩ ∧ w.cell? ⟨b, off + i * 5 + 1, none⟩ = some (.string a.s)) := fun i a ha => by
    obtain ⟨_, _, h3, b, off, e, _, c1, _⟩ := hc i a ha
    exact ⟨h3, b, off, e, c1⟩
  clear hc
  by_cases h40 : l.length ≤ 40
  · have h40i : ¬ (40 : Int) < (l.length : Int) := by omega
    go_enter Tryz.func9, Tryz.ntmps9
    go_wp2_with fail
    go_loopw [3] (fun i wr => ∃ j : Nat, j ≤ l.length ∧ i = .int .i64 j ∧ wr = w ∧ ∀ a ∈ l.take j, a.s.size ≤ 120 ∨ a.s.size = 2001) (fun i _ => l.length - (intOf i).toNat)
    case atStart => exact ⟨0, Nat.zero_le _, rfl, rfl, fun a h => by simp at h⟩
    case round =>
      obtain ⟨j, hj, rfl, rfl, ha⟩ := hrel
      have HA : Hid (∀ a ∈ l.take j, a.s.size ≤ 120 ∨ a.s.size = 2001) := ha
      clear ha
      by_cases hlt : j < l.length
      · obtain ⟨a, hx⟩ : ∃ a, l[j]? = some a := ⟨_, List.getElem?_eq_getElem hlt⟩
        obtain ⟨hm, b, off, rfl, c1⟩ := HC.out j a hx
        have HN : Hid ((a.s.size ≤ 120 ∨ a.s.size = 2001) → ∀ x ∈ l.take (j + 1), x.s.size ≤ 120 ∨ x.s.size = 2001) := fun h x hx2 => by
          obtain ⟨hk, e⟩ := List.getElem?_eq_some_iff.1 hx
          rw [List.take_succ_eq_append_getElem hk, e, List.mem_append, List.mem_singleton] at hx2
          rcases hx2 with h2 | rfl
          · exact HA.out x h2
          · exact h
        clear hx
        generalize a.s = s at *
        by_cases h1 : s.size ≤ 120
        · have h1i : ¬ (120 : Int) < (s.size : Int) := by omega
          go_wp2_with fail
          exact ⟨⟨j + 1, by omega, by simp, by first | rfl | trivial, HN.out (.inl h1)⟩, by simp [intOf]; omega⟩
        · have h1i : (120 : Int) < (s.size : Int) := by omega
          by_cases h2 : s.size = 2001
          · have h2i : ((s.size : Int) == 2001) = true := by rw [h2]; rfl
            have H2 : Hid (s.size = 2001) := h2
            clear h2 h1
            go_wp2_with fail
            exact ⟨⟨j + 1, by omega, by simp, by first | rfl | trivial, HN.out (.inr H2.out)⟩, by simp [intOf]; omega⟩
          · have h2i : ¬ (s.size : Int) = 2001 := by omega
            clear h2 h1
            go_wp2_with fail
            go_ret
            exact ⟨⟨true, rfl, fun h => by cases h⟩, rfl⟩
      · obtain rfl : j = l.length := by omega
        rw [List.take_length] at HA
        go_wp2_with fail
        go_ret
        exact ⟨⟨false, rfl, fun _ => ⟨h40, HA.out⟩⟩, rfl⟩
  · have h40i : (40 : Int) < (l.length : Int) := by omega
    go_enter Tryz.func9, Tryz.ntmps9
    go_wp2_with fail
    go_ret
    exact ⟨⟨true, rfl, fun h => by cases h⟩, rfl⟩
set_option maxRecDepth 100000 in
set_option maxHeartbeats 1000000 in
theorem tableOf_any (F : Nat → Prop) (T0 n : Nat) (h1 : 1 ≤ n) (h2 : n ≤ 512) (w : World) (hT : T0 ≤ w.heap.size) :
    Calls Tryz.prog 10 #[.int .i64 (n : Int)] w fun e w' => ∃ tb bb sp sb cap mb md mt, e = .returned (.tuple #[.pointer (some ⟨tb, 0, none⟩), .pointer (some ⟨mt, 0, none⟩), .bool true]) ∧ TbAt w' F T0 tb bb sp sb cap mb 0 (List.replicate n zb) (List.replicate n false) [] ∧ ((∃ la lc, MkAt w' md la lc none 0 (List.replicate n zb) []) ∧ w'.heap[mt]? = some (.cells #[.pointer (some ⟨md, 0, none⟩), .slice none 0 0] 97 (0, 0)) ∧ w.heap.size ≤ md ∧ w.heap.size ≤ mt) ∧ Below w.heap.size w w' := by
  have HND := newDisk_any n h2 w
  have HDN : Hid (∀ W, Calls Tryz.prog 43 #[.int .i64 (n : Int)] W fun e w' => e = .returned (.tuple #[.pointer (some ⟨W.heap.size + 1, 0, none⟩), .nilIface]) ∧ DkAt w' W.heap.size none 0 (List.replicate n zb) [] ∧ Below W.heap.size W w') := fun W => new_any n h1 h2 W
  have HIN : Hid (∀ W bb, DkAt W bb none 0 (List.replicate n zb) [] → T0 ≤ bb → T0 ≤ W.heap.size → Calls Tryz.prog 12 #[.pointer (some ⟨bb + 1, 0, none⟩)] W fun e w' => ∃ tb sp sb cap mb, e = .returned (.tuple #[.pointer (some ⟨tb, 0, none⟩), .nilIface]) ∧ TbAt w' F T0 tb bb sp sb cap mb 0 (List.replicate n zb) (List.replicate n false) [] ∧ Below W.heap.size W w') := fun W bb D hb hw => by
    have := im_new (F := F) (T0 := T0) W D (by simpa using h1) (by simpa using h2) hb hw
    rw [List.length_replicate] at this
    exact this
  have hh1 : (1 : Int) ≤ (n : Int) := by omega
  clear h1
  go_enter Tryz.func10, Tryz.ntmps10
  go_wp2_with (go_at_call 46; refine HND.mono ?_; rintro e w1 ⟨rfl, hM, hb1⟩; (have HM : Hid _ := hM); (have HB1 : Hid _ := hb1); clear hM hb1)
  refine Calls.mono (HDN.out _) ?_
  rintro e w2 ⟨rfl, D2, hb2⟩
  obtain ⟨bb, Hbb⟩ : ∃ bb, Hid (bb = (w1.alloc (.cells #[.pointer (some ⟨w.heap.size, 0, none⟩), .slice none 0 0] 97)).heap.size) := ⟨_, (rfl : _ = _)⟩
  rw [← Hbb.out] at D2
  have HB2 : Hid (Below w.heap.size w w2) := (HB1.out.alloc HB1.out.size _).trans (hb2.mono (by have := HB1.out.size; simp; omega))
  have HD2 : Hid _ := D2
  have HM2 : Hid ((∃ la lc, MkAt w2 w.heap.size la lc none 0 (List.replicate n zb) []) ∧ w2.heap[w1.heap.size]? = some (.cells #[.pointer (some ⟨w.heap.size, 0, none⟩), .slice none 0 0] 97 (0, 0)) ∧ w.heap.size ≤ w1.heap.size ∧ bb = w1.heap.size + 1) := by
    obtain ⟨la, lc, M⟩ := HM.out
    have hba : Below w1.heap.size w1 (w1.alloc (.cells #[.pointer (some ⟨w.heap.size, 0, none⟩), .slice none 0 0] 97)) := (Below.refl _ w1).alloc (Nat.le_refl _) _
    refine ⟨⟨la, lc, M.below (Nat.le_refl _) (hba.trans (hb2.mono (by simp)))⟩, ?_, HB1.out.size, by rw [Hbb.out]; simp⟩
    rw [hb2.block _ (by simp)]; exact heap_alloc_last w1 _
  have HI2 := HIN.out w2 bb HD2.out (by rw [HM2.out.2.2.2]; have := HM2.out.2.2.1; omega) (Nat.le_trans hT HB2.out.size)
  have ebb : (⟨bb + 1, 0, none⟩ : Addr) = ⟨w1.heap.size + 1 + 1, 0, none⟩ := by rw [HM2.out.2.2.2]
  rw [ebb] at HI2
  clear D2 hb2 ebb
  go_wp2_with (go_at_call 12; refine HI2.mono ?_; rintro e w3 ⟨tb, sp, sb, cap, mb, rfl, T3, hb3⟩)
  go_ret3
  refine ⟨tb, bb, sp, sb, cap, mb, w.heap.size, w1.heap.size, rfl, T3, ?_, HB2.out.trans (hb3.mono HB2.out.size)⟩
  obtain ⟨⟨la, lc, M⟩, hr, hs, _⟩ := HM2.out
  exact ⟨⟨la, lc, M.below (Nat.le_refl _) hb3⟩, (hb3.block _ (Array.getElem?_eq_some_iff.1 hr).1).trans hr, Nat.le_refl _, hs⟩
/-- What a table of four blocks has behind its first file. -/
def x0 : Ino := ⟨3, 1, true, [0], crcR ⟨#[97, 98, 99]⟩⟩
set_option maxRecDepth 100000 in
set_option maxHeartbeats 1000000 in
theorem made_any (er es : Value) (w : World) (hE : w.cell? ⟨4, 0, none⟩ = some er) (hS : w.cell? ⟨2, 0, none⟩ = some es) : Calls Tryz.prog 8 #[] w fun e w' => e = .returned (.bool true) ∧ Below w.heap.size w w' := by
  have hgE : 4 < w.heap.size := World.block_lt_of_cell? w _ hE
  have hgS : 2 < w.heap.size := World.block_lt_of_cell? w _ hS
  obtain ⟨F, HF⟩ : ∃ F : Nat → Prop, Hid (F = fun _ => False) := ⟨_, (rfl : _ = _)⟩
  obtain ⟨T0, HT0⟩ : ∃ T0, Hid (T0 = w.heap.size) := ⟨_, (rfl : w.heap.size = _)⟩
  have HUP : Hid (∀ W mb, TbBut T0 mb w W → Below w.heap.size w W) := fun W mb h => h.below (by rw [HT0.out]; exact Nat.le_refl _) (Nat.le_refl _) (Below.refl _ _)
  have HDN : Hid (Calls Tryz.prog 43 #[.int .i64 4] w fun e w' => e = .returned (.tuple #[.pointer (some ⟨w.heap.size + 1, 0, none⟩), .nilIface]) ∧ DkAt w' w.heap.size none 0 (List.replicate 4 zb) [] ∧ Below w.heap.size w w') := new_any 4 (by omega) (by omega) w
  have HIN : Hid (∀ W, DkAt W w.heap.size none 0 (List.replicate 4 zb) [] → Below w.heap.size w W → Calls Tryz.prog 12 #[.pointer (some ⟨w.heap.size + 1, 0, none⟩)] W fun e w' => ∃ tb sp sb cap mb, e = .returned (.tuple #[.pointer (some ⟨tb, 0, none⟩), .nilIface]) ∧ TbAt w' F T0 tb w.heap.size sp sb cap mb 0 (List.replicate 4 zb) (List.replicate 4 false) [] ∧ TbBut T0 mb w w') := fun W D hb =>
    (im_new (F := F) (T0 := T0) W D (by simp) (by simp) (by rw [HT0.out]; exact Nat.le_refl _) (by rw [HT0.out]; exact hb.size)).mono fun e w' ⟨tb, sp, sb, cap, mb, he, T, hb'⟩ => ⟨tb, sp, sb, cap, mb, he, T, TbBut.of_below (hb.trans (hb'.mono hb.size))⟩
  have hu0 : (freeR (List.replicate 4 false)).take (needN 3) = [0] := by decide
  have hu1 : needN 3 ≤ (freeR (List.replicate 4 false)).length := by decide
  have hS0 := (SInv.start 4).make (data := ⟨#[97, 98, 99]⟩) (ex := true) (bks := [0]) (c := crcR ⟨#[97, 98, 99]⟩) (by decide) hu0.symm hu1
  have HMK : Hid (∀ W tb sp sb cap mb, TbAt W F T0 tb w.heap.size sp sb cap mb 0 (List.replicate 4 zb) (List.replicate 4 false) [] → TbBut T0 mb w W → Calls Tryz.prog 44 #[.pointer (some ⟨tb, 0, none⟩), .string ⟨#[97, 98, 99]⟩, .bool true] W fun e w' => e = .returned (.tuple #[.int .i64 0, .nilIface]) ∧ TbAt w' F T0 tb w.heap.size sp sb cap mb 1 (writeR (List.replicate 4 zb) [0] ⟨#[97, 98, 99]⟩) (markR (List.replicate 4 false) true [0]) [some x0] ∧ TbBut T0 mb w w') := fun W tb sp sb cap mb T B =>
    (im_make ⟨#[97, 98, 99]⟩ true [0] (by decide) hu0.symm hu1 (by omega) (by simp) er W T (B.cellE (by rw [HT0.out]; exact hgE) hE) (by rw [HT0.out]; exact hgE) (by rw [HT0.out]; exact B.size) (by rw [HF.out]; exact fun g h => h.elim)).mono fun e w' ⟨he, T', B'⟩ => ⟨he, T', B.trans B'⟩
  have hrd : readD (writeR (List.replicate 4 zb) [0] ⟨#[97, 98, 99]⟩) [0] 3 = ⟨#[97, 98, 99]⟩ := readD_written (bl := List.replicate 4 zb) (blocks := [0]) (data := ⟨#[97, 98, 99]⟩) (by simp) (by simp) (by decide)
  have hsl : slotT [some x0] 0 = some x0 := rfl
  have HRD : Hid (∀ W tb sp sb cap mb, TbAt W F T0 tb w.heap.size sp sb cap mb 1 (writeR (List.replicate 4 zb) [0] ⟨#[97, 98, 99]⟩) (markR (List.replicate 4 false) true [0]) [some x0] → TbBut T0 mb w W → Calls Tryz.prog 14 #[.pointer (some ⟨tb, 0, none⟩), .int .i64 0] W fun e w' => e = .returned (.tuple #[.string ⟨#[97, 98, 99]⟩, .nilIface]) ∧ TbAt w' F T0 tb w.heap.size sp sb cap mb 1 (writeR (List.replicate 4 zb) [0] ⟨#[97, 98, 99]⟩) (markR (List.replicate 4 false) true [0]) [some x0] ∧ TbBut T0 mb w w') := fun W tb sp sb cap mb T B => by
    have h := im_read 0 x0 es hsl (by show crcR (readD _ [0] 3) = _; rw [hrd]; rfl) W T (by show ∀ k ∈ [0], _; rw [writeR_len]; simp) (by decide) (by decide) (B.cellE (by rw [HT0.out]; exact hgS) hS)
    have e3 : readD (writeR (List.replicate 4 zb) [0] ⟨#[97, 98, 99]⟩) x0.blocks x0.bytes = ⟨#[97, 98, 99]⟩ := hrd
    rw [e3] at h
    exact h.mono fun e w' ⟨he, hb⟩ => ⟨he, T.below hb, B.trans (TbBut.of_below hb)⟩
  have HST : Hid (∀ W tb sp sb cap mb, TbAt W F T0 tb w.heap.size sp sb cap mb 1 (writeR (List.replicate 4 zb) [0] ⟨#[97, 98, 99]⟩) (markR (List.replicate 4 false) true [0]) [some x0] → TbBut T0 mb w W → Calls Tryz.prog 13 #[.pointer (some ⟨tb, 0, none⟩), .int .i64 0] W fun e w' => ∃ ad vc, e = .returned (.tuple #[.agg #[.int .i64 3, .int .i64 1, .bool true, .slice ad 1 vc, .int .u32 (x0.sum : Int)], .bool true]) ∧ IntsT w' (.slice ad 1 vc) [0] ∧ TbAt w' F T0 tb w.heap.size sp sb cap mb 1 (writeR (List.replicate 4 zb) [0] ⟨#[97, 98, 99]⟩) (markR (List.replicate 4 false) true [0]) [some x0] ∧ TbBut T0 mb w w') := fun W tb sp sb cap mb T B =>
    (im_stat 0 x0 hsl (by decide) W T).mono fun e w' ⟨v, he, iv, hb⟩ => by
      obtain ⟨ad, vc, ev, hx⟩ := id iv
      refine ⟨ad, vc, ?_, ?_, T.below hb, B.trans (TbBut.of_below hb)⟩
      · rw [he, ev]; rfl
      · rw [ev] at iv; exact iv
  have HFR : Hid (∀ W tb sp sb cap mb, TbAt W F T0 tb w.heap.size sp sb cap mb 1 (writeR (List.replicate 4 zb) [0] ⟨#[97, 98, 99]⟩) (markR (List.replicate 4 false) true [0]) [some x0] → Calls Tryz.prog 39 #[.pointer (some ⟨tb, 0, none⟩)] W fun e w' => e = .returned (.int .i64 3) ∧ Below W.heap.size W w') := fun W tb sp sb cap mb T => im_free W T
  have HS1 : Hid (∀ W v a, IntsT W v [0] → a = #[Value.int .i64 0] → Calls Tryz.prog 45 #[v, .slice (some ⟨W.heap.size, 0, none⟩) 1 1] (W.alloc (.cells a 3)) fun e w' => e = .returned (.bool true) ∧ Below (W.alloc (.cells a 3)).heap.size (W.alloc (.cells a 3)) w') := fun W v a h ha =>
    sameInts_any v _ [0] _ (h.below ((Below.refl _ _).alloc (Nat.le_refl _) _)).at (built_t W [0] a ha).at (by decide)
  generalize x0.sum = c0 at *
  generalize writeR (List.replicate 4 zb) [0] ⟨#[97, 98, 99]⟩ = bl1 at *
  generalize markR (List.replicate 4 false) true [0] = u1 at *
  generalize [some x0] = tab1 at *
  clear hE hS hS0 hrd hsl hu0 hu1 hgE hgS HF
  go_enter Tryz.func8, Tryz.ntmps8
  go_wp2_with (first
    | (go_at_call 43; refine HDN.out.mono ?_; rintro e w1 ⟨rfl, D1, b1⟩; (have HI1 := HIN.out _ D1 b1); clear HDN HIN D1 b1)
    | (go_at_call 12; refine HI1.mono ?_; rintro e w2 ⟨tb, sp, sb, cap, mb, rfl, T2, B2⟩; (have HM2 := HMK.out _ _ _ _ _ _ T2 B2); clear HI1 HMK T2 B2)
    | (go_at_call 44; refine HM2.mono ?_; rintro e w3 ⟨rfl, T3, B3⟩; (have HR3 := HRD.out _ _ _ _ _ _ T3 B3); clear HM2 HRD T3 B3)
    | (go_at_call 14; refine HR3.mono ?_; rintro e w4 ⟨rfl, T4, B4⟩; (have HS4 := HST.out _ _ _ _ _ _ T4 B4); clear HR3 HST T4 B4)
    | (go_at_call 13; refine HS4.mono ?_; rintro e w5 ⟨ad, vc, rfl, i5, T5, B5⟩; (have HS6 := HS1.out (w5.alloc (.cells #[.int .i64 3, .int .i64 1, .bool true, .slice ad 1 vc, .int .u32 (c0 : Int)] 39)) (.slice ad 1 vc) #[Value.int .i64 0] (i5.below ((Below.refl _ _).alloc (Nat.le_refl _) _)) rfl); (rw [World.size_alloc] at HS6); clear HS4 HS1)
    | (go_at_call 45; refine HS6.mono ?_; rintro e w6 ⟨rfl, b6⟩; (have hb5 : Below w5.heap.size w5 w6 := (((Below.refl _ w5).alloc (Nat.le_refl _) _).alloc (by simp) _).trans (b6.mono (by simp; omega))); (have HF6 := HFR.out w6 _ _ _ _ _ (T5.below hb5)); (have HE : Hid (Below w.heap.size w w6) := HUP.out _ _ (B5.trans (TbBut.of_below hb5))); clear HS6 i5 T5 B5 b6 hb5)
    | (go_at_call 39; refine HF6.mono ?_; rintro e w7 ⟨rfl, b7⟩))
  go_ret
  exact ⟨rfl, HE.out.trans (b7.mono HE.out.size)⟩
end Go.Proofs.YtcejpeohkgchdaaGreatDoor
namespace Go.Proofs.YtcejpeohkgchdaaGreatDoor
open Go.RowKit Go.Maps

set_option maxRecDepth 100000 in
set_option maxHeartbeats 1000000 in
theorem dirsOf_any (T0 n d : Nat) (fb : Nat → Nat) (h1 : 1 ≤ n) (h2 : n ≤ 512) (w : World) (hT : T0 ≤ w.heap.size) :
    Calls Tryz.prog 20 #[.int .i64 (n : Int)] w fun e w' => ∃ dp tb bb sp sb cap mb m1 m2 md mt mw, e = .returned (.tuple #[.pointer (some ⟨dp, 0, none⟩), .pointer (some ⟨mw, 0, none⟩), .bool true]) ∧ DirAt w' T0 dp tb mb m1 m2 0 d [] fb ∧ TbAt w' (fun _ => False) T0 tb bb sp sb cap mb 0 (List.replicate n zb) (List.replicate n false) [] ∧ ((∃ la lc, MkAt w' md la lc none 0 (List.replicate n zb) []) ∧ w'.heap[mt]? = some (.cells #[.pointer (some ⟨md, 0, none⟩), .slice none 0 0] 97 (0, 0)) ∧ w'.heap[mw]? = some (.cells #[.pointer (some ⟨mt, 0, none⟩), .slice none 0 0, .int .i64 0] 124 (0, 0)) ∧ w.heap.size ≤ md ∧ w.heap.size ≤ mt ∧ w.heap.size ≤ mw) ∧ Below w.heap.size w w' := by
  have HTO := tableOf_any (fun _ => False) T0 n h1 h2 w hT
  have HN : Hid (∀ (W : World) (tb mb : Nat), mb < W.heap.size → T0 ≤ W.heap.size → Calls Tryz.prog 36 #[.pointer (some ⟨tb, 0, none⟩)] W fun e w' => ∃ dp m1 m2, e = .returned (.tuple #[.pointer (some ⟨dp, 0, none⟩), .nilIface]) ∧ DirAt w' T0 dp tb mb m1 m2 0 d [] fb ∧ Below W.heap.size W w') := fun W tb mb a b => dnew_any a b d fb
  clear h1 h2
  go_enter Tryz.func20, Tryz.ntmps20
  go_wp2_with (go_at_call 10; refine HTO.mono ?_; rintro e w1 ⟨tb, bb, sp, sb, cap, mb, md, mt, rfl, hT1, hM1, hb1⟩; (have HT1 : Hid (TbAt w1 (fun _ => False) T0 tb bb sp sb cap mb 0 (List.replicate n zb) (List.replicate n false) []) := hT1); (have HM1 : Hid ((∃ la lc, MkAt w1 md la lc none 0 (List.replicate n zb) []) ∧ w1.heap[mt]? = some (.cells #[.pointer (some ⟨md, 0, none⟩), .slice none 0 0] 97 (0, 0)) ∧ w.heap.size ≤ md ∧ w.heap.size ≤ mt) := hM1); (have HB1 : Hid (Below w.heap.size w w1) := hb1); clear hT1 hM1 hb1 HTO)
  have hmb : mb < (w1.alloc (.cells #[.pointer (some ⟨mt, 0, none⟩), .slice none 0 0, .int .i64 0] 124)).heap.size := by
    obtain ⟨f, Nd⟩ := HT1.out.nodes
    obtain ⟨es, cl, hb⟩ := Nd.map.obj
    have := (Array.getElem?_eq_some_iff.1 hb).1
    simp; omega
  have HN2 := HN.out _ tb mb hmb (by have := HB1.out.size; simp; omega)
  refine Calls.mono HN2 ?_
  rintro e w2 ⟨dp, m1, m2, rfl, D2, hb2⟩
  have HD2 : Hid (DirAt w2 T0 dp tb mb m1 m2 0 d [] fb) := D2
  have hba : Below w1.heap.size w1 (w1.alloc (.cells #[.pointer (some ⟨mt, 0, none⟩), .slice none 0 0, .int .i64 0] 124)) := (Below.refl _ w1).alloc (Nat.le_refl _) _
  have HB2 : Hid (Below w1.heap.size w1 w2) := hba.trans (hb2.mono (by simp))
  have HR2 : Hid (w2.heap[w1.heap.size]? = some (.cells #[.pointer (some ⟨mt, 0, none⟩), .slice none 0 0, .int .i64 0] 124 (0, 0))) := by
    show _ = _
    rw [hb2.block _ (by simp)]; exact heap_alloc_last w1 _
  clear D2 hb2 hba hmb HN2
  go_wp2_with fail
  go_ret3
  obtain ⟨⟨la, lc, M⟩, hr, q1, q2⟩ := HM1.out
  refine ⟨dp, tb, bb, sp, sb, cap, mb, m1, m2, md, mt, w1.heap.size, rfl, HD2.out, HT1.out.below HB2.out, ⟨⟨la, lc, M.below (Nat.le_refl _) HB2.out⟩, (HB2.out.block _ (Array.getElem?_eq_some_iff.1 hr).1).trans hr, HR2.out, q1, q2, HB1.out.size⟩, HB1.out.trans (HB2.out.mono HB1.out.size)⟩
end Go.Proofs.YtcejpeohkgchdaaGreatDoor
namespace Go.Proofs.YtcejpeohkgchdaaGreatDoor
open Go.RowKit Go.Maps

theorem LInv.start (N D : Nat) : LInv N D ⟨List.replicate N zb, List.replicate N false, []⟩ [] [] :=
  ⟨⟨SInv.start N, fun r hr => by simp [refsA] at hr, fun q y h => by simp [slotT] at h⟩, rfl, fun k x h => by rw [ntI_nat] at h; simp at h⟩
theorem PBut.low {T0 dp : Nat} {w w1 w2 : World} (h : PBut T0 dp w1 w2) (h0 : Below T0 w w1) (hs : T0 ≤ w.heap.size) (hd : T0 ≤ dp) : Below T0 w w2 :=
  ⟨h.os.trans h0.os, h.tape.trans h0.tape, h.output.trans h0.output, Nat.le_trans h0.size h.size, fun k hk => by
    have hlt : k < w1.heap.size := by have := h0.size; omega
    rw [← h0.block k hk]
    have e : w1.heap[k]? = some w1.heap[k] := Array.getElem?_eq_getElem hlt
    rw [e]
    exact h.block k _ e (.inl hk) (by omega)⟩
/-- The one file of dired. -/
def xyT : Tree := ⟨⟨#[102, 105, 108, 101]⟩, ⟨#[120, 121]⟩, false, []⟩
theorem xy_files : filesT 1 xyT = [(slash, xyT)] := by kernel_rfl
theorem xy_well : treeErr 1 xyT = none := by kernel_rfl
theorem xy_own (w : World) : OwnT w (fun _ => False) 1 [] (.slice none 0 0) := by
  unfold OwnT
  refine ⟨Nat.zero_le _, (fun x hx => by cases hx), ([] : List Value), fun _ _ => False, rfl, World.ownsRow_nil _ _ _ _, (fun g h => by cases h), (fun i x u h => by simp at h), fun _ _ h => False.elim h, fun _ _ _ _ h => False.elim h⟩
set_option maxRecDepth 100000 in
set_option maxHeartbeats 2000000 in
theorem dired_put {w : World} (a : Nat → Addr) (es : Value) (P : PSen a w) (SB : SentsB a w.heap.size w) (hS : w.cell? ⟨2, 0, none⟩ = some es) (gB : ∃ cs ty, w.heap[4]? = some (.cells cs ty (0, 0)) ∧ trTy (.cells cs ty (0, 0)) = false) (gS : ∃ cs ty, w.heap[2]? = some (.cells cs ty (0, 0)) ∧ trTy (.cells cs ty (0, 0)) = false)
    (W : World) (dp tb bb sp sb cap mb m1 m2 : Nat) (D : DirAt W w.heap.size dp tb mb m1 m2 0 0 [] (fun _ => 0)) (T : TbAt W (fun _ => False) w.heap.size tb bb sp sb cap mb 0 (List.replicate 4 zb) (List.replicate 4 false) []) (hW : Below w.heap.size w W) :
    Calls Tryz.prog 21 #[.pointer (some ⟨dp, 0, none⟩), .agg #[.string ⟨#[102, 105, 108, 101]⟩, .string ⟨#[120, 121]⟩, .bool false, .slice none 0 0]] W fun e w1 => e = .returned (.tuple #[.int .i64 0, .nilIface]) ∧ Calls Tryz.prog 27 #[.pointer (some ⟨dp, 0, none⟩), .int .i64 0] w1 fun e2 w2 => ∃ ad cp, e2 = .returned (.tuple #[.agg #[.string ⟨#[102, 105, 108, 101]⟩, .string ⟨#[120, 121]⟩, .bool false, .slice ad 0 cp], .nilIface]) ∧ ∀ W3, Below w2.heap.size w2 W3 → Calls Tryz.prog 30 #[.pointer (some ⟨dp, 0, none⟩), .int .i64 0, .string ⟨#[47]⟩] W3 fun e4 w4 => e4 = .returned (.tuple #[.int .i64 0, .nilIface]) ∧ Below W3.heap.size W3 w4 ∧ Below w.heap.size w w4 := by
  have hbl : w.heap.size ≤ W.heap.size := hW.size
  have hB0 : 4 < w.heap.size := World.block_lt_of_cell? w _ P.is.bound
  have hS0 : 2 < w.heap.size := World.block_lt_of_cell? w _ hS
  have SB2 : ∀ W', Below w.heap.size w W' → SentsB a W'.heap.size W' := fun W' h => ⟨(SB.below h (Nat.le_refl _)).is, fun g hg => Nat.lt_of_lt_of_le (SB.low g hg) h.size⟩
  have hG : GoodT (0 + 1) xyT := good_of (p := ByteArray.empty) (k := 0) fun y hy => ((treeErr_none.1 xy_well).2 y hy).2
  have LI := (LInv.start 4 (0 + 1)).put (t := xyT) xy_well (fun x hx => by cases hx) (by rw [xy_files]; decide)
  have hput := dput_ok (w := W) (T0 := w.heap.size) (dp := dp) (tb := tb) (mb := mb) (m1 := m1) (m2 := m2) (n1 := 0) (d := 0) (bb := bb) (sp := sp) (sb := sb) (cap := cap) (n := 0) (N := 4) (tr := []) (fb := fun _ => 0) (s := ⟨List.replicate 4 zb, List.replicate 4 false, []⟩) a xyT none 0 (fun _ => False) (xy_own W) (fun _ h => h.elim)
    (by refine ⟨⟨Nat.zero_le _, by unfold maxLen; decide, Nat.zero_le _, by unfold maxLen; decide⟩, fun _ => ?_⟩; trivial) xy_well hG (by omega) (by rw [xy_files]; intro x hx; rw [List.mem_singleton.1 hx]; exact ⟨by decide, by unfold maxLen; decide⟩) (by rw [xy_files]; decide) (by rw [xy_files]; decide) D T (SInv.start 4) (SB2 W hW) hbl (by omega) (Nat.zero_le _) (by rw [hW.cell (p := ⟨4, 0, none⟩) hB0]; exact P.is.bound) hB0 (by obtain ⟨cs, ty, h1, h2⟩ := gB; exact ⟨cs, ty, (hW.block _ hB0).trans h1, h2⟩)
  rw [xy_files] at hput LI
  refine Calls.mono hput ?_
  rintro e w1 ⟨rfl, ⟨fb', D1⟩, T1, S1, P1⟩
  refine ⟨rfl, ?_⟩
  have hw1 : Below w.heap.size w w1 := P1.low hW (Nat.le_refl _) D.low.1
  have hx : ntI ([] ++ [some ⟨bareT (0 + 1) xyT, inoL ⟨List.replicate 4 zb, List.replicate 4 false, []⟩ [(slash, xyT)]⟩]) ((0 : Nat) : Int) = some ⟨bareT (0 + 1) xyT, inoL ⟨List.replicate 4 zb, List.replicate 4 false, []⟩ [(slash, xyT)]⟩ := rfl
  have hfl := LI.files hx rfl
  have hget := dget_any (er := es) 0 _ (inoAt (mkL ⟨List.replicate 4 zb, List.replicate 4 false, []⟩ [(slash, xyT)]) (inoL ⟨List.replicate 4 zb, List.replicate 4 false, []⟩ [(slash, xyT)])) (wf_nat (by omega)) hx D1 T1 S1 (fun y hy => by
      rw [bareT_files, xy_files] at hy
      have e1 : y.1 = slash := by
        rw [List.map_cons, List.map_nil] at hy
        rw [List.mem_singleton.1 hy]
      obtain ⟨q, k1, k2, k3, k4, k5⟩ := hfl (slash, xyT) (by rw [xy_files]; exact List.mem_singleton.2 rfl)
      rw [e1]
      exact ⟨by unfold maxLen; decide, q, k1, k2, by rw [k3, k5]⟩) (bareT_good hG) (by omega) (by rw [hw1.cell (p := ⟨2, 0, none⟩) hS0]; exact hS) (by obtain ⟨cs, ty, h1, h2⟩ := gS; exact ⟨cs, ty, (hw1.block _ hS0).trans h1, h2⟩)
  rw [fill_bare hG (fun y hy => by
    obtain ⟨q, k1, k2, k3, k4, k5⟩ := hfl y hy
    exact ⟨k3, k4⟩)] at hget
  refine Calls.mono hget ?_
  rintro e2 w2 ⟨ad, cp, rfl, _, b2⟩
  refine ⟨ad, cp, rfl, fun W3 hW3 => ?_⟩
  have b3 : Below w1.heap.size w1 W3 := b2.trans (hW3.mono b2.size)
  have hw3 : Below w.heap.size w W3 := hw1.trans (b3.mono hw1.size)
  have hin := dinode_any a ((0 : Nat) : Int) slash (wf_nat (by omega)) (by decide) (P.below hw3) (D1.below b3)
  refine Calls.mono hin ?_
  rintro e4 w4 ⟨rfl, b4⟩
  exact ⟨by kernel_rfl, b4, hw3.trans (b4.mono hw3.size)⟩
end Go.Proofs.YtcejpeohkgchdaaGreatDoor
namespace Go.Proofs.YtcejpeohkgchdaaGreatDoor
open Go.RowKit Go.Maps

set_option maxRecDepth 100000 in
set_option maxHeartbeats 2000000 in
theorem dired_any {w : World} (a : Nat → Addr) (es : Value) (P : PSen a w) (SB : SentsB a w.heap.size w) (hS : w.cell? ⟨2, 0, none⟩ = some es) (gB : ∃ cs ty, w.heap[4]? = some (.cells cs ty (0, 0)) ∧ trTy (.cells cs ty (0, 0)) = false) (gS : ∃ cs ty, w.heap[2]? = some (.cells cs ty (0, 0)) ∧ trTy (.cells cs ty (0, 0)) = false) :
    Calls Tryz.prog 18 #[] w fun e w' => e = .returned (.bool true) ∧ Below w.heap.size w w' := by
  have HTO : Hid (Calls Tryz.prog 10 #[.int .i64 4] w fun e w' => ∃ tb mt, e = .returned (.tuple #[.pointer (some ⟨tb, 0, none⟩), .pointer (some ⟨mt, 0, none⟩), .bool true]) ∧ Calls Tryz.prog 36 #[.pointer (some ⟨tb, 0, none⟩)] w' fun e2 W => ∃ dp, e2 = .returned (.tuple #[.pointer (some ⟨dp, 0, none⟩), .nilIface]) ∧ Calls Tryz.prog 21 #[.pointer (some ⟨dp, 0, none⟩), .agg #[.string ⟨#[102, 105, 108, 101]⟩, .string ⟨#[120, 121]⟩, .bool false, .slice none 0 0]] W fun e w1 => e = .returned (.tuple #[.int .i64 0, .nilIface]) ∧ Calls Tryz.prog 27 #[.pointer (some ⟨dp, 0, none⟩), .int .i64 0] w1 fun e2 w2 => ∃ ad cp, e2 = .returned (.tuple #[.agg #[.string ⟨#[102, 105, 108, 101]⟩, .string ⟨#[120, 121]⟩, .bool false, .slice ad 0 cp], .nilIface]) ∧ ∀ W3, Below w2.heap.size w2 W3 → Calls Tryz.prog 30 #[.pointer (some ⟨dp, 0, none⟩), .int .i64 0, .string ⟨#[47]⟩] W3 fun e4 w4 => e4 = .returned (.tuple #[.int .i64 0, .nilIface]) ∧ Below W3.heap.size W3 w4 ∧ Below w.heap.size w w4) :=
    (tableOf_any (fun _ => False) w.heap.size 4 (by omega) (by omega) w (Nat.le_refl _)).mono fun e w' ⟨tb, bb, sp, sb, cap, mb, md, mt, he, T1, _, b1⟩ => ⟨tb, mt, he, (dnew_any (T0 := w.heap.size) (mb := mb) (by
      obtain ⟨f, Nd⟩ := T1.nodes
      obtain ⟨es, cl, hb⟩ := Nd.map.obj
      exact (Array.getElem?_eq_some_iff.1 hb).1) b1.size 0 (fun _ => 0)).mono fun e2 W ⟨dp, m1, m2, he2, D2, b2⟩ => ⟨dp, he2, dired_put a es P SB hS gB gS W dp tb bb sp sb cap mb m1 m2 D2 (T1.below b2) (b1.trans (b2.mono b1.size))⟩⟩
  clear P SB hS gB gS
  go_enter Tryz.func18, Tryz.ntmps18
  go_wp2_with (first
    | (go_at_call 10; refine HTO.out.mono ?_; rintro e w1 ⟨tb, mt, rfl, HN⟩; clear HTO)
    | (go_at_call 36; refine HN.mono ?_; rintro e w2 ⟨dp, rfl, HP⟩; clear HN)
    | (go_at_call 21; refine HP.mono ?_; rintro e w3 ⟨rfl, HG⟩; clear HP)
    | (go_at_call 27; refine HG.mono ?_; rintro e w4 ⟨ad, cp, rfl, HI⟩; (have HI4 := HI (w4.alloc (.cells #[.string ⟨#[102, 105, 108, 101]⟩, .string ⟨#[120, 121]⟩, .bool false, .slice ad 0 cp] 57)) ((Below.refl _ _).alloc (Nat.le_refl _) _)); clear HG HI)
    | (go_at_call 30; refine HI4.mono ?_; rintro e w5 ⟨rfl, hb5, hw5⟩; (have hc5 : w5.cell? ⟨w4.heap.size, 1, none⟩ = some (.string ⟨#[120, 121]⟩) := (by rw [hb5.cell (p := ⟨w4.heap.size, 1, none⟩) (by simp), cell_of_row _ _ _ _ _ _ (heap_alloc_last w4 _)]; rfl)); (have HE : Hid (Below w.heap.size w w5) := hw5); clear HI4 hb5 hw5))
  go_ret
  exact ⟨rfl, HE.out⟩
end Go.Proofs.YtcejpeohkgchdaaGreatDoor
namespace Go.Proofs.YtcejpeohkgchdaaGreatDoor
open Go.RowKit Go.Maps

def longA (c : TAct) : Bool := largeB 40 c.node || decide (100 < c.path.size) || decide (120 < c.s.size)
def longT (l : List TAct) : Bool := decide (25 < l.length) || l.any longA
theorem tany_hit {l : List TAct} {j : Nat} {c : TAct} (h : l[j]? = some c) (hc : longA c = true) : l.any longA = true := List.any_eq_true.2 ⟨c, List.mem_of_getElem? h, hc⟩
theorem tany_snoc {l : List TAct} {j : Nat} {c : TAct} (h : l[j]? = some c) : (l.take (j + 1)).any longA = ((l.take j).any longA || longA c) := by
  have hj : j < l.length := (List.getElem?_eq_some_iff.1 h).1
  rw [List.take_succ_eq_append_getElem hj, (List.getElem?_eq_some_iff.1 h).2]
  simp
theorem TActAt.below {w w' : World} {d b o : Nat} {c : TAct} {u : Value} (h : TActAt w d b o c u) (hb : Below w.heap.size w w') (hlt : b < w.heap.size) : TActAt w' d b o c u := by
  have hc : ∀ i, w'.cell? ⟨b, i, none⟩ = w.cell? ⟨b, i, none⟩ := fun i => hb.cell (p := ⟨b, i, none⟩) hlt
  exact ⟨(hc _).trans h.kind, (hc _).trans h.path, (hc _).trans h.s, (hc _).trans h.nkind, (hc _).trans h.ndata, (hc _).trans h.nexec, (hc _).trans h.nkids, (hc _).trans h.k, (hc _).trans h.n, (hc _).trans h.bit, (h.lies.below hb (Nat.le_refl _)).up hb.size (Nat.le_refl _)⟩
end Go.Proofs.YtcejpeohkgchdaaGreatDoor
