/-
  The contracts of the laws' made, longFiles and tableOf.
  The state of the law InodeKeeps: a table, and what was made with it, in rows of their own.
  The acts of the law InodeKeeps on its state.
  Conditions: those that each states.
-/
import Derived.Test.YtcejpeohkgchdaaDoorK12
import Derived.Test.YtcejpeohkgchdaaDoorK13
import Derived.Test.YtcejpeohkgchdaaDoorK10
import Derived.Test.YtcejpeohkgchdaaDoorK15
import Derived.Maps.AppendAt
import Derived.Laws.OwnMore
namespace Go.Proofs.YtcejpeohkgchdaaDoor
open Go.RowKit

/-- An act on files. -/
structure FAct where
  kind : ByteArray
  s : ByteArray
  exec : Bool
  n : Int
  bit : Int
def FActsAt (w : World) (v : Value) (l : List FAct) : Prop := ∃ ad cap, v = .slice ad l.length cap ∧ ∀ (i : Nat) (a : FAct), l[i]? = some a → (Lit.int .i64 a.n).wf = true ∧ (Lit.int .i64 a.bit).wf = true ∧ a.s.size ≤ maxLen ∧ ∃ b off, ad = some ⟨b, off, none⟩ ∧ w.cell? ⟨b, off + i * 5, none⟩ = some (.string a.kind) ∧ w.cell? ⟨b, off + i * 5 + 1, none⟩ = some (.string a.s) ∧ w.cell? ⟨b, off + i * 5 + 2, none⟩ = some (.bool a.exec) ∧ w.cell? ⟨b, off + i * 5 + 3, none⟩ = some (.int .i64 a.n) ∧ w.cell? ⟨b, off + i * 5 + 4, none⟩ = some (.int .i64 a.bit)
theorem FActsAt.below {w w' : World} {v : Value} {l : List FAct} (h : FActsAt w v l) (hb : Below w.heap.size w w') : FActsAt w' v l := by
  obtain ⟨ad, cap, rfl, hc⟩ := h
  refine ⟨ad, cap, rfl, fun i a ha => ?_⟩
  obtain ⟨h1, h2, h3, b, off, e, c0, c1, c2, c3, c4⟩ := hc i a ha
  have hlt : b < w.heap.size := World.block_lt_of_cell? w _ c0
  refine ⟨h1, h2, h3, b, off, e, ?_, ?_, ?_, ?_, ?_⟩
  · rw [hb.cell (p := ⟨b, off + i * 5, none⟩) hlt]; exact c0
  · rw [hb.cell (p := ⟨b, off + i * 5 + 1, none⟩) hlt]; exact c1
  · rw [hb.cell (p := ⟨b, off + i * 5 + 2, none⟩) hlt]; exact c2
  · rw [hb.cell (p := ⟨b, off + i * 5 + 3, none⟩) hlt]; exact c3
  · rw [hb.cell (p := ⟨b, off + i * 5 + 4, none⟩) hlt]; exact c4
/-- Acts that are not too long for a law. -/
def Shorts (l : List FAct) : Prop := l.length ≤ 40 ∧ ∀ a ∈ l, a.s.size ≤ 120 ∨ a.s.size = 2001

set_option maxRecDepth 100000 in
set_option maxHeartbeats 1000000 in
theorem longFiles_any (v : Value) (l : List FAct) (w : World) (hv : FActsAt w v l) :
    Calls Tryd.prog 5 #[v] w fun e w' => (∃ r, e = .returned (.bool r) ∧ (r = false → Shorts l)) ∧ w' = w := by
  obtain ⟨ad, cap, rfl, hc⟩ := hv
  have HC : Hid (∀ (i : Nat) (a : FAct), l[i]? = some a → a.s.size ≤ maxLen ∧ ∃ b off, ad = some ⟨b, off, none⟩ ∧ w.cell? ⟨b, off + i * 5 + 1, none⟩ = some (.string a.s)) := fun i a ha => by
    obtain ⟨_, _, h3, b, off, e, _, c1, _⟩ := hc i a ha
    exact ⟨h3, b, off, e, c1⟩
  clear hc
  by_cases h40 : l.length ≤ 40
  · have h40i : ¬ (40 : Int) < (l.length : Int) := by omega
    go_enter Tryd.func5, Tryd.ntmps5
    go_wp2_with fail
    go_loopw [3] (fun i wr => ∃ j : Nat, j ≤ l.length ∧ i = .int .i64 j ∧ wr = w ∧ ∀ a ∈ l.take j, a.s.size ≤ 120 ∨ a.s.size = 2001) (fun i _ => l.length - (intOf i).toNat)
    case atStart => exact ⟨0, Nat.zero_le _, rfl, rfl, fun a h => by simp at h⟩
    case round =>
      obtain ⟨j, hj, rfl, rfl, ha⟩ := hrel
      have HA : Hid (∀ a ∈ l.take j, a.s.size ≤ 120 ∨ a.s.size = 2001) := ha
      clear ha
      by_cases hlt : j < l.length
      · obtain ⟨a, hx⟩ : ∃ a, l[j]? = some a := ⟨_, List.getElem?_eq_getElem hlt⟩
        obtain ⟨hm, b, off, rfl, c1⟩ := HC.out j a hx
        have HN : Hid ((a.s.size ≤ 120 ∨ a.s.size = 2001) → ∀ x ∈ l.take (j + 1), x.s.size ≤ 120 ∨ x.s.size = 2001) := fun h x hx2 => by
          obtain ⟨hk, e⟩ := List.getElem?_eq_some_iff.1 hx
          rw [List.take_succ_eq_append_getElem hk, e, List.mem_append, List.mem_singleton] at hx2
          rcases hx2 with h2 | rfl
          · exact HA.out x h2
          · exact h
        clear hx
        generalize a.s = s at *
        by_cases h1 : s.size ≤ 120
        · have h1i : ¬ (120 : Int) < (s.size : Int) := by omega
          go_wp2_with fail
          exact ⟨⟨j + 1, by omega, by simp, by first | rfl | trivial, HN.out (.inl h1)⟩, by simp [intOf]; omega⟩
        · have h1i : (120 : Int) < (s.size : Int) := by omega
          by_cases h2 : s.size = 2001
          · have h2i : ((s.size : Int) == 2001) = true := by rw [h2]; rfl
            have H2 : Hid (s.size = 2001) := h2
            clear h2 h1
            go_wp2_with fail
            exact ⟨⟨j + 1, by omega, by simp, by first | rfl | trivial, HN.out (.inr H2.out)⟩, by simp [intOf]; omega⟩
          · have h2i : ¬ (s.size : Int) = 2001 := by omega
            clear h2 h1
            go_wp2_with fail
            go_ret
            exact ⟨⟨true, rfl, fun h => by cases h⟩, rfl⟩
      · obtain rfl : j = l.length := by omega
        rw [List.take_length] at HA
        go_wp2_with fail
        go_ret
        exact ⟨⟨false, rfl, fun _ => ⟨h40, HA.out⟩⟩, rfl⟩
  · have h40i : (40 : Int) < (l.length : Int) := by omega
    go_enter Tryd.func5, Tryd.ntmps5
    go_wp2_with fail
    go_ret
    exact ⟨⟨true, rfl, fun h => by cases h⟩, rfl⟩
set_option maxRecDepth 100000 in
set_option maxHeartbeats 1000000 in
theorem tableOf_any (F : Nat → Prop) (T0 n : Nat) (h1 : 1 ≤ n) (h2 : n ≤ 512) (w : World) (hT : T0 ≤ w.heap.size) :
    Calls Tryd.prog 6 #[.int .i64 (n : Int)] w fun e w' => ∃ tb bb sp sb cap mb md mt, e = .returned (.tuple #[.pointer (some ⟨tb, 0, none⟩), .pointer (some ⟨mt, 0, none⟩), .bool true]) ∧ TbAt w' F T0 tb bb sp sb cap mb 0 (List.replicate n zb) (List.replicate n false) [] ∧ ((∃ la lc, MkAt w' md la lc none 0 (List.replicate n zb) []) ∧ w'.heap[mt]? = some (.cells #[.pointer (some ⟨md, 0, none⟩), .slice none 0 0] 59 (0, 0)) ∧ w.heap.size ≤ md ∧ w.heap.size ≤ mt) ∧ Below w.heap.size w w' := by
  have HND := newDisk_any n h2 w
  have HDN : Hid (∀ W, Calls Tryd.prog 14 #[.int .i64 (n : Int)] W fun e w' => e = .returned (.tuple #[.pointer (some ⟨W.heap.size + 1, 0, none⟩), .nilIface]) ∧ DkAt w' W.heap.size none 0 (List.replicate n zb) [] ∧ Below W.heap.size W w') := fun W => new_any n h1 h2 W
  have HIN : Hid (∀ W bb, DkAt W bb none 0 (List.replicate n zb) [] → T0 ≤ bb → T0 ≤ W.heap.size → Calls Tryd.prog 15 #[.pointer (some ⟨bb + 1, 0, none⟩)] W fun e w' => ∃ tb sp sb cap mb, e = .returned (.tuple #[.pointer (some ⟨tb, 0, none⟩), .nilIface]) ∧ TbAt w' F T0 tb bb sp sb cap mb 0 (List.replicate n zb) (List.replicate n false) [] ∧ Below W.heap.size W w') := fun W bb D hb hw => by
    have := im_new (F := F) (T0 := T0) W D (by simpa using h1) (by simpa using h2) hb hw
    rw [List.length_replicate] at this
    exact this
  have hh1 : (1 : Int) ≤ (n : Int) := by omega
  clear h1
  go_enter Tryd.func6, Tryd.ntmps6
  go_wp2_with (go_at_call 17; refine HND.mono ?_; rintro e w1 ⟨rfl, hM, hb1⟩; (have HM : Hid _ := hM); (have HB1 : Hid _ := hb1); clear hM hb1)
  refine Calls.mono (HDN.out _) ?_
  rintro e w2 ⟨rfl, D2, hb2⟩
  obtain ⟨bb, Hbb⟩ : ∃ bb, Hid (bb = (w1.alloc (.cells #[.pointer (some ⟨w.heap.size, 0, none⟩), .slice none 0 0] 59)).heap.size) := ⟨_, (rfl : _ = _)⟩
  rw [← Hbb.out] at D2
  have HB2 : Hid (Below w.heap.size w w2) := (HB1.out.alloc HB1.out.size _).trans (hb2.mono (by have := HB1.out.size; simp; omega))
  have HD2 : Hid _ := D2
  have HM2 : Hid ((∃ la lc, MkAt w2 w.heap.size la lc none 0 (List.replicate n zb) []) ∧ w2.heap[w1.heap.size]? = some (.cells #[.pointer (some ⟨w.heap.size, 0, none⟩), .slice none 0 0] 59 (0, 0)) ∧ w.heap.size ≤ w1.heap.size ∧ bb = w1.heap.size + 1) := by
    obtain ⟨la, lc, M⟩ := HM.out
    have hba : Below w1.heap.size w1 (w1.alloc (.cells #[.pointer (some ⟨w.heap.size, 0, none⟩), .slice none 0 0] 59)) := (Below.refl _ w1).alloc (Nat.le_refl _) _
    refine ⟨⟨la, lc, M.below (Nat.le_refl _) (hba.trans (hb2.mono (by simp)))⟩, ?_, HB1.out.size, by rw [Hbb.out]; simp⟩
    rw [hb2.block _ (by simp)]; exact heap_alloc_last w1 _
  have HI2 := HIN.out w2 bb HD2.out (by rw [HM2.out.2.2.2]; have := HM2.out.2.2.1; omega) (Nat.le_trans hT HB2.out.size)
  have ebb : (⟨bb + 1, 0, none⟩ : Addr) = ⟨w1.heap.size + 1 + 1, 0, none⟩ := by rw [HM2.out.2.2.2]
  rw [ebb] at HI2
  clear D2 hb2 ebb
  go_wp2_with (go_at_call 15; refine HI2.mono ?_; rintro e w3 ⟨tb, sp, sb, cap, mb, rfl, T3, hb3⟩)
  go_ret3
  refine ⟨tb, bb, sp, sb, cap, mb, w.heap.size, w1.heap.size, rfl, T3, ?_, HB2.out.trans (hb3.mono HB2.out.size)⟩
  obtain ⟨⟨la, lc, M⟩, hr, hs, _⟩ := HM2.out
  exact ⟨⟨la, lc, M.below (Nat.le_refl _) hb3⟩, (hb3.block _ (Array.getElem?_eq_some_iff.1 hr).1).trans hr, Nat.le_refl _, hs⟩
/-- What a table of four blocks has behind its first file. -/
def x0 : Ino := ⟨3, 1, true, [0], crcR ⟨#[97, 98, 99]⟩⟩
set_option maxRecDepth 100000 in
set_option maxHeartbeats 1000000 in
theorem made_any (er es : Value) (w : World) (hE : w.cell? ⟨0, 0, none⟩ = some er) (hS : w.cell? ⟨3, 0, none⟩ = some es) : Calls Tryd.prog 4 #[] w fun e w' => e = .returned (.bool true) ∧ Below w.heap.size w w' := by
  have hgE : 0 < w.heap.size := World.block_lt_of_cell? w _ hE
  have hgS : 3 < w.heap.size := World.block_lt_of_cell? w _ hS
  obtain ⟨F, HF⟩ : ∃ F : Nat → Prop, Hid (F = fun _ => False) := ⟨_, (rfl : _ = _)⟩
  obtain ⟨T0, HT0⟩ : ∃ T0, Hid (T0 = w.heap.size) := ⟨_, (rfl : w.heap.size = _)⟩
  have HUP : Hid (∀ W mb, TbBut T0 mb w W → Below w.heap.size w W) := fun W mb h => h.below (by rw [HT0.out]; exact Nat.le_refl _) (Nat.le_refl _) (Below.refl _ _)
  have HDN : Hid (Calls Tryd.prog 14 #[.int .i64 4] w fun e w' => e = .returned (.tuple #[.pointer (some ⟨w.heap.size + 1, 0, none⟩), .nilIface]) ∧ DkAt w' w.heap.size none 0 (List.replicate 4 zb) [] ∧ Below w.heap.size w w') := new_any 4 (by omega) (by omega) w
  have HIN : Hid (∀ W, DkAt W w.heap.size none 0 (List.replicate 4 zb) [] → Below w.heap.size w W → Calls Tryd.prog 15 #[.pointer (some ⟨w.heap.size + 1, 0, none⟩)] W fun e w' => ∃ tb sp sb cap mb, e = .returned (.tuple #[.pointer (some ⟨tb, 0, none⟩), .nilIface]) ∧ TbAt w' F T0 tb w.heap.size sp sb cap mb 0 (List.replicate 4 zb) (List.replicate 4 false) [] ∧ TbBut T0 mb w w') := fun W D hb =>
    (im_new (F := F) (T0 := T0) W D (by simp) (by simp) (by rw [HT0.out]; exact Nat.le_refl _) (by rw [HT0.out]; exact hb.size)).mono fun e w' ⟨tb, sp, sb, cap, mb, he, T, hb'⟩ => ⟨tb, sp, sb, cap, mb, he, T, TbBut.of_below (hb.trans (hb'.mono hb.size))⟩
  have hu0 : (freeR (List.replicate 4 false)).take (needN 3) = [0] := by decide
  have hu1 : needN 3 ≤ (freeR (List.replicate 4 false)).length := by decide
  have hS0 := (SInv.start 4).make (data := ⟨#[97, 98, 99]⟩) (ex := true) (bks := [0]) (c := crcR ⟨#[97, 98, 99]⟩) (by decide) hu0.symm hu1
  have HMK : Hid (∀ W tb sp sb cap mb, TbAt W F T0 tb w.heap.size sp sb cap mb 0 (List.replicate 4 zb) (List.replicate 4 false) [] → TbBut T0 mb w W → Calls Tryd.prog 7 #[.pointer (some ⟨tb, 0, none⟩), .string ⟨#[97, 98, 99]⟩, .bool true] W fun e w' => e = .returned (.tuple #[.int .i64 0, .nilIface]) ∧ TbAt w' F T0 tb w.heap.size sp sb cap mb 1 (writeR (List.replicate 4 zb) [0] ⟨#[97, 98, 99]⟩) (markR (List.replicate 4 false) true [0]) [some x0] ∧ TbBut T0 mb w w') := fun W tb sp sb cap mb T B =>
    (im_make ⟨#[97, 98, 99]⟩ true [0] (by decide) hu0.symm hu1 (by omega) (by simp) er W T (B.cellE (by rw [HT0.out]; exact hgE) hE) (by rw [HT0.out]; exact hgE) (by rw [HT0.out]; exact B.size) (by rw [HF.out]; exact fun g h => h.elim)).mono fun e w' ⟨he, T', B'⟩ => ⟨he, T', B.trans B'⟩
  have hrd : readD (writeR (List.replicate 4 zb) [0] ⟨#[97, 98, 99]⟩) [0] 3 = ⟨#[97, 98, 99]⟩ := readD_written (bl := List.replicate 4 zb) (blocks := [0]) (data := ⟨#[97, 98, 99]⟩) (by simp) (by simp) (by decide)
  have hsl : slotT [some x0] 0 = some x0 := rfl
  have HRD : Hid (∀ W tb sp sb cap mb, TbAt W F T0 tb w.heap.size sp sb cap mb 1 (writeR (List.replicate 4 zb) [0] ⟨#[97, 98, 99]⟩) (markR (List.replicate 4 false) true [0]) [some x0] → TbBut T0 mb w W → Calls Tryd.prog 10 #[.pointer (some ⟨tb, 0, none⟩), .int .i64 0] W fun e w' => e = .returned (.tuple #[.string ⟨#[97, 98, 99]⟩, .nilIface]) ∧ TbAt w' F T0 tb w.heap.size sp sb cap mb 1 (writeR (List.replicate 4 zb) [0] ⟨#[97, 98, 99]⟩) (markR (List.replicate 4 false) true [0]) [some x0] ∧ TbBut T0 mb w w') := fun W tb sp sb cap mb T B => by
    have h := im_read 0 x0 es hsl (by show crcR (readD _ [0] 3) = _; rw [hrd]; rfl) W T (by show ∀ k ∈ [0], _; rw [writeR_len]; simp) (by decide) (by decide) (B.cellE (by rw [HT0.out]; exact hgS) hS)
    have e3 : readD (writeR (List.replicate 4 zb) [0] ⟨#[97, 98, 99]⟩) x0.blocks x0.bytes = ⟨#[97, 98, 99]⟩ := hrd
    rw [e3] at h
    exact h.mono fun e w' ⟨he, hb⟩ => ⟨he, T.below hb, B.trans (TbBut.of_below hb)⟩
  have HST : Hid (∀ W tb sp sb cap mb, TbAt W F T0 tb w.heap.size sp sb cap mb 1 (writeR (List.replicate 4 zb) [0] ⟨#[97, 98, 99]⟩) (markR (List.replicate 4 false) true [0]) [some x0] → TbBut T0 mb w W → Calls Tryd.prog 11 #[.pointer (some ⟨tb, 0, none⟩), .int .i64 0] W fun e w' => ∃ ad vc, e = .returned (.tuple #[.agg #[.int .i64 3, .int .i64 1, .bool true, .slice ad 1 vc, .int .u32 (x0.sum : Int)], .bool true]) ∧ IntsT w' (.slice ad 1 vc) [0] ∧ TbAt w' F T0 tb w.heap.size sp sb cap mb 1 (writeR (List.replicate 4 zb) [0] ⟨#[97, 98, 99]⟩) (markR (List.replicate 4 false) true [0]) [some x0] ∧ TbBut T0 mb w w') := fun W tb sp sb cap mb T B =>
    (im_stat 0 x0 hsl (by decide) W T).mono fun e w' ⟨v, he, iv, hb⟩ => by
      obtain ⟨ad, vc, ev, hx⟩ := id iv
      refine ⟨ad, vc, ?_, ?_, T.below hb, B.trans (TbBut.of_below hb)⟩
      · rw [he, ev]; rfl
      · rw [ev] at iv; exact iv
  have HFR : Hid (∀ W tb sp sb cap mb, TbAt W F T0 tb w.heap.size sp sb cap mb 1 (writeR (List.replicate 4 zb) [0] ⟨#[97, 98, 99]⟩) (markR (List.replicate 4 false) true [0]) [some x0] → Calls Tryd.prog 13 #[.pointer (some ⟨tb, 0, none⟩)] W fun e w' => e = .returned (.int .i64 3) ∧ Below W.heap.size W w') := fun W tb sp sb cap mb T => im_free W T
  have HS1 : Hid (∀ W v a, IntsT W v [0] → a = #[Value.int .i64 0] → Calls Tryd.prog 16 #[v, .slice (some ⟨W.heap.size, 0, none⟩) 1 1] (W.alloc (.cells a 3)) fun e w' => e = .returned (.bool true) ∧ Below (W.alloc (.cells a 3)).heap.size (W.alloc (.cells a 3)) w') := fun W v a h ha =>
    sameInts_any v _ [0] _ (h.below ((Below.refl _ _).alloc (Nat.le_refl _) _)).at (built_t W [0] a ha).at (by decide)
  generalize x0.sum = c0 at *
  generalize writeR (List.replicate 4 zb) [0] ⟨#[97, 98, 99]⟩ = bl1 at *
  generalize markR (List.replicate 4 false) true [0] = u1 at *
  generalize [some x0] = tab1 at *
  clear hE hS hS0 hrd hsl hu0 hu1 hgE hgS HF
  go_enter Tryd.func4, Tryd.ntmps4
  go_wp2_with (first
    | (go_at_call 14; refine HDN.out.mono ?_; rintro e w1 ⟨rfl, D1, b1⟩; (have HI1 := HIN.out _ D1 b1); clear HDN HIN D1 b1)
    | (go_at_call 15; refine HI1.mono ?_; rintro e w2 ⟨tb, sp, sb, cap, mb, rfl, T2, B2⟩; (have HM2 := HMK.out _ _ _ _ _ _ T2 B2); clear HI1 HMK T2 B2)
    | (go_at_call 7; refine HM2.mono ?_; rintro e w3 ⟨rfl, T3, B3⟩; (have HR3 := HRD.out _ _ _ _ _ _ T3 B3); clear HM2 HRD T3 B3)
    | (go_at_call 10; refine HR3.mono ?_; rintro e w4 ⟨rfl, T4, B4⟩; (have HS4 := HST.out _ _ _ _ _ _ T4 B4); clear HR3 HST T4 B4)
    | (go_at_call 11; refine HS4.mono ?_; rintro e w5 ⟨ad, vc, rfl, i5, T5, B5⟩; (have HS6 := HS1.out (w5.alloc (.cells #[.int .i64 3, .int .i64 1, .bool true, .slice ad 1 vc, .int .u32 (c0 : Int)] 43)) (.slice ad 1 vc) #[Value.int .i64 0] (i5.below ((Below.refl _ _).alloc (Nat.le_refl _) _)) rfl); (rw [World.size_alloc] at HS6); clear HS4 HS1)
    | (go_at_call 16; refine HS6.mono ?_; rintro e w6 ⟨rfl, b6⟩; (have hb5 : Below w5.heap.size w5 w6 := (((Below.refl _ w5).alloc (Nat.le_refl _) _).alloc (by simp) _).trans (b6.mono (by simp; omega))); (have HF6 := HFR.out w6 _ _ _ _ _ (T5.below hb5)); (have HE : Hid (Below w.heap.size w w6) := HUP.out _ _ (B5.trans (TbBut.of_below hb5))); clear HS6 i5 T5 B5 b6 hb5)
    | (go_at_call 13; refine HF6.mono ?_; rintro e w7 ⟨rfl, b7⟩))
  go_ret
  exact ⟨rfl, HE.out.trans (b7.mono HE.out.size)⟩
end Go.Proofs.YtcejpeohkgchdaaDoor
namespace Go.Proofs.YtcejpeohkgchdaaDoor
open Go.RowKit

theorem rowSame {w w' : World} {base : Nat} {e : TypeId} {size : Nat} {v : Value} {n : Nat} {xs : List Value} (h : w.ownsRow base e size v n xs) (hb : ∀ (k : Nat) (cur : Array Value), v.ownBlock = some k → w.heap[k]? = some (.cells cur e (0, 0)) → w'.heap[k]? = some (.cells cur e (0, 0))) : w'.ownsRow base e size v n xs := by
  refine ⟨h.1, ?_⟩
  rcases h.2 with h2 | ⟨g, cap, cur, e1, e2, e3, e4⟩
  · exact .inl h2
  · exact .inr ⟨g, cap, cur, e1, e2, hb g cur (by rw [e1]; rfl) e3, e4⟩
theorem rowTy {w : World} {base : Nat} {e : TypeId} {size : Nat} {v : Value} {n : Nat} {xs : List Value} (h : w.ownsRow base e size v n xs) {g : Nat} (hg : v.ownBlock = some g) : ∃ cur, w.heap[g]? = some (.cells cur e (0, 0)) := by
  rcases h.2 with ⟨h2, _⟩ | ⟨g', cap, cur, e1, e2, e3, e4⟩
  · rw [h2] at hg; cases hg
  · rw [e1] at hg
    simp only [Value.ownBlock, Option.some.injEq] at hg
    subst hg
    exact ⟨cur, e3⟩
def liV (k : Nat) : Value := .int .i64 (k : Int)
/-- The table, the data and the links. -/
structure LAt (w0 : World) (T0 tb bb sp sb cap mb n : Nat) (bl : List (List UInt8)) (u : List Bool) (tab : List (Option Ino)) (da : List ByteArray) (li : List Nat) (dv lv : Value) (W : World) : Prop where
  t : TbAt W (fun g => lv.ownBlock = some g) T0 tb bb sp sb cap mb n bl u tab
  d : W.ownsRow T0 9 1 dv da.length (da.map Value.string)
  l : W.ownsRow T0 3 1 lv li.length (li.map liV)
  b : Below T0 w0 W
  s : T0 ≤ w0.heap.size
namespace LAt
variable {w0 W W' : World} {T0 tb bb sp sb cap mb n n' : Nat} {bl bl' : List (List UInt8)} {u u' : List Bool} {tab tab' : List (Option Ino)} {da da' : List ByteArray} {li li' : List Nat} {dv lv dv' lv' : Value}
theorem size (L : LAt w0 T0 tb bb sp sb cap mb n bl u tab da li dv lv W) : T0 ≤ W.heap.size := Nat.le_trans L.s L.b.size
theorem below (L : LAt w0 T0 tb bb sp sb cap mb n bl u tab da li dv lv W) (h : Below W.heap.size W W') : LAt w0 T0 tb bb sp sb cap mb n bl u tab da li dv lv W' :=
  ⟨L.t.below h, rowSame L.d fun k _ _ hk => (h.block k (Array.getElem?_eq_some_iff.1 hk).1).trans hk, rowSame L.l fun k _ _ hk => (h.block k (Array.getElem?_eq_some_iff.1 hk).1).trans hk, L.b.trans (h.mono L.size), L.s⟩
theorem but (L : LAt w0 T0 tb bb sp sb cap mb n bl u tab da li dv lv W) (T : TbAt W' (fun g => lv.ownBlock = some g) T0 tb bb sp sb cap mb n' bl' u' tab') (B : TbBut T0 mb W W') : LAt w0 T0 tb bb sp sb cap mb n' bl' u' tab' da li dv lv W' :=
  ⟨T, rowSame L.d fun k _ _ hk => B.block k _ hk (.inr rfl), rowSame L.l fun k _ _ hk => B.block k _ hk (.inr rfl), B.below (Nat.le_refl _) L.size L.b, L.s⟩
theorem data (L : LAt w0 T0 tb bb sp sb cap mb n bl u tab da li dv lv W) (d' : W'.ownsRow T0 9 1 dv' da'.length (da'.map Value.string)) (hg : W.grownBy W' dv.ownBlock) : LAt w0 T0 tb bb sp sb cap mb n bl u tab da' li dv' lv W' := by
  have hk : ∀ (k : Nat) (o : Obj), W.heap[k]? = some o → (∀ cur, o ≠ .cells cur 9 (0, 0)) → W'.heap[k]? = some o := fun k o ho hne => by
    rw [hg.block k (Array.getElem?_eq_some_iff.1 ho).1 (fun e => ?_)]
    · exact ho
    · obtain ⟨cur, hc⟩ := rowTy L.d e.symm
      rw [hc] at ho; cases ho
      exact hne cur rfl
  have ht : Turn (fun o => match o with | .cells _ t f => t == 9 && f == (0, 0) | _ => false) W W' := fun k o ho hp => hk k o ho (fun cur e => by rw [e] at hp; simp at hp)
  refine ⟨?_, d', rowSame L.l fun k cur _ h => hk k _ h (fun cur e => by simp only [Obj.cells.injEq] at e; exact absurd e.2.1 (by decide)), L.b.grown hg L.size (fun k e => (World.ownsRow.lt L.d k e).1), L.s⟩
  obtain ⟨f, N⟩ := L.t.nodes
  exact ⟨ht _ _ L.t.box rfl, L.t.disk.turn ht (fun _ _ => rfl) (fun _ _ => rfl) (fun _ _ => rfl), L.t.space.turn ht (fun _ _ => rfl) (fun _ _ => rfl), ⟨f, N.turn ht (fun _ _ => rfl) (fun _ _ => rfl) (fun _ _ => rfl)⟩, L.t.low⟩
theorem links (L : LAt w0 T0 tb bb sp sb cap mb n bl u tab da li dv lv W) (l' : W'.ownsRow T0 3 1 lv' li'.length (li'.map liV)) (hg : W.grownBy W' lv.ownBlock) (hloc : lv'.ownBlock = lv.ownBlock ∨ lv'.ownBlock = some W.heap.size) : LAt w0 T0 tb bb sp sb cap mb n bl u tab da li' dv lv' W' := by
  have hre : ∀ (g : Nat) (cur : Array Value), W.heap[g]? = some (.cells cur 3 (0, 0)) → (lv'.ownBlock = some g ∨ lv.ownBlock = some g) → lv.ownBlock = some g := fun g cur hg2 h => by
    rcases h with h | h
    · rcases hloc with e | e
      · rw [← e]; exact h
      · rw [e] at h; cases h
        have := (Array.getElem?_eq_some_iff.1 hg2).1
        omega
    · exact h
  have T1 := L.t.reF (F' := fun g => lv'.ownBlock = some g ∨ lv.ownBlock = some g) hre
  have T2 := T1.keepF (w' := W') (fun k o ho hne => by
    rw [hg.block k (Array.getElem?_eq_some_iff.1 ho).1 (fun e => ?_)]
    · exact ho
    · obtain ⟨cur, hc⟩ := rowTy L.l e.symm
      rw [hc] at ho; cases ho
      exact hne cur rfl (.inr e.symm))
  refine ⟨T2.reF fun g _ _ h => .inl h, rowSame L.d fun k cur _ h => ?_, l', L.b.grown hg L.size (fun k e => (World.ownsRow.lt L.l k e).1), L.s⟩
  rw [hg.block k (Array.getElem?_eq_some_iff.1 h).1 (fun e => ?_)]
  · exact h
  · obtain ⟨cur', hc⟩ := rowTy L.l e.symm
    rw [hc] at h
    simp only [Option.some.injEq, Obj.cells.injEq] at h
    exact absurd h.2.1 (by decide)
theorem dat (L : LAt w0 T0 tb bb sp sb cap mb n bl u tab da li dv lv W) {k : Nat} {d : ByteArray} (hk : da[k]? = some d) : ∃ g c, dv = .slice (some ⟨g, 0, none⟩) da.length c ∧ W.cell? ⟨g, k, none⟩ = some (.string d) ∧ W.frozen? ⟨g, k, none⟩ = false ∧ ∀ s : ByteArray, LAt w0 T0 tb bb sp sb cap mb n bl u tab (da.set k s) li dv lv (W.setCell ⟨g, k, none⟩ (.string s)) := by
  have hlt := (List.getElem?_eq_some_iff.1 hk).1
  rcases L.d.2 with ⟨_, h0⟩ | ⟨g, c, cur, e, _⟩
  · omega
  · have hd := L.d
    rw [e] at hd
    refine ⟨g, c, e, ?_, World.ownsRow.frozenAt hd k, fun s => ?_⟩
    · rw [World.ownsRow.cellAt hd k (by omega), List.getElem?_map, hk]; rfl
    · have h2 := World.ownsRow.stored hd k (.string s)
      refine L.data (dv' := dv) ?_ ?_
      · rw [e, List.length_set, List.map_set]; exact h2.1
      · rw [e]; exact ⟨rfl, rfl, rfl, by simp [World.setCell], fun q _ hq => Below.heap_setCell _ _ _ _ (fun e2 => hq (by rw [e2]; rfl))⟩
theorem lnk (L : LAt w0 T0 tb bb sp sb cap mb n bl u tab da li dv lv W) {k v : Nat} (hk : li[k]? = some v) : ∃ g c, lv = .slice (some ⟨g, 0, none⟩) li.length c ∧ W.cell? ⟨g, k, none⟩ = some (.int .i64 (v : Int)) ∧ W.frozen? ⟨g, k, none⟩ = false ∧ ∀ x : Nat, LAt w0 T0 tb bb sp sb cap mb n bl u tab da (li.set k x) dv lv (W.setCell ⟨g, k, none⟩ (.int .i64 (x : Int))) := by
  have hlt := (List.getElem?_eq_some_iff.1 hk).1
  rcases L.l.2 with ⟨_, h0⟩ | ⟨g, c, cur, e, _⟩
  · omega
  · have hd := L.l
    rw [e] at hd
    refine ⟨g, c, e, ?_, World.ownsRow.frozenAt hd k, fun x => ?_⟩
    · rw [World.ownsRow.cellAt hd k (by omega), List.getElem?_map, hk]; rfl
    · have h2 := World.ownsRow.stored hd k (liV x)
      refine L.links (lv' := lv) ?_ ?_ (.inl rfl)
      · rw [e, List.length_set, List.map_set]; exact h2.1
      · rw [e]; exact ⟨rfl, rfl, rfl, by simp [World.setCell], fun q _ hq => Below.heap_setCell _ _ _ _ (fun e2 => hq (by rw [e2]; rfl))⟩
end LAt

/-- The blocks of the first inodes. -/
def blocksTo (tab : List (Option Ino)) (k : Nat) : List Nat := (List.range k).flatMap fun j => match slotT tab j with
  | some x => x.blocks
  | none => []
theorem blocksTo_some {tab : List (Option Ino)} {k : Nat} {x : Ino} (h : slotT tab k = some x) : blocksTo tab (k + 1) = blocksTo tab k ++ x.blocks := by
  unfold blocksTo
  rw [List.range_succ, List.flatMap_append]
  simp [h]
theorem blocksTo_none {tab : List (Option Ino)} {k : Nat} (h : slotT tab k = none) : blocksTo tab (k + 1) = blocksTo tab k := by
  unfold blocksTo
  rw [List.range_succ, List.flatMap_append]
  simp [h]
theorem mem_blocksTo {tab : List (Option Ino)} {k b : Nat} : b ∈ blocksTo tab k ↔ ∃ j x, j < k ∧ slotT tab j = some x ∧ b ∈ x.blocks := by
  unfold blocksTo
  rw [List.mem_flatMap]
  constructor
  · rintro ⟨j, hj, hb⟩
    cases h : slotT tab j with
    | none => rw [h] at hb; simp at hb
    | some x => rw [h] at hb; exact ⟨j, x, by simpa using hj, h, hb⟩
  · rintro ⟨j, x, hj, h, hb⟩
    exact ⟨j, by simpa using hj, by rw [h]; exact hb⟩
theorem blocksTo_nodup {N : Nat} {bl : List (List UInt8)} {u : List Bool} {tab : List (Option Ino)} (S : SInv N bl u tab) : ∀ k, (blocksTo tab k).Nodup
  | 0 => by simp [blocksTo]
  | k + 1 => by
    cases h : slotT tab k with
    | none => rw [blocksTo_none h]; exact blocksTo_nodup S k
    | some x =>
      rw [blocksTo_some h, List.nodup_append]
      refine ⟨blocksTo_nodup S k, (S.own k x h).1, fun a ha b hb e => ?_⟩
      subst e
      obtain ⟨j, y, hj, hy, hby⟩ := mem_blocksTo.1 ha
      have := S.one j k y x a hy h hby hb
      omega
theorem SInv.free_len {N : Nat} {bl : List (List UInt8)} {u : List Bool} {tab : List (Option Ino)} (S : SInv N bl u tab) : (freeR u).length + (blocksTo tab tab.length).length = N := by
  have h1 := free_used_len u
  have h2 : (usedR u).Perm (blocksTo tab tab.length) := (List.perm_ext_iff_of_nodup (whereR_nodup _ _ _) (blocksTo_nodup S _)).2 fun b => by
    show b ∈ usedR u ↔ _
    rw [mem_used, mem_blocksTo]
    constructor
    · intro hb
      obtain ⟨k, x, hx, h⟩ := S.all b hb
      exact ⟨k, x, slotT_lt hx, hx, h⟩
    · rintro ⟨k, x, _, hx, h⟩
      exact (S.own k x hx).2.1 b h
  rw [← h2.length_eq, h1, S.lu]
/-- A block that comes next is not marked yet. -/
theorem SInv.fresh {N : Nat} {bl : List (List UInt8)} {u : List Bool} {tab : List (Option Ino)} (S : SInv N bl u tab) {k i b : Nat} {x : Ino} (hx : slotT tab k = some x) (hi : x.blocks[i]? = some b) : (markR (List.replicate N false) true (blocksTo tab k ++ x.blocks.take i))[b]? = some false := by
  have hb := List.mem_of_getElem? hi
  rw [markR_not, List.getElem?_replicate, if_pos (S.lt hx b hb)]
  intro hm
  rcases List.mem_append.1 hm with hm | hm
  · obtain ⟨j, y, hj, hy, hby⟩ := mem_blocksTo.1 hm
    have := S.one j k y x b hy hx hby hb
    omega
  · obtain ⟨hil, e⟩ := List.getElem?_eq_some_iff.1 hi
    obtain ⟨q, hq, eq⟩ := List.mem_take_iff_getElem.1 hm
    have := (List.pairwise_iff_getElem.1 (S.own k x hx).1) q i (by omega) hil (by omega)
    exact this (by rw [eq, e])
end Go.Proofs.YtcejpeohkgchdaaDoor
namespace Go.Proofs.YtcejpeohkgchdaaDoor
open Go.RowKit

/-- The errors of package api that inode hands back. -/
structure ErsAt (w : World) (T0 : Nat) : Prop where
  b : ∃ p, w.cell? ⟨0, 0, none⟩ = some (.iface 119 p)
  f : ∃ p, w.cell? ⟨1, 0, none⟩ = some (.iface 119 p)
  n : ∃ p, w.cell? ⟨2, 0, none⟩ = some (.iface 119 p)
  s : ∃ p, w.cell? ⟨3, 0, none⟩ = some (.iface 119 p)
  lt : 0 < T0 ∧ 1 < T0 ∧ 2 < T0 ∧ 3 < T0
theorem ErsAt.below {w w' : World} {T0 : Nat} (E : ErsAt w T0) (h : Below T0 w w') : ErsAt w' T0 := by
  obtain ⟨b, f, n, s, l1, l2, l3, l4⟩ := E
  obtain ⟨b, hb⟩ := b
  obtain ⟨f, hf⟩ := f
  obtain ⟨n, hn⟩ := n
  obtain ⟨s, hs⟩ := s
  refine ⟨⟨b, ?_⟩, ⟨f, ?_⟩, ⟨n, ?_⟩, ⟨s, ?_⟩, l1, l2, l3, l4⟩
  · rw [h.cell (p := ⟨0, 0, none⟩) l1]; exact hb
  · rw [h.cell (p := ⟨1, 0, none⟩) l2]; exact hf
  · rw [h.cell (p := ⟨2, 0, none⟩) l3]; exact hn
  · rw [h.cell (p := ⟨3, 0, none⟩) l4]; exact hs
section
variable {w0 W : World} {T0 tb bb sp sb cap mb n N : Nat} {bl : List (List UInt8)} {u : List Bool} {tab : List (Option Ino)} {da : List ByteArray} {li : List Nat} {dv lv : Value}
theorem LAt.ers (L : LAt w0 T0 tb bb sp sb cap mb n bl u tab da li dv lv W) (E : ErsAt w0 T0) : ErsAt W T0 := E.below L.b
theorem LAt.Flt (L : LAt w0 T0 tb bb sp sb cap mb n bl u tab da li dv lv W) : ∀ g, lv.ownBlock = some g → g < W.heap.size := fun g h => (World.ownsRow.lt L.l g h).2
theorem j_make (s : ByteArray) (ex : Bool) (hs : s.size ≤ 1000000) (hn : n < 100000) (L : LAt w0 T0 tb bb sp sb cap mb n bl u tab da li dv lv W) (K : KInv N bl u tab da li) (E : ErsAt w0 T0) :
    Calls Tryd.prog 7 #[.pointer (some ⟨tb, 0, none⟩), .string s, .bool ex] W fun e w' =>
      (∃ p, e = .returned (.tuple #[.int .i64 0, .iface 119 p]) ∧ LAt w0 T0 tb bb sp sb cap mb n bl u tab da li dv lv w' ∧ TbBut T0 mb W w') ∨
      (∃ bl' u' tab', e = .returned (.tuple #[.int .i64 (nextR tab : Int), .nilIface]) ∧ LAt w0 T0 tb bb sp sb cap mb (n + 1) bl' u' tab' da li dv lv w' ∧ KInv N bl' u' tab' (putL da (nextR tab) s) (putL li (nextR tab) 1) ∧ TbBut T0 mb W w') := by
  have EW := L.ers E
  by_cases h1 : 2000 < s.size
  · obtain ⟨p, hp⟩ := EW.b
    refine (im_make_big s ex h1 hs _ (.pointer (some ⟨tb, 0, none⟩)) W hp).mono ?_
    rintro e w' ⟨rfl, hb⟩
    exact .inl ⟨p, rfl, L.below hb, TbBut.of_below hb⟩
  · by_cases h2 : (freeR u).length < needN s.size
    · obtain ⟨p, hp⟩ := EW.f
      refine (im_make_full s ex (by omega) h2 119 p W L.t hp).mono ?_
      rintro e w' ⟨rfl, hb⟩
      exact .inl ⟨p, rfl, L.below hb, TbBut.of_below hb⟩
    · obtain ⟨p, hp⟩ := EW.b
      refine (im_make s ex _ (by omega) rfl (by omega) hn (by rw [K.sp.lu, K.sp.lbl]) _ W L.t hp EW.lt.1 L.size L.Flt).mono ?_
      rintro e w' ⟨rfl, T, B⟩
      exact .inr ⟨_, _, _, rfl, L.but T B, K.make (by omega) rfl (by omega), B⟩
theorem j_link_none (k : Int) (hk : (Lit.int .i64 k).wf = true) (hx : slotI tab k = none) (L : LAt w0 T0 tb bb sp sb cap mb n bl u tab da li dv lv W) (E : ErsAt w0 T0) :
    Calls Tryd.prog 8 #[.pointer (some ⟨tb, 0, none⟩), .int .i64 k] W fun e w' => (∃ p, e = .returned (.iface 119 p)) ∧ w' = W := by
  obtain ⟨p, hp⟩ := (L.ers E).n
  exact (im_link_none k hk hx _ W L.t hp).mono fun e w' ⟨h1, h2⟩ => ⟨⟨p, h1⟩, h2⟩
theorem j_unlink_none (k : Int) (hk : (Lit.int .i64 k).wf = true) (hx : slotI tab k = none) (L : LAt w0 T0 tb bb sp sb cap mb n bl u tab da li dv lv W) (E : ErsAt w0 T0) :
    Calls Tryd.prog 9 #[.pointer (some ⟨tb, 0, none⟩), .int .i64 k] W fun e w' => (∃ p, e = .returned (.iface 119 p)) ∧ w' = W := by
  obtain ⟨p, hp⟩ := (L.ers E).n
  exact (im_unlink_none k hk hx _ W L.t hp).mono fun e w' ⟨h1, h2⟩ => ⟨⟨p, h1⟩, h2⟩
theorem j_link (k : Nat) (x : Ino) (hx : slotT tab k = some x) (hl : x.links ≤ 1000000) (L : LAt w0 T0 tb bb sp sb cap mb n bl u tab da li dv lv W) (K : KInv N bl u tab da li) :
    Calls Tryd.prog 8 #[.pointer (some ⟨tb, 0, none⟩), .int .i64 (k : Int)] W fun e w' => ∃ tab', e = .returned .nilIface ∧ LAt w0 T0 tb bb sp sb cap mb n bl u tab' da li dv lv w' ∧ KInv N bl u tab' da (li.set k (x.links + 1)) ∧ TbBut T0 mb W w' :=
  (im_link k x hx hl W L.t).mono fun e w' ⟨h1, T, B⟩ => ⟨_, h1, L.but T B, K.links hx (by omega), B⟩
theorem j_unlink (k l : Nat) (x : Ino) (hx : slotT tab k = some x) (hxl : x.links = l + 1) (hl : l ≤ 1000000) (L : LAt w0 T0 tb bb sp sb cap mb n bl u tab da li dv lv W) (K : KInv N bl u tab da li) (E : ErsAt w0 T0) :
    Calls Tryd.prog 9 #[.pointer (some ⟨tb, 0, none⟩), .int .i64 (k : Int)] W fun e w' => ∃ u' tab', e = .returned .nilIface ∧ LAt w0 T0 tb bb sp sb cap mb n bl u' tab' da li dv lv w' ∧ KInv N bl u' tab' da (li.set k l) ∧ TbBut T0 mb W w' := by
  by_cases h0 : l = 0
  · subst h0
    have EW := L.ers E
    obtain ⟨p, hp⟩ := EW.b
    obtain ⟨q, hq⟩ := EW.n
    obtain ⟨_, _, _, h4, h5⟩ := K.sp.own k x hx
    have hle : x.blocks.length ≤ 1000 := by rw [h5]; unfold needN; omega
    refine (im_unlink_last k x _ _ hx hxl W L.t hp hq ⟨EW.lt.1, EW.lt.2.2.1⟩ (fun b hb => by rw [K.sp.lu]; exact K.sp.lt hx b hb) (K.sp.gives hx) (by omega)).mono ?_
    rintro e w' ⟨h1, T, B⟩
    exact ⟨_, _, h1, L.but T B, K.drop hx, B⟩
  · refine (im_unlink k l x hx hxl (by omega) hl W L.t).mono ?_
    rintro e w' ⟨h1, T, B⟩
    exact ⟨_, _, h1, L.but T B, K.links hx (by omega), B⟩
theorem j_read_none (k : Nat) (hk : k ≤ 1000000) (hx : slotT tab k = none) (L : LAt w0 T0 tb bb sp sb cap mb n bl u tab da li dv lv W) (E : ErsAt w0 T0) :
    Calls Tryd.prog 10 #[.pointer (some ⟨tb, 0, none⟩), .int .i64 (k : Int)] W fun e w' => (∃ p, e = .returned (.tuple #[.string { data := #[] }, .iface 119 p])) ∧ Below W.heap.size W w' := by
  obtain ⟨p, hp⟩ := (L.ers E).n
  exact (im_read_none (k : Int) (wf_nat hk) (by rw [slotI_nat]; exact hx) _ W L.t hp).mono fun e w' ⟨h1, h2⟩ => ⟨⟨p, h1⟩, h2⟩
theorem j_read (k : Nat) (x : Ino) (d : ByteArray) (hx : slotT tab k = some x) (hd : da[k]? = some d) (L : LAt w0 T0 tb bb sp sb cap mb n bl u tab da li dv lv W) (K : KInv N bl u tab da li) (E : ErsAt w0 T0) :
    Calls Tryd.prog 10 #[.pointer (some ⟨tb, 0, none⟩), .int .i64 (k : Int)] W fun e w' => e = .returned (.tuple #[.string d, .nilIface]) ∧ Below W.heap.size W w' := by
  obtain ⟨p, hp⟩ := (L.ers E).s
  obtain ⟨_, d', e1, e2, e3, e4⟩ := K.yes k x hx
  rw [hd] at e1; cases e1
  obtain ⟨_, _, _, h4, h5⟩ := K.sp.own k x hx
  have hb : x.blocks.length ≤ 1000 := by rw [h5]; unfold needN; omega
  have h := im_read k x _ hx (by rw [e4, e3]) W L.t (fun b hb => by rw [K.sp.lbl]; exact K.sp.lt hx b hb) hb (by omega) hp
  rw [e4] at h
  exact h
theorem j_stat (k : Nat) (x : Ino) (hx : slotT tab k = some x) (L : LAt w0 T0 tb bb sp sb cap mb n bl u tab da li dv lv W) (K : KInv N bl u tab da li) :
    Calls Tryd.prog 11 #[.pointer (some ⟨tb, 0, none⟩), .int .i64 (k : Int)] W fun e w' => ∃ ad vc, e = .returned (.tuple #[.agg #[.int .i64 (x.bytes : Int), .int .i64 (x.links : Int), .bool x.exec, .slice ad x.blocks.length vc, .int .u32 (x.sum : Int)], .bool true]) ∧ IntsT w' (.slice ad x.blocks.length vc) (ints x.blocks) ∧ Below W.heap.size W w' := by
  obtain ⟨_, _, _, h4, h5⟩ := K.sp.own k x hx
  refine (im_stat k x hx (by rw [h5]; unfold needN; omega) W L.t).mono ?_
  rintro e w' ⟨v, rfl, iv, hb⟩
  obtain ⟨ad, vc, rfl⟩ : ∃ ad vc, v = .slice ad x.blocks.length vc := by
    obtain ⟨ad, vc, e, _⟩ := iv
    exact ⟨ad, vc, by rw [e, ints_len]⟩
  exact ⟨ad, vc, rfl, iv, hb⟩
end
end Go.Proofs.YtcejpeohkgchdaaDoor
