/-
  The contract of the law's AsTable: a table has what its model has.
  The law 'InodeActs': any acts on a table.
  Arguments that are numbers.
  An argument that is acts on files.
  Conditions: those that each states.
-/
import Derived.Test.YtcejpeohkgchdaaGreatDoorQ24
import Derived.Test.YtcejpeohkgchdaaGreatDoorQ25
import Derived.Test.YtcejpeohkgchdaaGreatDoorQ27
import Derived.Test.YtcejpeohkgchdaaGreatDoorQ04
import Derived.Test.YtcejpeohkgchdaaGreatDoorRows
import Derived.ProofKit
import Derived.SizedLaws
import Derived.ChangeSlices
import Derived.Deep.Slices
import Derived.Lib.SmallJoins
import Derived.ChangeSame
import Derived.ChangeVars
import Derived.Carry
import Derived.Test.YtcejpeohkgchdaaGreatDoorQ26
namespace Go.Proofs.YtcejpeohkgchdaaGreatDoor
open Go.RowKit

section
variable {w0 W : World} {T0 tb bb mt md i N : Nat} {bl : List (List UInt8)} {u : List Bool} {tab : List (Option Ino)} {a : Nat → Addr}
theorem q_read (k : Nat) (x : Ino) (hx : slotT tab k = some x) (Q : QAt w0 T0 tb bb mt md i bl u tab W) (P : PInv N i bl u tab) (S : Sents a w0) :
    Calls Tryz.prog 14 #[.pointer (some ⟨tb, 0, none⟩), .int .i64 (k : Int)] W fun e w1 => ∃ s ev c, e = .returned (.tuple #[.string s, ev]) ∧ Below W.heap.size W w1 ∧ Calls Tryz.prog 63 #[.pointer (some ⟨mt, 0, none⟩), .int .i64 (k : Int)] w1 fun e2 w2 => e2 = .returned (.tuple #[.string s, .int .i64 c]) ∧ Below W.heap.size W w2 ∧ Calls Tryz.prog 15 #[ev, .int .i64 c] w2 fun e3 w3 => e3 = .returned (.bool true) ∧ Below W.heap.size W w3 := by
  have SW := Q.sents S
  obtain ⟨sp, sb, cap, mb, n, hn, T⟩ := Q.t
  obtain ⟨la, lc, ia, ic, vs, M⟩ := Q.m
  obtain ⟨p1, p2, p3, p4⟩ := P.need hx
  by_cases hc : crcR (readD bl x.blocks x.bytes) = x.sum
  · refine (im_read k x _ hx hc W T p4 p1 (by omega) SW.c10).mono fun e w1 ⟨he, hb⟩ => ⟨_, _, 0, he, hb, ?_⟩
    refine (m_read k x hx w1 (M.below hb) p4 T.disk.bl16 p1 p3).mono fun e2 w2 ⟨he2, hb2⟩ => ⟨?_, hb.trans (hb2.mono hb.size), ?_⟩
    · rw [he2]; unfold readM; rw [if_pos hc]
    · refine (coded_nil 0 w2).mono fun e3 w3 ⟨he3, h3⟩ => ⟨by rw [he3]; rfl, by rw [h3]; exact hb.trans (hb2.mono hb.size)⟩
  · refine (im_read_bad k x _ hx hc W T p4 p1 (by omega) SW.c10).mono fun e w1 ⟨he, hb⟩ => ⟨_, _, 11, he, hb, ?_⟩
    refine (m_read k x hx w1 (M.below hb) p4 T.disk.bl16 p1 p3).mono fun e2 w2 ⟨he2, hb2⟩ => ⟨?_, hb.trans (hb2.mono hb.size), ?_⟩
    · rw [he2]; unfold readM; rw [if_neg hc]
    · have hb12 := hb.trans (hb2.mono hb.size)
      refine (coded_sent a 10 11 w2 (SW.below hb12) (by decide)).mono fun e3 w3 ⟨he3, h3⟩ => ⟨by rw [he3]; rfl, hb12.trans (h3.mono hb12.size)⟩
set_option maxRecDepth 100000 in
set_option maxHeartbeats 4000000 in
theorem asTable_any (hi : i ≤ 900) (Q : QAt w0 T0 tb bb mt md i bl u tab W) (P : PInv N i bl u tab) (S : Sents a w0) :
    Calls Tryz.prog 17 #[.pointer (some ⟨tb, 0, none⟩), .pointer (some ⟨mt, 0, none⟩)] W fun e w' => e = .returned (.int .i64 1) ∧ Below W.heap.size W w' := by
  obtain ⟨sp, sb, cap, mb, n, hn, T⟩ := Q.t
  obtain ⟨la, lc, ia, ic, vs, M⟩ := Q.m
  have hlen := Q.len.1
  have hO := P.ok (by omega)
  have hbl : bl.length ≤ 512 := by rw [P.sp.lbl]; exact P.n5
  have hF := P.sp.freeM
  rw [← P.sp.lbl] at hF
  have HAL : Hid (Calls Tryz.prog 31 #[.pointer (some ⟨tb, 0, none⟩)] W fun e w1 => ∃ ad vc, e = .returned (.slice ad (allT tab).length vc) ∧ IntsT w1 (.slice ad (allT tab).length vc) (ints (allT tab)) ∧ Below W.heap.size W w1) := (im_all W T).mono fun e w1 ⟨v, he, ho, hb⟩ => by
    obtain ⟨ad, vc, rfl⟩ := own_form ho
    exact ⟨ad, vc, he, ho.t, hb⟩
  have HFM : Hid (∀ w1, Below W.heap.size W w1 → Calls Tryz.prog 61 #[.pointer (some ⟨mt, 0, none⟩)] w1 fun e w2 => ∃ ad vc, e = .returned (.slice ad (freeR u).length vc) ∧ Below w1.heap.size w1 w2 ∧ Below W.heap.size W w2) := fun w1 h1 => (m_free w1 (M.below h1) hO hbl).mono fun e w2 ⟨v, he, ho, hb⟩ => by
    rw [hF] at ho
    obtain ⟨ad, vc, rfl⟩ := own_form ho
    exact ⟨ad, vc, he, hb, h1.trans (hb.mono h1.size)⟩
  have HMA : Hid (∀ w1, Below W.heap.size W w1 → Calls Tryz.prog 62 #[.pointer (some ⟨mt, 0, none⟩)] w1 fun e w2 => ∃ ad vc, e = .returned (.slice ad (allT tab).length vc) ∧ IntsT w2 (.slice ad (allT tab).length vc) (ints (allT tab)) ∧ Below w1.heap.size w1 w2 ∧ Below W.heap.size W w2) := fun w1 h1 => (m_all w1 (M.below h1) (by omega)).mono fun e w2 ⟨v, he, ho, hb⟩ => by
    have ho2 : OwnI w2 w1.heap.size v (allT tab) := ho
    obtain ⟨ad, vc, rfl⟩ := own_form ho2
    exact ⟨ad, vc, he, ho2.t, hb, h1.trans (hb.mono h1.size)⟩
  have HFR : Hid (∀ w1, Below W.heap.size W w1 → Calls Tryz.prog 39 #[.pointer (some ⟨tb, 0, none⟩)] w1 fun e w2 => e = .returned (.int .i64 ((freeR u).length : Int)) ∧ Below w1.heap.size w1 w2 ∧ Below W.heap.size W w2) := fun w1 h1 => (im_free w1 (T.below h1)).mono fun e w2 ⟨he, hb⟩ => ⟨he, hb, h1.trans (hb.mono h1.size)⟩
  have HSI : Hid (∀ w1 v1 v2 l, IntsT w1 v1 l → IntsT w1 v2 l → l.length ≤ 100000 → Calls Tryz.prog 45 #[v1, v2] w1 fun e w2 => e = .returned (.bool true) ∧ Below w1.heap.size w1 w2) := fun w1 v1 v2 l h1 h2 hl => sameInts_any v1 v2 l w1 h1.at h2.at hl
  have HST : Hid (∀ w1 k x, slotT tab k = some x → Below W.heap.size W w1 → Calls Tryz.prog 13 #[.pointer (some ⟨tb, 0, none⟩), .int .i64 (k : Int)] w1 fun e w2 => ∃ ad vc, e = .returned (.tuple #[.agg #[.int .i64 (x.bytes : Int), .int .i64 (x.links : Int), .bool x.exec, .slice ad x.blocks.length vc, .int .u32 (x.sum : Int)], .bool true]) ∧ IntsT w2 (.slice ad x.blocks.length vc) (ints x.blocks) ∧ Below w1.heap.size w1 w2) := fun w1 k x hx h1 => (im_stat k x hx (by have := (P.need hx).1; omega) w1 (T.below h1)).mono fun e w2 ⟨v, he, hv, hb⟩ => by
    obtain ⟨ad, vc, rfl, h⟩ := id hv
    rw [ints_len] at hv he
    exact ⟨ad, vc, he, hv, hb⟩
  have HSL : Hid (∀ w1 k x, slotT tab k = some x → Below W.heap.size W w1 → w1.cell? ⟨mt, 1, none⟩ = some (.slice ia tab.length ic) ∧ ∃ g ad vc, ia = some ⟨g, 0, none⟩ ∧ w1.cell? ⟨g, k * 6, none⟩ = some (.bool true) ∧ w1.cell? ⟨g, k * 6 + 1, none⟩ = some (.int .i64 (x.bytes : Int)) ∧ w1.cell? ⟨g, k * 6 + 2, none⟩ = some (.int .i64 (x.links : Int)) ∧ w1.cell? ⟨g, k * 6 + 3, none⟩ = some (.bool x.exec) ∧ w1.cell? ⟨g, k * 6 + 4, none⟩ = some (.slice ad x.blocks.length vc) ∧ w1.cell? ⟨g, k * 6 + 5, none⟩ = some (.int .i64 (x.sum : Int)) ∧ IntsT w1 (.slice ad x.blocks.length vc) (ints x.blocks)) := fun w1 k x hx h1 => by
    have M1 := M.below h1
    refine ⟨M1.cells.2.1, ?_⟩
    obtain ⟨v, g, hv, e, hc, _⟩ := M1.slot (slotT_get hx)
    have iv := M1.its k x v (slotT_get hx) hv
    obtain ⟨ad, vc, rfl, h⟩ := id iv
    rw [ints_len] at iv hc
    exact ⟨g, ad, vc, e, hc 0 _ rfl, hc 1 _ rfl, hc 2 _ rfl, hc 3 _ rfl, hc 4 _ rfl, hc 5 _ rfl, iv⟩
  have HRD : Hid (∀ w1 k x, slotT tab k = some x → Below W.heap.size W w1 → Calls Tryz.prog 14 #[.pointer (some ⟨tb, 0, none⟩), .int .i64 (k : Int)] w1 fun e w2 => ∃ s ev c, e = .returned (.tuple #[.string s, ev]) ∧ Below w1.heap.size w1 w2 ∧ Calls Tryz.prog 63 #[.pointer (some ⟨mt, 0, none⟩), .int .i64 (k : Int)] w2 fun e2 w3 => e2 = .returned (.tuple #[.string s, .int .i64 c]) ∧ Below w1.heap.size w1 w3 ∧ Calls Tryz.prog 15 #[ev, .int .i64 c] w3 fun e3 w4 => e3 = .returned (.bool true) ∧ Below w1.heap.size w1 w4) := fun w1 k x hx h1 => q_read k x hx (Q.below h1) P S
  have HSM : Hid (∀ j, j < (allT tab).length → ∃ k x, (allT tab)[j]? = some k ∧ slotT tab k = some x ∧ k < tab.length ∧ x.blocks.length ≤ 1000 ∧ x.sum < 4294967296) := fun j hj => by
    obtain ⟨x, hx⟩ := allT_mem.1 (List.getElem_mem hj)
    exact ⟨_, x, List.getElem?_eq_getElem hj, hx, slotT_lt hx, (P.need hx).1, (P.li _ x hx).2⟩
  have hal := allT_len tab
  have HIA : Hid (∀ {w1 : World} {ad : Option Addr} {vc j k : Nat}, IntsT w1 (.slice ad (allT tab).length vc) (ints (allT tab)) → (allT tab)[j]? = some k → ∃ b off, ad = some ⟨b, off, none⟩ ∧ w1.cell? ⟨b, off + j, none⟩ = some (.int .i64 (k : Int))) := fun h hk => by
    obtain ⟨ad', c', e, hc⟩ := h.at
    simp only [Value.slice.injEq] at e
    obtain ⟨b, off, e2, hc2⟩ := hc _ _ (by unfold ints; rw [List.getElem?_map, hk]; rfl)
    exact ⟨b, off, by rw [e.1, e2], hc2⟩
  clear M T Q P S hO hF hn
  obtain ⟨al, Hal⟩ : ∃ al, Hid (al = ints (allT tab)) := ⟨_, (rfl : _ = _)⟩
  rw [← Hal.out] at HAL HMA HIA
  obtain ⟨LL, HLL⟩ : ∃ LL, Hid (LL = (allT tab).length) := ⟨_, (rfl : _ = _)⟩
  have hal2 : al.length ≤ 100000 := by rw [Hal.out, ints_len]; omega
  rw [← HLL.out] at HAL HMA HIA HSM hal
  clear HLL Hal
  generalize (freeR u).length = FR at *
  go_enter Tryz.func17, Tryz.ntmps17
  go_wp2_with (first
    | (go_at_call 31; refine HAL.out.mono ?_; rintro e w1 ⟨ad1, vc1, rfl, i1, b1⟩; clear HAL)
    | (go_at_call 61; refine (HFM.out _ b1).mono ?_; rintro e w2 ⟨ad2, vc2, rfl, b12, b2⟩; clear HFM)
    | (go_at_call 62; refine (HMA.out _ b2).mono ?_; rintro e w3 ⟨ad3, vc3, rfl, i3, b23, b3⟩; clear HMA)
    | (go_at_call 45; refine (HSI.out _ _ _ al (i1.below (b12.trans (b23.mono b12.size))) i3 hal2).mono ?_; rintro e w4 ⟨rfl, b34⟩)
    | (go_at_call 39; refine (HFR.out _ (b3.trans (b34.mono b3.size))).mono ?_; rintro e w5 ⟨rfl, b45, b5⟩; clear HFR))
  have I5 : IntsT w5 (.slice ad1 LL vc1) al := i1.below ((b12.trans (b23.mono b12.size)).trans ((b34.trans (b45.mono b34.size)).mono (Nat.le_trans b12.size b23.size)))
  have HI5 : Hid (IntsT w5 (.slice ad1 LL vc1) al) := I5
  have HB5 : Hid (Below W.heap.size W w5) := b5
  clear I5 b5 i1 i3 b1 b2 b3 b12 b23 b34 b45
  go_loopw [7] (fun i wr => ∃ j : Nat, j ≤ LL ∧ i = .int .i64 j ∧ Below w5.heap.size w5 wr) (fun i _ => LL - (intOf i).toNat)
  case atStart => exact ⟨0, Nat.zero_le _, rfl, Below.refl _ _⟩
  case round =>
    obtain ⟨j, hj, rfl, hb⟩ := hrel
    have HB : Hid (Below w5.heap.size w5 wr) := hb
    clear hb
    by_cases hlt : j < LL
    · obtain ⟨k, x, hk, hx, hkl, hbl2, hsum⟩ := HSM.out j hlt
      have HBW : Hid (Below W.heap.size W wr) := HB5.out.trans (HB.out.mono HB5.out.size)
      obtain ⟨b0, off, rfl, c0⟩ := HIA.out (HI5.out.below HB.out) hk
      have HX := HST.out wr k x hx HBW.out
      have HIL : Hid ((ints x.blocks).length ≤ 100000) := by show _ ≤ _; rw [ints_len]; omega
      have HXX : Hid (slotT tab k = some x) := hx
      clear hk hx
      go_wp2_with (first
        | (go_at_call 13; refine HX.mono ?_; rintro e w6 ⟨ad6, vc6, rfl, i6, b6⟩; (have HB6 : Hid (Below W.heap.size W (w6.alloc (.cells #[.int .i64 (x.bytes : Int), .int .i64 (x.links : Int), .bool x.exec, .slice ad6 x.blocks.length vc6, .int .u32 (x.sum : Int)] 39))) := ((HBW.out.trans (b6.mono HBW.out.size)).alloc (HBW.out.trans (b6.mono HBW.out.size)).size _)); (obtain ⟨cm1, g, ad7, vc7, rfl, d0, d1, d2, d3, d4, d5, i7⟩ := HSL.out (w6.alloc (.cells #[.int .i64 (x.bytes : Int), .int .i64 (x.links : Int), .bool x.exec, .slice ad6 x.blocks.length vc6, .int .u32 (x.sum : Int)] 39)) k x HXX.out HB6.out); (have HI6 : Hid (IntsT w6 (.slice ad6 x.blocks.length vc6) (ints x.blocks)) := i6); (have HI7 : Hid (IntsT (w6.alloc (.cells #[.int .i64 (x.bytes : Int), .int .i64 (x.links : Int), .bool x.exec, .slice ad6 x.blocks.length vc6, .int .u32 (x.sum : Int)] 39)) (.slice ad7 x.blocks.length vc7) (ints x.blocks)) := i7); (have HBB6 : Hid (Below wr.heap.size wr w6) := b6); clear i6 i7 b6 HX)
        | (go_at_call 45; refine (HSI.out _ _ _ (ints x.blocks) (HI6.out.below (((Below.refl _ w6).alloc (Nat.le_refl _) _).alloc (by simp) _)) (HI7.out.below ((Below.refl _ _).alloc (Nat.le_refl _) _)) HIL.out).mono ?_; rintro e w8 ⟨rfl, b8⟩; (have HB8 : Hid (Below W.heap.size W w8) := (HB6.out.alloc HB6.out.size _).trans (b8.mono (by have := HB6.out.size; simp at this ⊢; omega))); (have HC8 : Hid (Below wr.heap.size wr w8) := (((HBB6.out.alloc HBB6.out.size _).alloc (by have := HBB6.out.size; simp; omega) _).trans (b8.mono (by have := HBB6.out.size; simp; omega)))); (have HR8 := HRD.out w8 k x HXX.out HB8.out); clear b8)
        | (go_at_call 14; refine HR8.mono ?_; rintro e w9 ⟨s, ev, c, rfl, b9, HR9⟩; clear b9 HR8)
        | (go_at_call 63; refine HR9.mono ?_; rintro e w10 ⟨rfl, b10, HR10⟩; clear b10 HR9)
        | (go_at_call 15; refine HR10.mono ?_; rintro e w11 ⟨rfl, b11⟩; clear HR10))
      have hb11 := HC8.out.trans (b11.mono HC8.out.size)
      exact ⟨⟨j + 1, by omega, by simp, HB.out.trans (hb11.mono HB.out.size)⟩, by simp [intOf]; omega⟩
    · obtain rfl : j = LL := by omega
      go_wp2_with fail
      go_ret
      exact ⟨rfl, HB5.out.trans (HB.out.mono HB5.out.size)⟩
end
end Go.Proofs.YtcejpeohkgchdaaGreatDoor
namespace Go.Proofs.YtcejpeohkgchdaaGreatDoor
open Go.RowKit

theorem im_new_nil (er : Value) (w : World) (hE : w.cell? ⟨0, 0, none⟩ = some er) : Calls Tryz.prog 12 #[.pointer none] w fun e w' => e = .returned (.tuple #[.pointer none, er]) ∧ Below w.heap.size w w' := by
  go_enter Tryz.func12, Tryz.ntmps12
  go_wp2_with fail
  go_region
  all_goals
    go_wp2_with fail
    go_ret2
    exact ⟨rfl, (Below.refl _ _).drew⟩
theorem QEnd.mono {w0 : World} {T0 tb bb mt md N i i' : Nat} {w' : World} (h : QEnd w0 T0 tb bb mt md N i w') (hi : i ≤ i') : QEnd w0 T0 tb bb mt md N i' w' := by
  obtain ⟨bl, u, tab, Q, P⟩ := h
  exact ⟨bl, u, tab, Q.mono hi, P.mono hi⟩
theorem q_start {N : Nat} (h1 : 1 ≤ N) (h2 : N ≤ 512) (W : World) :
    Calls Tryz.prog 10 #[.int .i64 (N : Int)] W fun e w' => ∃ tb bb mt md, e = .returned (.tuple #[.pointer (some ⟨tb, 0, none⟩), .pointer (some ⟨mt, 0, none⟩), .bool true]) ∧ QEnd W W.heap.size tb bb mt md N 0 w' :=
  (tableOf_any (fun _ => False) W.heap.size N h1 h2 W (Nat.le_refl _)).mono fun e w' ⟨tb, bb, sp, sb, cap, mb, md, mt, he, T, ⟨⟨la, lc, D⟩, hm, l1, l2⟩, hb⟩ =>
    ⟨tb, bb, mt, md, he, _, _, [], ⟨⟨sp, sb, cap, mb, 0, Nat.le_refl _, T⟩, ⟨la, lc, none, 0, [], hm, D, World.ownsRow_nil _ _ _ _, rfl, fun k x v h => by simp at h⟩, hb, rfl, l1, l2⟩, SInv.start N, h2, fun k x h => by simp [slotT] at h⟩
set_option maxRecDepth 100000 in
set_option maxHeartbeats 4000000 in
theorem inodeActs_any (a : Nat → Addr) (M : Int) (l : List FAct) (v : Value) (k : Int) (hk : (Lit.int .i64 k).wf = true) (w : World) (hv : FActsAt w v l) (S : Sents a w) :
    Calls Tryz.prog 3 #[.int .i64 M, v, .int .i64 k] w fun e w' => e = .returned (.bool true) ∧ Below w.heap.size w w' := by
  have HMD := made_any _ _ w S.c1 S.c10
  have HLF : Hid (∀ W, Below w.heap.size w W → Calls Tryz.prog 9 #[v] W fun e w' => (∃ r, e = .returned (.bool r) ∧ (r = false → Shorts l)) ∧ w' = W) := fun W hW => longFiles_any v l W (hv.below hW)
  obtain ⟨ad, vcap, rfl, hcs⟩ := id hv
  have HV : Hid (∀ (i : Nat) (x : FAct), l[i]? = some x → (Lit.int .i64 x.n).wf = true ∧ ∃ b off, ad = some ⟨b, off, none⟩ ∧ ∀ W, Below w.heap.size w W → (W.cell? ⟨b, off + i * 5, none⟩ = some (.string x.kind) ∧ W.cell? ⟨b, off + i * 5 + 1, none⟩ = some (.string x.s) ∧ W.cell? ⟨b, off + i * 5 + 2, none⟩ = some (.bool x.exec) ∧ W.cell? ⟨b, off + i * 5 + 3, none⟩ = some (.int .i64 x.n) ∧ W.cell? ⟨b, off + i * 5 + 4, none⟩ = some (.int .i64 x.bit))) := fun i x ha => by
    obtain ⟨h1, _, _, b, off, e, c0, c1, c2, c3, c4⟩ := hcs i x ha
    have hlt : b < w.heap.size := World.block_lt_of_cell? w _ c0
    refine ⟨h1, b, off, e, fun W hW => ⟨?_, ?_, ?_, ?_, ?_⟩⟩
    · rw [hW.cell (p := ⟨b, off + i * 5, none⟩) hlt]; exact c0
    · rw [hW.cell (p := ⟨b, off + i * 5 + 1, none⟩) hlt]; exact c1
    · rw [hW.cell (p := ⟨b, off + i * 5 + 2, none⟩) hlt]; exact c2
    · rw [hW.cell (p := ⟨b, off + i * 5 + 3, none⟩) hlt]; exact c3
    · rw [hW.cell (p := ⟨b, off + i * 5 + 4, none⟩) hlt]; exact c4
  have HS : Hid (Sents a w) := S
  clear hv hcs S
  by_cases hM : 1 ≤ M ∧ M ≤ 40
  · obtain ⟨N, rfl⟩ : ∃ N : Nat, M = (N : Int) := ⟨M.toNat, by omega⟩
    have hN1 : 1 ≤ N := by omega
    have hN2 : N ≤ 40 := by omega
    have hi1 : ¬ (N : Int) < 1 := by omega
    have hi2 : ¬ (40 : Int) < (N : Int) := by omega
    clear hM
    go_enter Tryz.func3, Tryz.ntmps3
    go_wp2_with (first
      | (go_at_call 8; refine HMD.mono ?_; rintro e w1 ⟨rfl, hb1⟩; clear HMD)
      | (go_at_call 9; refine (HLF.out _ hb1).mono ?_; rintro e w2 ⟨⟨r, rfl, hr⟩, hw⟩; rw [hw]; clear hw; (have HR : Hid _ := hr); clear hr; cases r))
    · obtain ⟨hl40, hsh⟩ := HR.out (by first | rfl | trivial)
      have HSH : Hid (∀ x ∈ l, x.s.size ≤ 120 ∨ x.s.size = 2001) := hsh
      have HB1 : Hid (Below w.heap.size w w1) := hb1
      refine Calls.mono (q_start hN1 (by omega) w1) ?_
      rintro e w3 ⟨tb, bb, mt, md, rfl, Q0⟩
      obtain ⟨T0, HT0⟩ : ∃ T0, Hid (T0 = w1.heap.size) := ⟨_, (rfl : w1.heap.size = _)⟩
      rw [← HT0.out] at Q0
      have HQ0 : Hid (QEnd w1 T0 tb bb mt md N 0 w3) := Q0
      have HS1 : Hid (Sents a w1) := HS.out.below hb1
      have HUP : Hid (∀ i W, QEnd w1 T0 tb bb mt md N i W → Below w.heap.size w W) := fun i W ⟨_, _, _, Q, _⟩ => HB1.out.trans (Q.b.mono (by rw [HT0.out]; exact HB1.out.size))
      clear Q0 hsh HLF hb1 HR HS
      go_wp2_with fail
      clear hi1 hi2
      generalize decide ((N : Int) < 1) = z1
      generalize decide ((40 : Int) < (N : Int)) = z2
      go_loopw [11] (fun i wr => ∃ j : Nat, j ≤ l.length ∧ i = .int .i64 j ∧ QEnd w1 T0 tb bb mt md N j wr) (fun i _ => l.length - (intOf i).toNat)
      case atStart => exact ⟨0, Nat.zero_le _, rfl, HQ0.out⟩
      case round =>
        obtain ⟨j, hj, rfl, hq⟩ := hrel
        have HQ : Hid (QEnd w1 T0 tb bb mt md N j wr) := hq
        clear hq
        by_cases hlt : j < l.length
        · obtain ⟨x, hx⟩ : ∃ x, l[j]? = some x := ⟨_, List.getElem?_eq_getElem hlt⟩
          obtain ⟨hn, b, off, rfl, hc⟩ := HV.out j x hx
          obtain ⟨c0, c1, c2, c3, c4⟩ := hc wr (HUP.out _ _ HQ.out)
          have hs := HSH.out x (List.mem_of_getElem? hx)
          have HA : Hid (Calls Tryz.prog 11 #[.pointer (some ⟨tb, 0, none⟩), .pointer (some ⟨mt, 0, none⟩), .agg #[.string x.kind, .string x.s, .bool x.exec, .int .i64 x.n, .int .i64 x.bit]] wr fun e w' => e = .returned (.bool true) ∧ QEnd w1 T0 tb bb mt md N (j + 1) w') := by
            obtain ⟨bl, u, tab, Q, P⟩ := HQ.out
            exact act_any x hn (by omega) (by omega) Q P HS1.out
          clear hx hc hn hs
          cases km : (x.kind.toList == [109, 101, 110, 100]) with
          | true =>
            go_wp2_with fail
            exact ⟨⟨j + 1, by omega, by simp, HQ.out.mono (by omega)⟩, by simp [intOf]; omega⟩
          | false =>
            go_wp2_with (go_at_call 11; refine HA.out.mono ?_; rintro e w4 ⟨rfl, hq4⟩)
            exact ⟨⟨j + 1, by omega, by simp, hq4⟩, by simp [intOf]; omega⟩
        · obtain rfl : j = l.length := by omega
          obtain ⟨bl, u, tab, Q, P⟩ := id HQ.out
          have SW := Q.sents HS1.out
          obtain ⟨sp, sb, cap, mb, n, hnn, T⟩ := Q.t
          obtain ⟨la, lc, ia, ic, vs, MM⟩ := Q.m
          have HBW : Hid (Below w.heap.size w wr) := HUP.out _ _ HQ.out
          have HNW : Hid (Calls Tryz.prog 12 #[.pointer none] wr fun e w' => e = .returned (.tuple #[.pointer none, .iface 316 (.pointer (some (a 2)))]) ∧ Below wr.heap.size wr w') := im_new_nil _ wr SW.c2
          have HCD : Hid (∀ (W : World) (n : Nat) (c : Int), c = (n : Int) + 1 → n < 13 → Below wr.heap.size wr W → Calls Tryz.prog 15 #[.iface 316 (.pointer (some (a n))), .int .i64 c] W fun e w' => e = .returned (.bool true) ∧ Below W.heap.size W w' ∧ Below wr.heap.size wr w') := fun W n c hc hn hW => (coded_sent a n c W (SW.below hW) hn).mono fun e w' ⟨he, hb⟩ => ⟨by rw [he, decide_eq_true hc], hb, hW.trans (hb.mono hW.size)⟩
          have HIS : Hid (∀ W, Below wr.heap.size wr W → Calls Tryz.prog 16 #[.pointer (some ⟨mt, 0, none⟩), .int .i64 k] W fun e w' => e = .returned (.bool (slotI tab k).isSome) ∧ w' = W) := fun W hW => m_is k W (MM.below hW)
          have HAS : Hid (∀ W, Below wr.heap.size wr W → Calls Tryz.prog 17 #[.pointer (some ⟨tb, 0, none⟩), .pointer (some ⟨mt, 0, none⟩)] W fun e w' => e = .returned (.int .i64 1) ∧ Below wr.heap.size wr w') := fun W hW => (asTable_any (by omega) (Q.below hW) P HS1.out).mono fun e w' ⟨he, hb⟩ => ⟨he, hW.trans (hb.mono hW.size)⟩
          cases hx : slotI tab k with
          | none =>
            have HC2 := HCD
            have HST : Hid (∀ W, Below wr.heap.size wr W → Calls Tryz.prog 13 #[.pointer (some ⟨tb, 0, none⟩), .int .i64 k] W fun e w' => e = .returned (.tuple #[.agg #[.int .i64 0, .int .i64 0, .bool false, .slice none 0 0, .int .u32 0], .bool false]) ∧ Below wr.heap.size wr w') := fun W hW => (im_stat_none k hk hx W (T.below hW)).mono fun e w' ⟨he, hb⟩ => ⟨he, hW.trans (hb.mono hW.size)⟩
            have HRD : Hid (∀ W, Below wr.heap.size wr W → Calls Tryz.prog 14 #[.pointer (some ⟨tb, 0, none⟩), .int .i64 k] W fun e w' => e = .returned (.tuple #[.string { data := #[] }, .iface 316 (.pointer (some (a 5)))]) ∧ Below W.heap.size W w' ∧ Below wr.heap.size wr w') := fun W hW => (im_read_none k hk hx _ W (T.below hW) (SW.below hW).c5).mono fun e w' ⟨he, hb⟩ => ⟨he, hb, hW.trans (hb.mono hW.size)⟩
            rw [hx] at HIS
            clear hx Q P SW T MM HQ HQ0 HV HSH
            go_wp2_with (first
              | (go_at_call 12; refine HNW.out.mono ?_; rintro e w5 ⟨rfl, b5⟩)
              | (go_at_call 13; refine (HST.out _ b5).mono ?_; rintro e w6 ⟨rfl, b6⟩; (have HB6 : Hid (Below wr.heap.size wr (w6.alloc (.cells #[.int .i64 0, .int .i64 0, .bool false, .slice none 0 0, .int .u32 0] 39))) := b6.alloc b6.size _); (have HBX6 : Hid ((w6.alloc (.cells #[.int .i64 0, .int .i64 0, .bool false, .slice none 0 0, .int .u32 0] 39)).heap[w6.heap.size]? = some (.cells #[.int .i64 0, .int .i64 0, .bool false, .slice none 0 0, .int .u32 0] 39 (0, 0))) := heap_alloc_last w6 _); clear b6)
              | (go_at_call 14; refine (HRD.out _ HB6.out).mono ?_; rintro e w7 ⟨rfl, b67, b7⟩)
              | (go_at_call 15; refine (HC2.out _ 2 3 (by rfl) (by decide) b7).mono ?_; clear HC2; rintro e w8 ⟨rfl, b78, b8⟩; (have hbx8 := (b78.block _ (Nat.lt_of_lt_of_le (by simp) b67.size)).trans ((b67.block w6.heap.size (by simp)).trans HBX6.out)); (have cx0 : w8.cell? ⟨w6.heap.size, 0, none⟩ = some (.int .i64 0) := (by rw [cell_of_row _ _ _ _ _ _ hbx8]; rfl)); (have cx1 : w8.cell? ⟨w6.heap.size, 1, none⟩ = some (.int .i64 0) := (by rw [cell_of_row _ _ _ _ _ _ hbx8]; rfl)); (have cx3 : w8.cell? ⟨w6.heap.size, 3, none⟩ = some (.slice none 0 0) := (by rw [cell_of_row _ _ _ _ _ _ hbx8]; rfl)); clear hbx8 b67 b78)
              | (go_at_call 16; refine (HIS.out _ b8).mono ?_; rintro e w9 ⟨rfl, hw⟩; rw [hw]; clear hw)
              | (go_at_call 15; refine (HCD.out _ 5 6 (by rfl) (by decide) b8).mono ?_; rintro e w10 ⟨rfl, b910, b10⟩)
              | (go_at_call 17; refine (HAS.out _ b10).mono ?_; rintro e w11 ⟨rfl, b11⟩))
            go_ret
            exact ⟨rfl, HBW.out.trans (b11.mono HBW.out.size)⟩
          | some x =>
            obtain ⟨q, rfl, hq⟩ := slotI_some hx
            have HST : Hid (∀ W, Below wr.heap.size wr W → Calls Tryz.prog 13 #[.pointer (some ⟨tb, 0, none⟩), .int .i64 (q : Int)] W fun e w' => ∃ ax cx, e = .returned (.tuple #[.agg #[.int .i64 (x.bytes : Int), .int .i64 (x.links : Int), .bool x.exec, .slice ax x.blocks.length cx, .int .u32 (x.sum : Int)], .bool true]) ∧ Below wr.heap.size wr w') := fun W hW => (im_stat q x hq (by have := (P.need hq).1; omega) W (T.below hW)).mono fun e w' ⟨v, he, hv, hb⟩ => by
              obtain ⟨ax, cx, rfl, _⟩ := hv
              rw [ints_len] at he
              exact ⟨ax, cx, he, hW.trans (hb.mono hW.size)⟩
            have HRD : Hid (∀ W, Below wr.heap.size wr W → Calls Tryz.prog 14 #[.pointer (some ⟨tb, 0, none⟩), .int .i64 (q : Int)] W fun e w' => ∃ s ev, e = .returned (.tuple #[.string s, ev]) ∧ Below wr.heap.size wr w') := fun W hW => (q_read q x hq (Q.below hW) P HS1.out).mono fun e w' ⟨s, ev, c, he, hb, _⟩ => ⟨s, ev, he, hW.trans (hb.mono hW.size)⟩
            rw [hx] at HIS
            clear hx hq Q P SW T MM HQ HQ0 HV HSH
            go_wp2_with (first
              | (go_at_call 12; refine HNW.out.mono ?_; rintro e w5 ⟨rfl, b5⟩)
              | (go_at_call 13; refine (HST.out _ b5).mono ?_; rintro e w6 ⟨ax, cx, rfl, b6⟩; (have HB6 : Hid (Below wr.heap.size wr (w6.alloc (.cells #[.int .i64 (x.bytes : Int), .int .i64 (x.links : Int), .bool x.exec, .slice ax x.blocks.length cx, .int .u32 (x.sum : Int)] 39))) := b6.alloc b6.size _); clear b6)
              | (go_at_call 14; refine (HRD.out _ HB6.out).mono ?_; rintro e w7 ⟨s, ev, rfl, b7⟩)
              | (go_at_call 15; refine (HCD.out _ 2 3 (by rfl) (by decide) b7).mono ?_; rintro e w8 ⟨rfl, b78, b8⟩; clear b78)
              | (go_at_call 16; refine (HIS.out _ b8).mono ?_; rintro e w9 ⟨rfl, hw⟩; rw [hw]; clear hw)
              | (go_at_call 17; refine (HAS.out _ b8).mono ?_; rintro e w11 ⟨rfl, b11⟩))
            go_ret
            exact ⟨rfl, HBW.out.trans (b11.mono HBW.out.size)⟩
    · go_wp2_with fail
      go_ret
      exact ⟨rfl, hb1⟩
  · by_cases hM1 : M < 1
    · go_enter Tryz.func3, Tryz.ntmps3
      go_wp2_with (go_at_call 8; refine HMD.mono ?_; rintro e w1 ⟨rfl, hb1⟩)
      go_ret
      exact ⟨rfl, hb1⟩
    · have hM2 : (40 : Int) < M := by omega
      go_enter Tryz.func3, Tryz.ntmps3
      go_wp2_with (go_at_call 8; refine HMD.mono ?_; rintro e w1 ⟨rfl, hb1⟩)
      go_ret
      exact ⟨rfl, hb1⟩
end Go.Proofs.YtcejpeohkgchdaaGreatDoor
namespace Go.Proofs.YtcejpeohkgchdaaGreatDoor
open Go.ChangeShapes Go.WideShapes Go.RowKit

theorem own_knob : ownKnob Tryz.prog.godebug = none := by kernel_rfl
theorem laid_out : laidOutB Tryz.prog = true := by kernel_rfl
theorem cellsI : Tryz.prog.cellsOf 3 = 1 := by kernel_rfl
theorem cellsIs : Tryz.prog.cellsOf 36 = 1 := by kernel_rfl

section
variable {H : Type} {enc : TypeId × Value → H} {w : World}
theorem ints_of_trod {n : Nat} {v : Value} {x : DataW H × List MemPlace} (h : DataW.trod enc Tryz.prog w 0 (fun _ => true) true n 36 [v] = some x) : ∃ l, IntsAt w v l := by
  rcases open_ints Tryz.underlying36 Tryz.underlying3 cellsI h with ⟨e, _⟩ | ⟨a, len, cap, zs, e, _, hlc, _, hzl, _, hc, _⟩
  · simp only [List.cons.injEq, and_true] at e
    subst e
    exact ⟨[], IntsAt.nil _⟩
  · simp only [List.cons.injEq, and_true] at e
    subst e
    have hzl' : zs.length = cap := by rw [hzl]; rfl
    refine ⟨zs.take len, some a, cap, by rw [List.length_take, Nat.min_eq_left (by omega)], fun i y hy => ?_⟩
    have hi : i < len := by have := (List.getElem?_eq_some_iff.1 hy).1; rw [List.length_take] at this; omega
    rw [List.getElem?_take_of_lt hi] at hy
    have hc0 := hc i (by omega)
    have hg : zs.getD i 0 = y := by simp [List.getD, hy]
    rw [hg] at hc0
    obtain ⟨b, off, spot⟩ := a
    have h0 := hc 0 (by omega)
    have hsp : spot = none := by simpa [Addr.add] using World.cell?_spot h0
    subst hsp
    refine ⟨b, off, rfl, ?_⟩
    rw [Addr.add_mid] at hc0
    exact hc0

set_option maxRecDepth 100000 in
theorem ints_arg {base : Nat} {v : Value} {d : DataW H} {p : List MemPlace} (hval : Value.okWide Tryz.prog w .any base 36 v) (h : DataW.Trod enc Tryz.prog w 0 (fun _ => true) true 36 v d p) : ∃ l, IntsAt w v l := by
  obtain ⟨va, vn, vc, rfl⟩ := okWide_slice Tryz.underlying36 hval
  obtain ⟨fuel, hf⟩ := h
  exact ints_of_trod hf
end
end Go.Proofs.YtcejpeohkgchdaaGreatDoor
namespace Go.Proofs.YtcejpeohkgchdaaGreatDoor
open Go.ChangeShapes Go.WideShapes Go.RowKit

theorem cellsFS : Tryz.prog.cellsOf 9 = 1 := by kernel_rfl
theorem cellsFB : Tryz.prog.cellsOf 4 = 1 := by kernel_rfl
theorem cellsFAct : Tryz.prog.cellsOf 30 = 5 := by kernel_rfl
theorem fiveF {α : Type} : ∀ {l : List α}, l.length = 5 → ∃ a b c d e, l = [a, b, c, d, e]
  | [a, b, c, d, e], _ => ⟨a, b, c, d, e, rfl⟩

section
variable {H : Type} {enc : TypeId × Value → H} {w : World}
set_option maxRecDepth 100000 in
theorem facts_of_trod {n : Nat} {v : Value} {x : DataW H × List MemPlace} (h : DataW.trod enc Tryz.prog w 0 (fun _ => true) true n 22 [v] = some x) : ∃ l, FActsAt w v l := by
  rcases DataW.trod_slice Tryz.underlying22 h with ⟨hcs, _⟩ | ⟨a, len, cap, elems, rest, m, hfuel, hcs, hx, _, hlc, _, hel, hE, _, _⟩
  · simp only [List.cons.injEq, and_true] at hcs
    subst hcs
    exact ⟨[], none, 0, rfl, fun i x hx => by simp at hx⟩
  · simp only [List.cons.injEq, and_true] at hcs
    subst hcs; subst hfuel
    have hone : ∀ i, i < len → ∃ p : FAct, (Lit.int .i64 p.n).wf = true ∧ (Lit.int .i64 p.bit).wf = true ∧ p.s.size ≤ maxLen ∧ ∃ b off, a = ⟨b, off, none⟩ ∧ w.cell? ⟨b, off + i * 5, none⟩ = some (.string p.kind) ∧ w.cell? ⟨b, off + i * 5 + 1, none⟩ = some (.string p.s) ∧ w.cell? ⟨b, off + i * 5 + 2, none⟩ = some (.bool p.exec) ∧ w.cell? ⟨b, off + i * 5 + 3, none⟩ = some (.int .i64 p.n) ∧ w.cell? ⟨b, off + i * 5 + 4, none⟩ = some (.int .i64 p.bit) := by
      intro i hi
      have hb := hE i hi
      rw [cellsFAct] at hb
      obtain ⟨el, he⟩ : ∃ el, elems[i]? = some el := ⟨elems[i]'(by omega), List.getElem?_eq_getElem (by omega)⟩
      rw [he] at hb
      obtain ⟨cs, hc, ht⟩ := Option.bind_eq_some_iff.1 hb
      obtain ⟨_, hcl, hcc⟩ := World.cells?_some hc
      obtain ⟨xs, m1, hm1, hx1, _, hxl, hf⟩ := DataW.trod_struct Tryz.underlying30 ht
      obtain ⟨z0, z1, z2, z3, z4, rfl⟩ := fiveF (show xs.length = 5 from hxl)
      obtain ⟨c0, c1, c2, c3, c4, rfl⟩ := fiveF hcl
      have h0 : DataW.trod enc Tryz.prog w 0 (fun _ => true) true m1 9 ([c0, c1, c2, c3, c4].take (Tryz.prog.cellsOf 9)) = some z0 := hf 0 _ rfl
      have h1 : DataW.trod enc Tryz.prog w 0 (fun _ => true) true m1 9 ([c1, c2, c3, c4].take (Tryz.prog.cellsOf 9)) = some z1 := hf 1 _ rfl
      have h2 : DataW.trod enc Tryz.prog w 0 (fun _ => true) true m1 4 ([c2, c3, c4].take (Tryz.prog.cellsOf 4)) = some z2 := hf 2 _ rfl
      have h3 : DataW.trod enc Tryz.prog w 0 (fun _ => true) true m1 3 ([c3, c4].take (Tryz.prog.cellsOf 3)) = some z3 := hf 3 _ rfl
      have h4 : DataW.trod enc Tryz.prog w 0 (fun _ => true) true m1 3 ([c4].take (Tryz.prog.cellsOf 3)) = some z4 := hf 4 _ rfl
      rw [cellsFS] at h0 h1
      rw [cellsFB] at h2
      rw [cellsI] at h3 h4
      obtain ⟨kind, e0, _, _⟩ := DataW.trod_string Tryz.underlying9 h0
      obtain ⟨s, e1, _, hs1⟩ := DataW.trod_string Tryz.underlying9 h1
      obtain ⟨ex, e2, _⟩ := DataW.trod_bool Tryz.underlying4 h2
      obtain ⟨k, e3, _, hw3⟩ := DataW.trod_int Tryz.underlying3 h3
      obtain ⟨bit, e4, _, hw4⟩ := DataW.trod_int Tryz.underlying3 h4
      simp only [List.take_succ_cons, List.take_zero, List.cons.injEq, and_true] at e0 e1 e2 e3 e4
      subst e0; subst e1; subst e2; subst e3; subst e4
      have k0 := hcc 0 (by omega)
      have k1 := hcc 1 (by omega)
      have k2 := hcc 2 (by omega)
      have k3 := hcc 3 (by omega)
      have k4 := hcc 4 (by omega)
      simp only [List.getElem?_cons_zero, List.getElem?_cons_succ] at k0 k1 k2 k3 k4
      obtain ⟨b, off, rfl⟩ : ∃ b off, a = ⟨b, off, none⟩ := by
        have hb0 := hE 0 (by omega)
        rw [cellsFAct] at hb0
        obtain ⟨el0, he0⟩ : ∃ el, elems[0]? = some el := ⟨elems[0]'(by omega), List.getElem?_eq_getElem (by omega)⟩
        rw [he0] at hb0
        obtain ⟨cs0, hc0, _⟩ := Option.bind_eq_some_iff.1 hb0
        obtain ⟨_, hcl0, hcc0⟩ := World.cells?_some hc0
        have j0 := hcc0 0 (by omega)
        rw [List.getElem?_eq_getElem (by omega)] at j0
        obtain ⟨b, off, spot⟩ := a
        have hsp : spot = none := by simpa [Addr.add] using World.cell?_spot j0
        subst hsp
        exact ⟨b, off, rfl⟩
      simp only [Addr.add_mid, Nat.add_zero] at k0 k1 k2 k3 k4
      exact ⟨⟨kind, s, ex, k, bit⟩, hw3, hw4, hs1, b, off, rfl, k0, k1, k2, k3, k4⟩
    haveI : Inhabited FAct := ⟨⟨ByteArray.empty, ByteArray.empty, false, 0, 0⟩⟩
    obtain ⟨f, hf⟩ := Deep.choose_lt hone
    refine ⟨(List.range len).map f, some a, cap, by simp, fun i y hy => ?_⟩
    have hi : i < len := by have := (List.getElem?_eq_some_iff.1 hy).1; simpa using this
    have ey : y = f i := by
      rw [List.getElem?_map, List.getElem?_range hi] at hy
      simpa using hy.symm
    subst ey
    obtain ⟨q1, q2, q3, b, off, e, q⟩ := hf i hi
    exact ⟨q1, q2, q3, b, off, by rw [e], q⟩
set_option maxRecDepth 100000 in
theorem facts_arg {base : Nat} {v : Value} {d : DataW H} {p : List MemPlace} (hval : Value.okWide Tryz.prog w .any base 22 v) (h : DataW.Trod enc Tryz.prog w 0 (fun _ => true) true 22 v d p) : ∃ l, FActsAt w v l := by
  obtain ⟨va, vn, vc, rfl⟩ := okWide_slice Tryz.underlying22 hval
  obtain ⟨fuel, hf⟩ := h
  exact facts_of_trod hf
end
end Go.Proofs.YtcejpeohkgchdaaGreatDoor
