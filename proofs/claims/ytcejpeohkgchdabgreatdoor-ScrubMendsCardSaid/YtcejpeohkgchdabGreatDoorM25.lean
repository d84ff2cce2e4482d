/-
  The laws scrubbed and ScrubMends: one bit of a file that is turned is found, and what was mended is read as it was.
  Conditions: those that each states.
-/
import Derived.Test.YtcejpeohkgchdabGreatDoorM24
import Derived.Test.YtcejpeohkgchdabGreatDoorM21
import Derived.Deep.DeepCutAuto
namespace Go.Proofs.YtcejpeohkgchdabGreatDoor
open Go.RowKit

theorem turnH_same {p : Obj → Bool} (w : World) : Turn p w w := fun _ _ hk _ => hk
theorem turnH_trans {p : Obj → Bool} {w1 w2 w3 : World} (h : Turn p w1 w2) (h' : Turn p w2 w3) : Turn p w1 w3 := fun k o hk hp => h' k o (h k o hk hp) hp
def abcB : ByteArray := ⟨#[97, 98, 99]⟩
def xA : Ino := ⟨3, 1, false, [0], crcR abcB⟩
set_option maxRecDepth 100000 in
set_option maxHeartbeats 2000000 in
theorem scrubbed_any (a : Nat → Addr) (w : World) (E : Sents a w) : Calls Tryz.prog 16 #[] w fun e w' => e = .returned (.bool true) ∧ Below w.heap.size w w' := by
  have HTO := tableOf_any (fun _ => False) w.heap.size 4 (by omega) (by omega) w (Nat.le_refl _)
  obtain ⟨bl1, hbl1⟩ : ∃ bl1, bl1 = writeR (List.replicate 4 zb) [0] abcB := ⟨_, rfl⟩
  obtain ⟨u1, hu1⟩ : ∃ u1, u1 = markR (List.replicate 4 false) true [0] := ⟨_, rfl⟩
  have hu0 : [0] = (freeR (List.replicate 4 false)).take (needN abcB.size) := by decide
  have S1 : SInv 4 bl1 u1 [some xA] := by
    have h := (SInv.start 4).make (data := abcB) (ex := false) (bks := [0]) (c := crcR abcB) (by decide) hu0 (by decide)
    rw [← hu1, ← hbl1] at h
    exact h
  have r1 : readD bl1 [0] 3 = abcB := by rw [hbl1]; exact readD_written (by simp) (by simp) (by decide)
  have k1 : okI bl1 xA = true := okI_of (d := abcB) r1 rfl
  obtain ⟨blk, hblk⟩ : ∃ blk, bl1[0]? = some blk := ⟨_, List.getElem?_eq_getElem (by rw [S1.lbl]; omega)⟩
  obtain ⟨bl2, hbl2⟩ : ∃ bl2, bl2 = bl1.set 0 (turnL blk 3) := ⟨_, rfl⟩
  have k2 : (∀ b ∈ bl1, b.length = 16) → okI bl2 xA = false := fun h => by
    refine decide_eq_false ?_
    show ¬ crcR (readD bl2 [0] 3) = crcR abcB
    rw [hbl2]
    have hf := rot_found (l := [0]) (i := 0) (b := 0) (bit := 3) (bytes := 3) h (fun k hk => by rw [S1.lbl, List.mem_singleton.1 hk]; omega) (by simp) rfl hblk (by omega) (by omega)
    rw [r1] at hf
    exact hf
  obtain ⟨bl3, hbl3⟩ : ∃ bl3, bl3 = writeR bl2 [0] abcB := ⟨_, rfl⟩
  have S2 : SInv 4 bl2 u1 [some xA] := by rw [hbl2]; exact S1.rot
  have r3 : readD bl3 [0] 3 = abcB := by rw [hbl3]; exact readD_written (by simp) (by rw [S2.lbl]; simp) (by decide)
  have k3 : okI bl3 xA = true := okI_of (d := abcB) r3 rfl
  have sA : slotT [some xA] 0 = some xA := rfl
  have HMK : Hid (∀ W tb bb sp sb cap mb, ScAt w tb bb sp sb cap mb 0 4 (List.replicate 4 zb) (List.replicate 4 false) [] W → Calls Tryz.prog 18 #[.pointer (some ⟨tb, 0, none⟩), .string ⟨#[97, 98, 99]⟩, .bool false] W fun e w' => e = .returned (.tuple #[.int .i64 0, .nilIface]) ∧ ScAt w tb bb sp sb cap mb 1 4 bl1 u1 [some xA] w') := fun W tb bb sp sb cap mb Z => by
    have h := sc_make E Z abcB false [0] (by decide) hu0 (by decide) (by omega)
    rw [← hu1, ← hbl1] at h
    exact h
  have HS1 : Hid (∀ W tb bb sp sb cap mb, ScAt w tb bb sp sb cap mb 1 4 bl1 u1 [some xA] W → Calls Tryz.prog 23 #[.pointer (some ⟨tb, 0, none⟩)] W fun e w' => ∃ ad vc, e = .returned (.slice ad 0 vc) ∧ ScAt w tb bb sp sb cap mb 1 4 bl1 u1 [some xA] w') := fun W tb bb sp sb cap mb Z => (sc_scan E Z [] (by rw [scan_one, k1]; rfl)).mono fun e w' ⟨ad, vc, he, _, _, Z'⟩ => ⟨ad, vc, he, Z'⟩
  have HDK : Hid (∀ W tb bb sp sb cap mb, ScAt w tb bb sp sb cap mb 1 4 bl1 u1 [some xA] W → Calls Tryz.prog 20 #[.pointer (some ⟨tb, 0, none⟩)] W fun e w' => e = .returned (.pointer (some ⟨bb + 1, 0, none⟩)) ∧ w' = W) := fun W tb bb sp sb cap mb Z => im_disk W Z.T
  have HRT : Hid (∀ W tb bb sp sb cap mb, ScAt w tb bb sp sb cap mb 1 4 bl1 u1 [some xA] W → Calls Tryz.prog 21 #[.pointer (some ⟨bb + 1, 0, none⟩), .int .i64 0, .int .i64 3] W fun e w' => e = .returned .nilIface ∧ (ScAt w tb bb sp sb cap mb 1 4 bl2 u1 [some xA] w' ∧ okI bl2 xA = false)) := fun W tb bb sp sb cap mb Z => (sc_rot Z 0 3 blk hblk (by omega)).mono fun e w' ⟨he, Z', _⟩ => ⟨he, by rw [hbl2]; exact Z', k2 Z.T.disk.bl16⟩
  have HS2 : Hid (∀ W tb bb sp sb cap mb, (ScAt w tb bb sp sb cap mb 1 4 bl2 u1 [some xA] W ∧ okI bl2 xA = false) → Calls Tryz.prog 23 #[.pointer (some ⟨tb, 0, none⟩)] W fun e w' => ∃ ad vc, e = .returned (.slice ad 1 vc) ∧ IntsT w' (.slice ad 1 vc) [0] ∧ (ScAt w tb bb sp sb cap mb 1 4 bl2 u1 [some xA] w' ∧ okI bl2 xA = false)) := fun W tb bb sp sb cap mb Z => (sc_scan E Z.1 [0] (by rw [scan_one, Z.2]; rfl)).mono fun e w' ⟨ad, vc, he, iv, _, Z'⟩ => ⟨ad, vc, he, iv, Z', Z.2⟩
  have HMD : Hid (∀ W tb bb sp sb cap mb, (ScAt w tb bb sp sb cap mb 1 4 bl2 u1 [some xA] W ∧ okI bl2 xA = false) → Calls Tryz.prog 25 #[.pointer (some ⟨tb, 0, none⟩), .int .i64 0, .string ⟨#[97, 98, 99]⟩] W fun e w' => e = .returned .nilIface ∧ ScAt w tb bb sp sb cap mb 1 4 bl3 u1 [some xA] w') := fun W tb bb sp sb cap mb Z => by
    have hr : mendR bl2 xA abcB = 2 := mend_bad rfl rfl Z.2
    refine (sc_mend E Z.1 0 xA abcB (by decide) sA).mono fun e w' h => ?_
    rw [hr] at h
    rcases h with ⟨h0, _⟩ | ⟨h0, _⟩ | ⟨_, he, Z'⟩
    · omega
    · omega
    · exact ⟨he, by rw [hbl3]; exact Z'⟩
  have HS3 : Hid (∀ W tb bb sp sb cap mb, ScAt w tb bb sp sb cap mb 1 4 bl3 u1 [some xA] W → Calls Tryz.prog 23 #[.pointer (some ⟨tb, 0, none⟩)] W fun e w' => ∃ ad vc, e = .returned (.slice ad 0 vc) ∧ Below w.heap.size w w') := fun W tb bb sp sb cap mb Z => (sc_scan E Z [] (by rw [scan_one, k3]; rfl)).mono fun e w' ⟨ad, vc, he, _, _, Z'⟩ => ⟨ad, vc, he, Z'.B⟩
  have HSI : Hid (∀ W v a, IntsT W v [0] → a = #[Value.int .i64 0] → Calls Tryz.prog 22 #[v, .slice (some ⟨W.heap.size, 0, none⟩) 1 1] (W.alloc (.cells a 3)) fun e w' => e = .returned (.bool true) ∧ Below (W.alloc (.cells a 3)).heap.size (W.alloc (.cells a 3)) w') := fun W v a h ha =>
    sameInts_any v _ [0] _ (h.below ((Below.refl _ _).alloc (Nat.le_refl _) _)).at (built_t W [0] a ha).at (by decide)
  obtain ⟨P1, hP1⟩ : ∃ P1 : Nat → Nat → Nat → Nat → Nat → Nat → World → Prop, P1 = fun tb bb sp sb cap mb W => ScAt w tb bb sp sb cap mb 1 4 bl1 u1 [some xA] W := ⟨_, rfl⟩
  obtain ⟨P2, hP2⟩ : ∃ P2 : Nat → Nat → Nat → Nat → Nat → Nat → World → Prop, P2 = fun tb bb sp sb cap mb W => (ScAt w tb bb sp sb cap mb 1 4 bl2 u1 [some xA] W ∧ okI bl2 xA = false) := ⟨_, rfl⟩
  obtain ⟨P3, hP3⟩ : ∃ P3 : Nat → Nat → Nat → Nat → Nat → Nat → World → Prop, P3 = fun tb bb sp sb cap mb W => ScAt w tb bb sp sb cap mb 1 4 bl3 u1 [some xA] W := ⟨_, rfl⟩
  have HB2 : Hid (∀ tb bb sp sb cap mb W W', P2 tb bb sp sb cap mb W → Below W.heap.size W W' → P2 tb bb sp sb cap mb W') := fun tb bb sp sb cap mb W W' h hb => by rw [hP2] at h ⊢; exact ⟨h.1.below hb, h.2⟩
  have GM : Hid (∀ W tb bb sp sb cap mb, ScAt w tb bb sp sb cap mb 0 4 (List.replicate 4 zb) (List.replicate 4 false) [] W → Calls Tryz.prog 18 #[.pointer (some ⟨tb, 0, none⟩), .string ⟨#[97, 98, 99]⟩, .bool false] W fun e w' => e = .returned (.tuple #[.int .i64 0, .nilIface]) ∧ P1 tb bb sp sb cap mb w') := by rw [hP1]; exact HMK.out
  have G1 : Hid (∀ W tb bb sp sb cap mb, P1 tb bb sp sb cap mb W → Calls Tryz.prog 23 #[.pointer (some ⟨tb, 0, none⟩)] W fun e w' => ∃ ad vc, e = .returned (.slice ad 0 vc) ∧ P1 tb bb sp sb cap mb w') := by rw [hP1]; exact HS1.out
  have GD : Hid (∀ W tb bb sp sb cap mb, P1 tb bb sp sb cap mb W → Calls Tryz.prog 20 #[.pointer (some ⟨tb, 0, none⟩)] W fun e w' => e = .returned (.pointer (some ⟨bb + 1, 0, none⟩)) ∧ w' = W) := by rw [hP1]; exact HDK.out
  have GR : Hid (∀ W tb bb sp sb cap mb, P1 tb bb sp sb cap mb W → Calls Tryz.prog 21 #[.pointer (some ⟨bb + 1, 0, none⟩), .int .i64 0, .int .i64 3] W fun e w' => e = .returned .nilIface ∧ P2 tb bb sp sb cap mb w') := by rw [hP1, hP2]; exact HRT.out
  have G2 : Hid (∀ W tb bb sp sb cap mb, P2 tb bb sp sb cap mb W → Calls Tryz.prog 23 #[.pointer (some ⟨tb, 0, none⟩)] W fun e w' => ∃ ad vc, e = .returned (.slice ad 1 vc) ∧ IntsT w' (.slice ad 1 vc) [0] ∧ P2 tb bb sp sb cap mb w') := by rw [hP2]; exact HS2.out
  have GE : Hid (∀ W tb bb sp sb cap mb, P2 tb bb sp sb cap mb W → Calls Tryz.prog 25 #[.pointer (some ⟨tb, 0, none⟩), .int .i64 0, .string ⟨#[97, 98, 99]⟩] W fun e w' => e = .returned .nilIface ∧ P3 tb bb sp sb cap mb w') := by rw [hP2, hP3]; exact HMD.out
  have G3 : Hid (∀ W tb bb sp sb cap mb, P3 tb bb sp sb cap mb W → Calls Tryz.prog 23 #[.pointer (some ⟨tb, 0, none⟩)] W fun e w' => ∃ ad vc, e = .returned (.slice ad 0 vc) ∧ Below w.heap.size w w') := by rw [hP3]; exact HS3.out
  clear hP1 hP2 hP3 HMK HS1 HDK HRT HS2 HMD HS3 k1 k2 k3 r1 r3 S1 S2 hblk hbl1 hbl2 hbl3 hu0 hu1 sA E
  go_enter Tryz.func16, Tryz.ntmps16
  go_wp2_with (first
    | (go_at_call 17; refine HTO.mono ?_; rintro e w1 ⟨tb, bb, sp, sb, cap, mb, md, mt, rfl, T1, _, b1⟩; (have H1 := GM.out w1 tb bb sp sb cap mb ⟨T1, SInv.start 4, b1⟩); clear HTO GM T1 b1)
    | (go_at_call 18; refine H1.mono ?_; rintro e w2 ⟨rfl, q2⟩; (have H2 := G1.out _ _ _ _ _ _ _ q2); clear H1 G1 q2)
    | (go_at_call 23; refine H2.mono ?_; rintro e w3 ⟨ad3, vc3, rfl, q3⟩; (have H3 := GD.out _ _ _ _ _ _ _ q3); (have H4 := GR.out _ _ _ _ _ _ _ q3); clear H2 GD GR q3)
    | (go_at_call 20; refine H3.mono ?_; rintro e w4 ⟨rfl, hw⟩; rw [hw]; clear hw H3)
    | (go_at_call 21; refine H4.mono ?_; rintro e w5 ⟨rfl, q5⟩; (have H5 := G2.out _ _ _ _ _ _ _ q5); clear H4 G2 q5)
    | (go_at_call 23; refine H5.mono ?_; rintro e w6 ⟨ad6, vc6, rfl, i6, q6⟩; (have H6 := HSI.out w6 (.slice ad6 1 vc6) #[Value.int .i64 0] i6 rfl); (have HQ6 : Hid _ := q6); clear H5 HSI i6 q6)
    | (go_at_call 22; refine H6.mono ?_; rintro e w7 ⟨rfl, b7⟩; (have H7 := GE.out _ _ _ _ _ _ _ (HB2.out _ _ _ _ _ _ _ _ (HB2.out _ _ _ _ _ _ _ _ HQ6.out ((Below.refl _ w6).alloc (Nat.le_refl _) _)) b7)); clear H6 GE b7 HB2 HQ6)
    | (go_at_call 25; refine H7.mono ?_; rintro e w8 ⟨rfl, q8⟩; (have H8 := G3.out _ _ _ _ _ _ _ q8); clear H7 G3 q8)
    | (go_at_call 23; refine H8.mono ?_; rintro e w9 ⟨ad9, vc9, rfl, b9⟩; clear H8))
  go_ret
  exact ⟨rfl, b9⟩
set_option maxRecDepth 100000 in
set_option maxHeartbeats 4000000 in
theorem scrubMends_any (a : Nat → Addr) (A B : ByteArray) (at_ : Int) (w : World) (E : Sents a w) (hA : A.size ≤ maxLen) (hB : B.size ≤ maxLen) : Calls Tryz.prog 4 #[.string A, .string B, .int .i64 at_] w fun e w' => e = .returned (.bool true) ∧ Below w.heap.size w w' := by
  unfold maxLen at hA hB
  have HSB := scrubbed_any a w E
  have HE : Hid (∀ W, Below w.heap.size w W → Sents a W) := fun W h => E.below h
  clear E
  go_enter Tryz.func4, Tryz.ntmps4
  go_wp2_with fail
  refine Calls.mono HSB ?_
  rintro e w1 ⟨rfl, b1⟩
  have HB1 : Hid (Below w.heap.size w w1) := b1
  clear HSB b1
  by_cases c1 : A.size < 1
  · have c1' : (A.size : Int) < 1 := by omega
    go_wp2_with fail
    go_ret
    exact ⟨rfl, HB1.out⟩
  have c1' : ¬ (A.size : Int) < 1 := by omega
  by_cases c2 : 200 < A.size
  · have c2' : (200 : Int) < (A.size : Int) := by omega
    go_wp2_with fail
    go_ret
    exact ⟨rfl, HB1.out⟩
  have c2' : ¬ (200 : Int) < (A.size : Int) := by omega
  by_cases c3 : 200 < B.size
  · have c3' : (200 : Int) < (B.size : Int) := by omega
    go_wp2_with fail
    go_ret
    exact ⟨rfl, HB1.out⟩
  have c3' : ¬ (200 : Int) < (B.size : Int) := by omega
  by_cases c4 : at_ < 0
  · go_wp2_with fail
    go_ret
    exact ⟨rfl, HB1.out⟩
  obtain ⟨m, rfl⟩ : ∃ m : Nat, at_ = (m : Int) := ⟨at_.toNat, by omega⟩
  have c8 : IntKind.i64.wrap (8 * (A.size : Int)) = 8 * (A.size : Int) := IntWalk.i64_in _ (by omega)
  by_cases c5 : 8 * A.size ≤ m
  · have c5' : 8 * (A.size : Int) ≤ (m : Int) := by omega
    go_wp2_with fail
    go_ret
    exact ⟨rfl, HB1.out⟩
  have c5' : ¬ 8 * (A.size : Int) ≤ (m : Int) := by omega
  have HTO := tableOf_any (fun _ => False) w1.heap.size 40 (by omega) (by omega) w1 (Nat.le_refl _)
  go_wp2_with fail
  refine Calls.mono HTO ?_
  rintro e w2 ⟨tb, bb, sp, sb, cap, mb, md, mt, rfl, T2, _, b2⟩
  obtain ⟨A1, A2, A3, A4, bks, q, c, K⟩ := sc_all (tb := tb) (bb := bb) (sp := sp) (sb := sb) (cap := cap) (mb := mb) (HE.out w1 HB1.out) A B (by omega) (by omega) m (by omega) (fun _ _ _ _ _ Z => Z.T.disk.bl16)
  have HMa := K.make1 w2 ⟨T2, SInv.start 40, b2⟩
  have HM2 : Hid (∀ W, A1 W → Calls Tryz.prog 18 #[.pointer (some ⟨tb, 0, none⟩), .string A, .bool false] W fun e w' => e = .returned (.tuple #[.int .i64 1, .nilIface]) ∧ A2 w') := K.make2
  have HST : Hid (∀ W, A2 W → Calls Tryz.prog 19 #[.pointer (some ⟨tb, 0, none⟩), .int .i64 1] W fun e w' => ∃ ad vc, e = .returned (.tuple #[.agg #[.int .i64 (A.size : Int), .int .i64 1, .bool false, .slice ad bks.length vc, .int .u32 (c : Int)], .bool true]) ∧ IntsT w' (.slice ad bks.length vc) (ints bks) ∧ A2 w') := K.stat
  have HK : Hid (ScK a w1 tb bb A B m _ A1 A2 A3 A4 bks q c) := K
  have hat := K.at_
  have hil : m / 8 / 16 < bks.length := (List.getElem?_eq_some_iff.1 hat).1
  have HAT : Hid (bks[m / 8 / 16]? = some q) := hat
  obtain ⟨i, HI⟩ : ∃ i, Hid (i = m / 8 / 16) := ⟨_, (rfl : _ = _)⟩
  obtain ⟨nb, HNB⟩ : ∃ nb, Hid (nb = bks.length) := ⟨_, (rfl : _ = _)⟩
  have hinb : (i : Int) < (nb : Int) := by rw [HI.out, HNB.out]; omega
  rw [← HI.out] at HAT
  rw [← HNB.out] at HST
  clear T2 b2 K hat hil HTO
  go_wp2_with (first
    | (go_at_call 18; refine HMa.mono ?_; rintro e w3 ⟨rfl, q3⟩; (have HMb := HM2.out _ q3); clear HMa HM2 q3)
    | (go_at_call 18; refine HMb.mono ?_; rintro e w4 ⟨rfl, q4⟩; (have HSt := HST.out _ q4); clear HMb HST q4))
  refine Calls.mono HSt ?_
  rintro e w5 ⟨ad, vc, rfl, i5, q5⟩
  obtain ⟨g, off, cur, rfl, hrg, hcur⟩ : ∃ g off cur, ad = some ⟨g, off, none⟩ ∧ w5.heap[g]? = some (.cells cur 3 (0, 0)) ∧ cur[off + i]? = some (.int .i64 (q : Int)) := by
    obtain ⟨ad', cap', e, hc⟩ := i5
    simp only [Value.slice.injEq] at e
    obtain ⟨rfl, _, _⟩ := e
    obtain ⟨g, off, cur, e1, e2, e3⟩ := hc (fun h => by
      have h0 : bks = [] := by simpa [ints] using h
      rw [h0] at HAT
      have := HAT.out
      simp at this)
    exact ⟨g, off, cur, e1, e2, e3 i (q : Int) (by rw [ints, List.getElem?_map, HAT.out]; rfl)⟩
  obtain ⟨W2, hW2⟩ : ∃ W2, W2 = w5.alloc (.cells #[.int .i64 (A.size : Int), .int .i64 1, .bool false, .slice (some ⟨g, off, none⟩) nb vc, .int .u32 (c : Int)] 54) := ⟨_, rfl⟩
  obtain ⟨s, hs⟩ : ∃ s, s = w5.heap.size := ⟨_, rfl⟩
  have hbW : Below w5.heap.size w5 W2 := by rw [hW2]; exact (Below.refl _ w5).alloc (Nat.le_refl _) _
  have HRS : Hid (W2.heap[s]? = some (.cells #[.int .i64 (A.size : Int), .int .i64 1, .bool false, .slice (some ⟨g, off, none⟩) nb vc, .int .u32 (c : Int)] 54 (0, 0))) := by show _ = _; rw [hW2, hs]; exact heap_alloc_last w5 _
  have HRG : Hid (W2.heap[g]? = some (.cells cur 3 (0, 0))) := (hbW.block g (Array.getElem?_eq_some_iff.1 hrg).1).trans hrg
  have HA2 : Hid (∀ W, Below W2.heap.size W2 W → A2 W) := fun W h => HK.out.b2 _ _ (HK.out.b2 _ _ q5 hbW) h
  have HS14 : Hid (∀ W', Turn dkTy W2 W' → (W'.cell? ⟨s, 3, none⟩ = some (.slice (some ⟨g, off, none⟩) nb vc) ∧ W'.cell? ⟨g, off + i, none⟩ = some (.int .i64 (q : Int)))) := fun W' ht => ⟨by rw [cell_of_row _ _ _ _ _ _ (ht _ _ HRS.out rfl)]; rfl, by rw [cell_of_row _ _ _ _ _ _ (ht _ _ HRG.out rfl)]; exact hcur⟩
  have hdiv : (m : Int) / 8 / 16 < (nb : Int) := by have := HI.out; omega
  have HI16 : Hid ((m : Int) / 8 / 16 = (i : Int)) := by have := HI.out; show _ = _; omega
  obtain ⟨m8, HM8n⟩ : ∃ m8, Hid (m8 = m / 8) := ⟨_, (rfl : _ = _)⟩
  have HM8 : Hid (IntKind.i64.wrap ((m : Int) / 8) = (m8 : Int)) := by show _ = _; rw [IntWalk.i64_in _ (by omega)]; have := HM8n.out; omega
  have HM8b : Hid (IntKind.i64.wrap ((m : Int).tdiv 8) = (m8 : Int)) := by show _ = _; rw [Int.tdiv_eq_ediv_of_nonneg (by omega)]; exact HM8.out
  have HM8c : Hid ((m : Int) / 8 = (m8 : Int)) := by show _ = _; have := HM8n.out; omega
  have HI16b : Hid (IntKind.i64.wrap ((m8 : Int) / 16) = (i : Int)) := by show _ = _; have h1 := HM8n.out; have h2 := HI.out; rw [IntWalk.i64_in _ (by omega)]; omega
  have HI16c : Hid ((m8 : Int) / 16 = (i : Int)) := by show _ = _; have h1 := HM8n.out; have h2 := HI.out; omega
  obtain ⟨bit, HBT⟩ : ∃ bit, Hid (bit = m % 128) := ⟨_, (rfl : _ = _)⟩
  have HBIT : Hid ((m : Int) % 128 = (bit : Int)) := by have := HBT.out; show _ = _; omega
  have HDK : Hid (∀ W, A2 W → Calls Tryz.prog 20 #[.pointer (some ⟨tb, 0, none⟩)] W fun e w' => e = .returned (.pointer (some ⟨bb + 1, 0, none⟩)) ∧ w' = W) := HK.out.disk
  have HRT : Hid (∀ W, A2 W → Calls Tryz.prog 21 #[.pointer (some ⟨bb + 1, 0, none⟩), .int .i64 (q : Int), .int .i64 (bit : Int)] W fun e w' => e = .returned .nilIface ∧ A3 w' ∧ Turn dkTy W w') := by rw [HBT.out]; exact HK.out.rot
  have HSC : Hid (∀ W, A3 W → Calls Tryz.prog 23 #[.pointer (some ⟨tb, 0, none⟩)] W fun e w' => ∃ ad vc, e = .returned (.slice ad 1 vc) ∧ IntsT w' (.slice ad 1 vc) [1] ∧ Below W.heap.size W w' ∧ A3 w') := HK.out.scan3
  have HB3 : Hid (∀ W W', A3 W → Below W.heap.size W W' → A3 W') := HK.out.b3
  have HSI : Hid (∀ W v v2, IntsT W v [1] → IntsT W v2 [1] → Calls Tryz.prog 22 #[v, v2] W fun e w' => e = .returned (.bool true) ∧ Below W.heap.size W w') := fun W v v2 h1 h2 => sameInts_any v v2 [1] W h1.at h2.at (by decide)
  clear i5 q5 hrg hbW HSt HAT HI HNB
  have k3 := (HS14.out W2 (turnH_same W2)).1
  go_upto_region 12 with fail
  rw [← hW2, ← hs]
  clear hW2 hs
  go_upto_region 14 with fail
  clear k3 hdiv
  go_cut [109] (fun cv wx => cv = .bool false ∧ A3 wx)
  case first =>
    refine wp_region_held_drew (S := fun w' => w'.cell? ⟨s, 3, none⟩ = some (.slice (some ⟨g, off, none⟩) nb vc) ∧ w'.cell? ⟨g, off + i, none⟩ = some (.int .i64 (q : Int))) (by kernel_rfl) (HS14.out _ (Turn.of_below (p := dkTy) (Below.refl _ W2).drew)) (fun hHeld => ?_)
    refine wpAnyH_take (i := 0) (v := (.pointer (some ⟨tb, 0, none⟩))) rfl (by kernel_rfl) (by kernel_rfl) (by kernel_rfl) (fun _ _ _ h => h) (Or.inl ⟨by rfl, ?_⟩) hHeld ?_
    · intro w hSw; (try dsimp only at hSw); simp only [List.getElem_toArray, List.getElem_cons_zero]; go_simp
    simp only [List.getElem_toArray, List.getElem_cons_zero, Act.put, List.setIfInBounds_toArray, List.set_cons_zero, List.set_cons_succ]
    refine wpAnyH_take (i := 2) (v := (.pointer (some ⟨s, 3, none⟩))) rfl (by kernel_rfl) (by kernel_rfl) (by kernel_rfl) (fun _ _ _ h => h) (Or.inl ⟨by rfl, ?_⟩) hHeld ?_
    · intro w hSw; (try dsimp only at hSw); simp only [List.getElem_toArray, List.getElem_cons_zero, List.getElem_cons_succ]; go_simp
    simp only [List.getElem_toArray, List.getElem_cons_zero, List.getElem_cons_succ, Act.put, List.setIfInBounds_toArray, List.set_cons_zero, List.set_cons_succ]
    refine wpAnyH_take (i := 3) (v := (.slice (some ⟨g, off, none⟩) nb vc)) rfl (by kernel_rfl) (by kernel_rfl) (by kernel_rfl) (fun _ _ _ h => h) (Or.inl ⟨by rfl, ?_⟩) hHeld ?_
    · intro w hSw; (try dsimp only at hSw); simp only [List.getElem_toArray, List.getElem_cons_zero, List.getElem_cons_succ]; go_simp
    simp only [List.getElem_toArray, List.getElem_cons_zero, List.getElem_cons_succ, Act.put, List.setIfInBounds_toArray, List.set_cons_zero, List.set_cons_succ]
    refine wpAnyH_take (i := 4) (v := (.int .i64 (m : Int))) rfl (by kernel_rfl) (by kernel_rfl) (by kernel_rfl) (fun _ _ _ h => h) (Or.inl ⟨by rfl, ?_⟩) hHeld ?_
    · intro w hSw; (try dsimp only at hSw); simp only [List.getElem_toArray, List.getElem_cons_zero, List.getElem_cons_succ]; go_simp
    simp only [List.getElem_toArray, List.getElem_cons_zero, List.getElem_cons_succ, Act.put, List.setIfInBounds_toArray, List.set_cons_zero, List.set_cons_succ]
    refine wpAnyH_take (i := 5) (v := (.int .i64 (m8 : Int))) rfl (by kernel_rfl) (by kernel_rfl) (by kernel_rfl) (fun _ _ _ h => h) (Or.inl ⟨by rfl, ?_⟩) hHeld ?_
    · intro w hSw; (try dsimp only at hSw); simp only [List.getElem_toArray, List.getElem_cons_zero, List.getElem_cons_succ]; go_simp; (try (first | exact HM8.out | exact HM8b.out | exact HM8c.out))
    simp only [List.getElem_toArray, List.getElem_cons_zero, List.getElem_cons_succ, Act.put, List.setIfInBounds_toArray, List.set_cons_zero, List.set_cons_succ]
    refine wpAnyH_take (i := 6) (v := (.int .i64 (i : Int))) rfl (by kernel_rfl) (by kernel_rfl) (by kernel_rfl) (fun _ _ _ h => h) (Or.inl ⟨by rfl, ?_⟩) hHeld ?_
    · intro w hSw; (try dsimp only at hSw); simp only [List.getElem_toArray, List.getElem_cons_zero, List.getElem_cons_succ]; go_simp; (try (first | exact HI16.out | exact HI16b.out | exact HI16c.out))
    simp only [List.getElem_toArray, List.getElem_cons_zero, List.getElem_cons_succ, Act.put, List.setIfInBounds_toArray, List.set_cons_zero, List.set_cons_succ]
    refine wpAnyH_take (i := 7) (v := (.pointer (some ⟨g, off + i, none⟩))) rfl (by kernel_rfl) (by kernel_rfl) (by kernel_rfl) (fun _ _ _ h => h) (Or.inl ⟨by rfl, ?_⟩) hHeld ?_
    · intro w hSw; (try dsimp only at hSw); simp only [List.getElem_toArray, List.getElem_cons_zero, List.getElem_cons_succ]; go_simp
    simp only [List.getElem_toArray, List.getElem_cons_zero, List.getElem_cons_succ, Act.put, List.setIfInBounds_toArray, List.set_cons_zero, List.set_cons_succ]
    refine wpAnyH_take (i := 8) (v := (.int .i64 (q : Int))) rfl (by kernel_rfl) (by kernel_rfl) (by kernel_rfl) (fun _ _ _ h => h) (Or.inl ⟨by rfl, ?_⟩) hHeld ?_
    · intro w hSw; (try dsimp only at hSw); simp only [List.getElem_toArray, List.getElem_cons_zero, List.getElem_cons_succ]; go_simp
    simp only [List.getElem_toArray, List.getElem_cons_zero, List.getElem_cons_succ, Act.put, List.setIfInBounds_toArray, List.set_cons_zero, List.set_cons_succ]
    refine wpAnyH_take (i := 9) (v := (.int .i64 (m : Int))) rfl (by kernel_rfl) (by kernel_rfl) (by kernel_rfl) (fun _ _ _ h => h) (Or.inl ⟨by rfl, ?_⟩) hHeld ?_
    · intro w hSw; (try dsimp only at hSw); simp only [List.getElem_toArray, List.getElem_cons_zero, List.getElem_cons_succ]; go_simp
    simp only [List.getElem_toArray, List.getElem_cons_zero, List.getElem_cons_succ, Act.put, List.setIfInBounds_toArray, List.set_cons_zero, List.set_cons_succ]
    refine wpAnyH_take (i := 10) (v := (.int .i64 (bit : Int))) rfl (by kernel_rfl) (by kernel_rfl) (by kernel_rfl) (fun _ _ _ h => h) (Or.inl ⟨by rfl, ?_⟩) hHeld ?_
    · intro w hSw; (try dsimp only at hSw); simp only [List.getElem_toArray, List.getElem_cons_zero, List.getElem_cons_succ]; go_simp; (try exact HBIT.out)
    simp only [List.getElem_toArray, List.getElem_cons_zero, List.getElem_cons_succ, Act.put, List.setIfInBounds_toArray, List.set_cons_zero, List.set_cons_succ]
    refine wpAnyH_ready (rs := [1]) (by kernel_rfl) (by simp) ?_
    refine AllReadyH.cons rfl (fun K' hK => ?_) AllReadyH.nil
    simp only [List.getElem_toArray, List.getElem_cons_zero, List.getElem_cons_succ]
    go_simp
    refine Calls.mono (HDK.out _ (HA2.out _ (Below.refl _ W2).drew)) ?_
    rintro e wx ⟨rfl, hw⟩
    rw [hw]
    clear hw
    go_wp2_with fail
    refine hK.out _ _ (HS14.out _ (Turn.of_below (p := dkTy) (Below.refl _ W2).drew)) (fun hHeld' => ?_)
    clear hK K' hHeld
    have hHeld := hHeld'
    clear hHeld'
    refine wpAnyH_ready (rs := [11]) (by kernel_rfl) (by simp) ?_
    refine AllReadyH.cons rfl (fun K' hK => ?_) AllReadyH.nil
    simp only [List.getElem_toArray, List.getElem_cons_zero, List.getElem_cons_succ]
    go_simp
    refine Calls.mono (HRT.out _ (HA2.out _ (Below.refl _ W2).drew)) ?_
    rintro e w3 ⟨rfl, h3, ht3⟩
    have HT3 : Hid (Turn dkTy W2 w3) := turnH_trans (Turn.of_below (p := dkTy) (Below.refl _ W2).drew) ht3
    have HA3 : Hid (A3 w3) := h3
    clear h3 ht3
    go_wp2_with fail
    refine hK.out _ _ (HS14.out _ HT3.out) (fun hHeld' => ?_)
    clear hK K' hHeld
    have hHeld := hHeld'
    clear hHeld'
    refine wpAnyH_take (i := 12) (v := (.bool false)) rfl (by kernel_rfl) (by kernel_rfl) (by kernel_rfl) (fun _ _ _ h => h) (Or.inl ⟨by rfl, ?_⟩) hHeld ?_
    · intro w hSw; (try dsimp only at hSw); simp only [List.getElem_toArray, List.getElem_cons_zero, List.getElem_cons_succ]; go_simp
    simp only [List.getElem_toArray, List.getElem_cons_zero, List.getElem_cons_succ, Act.put, List.setIfInBounds_toArray, List.set_cons_zero, List.set_cons_succ]
    refine wpAnyH_take (i := 13) (v := (.bool false)) rfl (by kernel_rfl) (by kernel_rfl) (by kernel_rfl) (fun _ _ _ h => h) (Or.inl ⟨by rfl, ?_⟩) hHeld ?_
    · intro w hSw; (try dsimp only at hSw); simp only [List.getElem_toArray, List.getElem_cons_zero, List.getElem_cons_succ]; go_simp
    simp only [List.getElem_toArray, List.getElem_cons_zero, List.getElem_cons_succ, Act.put, List.setIfInBounds_toArray, List.set_cons_zero, List.set_cons_succ]
    refine wpAnyH_take (i := 14) (v := (.pointer (some ⟨tb, 0, none⟩))) rfl (by kernel_rfl) (by kernel_rfl) (by kernel_rfl) (fun _ _ _ h => h) (Or.inl ⟨by rfl, ?_⟩) hHeld ?_
    · intro w hSw; (try dsimp only at hSw); simp only [List.getElem_toArray, List.getElem_cons_zero, List.getElem_cons_succ]; go_simp
    simp only [List.getElem_toArray, List.getElem_cons_zero, List.getElem_cons_succ, Act.put, List.setIfInBounds_toArray, List.set_cons_zero, List.set_cons_succ]
    refine wpAnyH_take (i := 16) (v := (.int .i64 1)) rfl (by kernel_rfl) (by kernel_rfl) (by kernel_rfl) (fun _ _ _ h => h) (Or.inl ⟨by rfl, ?_⟩) hHeld ?_
    · intro w hSw; (try dsimp only at hSw); simp only [List.getElem_toArray, List.getElem_cons_zero, List.getElem_cons_succ]; go_simp
    simp only [List.getElem_toArray, List.getElem_cons_zero, List.getElem_cons_succ, Act.put, List.setIfInBounds_toArray, List.set_cons_zero, List.set_cons_succ]
    refine wpAnyH_ready (rs := [15, 17]) (by kernel_rfl) (by simp) ?_
    refine AllReadyH.cons rfl (fun K' hK => ?_) (AllReadyH.cons rfl (fun K' hK => ?_) AllReadyH.nil)
    · skip
      simp only [List.getElem_toArray, List.getElem_cons_zero, List.getElem_cons_succ]
      go_simp
      refine Calls.mono (HSC.out _ (HA3.out)) ?_
      rintro e w4 ⟨va, vd, rfl, i4, b4, h4⟩
      have HI4 : Hid (IntsT w4 (.slice va 1 vd) [1]) := i4
      have HA4 : Hid (A3 w4) := h4
      have HB4 : Hid (Below (w3).heap.size (w3) w4) := b4
      clear i4 h4 b4
      go_wp2_with fail
      refine hK.out _ _ (HS14.out _ (turnH_trans HT3.out (Turn.of_below (p := dkTy) HB4.out))) (fun hHeld' => ?_)
      clear hK K' hHeld
      have hHeld := hHeld'
      clear hHeld'
      refine wpAnyH_ready (rs := [17]) (by kernel_rfl) (by simp) ?_
      refine AllReadyH.cons rfl (fun K' hK => ?_) AllReadyH.nil
      go_wp2_with fail
      refine hK.out _ _ (HS14.out _ (turnH_trans HT3.out (turnH_trans (Turn.of_below (p := dkTy) HB4.out) (Turn.of_below (p := dkTy) ((Below.refl _ w4).alloc (Nat.le_refl _) _))))) (fun hHeld' => ?_)
      clear hK K' hHeld
      have hHeld := hHeld'
      clear hHeld'
      refine wpAnyH_ready (rs := [18]) (by kernel_rfl) (by simp) ?_
      refine AllReadyH.cons rfl (fun K' hK => ?_) AllReadyH.nil
      simp only [List.getElem_toArray, List.getElem_cons_zero, List.getElem_cons_succ]
      go_simp
      refine Calls.mono (HSI.out _ _ _ (HI4.out.below ((Below.refl _ w4).alloc (Nat.le_refl _) _)) (built_t w4 [1] _ rfl)) ?_
      rintro e w5 ⟨rfl, b5⟩
      have HA5 : Hid (A3 w5) := HB3.out _ _ (HB3.out _ _ HA4.out ((Below.refl _ w4).alloc (Nat.le_refl _) _)) b5
      have HT5 : Hid (Turn dkTy ((w4.alloc (.cells #[.int .i64 1] 3))) w5) := Turn.of_below b5
      clear b5
      go_wp2_with fail
      refine hK.out _ _ (HS14.out _ (turnH_trans (turnH_trans HT3.out (turnH_trans (Turn.of_below (p := dkTy) HB4.out) (Turn.of_below (p := dkTy) ((Below.refl _ w4).alloc (Nat.le_refl _) _)))) HT5.out)) (fun hHeld' => ?_)
      clear hK K' hHeld
      have hHeld := hHeld'
      clear hHeld'
      refine wpAnyH_take (i := 19) (v := (.bool false)) rfl (by kernel_rfl) (by kernel_rfl) (by kernel_rfl) (fun _ _ _ h => h) (Or.inl ⟨by rfl, ?_⟩) hHeld ?_
      · intro w hSw; (try dsimp only at hSw); simp only [List.getElem_toArray, List.getElem_cons_zero, List.getElem_cons_succ]; go_simp
      simp only [List.getElem_toArray, List.getElem_cons_zero, List.getElem_cons_succ, Act.put, List.setIfInBounds_toArray, List.set_cons_zero, List.set_cons_succ]
      refine wpAnyH_take (i := 20) (v := (.bool false)) rfl (by kernel_rfl) (by kernel_rfl) (by kernel_rfl) (fun _ _ _ h => h) (Or.inl ⟨by rfl, ?_⟩) hHeld ?_
      · intro w hSw; (try dsimp only at hSw); simp only [List.getElem_toArray, List.getElem_cons_zero, List.getElem_cons_succ]; go_simp
      simp only [List.getElem_toArray, List.getElem_cons_zero, List.getElem_cons_succ, Act.put, List.setIfInBounds_toArray, List.set_cons_zero, List.set_cons_succ]
      refine wpAnyH_done (by kernel_rfl) ?_ _
      go_wp2_with fail
      go_meet
      case rel => exact ⟨rfl, HA5.out⟩
    · skip
      go_wp2_with fail
      refine hK.out _ _ (HS14.out _ (turnH_trans HT3.out (Turn.of_below (p := dkTy) ((Below.refl _ w3).alloc (Nat.le_refl _) _)))) (fun hHeld' => ?_)
      clear hK K' hHeld
      have hHeld := hHeld'
      clear hHeld'
      refine wpAnyH_ready (rs := [15]) (by kernel_rfl) (by simp) ?_
      refine AllReadyH.cons rfl (fun K' hK => ?_) AllReadyH.nil
      simp only [List.getElem_toArray, List.getElem_cons_zero, List.getElem_cons_succ]
      go_simp
      refine Calls.mono (HSC.out _ (HB3.out _ _ HA3.out ((Below.refl _ w3).alloc (Nat.le_refl _) _))) ?_
      rintro e w4 ⟨va, vd, rfl, i4, b4, h4⟩
      have HI4 : Hid (IntsT w4 (.slice va 1 vd) [1]) := i4
      have HA4 : Hid (A3 w4) := h4
      have HB4 : Hid (Below ((w3.alloc (.cells #[.int .i64 1] 3))).heap.size ((w3.alloc (.cells #[.int .i64 1] 3))) w4) := b4
      clear i4 h4 b4
      go_wp2_with fail
      refine hK.out _ _ (HS14.out _ (turnH_trans (turnH_trans HT3.out (Turn.of_below (p := dkTy) ((Below.refl _ w3).alloc (Nat.le_refl _) _))) (Turn.of_below (p := dkTy) HB4.out))) (fun hHeld' => ?_)
      clear hK K' hHeld
      have hHeld := hHeld'
      clear hHeld'
      refine wpAnyH_ready (rs := [18]) (by kernel_rfl) (by simp) ?_
      refine AllReadyH.cons rfl (fun K' hK => ?_) AllReadyH.nil
      simp only [List.getElem_toArray, List.getElem_cons_zero, List.getElem_cons_succ]
      go_simp
      refine Calls.mono (HSI.out _ _ _ (HI4.out) ((built_t w3 [1] _ rfl).below HB4.out)) ?_
      rintro e w5 ⟨rfl, b5⟩
      have HA5 : Hid (A3 w5) := HB3.out _ _ (HA4.out) b5
      have HT5 : Hid (Turn dkTy (w4) w5) := Turn.of_below b5
      clear b5
      go_wp2_with fail
      refine hK.out _ _ (HS14.out _ (turnH_trans (turnH_trans (turnH_trans HT3.out (Turn.of_below (p := dkTy) ((Below.refl _ w3).alloc (Nat.le_refl _) _))) (Turn.of_below (p := dkTy) HB4.out)) HT5.out)) (fun hHeld' => ?_)
      clear hK K' hHeld
      have hHeld := hHeld'
      clear hHeld'
      refine wpAnyH_take (i := 19) (v := (.bool false)) rfl (by kernel_rfl) (by kernel_rfl) (by kernel_rfl) (fun _ _ _ h => h) (Or.inl ⟨by rfl, ?_⟩) hHeld ?_
      · intro w hSw; (try dsimp only at hSw); simp only [List.getElem_toArray, List.getElem_cons_zero, List.getElem_cons_succ]; go_simp
      simp only [List.getElem_toArray, List.getElem_cons_zero, List.getElem_cons_succ, Act.put, List.setIfInBounds_toArray, List.set_cons_zero, List.set_cons_succ]
      refine wpAnyH_take (i := 20) (v := (.bool false)) rfl (by kernel_rfl) (by kernel_rfl) (by kernel_rfl) (fun _ _ _ h => h) (Or.inl ⟨by rfl, ?_⟩) hHeld ?_
      · intro w hSw; (try dsimp only at hSw); simp only [List.getElem_toArray, List.getElem_cons_zero, List.getElem_cons_succ]; go_simp
      simp only [List.getElem_toArray, List.getElem_cons_zero, List.getElem_cons_succ, Act.put, List.setIfInBounds_toArray, List.set_cons_zero, List.set_cons_succ]
      refine wpAnyH_done (by kernel_rfl) ?_ _
      go_wp2_with fail
      go_meet
      case rel => exact ⟨rfl, HA5.out⟩
  case rest =>
  obtain ⟨rfl, h3⟩ := hcut
  have HRB := HK.out.read3 _ h3
  have GC3 : Hid (∀ W, A3 W → Calls Tryz.prog 12 #[.iface 330 (.pointer (some (a 10))), .int .i64 11] W fun e w' => e = .returned (.bool true) ∧ A3 w') := HK.out.code3
  have GM3 : Hid (¬ A.size = B.size → ∀ W, A3 W → Calls Tryz.prog 25 #[.pointer (some ⟨tb, 0, none⟩), .int .i64 1, .string B] W fun e w' => e = .returned (.iface 330 (.pointer (some (a 10)))) ∧ A3 w') := HK.out.mend3
  have GM4 : Hid (∀ W, A3 W → Calls Tryz.prog 25 #[.pointer (some ⟨tb, 0, none⟩), .int .i64 1, .string A] W fun e w' => e = .returned .nilIface ∧ A4 w') := HK.out.mend4
  have GS4 : Hid (∀ W, A4 W → Calls Tryz.prog 23 #[.pointer (some ⟨tb, 0, none⟩)] W fun e w' => ∃ ad vc, e = .returned (.slice ad 0 vc) ∧ A4 w') := HK.out.scan4
  have GM5 : Hid (∀ W, A4 W → Calls Tryz.prog 25 #[.pointer (some ⟨tb, 0, none⟩), .int .i64 1, .string A] W fun e w' => e = .returned (.iface 330 (.pointer (some (a 6)))) ∧ A4 w') := HK.out.mend5
  have GC5 : Hid (∀ W, A4 W → Calls Tryz.prog 12 #[.iface 330 (.pointer (some (a 6))), .int .i64 7] W fun e w' => e = .returned (.bool true) ∧ A4 w') := HK.out.code5
  have GRX : Hid (∀ W, A4 W → Calls Tryz.prog 24 #[.pointer (some ⟨tb, 0, none⟩), .int .i64 0] W fun e w' => e = .returned (.tuple #[.string B, .nilIface]) ∧ A4 w') := HK.out.readx
  have GRY : Hid (∀ W, A4 W → Calls Tryz.prog 24 #[.pointer (some ⟨tb, 0, none⟩), .int .i64 1] W fun e w' => e = .returned (.tuple #[.string A, .nilIface]) ∧ A4 w') := HK.out.ready
  have GUP : Hid (∀ W, A4 W → Below w1.heap.size w1 W) := HK.out.up
  clear HK HE HDK HRT HSC HB3 HSI HS14 HRS HRG HA2 h3 HM8 HM8b HM8c HI16 HI16b HI16c HBIT HM8n HBT
  by_cases hne : A.size = B.size
  · have hnei : (A.size : Int) = (B.size : Int) := by omega
    clear hne GM3
    go_wp2_with (first
      | (go_at_call 24; refine HRB.mono ?_; rintro e w6 ⟨rfl, q6⟩; (have HC6 := GC3.out _ q6); clear HRB q6)
      | (go_at_call 12; refine HC6.mono ?_; rintro e w7 ⟨rfl, q7⟩; (have HM7 := GM4.out _ q7); clear HC6 GC3 q7)
      | (go_at_call 25; refine HM7.mono ?_; rintro e w8 ⟨rfl, q8⟩; (have HS8 := GS4.out _ q8); clear HM7 GM4 q8)
      | (go_at_call 23; refine HS8.mono ?_; rintro e w9 ⟨ad9, vc9, rfl, q9⟩; (have HM9 := GM5.out _ q9); clear HS8 GS4 q9)
      | (go_at_call 25; refine HM9.mono ?_; rintro e w10 ⟨rfl, q10⟩; (have HC10 := GC5.out _ q10); clear HM9 GM5 q10)
      | (go_at_call 12; refine HC10.mono ?_; rintro e w11 ⟨rfl, q11⟩; (have HX := GRX.out _ q11); clear HC10 GC5 q11)
      | (go_at_call 24; refine HX.mono ?_; rintro e w12 ⟨rfl, q12⟩; (have HY := GRY.out _ q12); clear HX GRX q12)
      | (go_at_call 24; refine HY.mono ?_; rintro e w13 ⟨rfl, q13⟩; (have HEND : Hid (Below w1.heap.size w1 w13) := GUP.out _ q13); clear HY GRY q13))
    go_ret
    exact ⟨rfl, HB1.out.trans (HEND.out.mono HB1.out.size)⟩
  · have hnei : ¬ (A.size : Int) = (B.size : Int) := by omega
    have GN3 : Hid (∀ W, A3 W → Calls Tryz.prog 25 #[.pointer (some ⟨tb, 0, none⟩), .int .i64 1, .string B] W fun e w' => e = .returned (.iface 330 (.pointer (some (a 10)))) ∧ A3 w') := GM3.out hne
    clear hne GM3
    go_wp2_with (first
      | (go_at_call 24; refine HRB.mono ?_; rintro e w6 ⟨rfl, q6⟩; (have HC6 := GC3.out _ q6); clear HRB q6)
      | (go_at_call 12; refine HC6.mono ?_; rintro e w7 ⟨rfl, q7⟩; (have HN7 := GN3.out _ q7); clear HC6 q7)
      | (go_at_call 25; refine HN7.mono ?_; rintro e wn ⟨rfl, qn⟩; (have HC7 := GC3.out _ qn); clear HN7 GN3 qn)
      | (go_at_call 12; refine HC7.mono ?_; rintro e wm ⟨rfl, qm⟩; (have HM7 := GM4.out _ qm); clear HC7 GC3 qm)
      | (go_at_call 25; refine HM7.mono ?_; rintro e w8 ⟨rfl, q8⟩; (have HS8 := GS4.out _ q8); clear HM7 GM4 q8)
      | (go_at_call 23; refine HS8.mono ?_; rintro e w9 ⟨ad9, vc9, rfl, q9⟩; (have HM9 := GM5.out _ q9); clear HS8 GS4 q9)
      | (go_at_call 25; refine HM9.mono ?_; rintro e w10 ⟨rfl, q10⟩; (have HC10 := GC5.out _ q10); clear HM9 GM5 q10)
      | (go_at_call 12; refine HC10.mono ?_; rintro e w11 ⟨rfl, q11⟩; (have HX := GRX.out _ q11); clear HC10 GC5 q11)
      | (go_at_call 24; refine HX.mono ?_; rintro e w12 ⟨rfl, q12⟩; (have HY := GRY.out _ q12); clear HX GRX q12)
      | (go_at_call 24; refine HY.mono ?_; rintro e w13 ⟨rfl, q13⟩; (have HEND : Hid (Below w1.heap.size w1 w13) := GUP.out _ q13); clear HY GRY q13))
    go_ret
    exact ⟨rfl, HB1.out.trans (HEND.out.mono HB1.out.size)⟩
end Go.Proofs.YtcejpeohkgchdabGreatDoor
