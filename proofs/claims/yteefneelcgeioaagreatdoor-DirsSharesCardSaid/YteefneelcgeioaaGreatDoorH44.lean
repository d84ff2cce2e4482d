/-
  The walk of the law's sharedAll.
  Conditions: those that each states.
-/
import Derived.Test.YteefneelcgeioaaGreatDoorH43
namespace Go.Proofs.YteefneelcgeioaaGreatDoor
open Go.RowKit Go.Maps

theorem bytes_same {x y : ByteArray} (h : x = y) : (x.toList == y.toList) = true := by rw [h]; simp
theorem bytes_diff {x y : ByteArray} (h : ¬ x = y) : (x.toList == y.toList) = false := by
  cases e : (x.toList == y.toList) with
  | false => rfl
  | true =>
    exfalso
    refine h (bytes_eq ?_)
    have := eq_of_beq e
    simpa [ba_toList] using this
section
variable {a : Nat → Addr} {w0 W : World} {N dp tb bb sp sb cap mb m1 m2 : Nat} {s0 : TSt} {tr0 : List (Option NTree)} {A B : Tree} {aa : Option Addr} {ac : Nat}
set_option maxRecDepth 100000 in
set_option maxHeartbeats 4000000 in
theorem sharedAll_any (E : DSn a w0) (S : DSt w0 N 11 dp tb bb sp sb cap mb m1 m2 2 s0 tr0 [A, B] W) (h2 : tr0.map Option.isSome = [true, true]) (hA : Lies W W.heap.size 12 A.kids (.slice aa A.kids.length ac)) :
    Calls Tryz.prog 22 #[.pointer (some ⟨dp, 0, none⟩), .agg #[.string A.kind, .string A.data, .bool A.exec, .slice aa A.kids.length ac], .int .i64 0, .int .i64 1] W fun e w' => e = .returned (.bool true) ∧ Below w0.heap.size w0 w' := by
  obtain ⟨x0, x1, hx0, hx1⟩ := two_trees h2
  obtain ⟨t', ht', hwA, _⟩ := S.I.tree 0 x0 hx0
  cases ht'
  obtain ⟨t', ht', hwB, _⟩ := S.I.tree 1 x1 hx1
  cases ht'
  have hsA := S.few.2 A (by simp)
  have hsB := S.few.2 B (by simp)
  obtain ⟨W1, HW1⟩ : ∃ W1, Hid (W1 = W.alloc (.cells #[.string A.kind, .string A.data, .bool A.exec, .slice aa A.kids.length ac] 32)) := ⟨_, (rfl : _ = _)⟩
  have hb1 : Below W.heap.size W W1 := by rw [HW1.out]; exact (Below.refl _ W).alloc (Nat.le_refl _) _
  have HA1 : Hid (W1.heap[W.heap.size]? = some (.cells #[.string A.kind, .string A.data, .bool A.exec, .slice aa A.kids.length ac] 32 (0, 0))) := by rw [HW1.out]; exact heap_alloc_last W _
  have S1 := S.below hb1
  have HG := ds_get2 E S1 (by omega) (by omega) hx1 (t := B) rfl
  have HFA : Hid (∀ W', Below W1.heap.size W1 W' → Calls Tryz.prog 17 #[.agg #[.string A.kind, .string A.data, .bool A.exec, .slice aa A.kids.length ac]] W' fun e w' => ∃ fa fc, e = .returned (.slice fa (pathsT 12 A).length fc) ∧ w'.ownsRow w0.heap.size 9 1 (.slice fa (pathsT 12 A).length fc) (pathsT 12 A).length ((pathsT 12 A).map Value.string) ∧ Below W'.heap.size W' w') := fun W' hW' => by
    have h3 := hb1.trans (hW'.mono hb1.size)
    refine (ds_files (E.P.below ((S1.below hW').low)) hwA hsA ((hA.below h3 (Nat.le_refl _)).up h3.size (Nat.le_refl _))).mono ?_
    rintro e w' ⟨v, he, hr, hb⟩
    obtain ⟨fa, fc, rfl⟩ := rowForm hr
    exact ⟨fa, fc, he, rowBase hr (S1.below hW').low.size, hb⟩
  have HFB : Hid (∀ W' xa xc, Below w0.heap.size w0 W' → KidsIn W' 11 B (.slice xa B.kids.length xc) → Calls Tryz.prog 17 #[.agg #[.string B.kind, .string B.data, .bool B.exec, .slice xa B.kids.length xc]] W' fun e w' => ∃ fa fc, e = .returned (.slice fa (pathsT 12 B).length fc) ∧ w'.ownsRow w0.heap.size 9 1 (.slice fa (pathsT 12 B).length fc) (pathsT 12 B).length ((pathsT 12 B).map Value.string) ∧ Below W'.heap.size W' w') := fun W' xa xc hW' K => by
    refine (ds_files (E.P.below hW') hwB hsB K.lies).mono ?_
    rintro e w' ⟨v, he, hr, hb⟩
    obtain ⟨fa, fc, rfl⟩ := rowForm hr
    exact ⟨fa, fc, he, rowBase hr hW'.size, hb⟩
  have HS : Hid (DSt w0 N 11 dp tb bb sp sb cap mb m1 m2 2 s0 tr0 [A, B] W1) := S1
  have HSV : Hid (∀ W', Below W1.heap.size W1 W' → Calls Tryz.prog 25 #[.pointer (some ⟨dp, 0, none⟩)] W' fun e w' => ∃ sv : Nat, e = .returned (.int .i64 (sv : Int)) ∧ sv + N = weight 12 tr0 [A, B] + (freeR s0.u).length ∧ Below W'.heap.size W' w') := fun W' hW' => ds_saved E (S1.below hW') (by omega) (by omega)
  have HPA : Hid ((pathsT 12 A).length ≤ 40 ∧ (pathsT 12 B).length ≤ 40) := by
    have h1 := hsA.files
    have h2 := hsB.files
    exact ⟨by unfold pathsT; rw [List.length_map]; exact h1, by unfold pathsT; rw [List.length_map]; exact h2⟩
  have HST : Hid (∀ W' fv gv bw xv (i k : Nat) (p q : ByteArray), SaAt w0 N 11 dp tb bb sp sb cap mb m1 m2 s0 tr0 A B fv gv bw xv W' → (pathsT 12 A)[k]? = some p → (pathsT 12 B)[i]? = some q → SaStep w0 N 11 dp tb bb sp sb cap mb m1 m2 s0 tr0 A B fv gv bw xv p q W') := fun W' fv gv bw xv i k p q SA hp hq => sa_step E SA (by omega) h2 hp hq
  have HGE : Hid (∀ W' fv gv bw xv, SaAt w0 N 11 dp tb bb sp sb cap mb m1 m2 s0 tr0 A B fv gv bw xv W' → Calls Tryz.prog 15 #[.pointer (some ⟨dp, 0, none⟩), .int .i64 1] W' fun e w' => ∃ ya yc, e = .returned (.tuple #[.agg #[.string B.kind, .string B.data, .bool B.exec, .slice ya B.kids.length yc], .nilIface]) ∧ Below W'.heap.size W' w' ∧ Lies w' w'.heap.size 12 B.kids (.slice ya B.kids.length yc) ∧ Lies w' w'.heap.size 12 B.kids xv ∧
      ∀ W2, Below w'.heap.size w' W2 → Calls Tryz.prog 25 #[.pointer (some ⟨dp, 0, none⟩)] W2 fun e w3 => ∃ sv : Nat, e = .returned (.int .i64 (sv : Int)) ∧ weight 12 tr0 [A, B] + (freeR s0.u).length ≤ sv + N ∧ Below w0.heap.size w0 w3) := fun W' fv gv bw xv SA => by
    obtain ⟨s, tr, D, H⟩ := SA.st
    obtain ⟨y0, y1, hy0, hy1⟩ := two_trees (tr0 := tr) (by rw [H.tr]; exact h2)
    refine (ds_get2 E D (by omega) (by omega) hy1 (t := B) rfl).mono ?_
    rintro e w' ⟨ya, yc, he, K, hb⟩
    refine ⟨ya, yc, he, hb, K.lies, (SA.kids.below hb).lies, fun W2 hW2 => ?_⟩
    have D2 := (D.below hb).below hW2
    refine (ds_saved E D2 (by omega) (by omega)).mono ?_
    rintro e w3 ⟨sv, he, hsv, hb3⟩
    refine ⟨sv, he, ?_, D2.low.trans (hb3.mono D2.low.size)⟩
    rw [weight_same (D := 12) [A, B] H.tr.symm]
    have := H.free
    have h5 : sv + N = weight (11 + 1) tr [A, B] + (freeR s.u).length := hsv
    have h6 : weight (11 + 1) tr [A, B] = weight 12 tr [A, B] := rfl
    omega
  clear S S1 hA hx0 hx1 hwA hwB hsA hsB E
  obtain ⟨PA, HEA⟩ : ∃ P, Hid (P = pathsT 12 A) := ⟨_, (rfl : _ = _)⟩
  obtain ⟨PB, HEB⟩ : ∃ P, Hid (P = pathsT 12 B) := ⟨_, (rfl : _ = _)⟩
  rw [← HEA.out] at HFA
  rw [← HEB.out] at HFB
  have hPA : PA.length ≤ 40 := by rw [HEA.out]; exact HPA.out.1
  have hPB : PB.length ≤ 40 := by rw [HEB.out]; exact HPA.out.2
  rw [← HEA.out, ← HEB.out] at HST
  go_enter Tryz.func22, Tryz.ntmps22
  go_wp2_with fail
  rw [← HW1.out]
  refine Calls.mono HG ?_
  rintro e w2 ⟨xa, xc, rfl, K2, hb2⟩
  obtain ⟨W3, HW3⟩ : ∃ W3, Hid (W3 = w2.alloc (.cells #[.string B.kind, .string B.data, .bool B.exec, .slice xa B.kids.length xc] 32)) := ⟨_, (rfl : _ = _)⟩
  have hb3 : Below w2.heap.size w2 W3 := by rw [HW3.out]; exact (Below.refl _ w2).alloc (Nat.le_refl _) _
  have H13 : Hid (Below W1.heap.size W1 W3) := hb2.trans (hb3.mono hb2.size)
  have HBR : Hid (W3.heap[w2.heap.size]? = some (.cells #[.string B.kind, .string B.data, .bool B.exec, .slice xa B.kids.length xc] 32 (0, 0))) := by rw [HW3.out]; exact heap_alloc_last w2 _
  have HK3 : Hid (KidsIn W3 11 B (.slice xa B.kids.length xc)) := K2.below hb3
  have hrA : W3.heap[W.heap.size]? = some (.cells #[.string A.kind, .string A.data, .bool A.exec, .slice aa A.kids.length ac] 32 (0, 0)) := (H13.out.block _ (Array.getElem?_eq_some_iff.1 HA1.out).1).trans HA1.out
  obtain ⟨⟨a0, a1, a2, a3⟩, _⟩ := row4b hrA
  rw [HW3.out] at a0 a1 a2 a3
  clear K2 hb2 hb3 hrA HG
  go_wp2_with fail
  rw [← HW3.out]
  refine Calls.mono (HFA.out _ H13.out) ?_
  rintro e w4 ⟨fa, fc, rfl, hfr, hb4⟩
  have HF4 : Hid (w4.ownsRow w0.heap.size 9 1 (.slice fa PA.length fc) PA.length (PA.map Value.string)) := hfr
  have H14 : Hid (Below W1.heap.size W1 w4) := H13.out.trans (hb4.mono H13.out.size)
  obtain ⟨bw, HBW⟩ : ∃ bw, Hid (bw = w2.heap.size) := ⟨_, (rfl : _ = _)⟩
  have HB4 : Hid (w4.heap[bw]? = some (.cells #[.string B.kind, .string B.data, .bool B.exec, .slice xa B.kids.length xc] 32 (0, 0))) := by show _ = _; rw [HBW.out]; exact (hb4.block _ (Array.getElem?_eq_some_iff.1 HBR.out).1).trans HBR.out
  have HK4 : Hid (KidsIn w4 11 B (.slice xa B.kids.length xc)) := HK3.out.below hb4
  have hslot : (Value.pointer (some ⟨w2.heap.size, 0, none⟩)) = .pointer (some ⟨bw, 0, none⟩) := by rw [HBW.out]
  rw [hslot]
  obtain ⟨⟨d0, d1, d2, d3⟩, _⟩ := row4b HB4.out
  clear hfr hb4 a0 a1 a2 a3 HBR HK3 H13 hslot HW3 HBW HA1 HW1
  go_wp2_with fail
  refine Calls.mono (HFB.out w4 xa xc (HS.out.below H14.out).low HK4.out) ?_
  rintro e w5 ⟨ga, gc, rfl, hgr, hb5⟩
  have HG5 : Hid (w5.ownsRow w0.heap.size 9 1 (.slice ga PB.length gc) PB.length (PB.map Value.string)) := hgr
  have H15 : Hid (Below W1.heap.size W1 w5) := H14.out.trans (hb5.mono H14.out.size)
  have HF5 : Hid (w5.ownsRow w0.heap.size 9 1 (.slice fa PA.length fc) PA.length (PA.map Value.string)) := ownsRow_below HF4.out hb5
  have HB5 : Hid (w5.heap[bw]? = some (.cells #[.string B.kind, .string B.data, .bool B.exec, .slice xa B.kids.length xc] 32 (0, 0))) := (hb5.block _ (Array.getElem?_eq_some_iff.1 HB4.out).1).trans HB4.out
  have HK5 : Hid (KidsIn w5 11 B (.slice xa B.kids.length xc)) := HK4.out.below hb5
  clear hgr hb5 HF4 HB4 HK4 H14 d0 d1 d2 d3
  go_wp2_with fail
  refine Calls.mono (HSV.out w5 H15.out) ?_
  rintro e w6 ⟨sv, rfl, hsv, hb6⟩
  have HSV6 : Hid (sv + N = weight 12 tr0 [A, B] + (freeR s0.u).length) := hsv
  have HSA : Hid (SaAt w0 N 11 dp tb bb sp sb cap mb m1 m2 s0 tr0 A B (.slice fa PA.length fc) (.slice ga PB.length gc) bw (.slice xa B.kids.length xc) w6) := by
    have h := HF5.out
    have h' := HG5.out
    rw [HEA.out] at h ⊢
    rw [HEB.out] at h' ⊢
    exact ⟨⟨s0, tr0, (HS.out.below H15.out).below hb6, ShAt.refl _ _⟩, ownsRow_below h hb6, ownsRow_below h' hb6, (hb6.block _ (Array.getElem?_eq_some_iff.1 HB5.out).1).trans HB5.out, HK5.out.below hb6⟩
  clear hsv hb6 HF5 HG5 HB5 HK5 H15 HS HFA HFB HSV
  go_wp2_with fail
  go_loopw [14] (fun iv wl => ∃ i : Nat, i ≤ PB.length ∧ iv = .int .i64 i ∧ SaAt w0 N 11 dp tb bb sp sb cap mb m1 m2 s0 tr0 A B (.slice fa PA.length fc) (.slice ga PB.length gc) bw (.slice xa B.kids.length xc) wl) (fun iv _ => PB.length - (intOf iv).toNat)
  case atStart => exact ⟨0, Nat.zero_le _, rfl, HSA.out⟩
  case round =>
    obtain ⟨i, hi, rfl, hsa⟩ := hrel
    have HSI : Hid (SaAt w0 N 11 dp tb bb sp sb cap mb m1 m2 s0 tr0 A B (.slice fa PA.length fc) (.slice ga PB.length gc) bw (.slice xa B.kids.length xc) wr) := hsa
    clear hsa HSA
    by_cases hlt : i < PB.length
    · obtain ⟨q, hq⟩ : ∃ q, PB[i]? = some q := ⟨_, List.getElem?_eq_getElem hlt⟩
      have HQ : Hid (PB[i]? = some q) := hq
      clear hq
      go_wp2_with fail
      go_loopw [15] (fun kv wl => ∃ k : Nat, k ≤ PA.length ∧ kv = .int .i64 k ∧ SaAt w0 N 11 dp tb bb sp sb cap mb m1 m2 s0 tr0 A B (.slice fa PA.length fc) (.slice ga PB.length gc) bw (.slice xa B.kids.length xc) wl) (fun kv _ => PA.length - (intOf kv).toNat)
      case atStart => exact ⟨0, Nat.zero_le _, rfl, HSI.out⟩
      case round =>
        obtain ⟨k, hk, rfl, hsa⟩ := hrel
        rename World => wl
        have HSL : Hid (SaAt w0 N 11 dp tb bb sp sb cap mb m1 m2 s0 tr0 A B (.slice fa PA.length fc) (.slice ga PB.length gc) bw (.slice xa B.kids.length xc) wl) := hsa
        clear hsa HSI
        by_cases hlk : k < PA.length
        · obtain ⟨p, hp⟩ : ∃ p, PA[k]? = some p := ⟨_, List.getElem?_eq_getElem hlk⟩
          obtain ⟨n, m, D0, D1, e0, e1, hw⟩ := HST.out wl _ _ _ _ i k p q HSL.out hp HQ.out
          have hF := HSL.out.f
          have hG := HSL.out.g
          have eA : pathsT (11 + 1) A = PA := HEA.out.symm
          have eB : pathsT (11 + 1) B = PB := HEB.out.symm
          rw [eA] at hF
          rw [eB] at hG
          obtain ⟨fg, fcp, ef, hcf⟩ := row_str hF hp
          obtain ⟨gg, gcp, eg, hcg⟩ := row_str hG HQ.out
          simp only [Value.slice.injEq] at ef eg
          obtain ⟨rfl, _, rfl⟩ := ef
          obtain ⟨rfl, _, rfl⟩ := eg
          have HGC : Hid (∀ W', Below wl.heap.size wl W' → W'.cell? ⟨gg, i, none⟩ = some (.string q)) := fun W' h => (h.cell (p := ⟨gg, i, none⟩) (World.block_lt_of_cell? wl _ hcg)).trans hcg
          have hW : Hid _ := hw
          clear hw hF hG eA eB hcg hp HSL
          go_wp2_with fail
          refine Calls.mono (hW.out wl (Below.refl _ _)).1 ?_
          rintro e u1 ⟨rfl, b1⟩
          have B1 : Hid (Below wl.heap.size wl u1) := b1
          have g1 := HGC.out u1 b1
          clear b1 hcf
          go_wp2_with fail
          refine Calls.mono (hW.out u1 B1.out).2.1 ?_
          rintro e u2 ⟨rfl, b2⟩
          have B2 : Hid (Below wl.heap.size wl u2) := B1.out.trans (b2.mono B1.out.size)
          clear b2 B1 g1
          go_wp2_with fail
          refine Calls.mono (hW.out u2 B2.out).2.2.1 ?_
          rintro e ux ⟨rfl, hx⟩
          rw [hx]
          clear hx ux
          go_wp2_with fail
          refine Calls.mono (hW.out u2 B2.out).2.2.2.1 ?_
          rintro e u3 ⟨rfl, b3⟩
          have B3 : Hid (Below wl.heap.size wl u3) := B2.out.trans (b3.mono B2.out.size)
          clear b3 B2
          go_wp2_with fail
          refine Calls.mono (hW.out u3 B3.out).2.2.1 ?_
          rintro e ux ⟨rfl, hx⟩
          rw [hx]
          clear hx ux
          go_wp2_with fail
          refine Calls.mono (hW.out u3 B3.out).2.2.2.2.1 ?_
          rintro e u4 ⟨rfl, b4⟩
          have B4 : Hid (Below wl.heap.size wl u4) := B3.out.trans (b4.mono B3.out.size)
          clear b4 B3
          go_wp2_with fail
          refine Calls.mono (hW.out u4 B4.out).2.2.1 ?_
          rintro e ux ⟨rfl, hx⟩
          rw [hx]
          clear hx ux
          go_wp2_with fail
          refine Calls.mono (hW.out u4 B4.out).2.2.2.2.2.1 ?_
          rintro e u5 ⟨x0, x1, x4, qa, qn, qc, rfl, b5⟩
          have B5 : Hid (Below wl.heap.size wl u5) := B4.out.trans (b5.mono B4.out.size)
          clear b5 B4
          go_wp2_with fail
          obtain ⟨U6, HU6⟩ : ∃ U6, Hid (U6 = u5.alloc (.cells #[.int .i64 x0, .int .i64 x1, .bool e0, .slice qa qn qc, .int .u32 x4] 54)) := ⟨_, (rfl : _ = _)⟩
          have hb6 : Below u5.heap.size u5 U6 := by rw [HU6.out]; exact (Below.refl _ u5).alloc (Nat.le_refl _) _
          have B6 : Hid (Below wl.heap.size wl U6) := B5.out.trans (hb6.mono B5.out.size)
          have HX1 : Hid (U6.cell? ⟨u5.heap.size, 2, none⟩ = some (.bool e0) ∧ u5.heap.size < U6.heap.size) := by
            rw [HU6.out]
            exact ⟨by rw [cell_of_row _ _ _ _ _ _ (heap_alloc_last u5 _)]; rfl, by simp⟩
          rw [← HU6.out]
          clear hb6 HU6 B5
          refine Calls.mono (hW.out U6 B6.out).2.2.1 ?_
          rintro e ux ⟨rfl, hx⟩
          rw [hx]
          clear hx ux
          go_wp2_with fail
          refine Calls.mono (hW.out U6 B6.out).2.2.2.2.2.2.1 ?_
          rintro e u7 ⟨y0, y1, y4, ra, rn, rc, rfl, b7⟩
          have B7 : Hid (Below wl.heap.size wl u7) := B6.out.trans (b7.mono B6.out.size)
          obtain ⟨U8, HU8⟩ : ∃ U8, Hid (U8 = u7.alloc (.cells #[.int .i64 y0, .int .i64 y1, .bool e1, .slice ra rn rc, .int .u32 y4] 54)) := ⟨_, (rfl : _ = _)⟩
          have hb8 : Below u7.heap.size u7 U8 := by rw [HU8.out]; exact (Below.refl _ u7).alloc (Nat.le_refl _) _
          have B8 : Hid (Below wl.heap.size wl U8) := B7.out.trans (hb8.mono B7.out.size)
          have h68 : Below U6.heap.size U6 U8 := b7.trans (hb8.mono b7.size)
          have z1 : U8.cell? ⟨u5.heap.size, 2, none⟩ = some (.bool e0) := (h68.cell (p := ⟨u5.heap.size, 2, none⟩) HX1.out.2).trans HX1.out.1
          have z2 : U8.cell? ⟨u7.heap.size, 2, none⟩ = some (.bool e1) := by rw [HU8.out, cell_of_row _ _ _ _ _ _ (heap_alloc_last u7 _)]; rfl
          have z3 := HGC.out U8 B8.out
          have HSH := (hW.out U8 B8.out).2.2.2.2.2.2.2
          rw [HU8.out] at z1 z2 z3
          clear b7 hb8 h68 B7 B6 HX1 hW HGC
          by_cases hD : D0 = D1
          · have hDb := bytes_same hD
            by_cases he : e0 = e1
            · have heb : (e0 == e1) = true := by rw [he]; simp
              have HY : Hid (D0 = D1 ∧ e0 = e1) := ⟨hD, he⟩
              clear hD he
              go_wp2_with fail
              rw [← HU8.out]
              refine Calls.mono HSH ?_
              rintro e u9 ⟨SA9, h⟩
              have HS9 : Hid (SaAt w0 N 11 dp tb bb sp sb cap mb m1 m2 s0 tr0 A B (.slice (some ⟨fg, 0, none⟩) PA.length fc) (.slice (some ⟨gg, 0, none⟩) PB.length gc) bw (.slice xa B.kids.length xc) u9) := SA9
              rcases h with ⟨rfl, _⟩ | ⟨r, rfl, hno⟩
              · clear SA9
                go_wp2_with fail
                exact ⟨⟨k + 1, by omega, by simp, HS9.out⟩, by simp [intOf]; omega⟩
              · exact absurd HY.out hno
            · have heb : (e0 == e1) = false := by cases e0 <;> cases e1 <;> first | rfl | exact absurd rfl he
              have HY : Hid (¬ (D0 = D1 ∧ e0 = e1)) := fun h => he h.2
              clear hD he
              go_wp2_with fail
              rw [← HU8.out]
              refine Calls.mono HSH ?_
              rintro e u9 ⟨SA9, h⟩
              have HS9 : Hid (SaAt w0 N 11 dp tb bb sp sb cap mb m1 m2 s0 tr0 A B (.slice (some ⟨fg, 0, none⟩) PA.length fc) (.slice (some ⟨gg, 0, none⟩) PB.length gc) bw (.slice xa B.kids.length xc) u9) := SA9
              rcases h with ⟨rfl, hno⟩ | ⟨r, rfl, _⟩
              · exact absurd hno HY.out
              · clear SA9
                go_wp2_with fail
                exact ⟨⟨k + 1, by omega, by simp, HS9.out⟩, by simp [intOf]; omega⟩
          · have hDb := bytes_diff hD
            have HY : Hid (¬ (D0 = D1 ∧ e0 = e1)) := fun h => hD h.1
            clear hD
            go_wp2_with fail
            rw [← HU8.out]
            refine Calls.mono HSH ?_
            rintro e u9 ⟨SA9, h⟩
            have HS9 : Hid (SaAt w0 N 11 dp tb bb sp sb cap mb m1 m2 s0 tr0 A B (.slice (some ⟨fg, 0, none⟩) PA.length fc) (.slice (some ⟨gg, 0, none⟩) PB.length gc) bw (.slice xa B.kids.length xc) u9) := SA9
            rcases h with ⟨rfl, hno⟩ | ⟨r, rfl, _⟩
            · exact absurd hno HY.out
            · clear SA9
              go_wp2_with fail
              exact ⟨⟨k + 1, by omega, by simp, HS9.out⟩, by simp [intOf]; omega⟩
        · obtain rfl : k = PA.length := by omega
          go_wp2_with fail
          exact ⟨⟨i + 1, by omega, by simp, HSL.out⟩, by simp [intOf]; omega⟩
    · obtain rfl : i = PB.length := by omega
      have HGG := HGE.out wr _ _ _ _ HSI.out
      have HBX : Hid (wr.heap[bw]? = some (.cells #[.string B.kind, .string B.data, .bool B.exec, .slice xa B.kids.length xc] 32 (0, 0))) := HSI.out.box
      clear HST HGE HSI
      go_wp2_with fail
      refine Calls.mono HGG ?_
      rintro e w7 ⟨ya, yc, rfl, b7, l1, l2, hs7⟩
      obtain ⟨W8, HW8⟩ : ∃ W8, Hid (W8 = w7.alloc (.cells #[.string B.kind, .string B.data, .bool B.exec, .slice ya B.kids.length yc] 32)) := ⟨_, (rfl : _ = _)⟩
      have hb8 : Below w7.heap.size w7 W8 := by rw [HW8.out]; exact (Below.refl _ w7).alloc (Nat.le_refl _) _
      have hrx : W8.heap[bw]? = some (.cells #[.string B.kind, .string B.data, .bool B.exec, .slice xa B.kids.length xc] 32 (0, 0)) := by
        have h7 := (b7.block _ (Array.getElem?_eq_some_iff.1 HBX.out).1).trans HBX.out
        exact (hb8.block _ (Array.getElem?_eq_some_iff.1 h7).1).trans h7
      have hry : W8.heap[w7.heap.size]? = some (.cells #[.string B.kind, .string B.data, .bool B.exec, .slice ya B.kids.length yc] 32 (0, 0)) := by rw [HW8.out]; exact heap_alloc_last w7 _
      obtain ⟨⟨p0, p1, p2, p3⟩, _⟩ := row4b hrx
      obtain ⟨⟨q0, q1, q2, q3⟩, _⟩ := row4b hry
      have HSM := ds_same (d := 11) ((l1.below hb8 (Nat.le_refl _)).up hb8.size (Nat.le_refl _)) ((l2.below hb8 (Nat.le_refl _)).up hb8.size (Nat.le_refl _))
      have HS7 : Hid (∀ W2, Below W8.heap.size W8 W2 → Calls Tryz.prog 25 #[.pointer (some ⟨dp, 0, none⟩)] W2 fun e w3 => ∃ sv : Nat, e = .returned (.int .i64 (sv : Int)) ∧ weight 12 tr0 [A, B] + (freeR s0.u).length ≤ sv + N ∧ Below w0.heap.size w0 w3) := fun W2 h => hs7 W2 (hb8.trans (h.mono hb8.size))
      rw [HW8.out] at p0 p1 p2 p3 q0 q1 q2 q3
      clear hrx hry l1 l2 hs7 b7 hb8 HGG HBX
      go_wp2_with fail
      rw [← HW8.out]
      refine Calls.mono HSM ?_
      rintro e w9 ⟨rfl, b9⟩
      have HS9 := HS7.out w9 b9
      clear b9 HSM HS7
      go_wp2_with fail
      refine Calls.mono HS9 ?_
      rintro e wa ⟨sw, rfl, hsw, hba⟩
      have hge : (sv : Int) ≤ (sw : Int) := by have := HSV6.out; omega
      have HBA : Hid (Below w0.heap.size w0 wa) := hba
      clear hsw hba HS9
      go_wp2_with fail
      go_ret
      exact ⟨rfl, HBA.out⟩
end
end Go.Proofs.YteefneelcgeioaaGreatDoor
