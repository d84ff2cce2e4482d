/-
  The law TapeActs.
  Conditions: the sentinels and the library's variables lie as their text lays them.
-/
import Derived.Test.YthelggcaggobaaaDoorVm
namespace Go.Proofs.YthelggcaggobaaaDoor
open Go.RowKit
attribute [local go_sem ↓] Go.wp_at_zero Go.wp_at_succ

/-- The end of a round: the bytes, and the power, are alike. -/
theorem not_eq (b : Bool) : ((!b) == b) = false := by cases b <;> rfl
set_option maxRecDepth 100000 in
set_option maxHeartbeats 8000000 in
theorem tapeActs_any {a : Nat → Addr} (b : ByteArray) (v : Value) (l : List TWr) (w : World) (hL : Lv w.heap.size w) (hS : Sn4 a w.heap.size w) (hE : Sents a w) (hv : WrsAt w v l) (hb : b.size ≤ 9223372036854775807) (hl : l.length ≤ 9223372036854775807) :
    Calls Tryd.prog 5 #[.string b, v] w fun e w' => e = .returned (.bool true) ∧ Below w.heap.size w w' := by
  have HT : Hid _ := taped_any w hL hS
  obtain ⟨ad, cap, rfl, _⟩ := id hv
  have HV : Hid (WrsAt w (.slice ad l.length cap) l) := hv
  have HL : Hid (Lv w.heap.size w) := hL
  have HS : Hid (Sn4 a w.heap.size w) := hS
  have HE : Hid (Sents a w) := hE
  clear hv hL hS hE
  go_enter Tryd.func5, Tryd.ntmps5
  go_wp2_with fail
  refine Calls.mono HT.out ?_
  rintro e w0 ⟨rfl, hb0⟩
  have HB0 : Hid (Below w.heap.size w w0) := hb0
  clear hb0 HT
  by_cases h20 : 2000 < b.size
  · have h20' : (2000 : Int) < (b.size : Int) := by omega
    go_wp2_with fail
    go_ret
    exact ⟨rfl, HB0.out⟩
  have h20' : (b.size : Int) ≤ 2000 := by omega
  by_cases h50 : 50 < l.length
  · have h50' : (50 : Int) < (l.length : Int) := by omega
    go_wp2_with fail
    go_ret
    exact ⟨rfl, HB0.out⟩
  have h50' : (l.length : Int) ≤ 50 := by omega
  have HN : Hid _ := t_new (w0 := w0) (a := a) b (by omega) ((HL.out.below HB0.out).up HB0.out.size) ((HS.out.below HB0.out).up HB0.out.size)
  have HV0 : Hid (WrsAt w0 (.slice ad l.length cap) l) := HV.out.below HB0.out
  have HSE : Hid (∀ W, Below w0.heap.size w0 W → Sents a W) := fun W hW => (HE.out.below HB0.out).below hW
  clear h50 h20 HL HS HV HE
  go_wp2_with fail
  refine Calls.mono HN.out ?_
  rintro e w1 ⟨rfl, h1⟩
  obtain ⟨d, hd⟩ : ∃ d, d = w0.heap.size + 1 := ⟨_, rfl⟩
  rw [← hd] at h1 ⊢
  obtain ⟨W0, HW0⟩ : ∃ W0, Hid (W0 = w1.alloc (.cells #[.string b, .bool false, .int .i64 (-1)] 42)) := ⟨_, rfl⟩
  have HI2 : Hid (Two w0 a w0.heap.size d w1.heap.size ⟨b.data.toList, false, false, 0⟩ ⟨b.data.toList, false, -1⟩ W0) := by
    have hb1 : Below w1.heap.size w1 W0 := by rw [HW0.out]; exact (Below.refl _ _).alloc (Nat.le_refl _) _
    have q1 : W0.heap[w1.heap.size]? = some (.cells #[.string b, .bool false, .int .i64 (-1)] 42 (0, 0)) := by rw [HW0.out]; exact heap_alloc_last _ _
    exact ⟨h1.below hb1, q1, h1.fr.size⟩
  obtain ⟨m, hm⟩ : ∃ m, m = w1.heap.size := ⟨_, rfl⟩
  have HM : Hid (m = w1.heap.size) := hm
  rw [← hm] at HI2
  clear HN h1 hd hm
  go_upto_region 8 with fail
  rw [← HW0.out, ← HM.out]
  clear HM HW0
  go_wp2_with fail
  go_loopw [9] (fun i wr => ∃ (k : Nat) (t : Tp) (q : Mtp), k ≤ l.length ∧ i = .int .i64 k ∧ Hid (Two w0 a w0.heap.size d m t q wr ∧ Sim t q ∧ t.l.length ≤ 2000 + 209 * k)) (fun i _ => l.length - (intOf i).toNat)
  case atStart => exact ⟨0, ⟨b.data.toList, false, false, 0⟩, ⟨b.data.toList, false, -1⟩, Nat.zero_le _, rfl, HI2.out, sim_start _, by simp; omega⟩
  case round =>
    obtain ⟨k, t, q, hk, rfl, HI⟩ := hrel
    have hk0 : (0 : Int) ≤ (k : Int) := by omega
    have HT : Hid (Two w0 a w0.heap.size d m t q wr) := HI.out.1
    have HSI : Hid (Sim t q) := HI.out.2.1
    have hln : t.l.length ≤ 2000 + 209 * k := HI.out.2.2
    clear HI
    by_cases hlt : k < l.length
    · have hlt' : (k : Int) < (l.length : Int) := by omega
      obtain ⟨x, hx⟩ : ∃ x, l[k]? = some x := ⟨l[k], List.getElem?_eq_getElem hlt⟩
      obtain ⟨hxb, bb, off, rfl, HCX⟩ : (x.s.size ≤ 9223372036854775807 ∧ x.n ≤ 9223372036854775807) ∧ ∃ bb off, ad = some ⟨bb, off, none⟩ ∧ Hid (wr.cell? ⟨bb, off + k * 3, none⟩ = some (.string x.kind) ∧ wr.cell? ⟨bb, off + k * 3 + 1, none⟩ = some (.string x.s) ∧ wr.cell? ⟨bb, off + k * 3 + 2, none⟩ = some (.int .i64 x.n)) := by
        obtain ⟨ad', c', e, hc⟩ := HV0.out
        simp only [Value.slice.injEq] at e
        obtain ⟨rfl, _, rfl⟩ := e
        obtain ⟨h1, bb, off, rfl, c0, c1, c2⟩ := hc k x hx
        have hlt2 : bb < w0.heap.size := World.block_lt_of_cell? w0 _ c0
        have hf := HT.out.tin.fr
        exact ⟨h1, bb, off, rfl, by rw [hf.cell (p := ⟨bb, off + k * 3, none⟩) hlt2]; exact c0, by rw [hf.cell (p := ⟨bb, off + k * 3 + 1, none⟩) hlt2]; exact c1, by rw [hf.cell (p := ⟨bb, off + k * 3 + 2, none⟩) hlt2]; exact c2⟩
      have c0 := HCX.out.1
      have c1 := HCX.out.2.1
      have c2 := HCX.out.2.2
      clear hx HCX
      obtain ⟨W0, HW0⟩ : ∃ W0, Hid (W0 = wr.alloc (.cells #[.string x.kind, .string x.s, .int .i64 x.n] 44)) := ⟨_, rfl⟩
      have hbw : Below wr.heap.size wr W0 := by rw [HW0.out]; exact (Below.refl _ _).alloc (Nat.le_refl _) _
      have HT0 : Hid (Two w0 a w0.heap.size d m t q W0) := HT.out.below hbw
      have hX0 : W0.heap[wr.heap.size]? = some (.cells #[.string x.kind, .string x.s, .int .i64 x.n] 44 (0, 0)) := by rw [HW0.out]; exact heap_alloc_last _ _
      obtain ⟨wb, HWB⟩ : ∃ wb, Hid (wb = wr.heap.size) := ⟨_, rfl⟩
      rw [← HWB.out] at hX0
      have HX0 : Hid (W0.heap[wb]? = some (.cells #[.string x.kind, .string x.s, .int .i64 x.n] 44 (0, 0))) := hX0
      have x0 : W0.cell? ⟨wb, 0, none⟩ = some (.string x.kind) := by rw [cell_of_row _ _ _ _ _ _ hX0]; rfl
      have x1 : W0.cell? ⟨wb, 1, none⟩ = some (.string x.s) := by rw [cell_of_row _ _ _ _ _ _ hX0]; rfl
      clear hX0 hbw HT
      go_upto_region 12 with fail
      rw [← HW0.out, ← HWB.out]
      clear HW0 HWB c0 c1 c2
      by_cases hbig : 200 < x.s.size ∧ x.s.size ≠ 20001
      · have hb1 : (200 : Int) < (x.s.size : Int) := by omega
        have hb2 : ¬ (x.s.size : Int) = 20001 := by omega
        have HF : Hid (Below w0.heap.size w0 W0) := HT0.out.tin.fr
        go_wp2_with fail
        go_ret
        exact ⟨rfl, HB0.out.trans (HF.out.mono HB0.out.size)⟩
      have hxs : x.s.size ≤ 200 ∨ x.s.size = 20001 := by omega
      clear hbig
      have HRT : Hid (∀ (t2 : Tp) (q2 : Mtp) (W8 : World), Two w0 a w0.heap.size d m t2 q2 W8 → Sim t2 q2 → t2.l.length ≤ t.l.length + 209 → ∃ (k' : Nat) (t : Tp) (q : Mtp), k' = k + 1 ∧ Hid (Two w0 a w0.heap.size d m t q W8 ∧ Sim t q ∧ t.l.length ≤ 2000 + 209 * k')) := fun t2 q2 W8 h1 h2 h3 => ⟨k + 1, t2, q2, rfl, h1, h2, by omega⟩
      have hcase : ((x.s.size : Int) ≤ 200) ∨ ((200 : Int) < (x.s.size : Int) ∧ (x.s.size : Int) = 20001) := by omega
      go_upto_region 14 with fail
      all_goals
        go_upto_region 19 with fail
        cases ka : (x.kind.toList == [97, 112, 112, 101, 110, 100]) with
        | true =>
          go_upto_region 20 with fail
          have HBX : Hid (∀ W1, KeepO pD W0.drew W1 → W1.cell? ⟨wb, 1, none⟩ = some (.string x.s)) := fun W1 hk => by rw [cell_of_row _ _ _ _ _ _ (hk _ _ _ _ HX0.out (by unfold pD; decide))]; rfl
          have HWA : Hid _ := w_append HT0.out.drew x.s hxb.1 (by omega)
          refine wp_region_held_drew (S := fun w' => w'.cell? ⟨wb, 1, none⟩ = some (.string x.s)) (by kernel_rfl) (HBX.out _ (fun _ _ _ _ h _ => h)) (fun hHeld => ?_)
          refine tk 0 (.pointer (some ⟨d, 0, none⟩)) rfl hHeld ?_
          simp only [tkB, tkS, Act.put]
          refine tk 1 (.pointer (some ⟨wb, 1, none⟩)) rfl hHeld ?_
          simp only [tkB, tkS, Act.put]
          refine tk 2 (.string x.s) rfl hHeld ?_
          simp only [tkB, tkS, Act.put]
          refine tk 4 (.pointer (some ⟨m, 0, none⟩)) rfl hHeld ?_
          simp only [tkB, tkS, Act.put]
          refine tk 5 (.pointer (some ⟨wb, 1, none⟩)) rfl hHeld ?_
          simp only [tkB, tkS, Act.put]
          refine tk 6 (.string x.s) rfl hHeld ?_
          simp only [tkB, tkS, Act.put]
          refine tkR 3 rfl (fun K' hK => ?_)
          simp only [tkB]
          go_simp
          refine Calls.mono (HWA.out) ?_
          rintro e w1 ⟨rfl, h1, k1⟩
          have HT1 : Hid (Two w0 a w0.heap.size d m (apR t x.s).2 q w1) := h1
          have HX1 : Hid (w1.heap[wb]? = some (.cells #[.string x.kind, .string x.s, .int .i64 x.n] 44 (0, 0))) := k1 _ _ _ _ HX0.out (by unfold pD; decide)
          have HVA : Hid _ := v_append HT1.out x.s hxb.1 (by rw [HSI.out.b]; omega) HSI.out.qb
          have hS1 : w1.cell? ⟨wb, 1, none⟩ = some (.string x.s) := HBX.out _ k1
          clear HWA h1 k1
          go_wp2_with fail
          refine hK.out _ _ (hS1) (fun hHeld' => ?_)
          clear hK K' hHeld
          have hHeld := hHeld'
          clear hHeld'
          refine tkR 7 rfl (fun K' hK => ?_)
          simp only [tkB]
          go_simp
          refine Calls.mono (HVA.out) ?_
          rintro e w2 ⟨rfl, h2, k2⟩
          have HT2 : Hid (Two w0 a w0.heap.size d m (apR t x.s).2 (mapR q x.s).2 w2) := h2
          have hS2 : w2.cell? ⟨wb, 1, none⟩ = some (.string x.s) := by rw [cell_of_row _ _ _ _ _ _ (k2 _ _ _ _ HX1.out (by unfold pM; decide))]; rfl
          have HCO : Hid (Calls Tryd.prog 15 #[errV a (apR t x.s).1, .int .i64 ((mapR q x.s).1 : Int)] w2 fun e W' => e = .returned (.bool true) ∧ Below w2.heap.size w2 W') := by rw [← (sim_append HSI.out x.s).1]; exact coded_errV (apR t x.s).1 w2 (HSE.out w2 HT2.out.tin.fr) (ap_codes t x.s)
          clear HVA h2 k2 hS1
          go_wp2_with fail
          refine hK.out _ _ (hS2) (fun hHeld' => ?_)
          clear hK K' hHeld
          have hHeld := hHeld'
          clear hHeld'
          refine tkR 8 rfl (fun K' hK => ?_)
          simp only [tkB]
          go_simp
          refine Calls.mono (HCO.out) ?_
          rintro e w3 ⟨rfl, hb3⟩
          have HT3 : Hid (Two w0 a w0.heap.size d m (apR t x.s).2 (mapR q x.s).2 w3) := HT2.out.below hb3
          have hS3 : w3.cell? ⟨wb, 1, none⟩ = some (.string x.s) := by rw [hb3.cell (p := ⟨wb, 1, none⟩) (World.block_lt_of_cell? w2 _ hS2)]; exact hS2
          clear HCO hb3 hS2
          go_wp2_with fail
          refine hK.out _ _ (hS3) (fun hHeld' => ?_)
          clear hK K' hHeld
          have hHeld := hHeld'
          clear hHeld'
          refine tk 9 (.bool false) rfl hHeld ?_
          simp only [tkB, tkS, Act.put]
          refine wpAnyH_done (by kernel_rfl) ?_ _
          have HSM : Hid (Sim (apR t x.s).2 (mapR q x.s).2) := (sim_append HSI.out x.s).2
          have HLE : Hid ((apR t x.s).2.l.length ≤ t.l.length + 209) := ap_len t x.s hxs
          clear hS3 HX1 HT1 HT2 HBX
          generalize (apR t x.s).2 = t2 at HT3 HSM HLE
          generalize (mapR q x.s).2 = q2 at HT3 HSM
          obtain ⟨Y, HY⟩ : ∃ Y : ByteArray, Hid (bs q2.b = Y) := ⟨_, rfl⟩
          obtain ⟨of, HOF⟩ : ∃ of : Bool, Hid (q2.off = of) := ⟨_, rfl⟩
          have c0 : w3.cell? ⟨m, 0, none⟩ = some (.string Y) := by rw [← HY.out]; exact HT3.out.mt.c0
          have c1 : w3.cell? ⟨m, 1, none⟩ = some (.bool of) := by rw [← HOF.out]; exact HT3.out.mt.c1
          have HBY : Hid (Calls Tryd.prog 14 #[.pointer (some ⟨d, 0, none⟩)] w3.drew fun e W' => e = .returned (.string Y) ∧ W' = w3.drew) := by rw [← HY.out, HSM.out.b]; exact t_bytes HT3.out.drew.tin
          have HPW : Hid (Calls Tryd.prog 12 #[.pointer (some ⟨d, 0, none⟩)] w3.drew fun e W' => e = .returned (.bool (!of)) ∧ W' = w3.drew) := by rw [← HOF.out, HSM.out.off]; exact t_power HT3.out.drew.tin
          have hne := not_eq of
          have HT9 : Hid (Two w0 a w0.heap.size d m t2 q2 w3.drew) := HT3.out.drew
          clear HT3 HY HOF
          go_upto_region 29 with fail
          refine wp_region_held_drew (S := fun w' => w'.cell? ⟨m, 0, none⟩ = some (.string Y) ∧ w'.cell? ⟨m, 1, none⟩ = some (.bool of)) (by kernel_rfl) (by exact ⟨c0, c1⟩) (fun hHeld => ?_)
          refine tk 0 (.pointer (some ⟨d, 0, none⟩)) rfl hHeld ?_
          simp only [tkB, tkS, Act.put]
          refine tk 2 (.pointer (some ⟨m, 0, none⟩)) rfl hHeld ?_
          simp only [tkB, tkS, Act.put]
          refine tk 3 (.pointer (some ⟨m, 0, none⟩)) rfl hHeld ?_
          simp only [tkB, tkS, Act.put]
          refine tk 4 (.pointer (some ⟨m, 0, none⟩)) rfl hHeld ?_
          simp only [tkB, tkS, Act.put]
          refine tk 5 (.string Y) rfl hHeld ?_
          simp only [tkB, tkS, Act.put]
          refine tkR 1 rfl (fun K' hK => ?_)
          simp only [tkB]
          go_simp
          refine Calls.mono HBY.out ?_
          rintro e wx ⟨rfl, rfl⟩
          go_wp2_with fail
          refine hK.out _ _ (by exact ⟨c0, c1⟩) (fun hHeld' => ?_)
          clear hK K' hHeld
          have hHeld := hHeld'
          clear hHeld'
          refine tk 6 (.bool false) rfl hHeld ?_
          simp only [tkB, tkS, Act.put]
          refine tk 7 (.bool false) rfl hHeld ?_
          simp only [tkB, tkS, Act.put]
          refine tk 8 (.pointer (some ⟨d, 0, none⟩)) rfl hHeld ?_
          simp only [tkB, tkS, Act.put]
          refine tk 10 (.pointer (some ⟨m, 0, none⟩)) rfl hHeld ?_
          simp only [tkB, tkS, Act.put]
          refine tk 11 (.pointer (some ⟨m, 0, none⟩)) rfl hHeld ?_
          simp only [tkB, tkS, Act.put]
          refine tk 12 (.pointer (some ⟨m, 1, none⟩)) rfl hHeld ?_
          simp only [tkB, tkS, Act.put]
          refine tk 13 (.bool of) rfl hHeld ?_
          simp only [tkB, tkS, Act.put]
          refine tkR 9 rfl (fun K' hK => ?_)
          simp only [tkB]
          go_simp
          refine Calls.mono HPW.out ?_
          rintro e wx ⟨rfl, rfl⟩
          go_wp2_with fail
          refine hK.out _ _ (by exact ⟨c0, c1⟩) (fun hHeld' => ?_)
          clear hK K' hHeld
          have hHeld := hHeld'
          clear hHeld'
          refine tk 14 (.bool false) rfl hHeld ?_
          simp only [tkB, tkS, Act.put]
          refine tk 15 (.bool false) rfl hHeld ?_
          simp only [tkB, tkS, Act.put]
          refine wpAnyH_done (by kernel_rfl) ?_ _
          clear HBY HPW c0 c1 hHeld
          go_wp2_with fail
          go_roundw
          case rel => exact ⟨k + 1, t2, q2, by omega, by go_num, HT9.out, HSM.out, by have := HLE.out; omega⟩
          case measure => simp [intOf]; omega
        | false =>
          cases kc : (x.kind.toList == [99, 117, 116]) with
          | true =>
            go_upto_region 23 with fail
            have HBX : Hid (∀ W1, KeepO pD W0.drew W1 → W1.cell? ⟨wb, 2, none⟩ = some (.int .i64 x.n)) := fun W1 hk => by rw [cell_of_row _ _ _ _ _ _ (hk _ _ _ _ HX0.out (by unfold pD; decide))]; rfl
            have HWA : Hid _ := w_cut HT0.out.drew x.n hxb.2
            refine wp_region_held_drew (S := fun w' => w'.cell? ⟨wb, 2, none⟩ = some (.int .i64 x.n)) (by kernel_rfl) (HBX.out _ (fun _ _ _ _ h _ => h)) (fun hHeld => ?_)
            refine tk 0 (.pointer (some ⟨d, 0, none⟩)) rfl hHeld ?_
            simp only [tkB, tkS, Act.put]
            refine tk 1 (.pointer (some ⟨wb, 2, none⟩)) rfl hHeld ?_
            simp only [tkB, tkS, Act.put]
            refine tk 2 (.int .i64 x.n) rfl hHeld ?_
            simp only [tkB, tkS, Act.put]
            refine tk 4 (.pointer (some ⟨m, 0, none⟩)) rfl hHeld ?_
            simp only [tkB, tkS, Act.put]
            refine tk 5 (.pointer (some ⟨wb, 2, none⟩)) rfl hHeld ?_
            simp only [tkB, tkS, Act.put]
            refine tk 6 (.int .i64 x.n) rfl hHeld ?_
            simp only [tkB, tkS, Act.put]
            refine tkR 3 rfl (fun K' hK => ?_)
            simp only [tkB]
            go_simp
            refine Calls.mono (HWA.out) ?_
            rintro e w1 ⟨rfl, h1, k1⟩
            have HT1 : Hid (Two w0 a w0.heap.size d m (cutR t x.n).2 q w1) := h1
            have HX1 : Hid (w1.heap[wb]? = some (.cells #[.string x.kind, .string x.s, .int .i64 x.n] 44 (0, 0))) := k1 _ _ _ _ HX0.out (by unfold pD; decide)
            have HVA : Hid _ := v_cut HT1.out x.n
            have hS1 : w1.cell? ⟨wb, 2, none⟩ = some (.int .i64 x.n) := HBX.out _ k1
            clear HWA h1 k1
            go_wp2_with fail
            refine hK.out _ _ (hS1) (fun hHeld' => ?_)
            clear hK K' hHeld
            have hHeld := hHeld'
            clear hHeld'
            refine tkR 7 rfl (fun K' hK => ?_)
            simp only [tkB]
            go_simp
            refine Calls.mono (HVA.out) ?_
            rintro e w2 ⟨rfl, h2, k2⟩
            have HT2 : Hid (Two w0 a w0.heap.size d m (cutR t x.n).2 (mcutR q x.n).2 w2) := h2
            have hS2 : w2.cell? ⟨wb, 2, none⟩ = some (.int .i64 x.n) := by rw [cell_of_row _ _ _ _ _ _ (k2 _ _ _ _ HX1.out (by unfold pM; decide))]; rfl
            have HCO : Hid (Calls Tryd.prog 15 #[errV a (cutR t x.n).1, .int .i64 ((mcutR q x.n).1 : Int)] w2 fun e W' => e = .returned (.bool true) ∧ Below w2.heap.size w2 W') := by rw [← (sim_cut HSI.out x.n hxb.2).1]; exact coded_errV (cutR t x.n).1 w2 (HSE.out w2 HT2.out.tin.fr) (cut_codes t x.n)
            clear HVA h2 k2 hS1
            go_wp2_with fail
            refine hK.out _ _ (hS2) (fun hHeld' => ?_)
            clear hK K' hHeld
            have hHeld := hHeld'
            clear hHeld'
            refine tkR 8 rfl (fun K' hK => ?_)
            simp only [tkB]
            go_simp
            refine Calls.mono (HCO.out) ?_
            rintro e w3 ⟨rfl, hb3⟩
            have HT3 : Hid (Two w0 a w0.heap.size d m (cutR t x.n).2 (mcutR q x.n).2 w3) := HT2.out.below hb3
            have hS3 : w3.cell? ⟨wb, 2, none⟩ = some (.int .i64 x.n) := by rw [hb3.cell (p := ⟨wb, 2, none⟩) (World.block_lt_of_cell? w2 _ hS2)]; exact hS2
            clear HCO hb3 hS2
            go_wp2_with fail
            refine hK.out _ _ (hS3) (fun hHeld' => ?_)
            clear hK K' hHeld
            have hHeld := hHeld'
            clear hHeld'
            refine tk 9 (.bool false) rfl hHeld ?_
            simp only [tkB, tkS, Act.put]
            refine wpAnyH_done (by kernel_rfl) ?_ _
            have HSM : Hid (Sim (cutR t x.n).2 (mcutR q x.n).2) := (sim_cut HSI.out x.n hxb.2).2
            have HLE : Hid ((cutR t x.n).2.l.length ≤ t.l.length + 209) := by show _ ≤ _; rw [cut_len]; omega
            clear hS3 HX1 HT1 HT2 HBX
            generalize (cutR t x.n).2 = t2 at HT3 HSM HLE
            generalize (mcutR q x.n).2 = q2 at HT3 HSM
            obtain ⟨Y, HY⟩ : ∃ Y : ByteArray, Hid (bs q2.b = Y) := ⟨_, rfl⟩
            obtain ⟨of, HOF⟩ : ∃ of : Bool, Hid (q2.off = of) := ⟨_, rfl⟩
            have c0 : w3.cell? ⟨m, 0, none⟩ = some (.string Y) := by rw [← HY.out]; exact HT3.out.mt.c0
            have c1 : w3.cell? ⟨m, 1, none⟩ = some (.bool of) := by rw [← HOF.out]; exact HT3.out.mt.c1
            have HBY : Hid (Calls Tryd.prog 14 #[.pointer (some ⟨d, 0, none⟩)] w3.drew fun e W' => e = .returned (.string Y) ∧ W' = w3.drew) := by rw [← HY.out, HSM.out.b]; exact t_bytes HT3.out.drew.tin
            have HPW : Hid (Calls Tryd.prog 12 #[.pointer (some ⟨d, 0, none⟩)] w3.drew fun e W' => e = .returned (.bool (!of)) ∧ W' = w3.drew) := by rw [← HOF.out, HSM.out.off]; exact t_power HT3.out.drew.tin
            have hne := not_eq of
            have HT9 : Hid (Two w0 a w0.heap.size d m t2 q2 w3.drew) := HT3.out.drew
            clear HT3 HY HOF
            go_upto_region 29 with fail
            refine wp_region_held_drew (S := fun w' => w'.cell? ⟨m, 0, none⟩ = some (.string Y) ∧ w'.cell? ⟨m, 1, none⟩ = some (.bool of)) (by kernel_rfl) (by exact ⟨c0, c1⟩) (fun hHeld => ?_)
            refine tk 0 (.pointer (some ⟨d, 0, none⟩)) rfl hHeld ?_
            simp only [tkB, tkS, Act.put]
            refine tk 2 (.pointer (some ⟨m, 0, none⟩)) rfl hHeld ?_
            simp only [tkB, tkS, Act.put]
            refine tk 3 (.pointer (some ⟨m, 0, none⟩)) rfl hHeld ?_
            simp only [tkB, tkS, Act.put]
            refine tk 4 (.pointer (some ⟨m, 0, none⟩)) rfl hHeld ?_
            simp only [tkB, tkS, Act.put]
            refine tk 5 (.string Y) rfl hHeld ?_
            simp only [tkB, tkS, Act.put]
            refine tkR 1 rfl (fun K' hK => ?_)
            simp only [tkB]
            go_simp
            refine Calls.mono HBY.out ?_
            rintro e wx ⟨rfl, rfl⟩
            go_wp2_with fail
            refine hK.out _ _ (by exact ⟨c0, c1⟩) (fun hHeld' => ?_)
            clear hK K' hHeld
            have hHeld := hHeld'
            clear hHeld'
            refine tk 6 (.bool false) rfl hHeld ?_
            simp only [tkB, tkS, Act.put]
            refine tk 7 (.bool false) rfl hHeld ?_
            simp only [tkB, tkS, Act.put]
            refine tk 8 (.pointer (some ⟨d, 0, none⟩)) rfl hHeld ?_
            simp only [tkB, tkS, Act.put]
            refine tk 10 (.pointer (some ⟨m, 0, none⟩)) rfl hHeld ?_
            simp only [tkB, tkS, Act.put]
            refine tk 11 (.pointer (some ⟨m, 0, none⟩)) rfl hHeld ?_
            simp only [tkB, tkS, Act.put]
            refine tk 12 (.pointer (some ⟨m, 1, none⟩)) rfl hHeld ?_
            simp only [tkB, tkS, Act.put]
            refine tk 13 (.bool of) rfl hHeld ?_
            simp only [tkB, tkS, Act.put]
            refine tkR 9 rfl (fun K' hK => ?_)
            simp only [tkB]
            go_simp
            refine Calls.mono HPW.out ?_
            rintro e wx ⟨rfl, rfl⟩
            go_wp2_with fail
            refine hK.out _ _ (by exact ⟨c0, c1⟩) (fun hHeld' => ?_)
            clear hK K' hHeld
            have hHeld := hHeld'
            clear hHeld'
            refine tk 14 (.bool false) rfl hHeld ?_
            simp only [tkB, tkS, Act.put]
            refine tk 15 (.bool false) rfl hHeld ?_
            simp only [tkB, tkS, Act.put]
            refine wpAnyH_done (by kernel_rfl) ?_ _
            clear HBY HPW c0 c1 hHeld
            go_wp2_with fail
            go_roundw
            case rel => exact ⟨k + 1, t2, q2, by omega, by go_num, HT9.out, HSM.out, by have := HLE.out; omega⟩
            case measure => simp [intOf]; omega
          | false =>
            cases ko : (x.kind.toList == [111, 110]) with
            | true =>
              have HON : Hid _ := w_on HT0.out
              go_wp2_with fail
              refine Calls.mono HON.out ?_
              rintro e w3 ⟨rfl, h3, _⟩
              obtain ⟨W8, HW8⟩ : ∃ W8, Hid (W8 = (w3.setCell ⟨m, 1, none⟩ (.bool false)).setCell ⟨m, 2, none⟩ (.int .i64 (-1))) := ⟨_, rfl⟩
              have HT8 : Hid (Two w0 a w0.heap.size d m (onR t) ⟨q.b, false, -1⟩ W8) := by show Two _ _ _ _ _ _ _ W8; rw [HW8.out]; exact h3.on2
              have HSM : Hid (Sim (onR t) ⟨q.b, false, -1⟩) := sim_on HSI.out
              have HLE : Hid ((onR t).l.length ≤ t.l.length + 209) := by show t.l.length ≤ _; omega
              have m1 := h3.mt.c1
              have m2 := h3.mt.c2
              have g1 := h3.mt.fr 1
              have g2 := h3.mt.fr 2
              clear HON h3
              generalize onR t = t2 at HT8 HSM HLE
              generalize (⟨q.b, false, -1⟩ : Mtp) = q2 at HT8 HSM
              go_upto_region 29 with fail
              rw [← HW8.out]
              clear HW8 m1 m2 g1 g2
              obtain ⟨Y, HY⟩ : ∃ Y : ByteArray, Hid (bs q2.b = Y) := ⟨_, rfl⟩
              obtain ⟨of, HOF⟩ : ∃ of : Bool, Hid (q2.off = of) := ⟨_, rfl⟩
              have c0 : W8.cell? ⟨m, 0, none⟩ = some (.string Y) := by rw [← HY.out]; exact HT8.out.mt.c0
              have c1 : W8.cell? ⟨m, 1, none⟩ = some (.bool of) := by rw [← HOF.out]; exact HT8.out.mt.c1
              have HBY : Hid (Calls Tryd.prog 14 #[.pointer (some ⟨d, 0, none⟩)] W8.drew fun e W' => e = .returned (.string Y) ∧ W' = W8.drew) := by rw [← HY.out, HSM.out.b]; exact t_bytes HT8.out.drew.tin
              have HPW : Hid (Calls Tryd.prog 12 #[.pointer (some ⟨d, 0, none⟩)] W8.drew fun e W' => e = .returned (.bool (!of)) ∧ W' = W8.drew) := by rw [← HOF.out, HSM.out.off]; exact t_power HT8.out.drew.tin
              have hne := not_eq of
              have HT9 : Hid (Two w0 a w0.heap.size d m t2 q2 W8.drew) := HT8.out.drew
              clear HT8 HY HOF
              refine wp_region_held_drew (S := fun w' => w'.cell? ⟨m, 0, none⟩ = some (.string Y) ∧ w'.cell? ⟨m, 1, none⟩ = some (.bool of)) (by kernel_rfl) (by exact ⟨c0, c1⟩) (fun hHeld => ?_)
              refine tk 0 (.pointer (some ⟨d, 0, none⟩)) rfl hHeld ?_
              simp only [tkB, tkS, Act.put]
              refine tk 2 (.pointer (some ⟨m, 0, none⟩)) rfl hHeld ?_
              simp only [tkB, tkS, Act.put]
              refine tk 3 (.pointer (some ⟨m, 0, none⟩)) rfl hHeld ?_
              simp only [tkB, tkS, Act.put]
              refine tk 4 (.pointer (some ⟨m, 0, none⟩)) rfl hHeld ?_
              simp only [tkB, tkS, Act.put]
              refine tk 5 (.string Y) rfl hHeld ?_
              simp only [tkB, tkS, Act.put]
              refine tkR 1 rfl (fun K' hK => ?_)
              simp only [tkB]
              go_simp
              refine Calls.mono HBY.out ?_
              rintro e wx ⟨rfl, rfl⟩
              go_wp2_with fail
              refine hK.out _ _ (by exact ⟨c0, c1⟩) (fun hHeld' => ?_)
              clear hK K' hHeld
              have hHeld := hHeld'
              clear hHeld'
              refine tk 6 (.bool false) rfl hHeld ?_
              simp only [tkB, tkS, Act.put]
              refine tk 7 (.bool false) rfl hHeld ?_
              simp only [tkB, tkS, Act.put]
              refine tk 8 (.pointer (some ⟨d, 0, none⟩)) rfl hHeld ?_
              simp only [tkB, tkS, Act.put]
              refine tk 10 (.pointer (some ⟨m, 0, none⟩)) rfl hHeld ?_
              simp only [tkB, tkS, Act.put]
              refine tk 11 (.pointer (some ⟨m, 0, none⟩)) rfl hHeld ?_
              simp only [tkB, tkS, Act.put]
              refine tk 12 (.pointer (some ⟨m, 1, none⟩)) rfl hHeld ?_
              simp only [tkB, tkS, Act.put]
              refine tk 13 (.bool of) rfl hHeld ?_
              simp only [tkB, tkS, Act.put]
              refine tkR 9 rfl (fun K' hK => ?_)
              simp only [tkB]
              go_simp
              refine Calls.mono HPW.out ?_
              rintro e wx ⟨rfl, rfl⟩
              go_wp2_with fail
              refine hK.out _ _ (by exact ⟨c0, c1⟩) (fun hHeld' => ?_)
              clear hK K' hHeld
              have hHeld := hHeld'
              clear hHeld'
              refine tk 14 (.bool false) rfl hHeld ?_
              simp only [tkB, tkS, Act.put]
              refine tk 15 (.bool false) rfl hHeld ?_
              simp only [tkB, tkS, Act.put]
              refine wpAnyH_done (by kernel_rfl) ?_ _
              clear HBY HPW c0 c1 hHeld
              go_wp2_with fail
              go_roundw
              case rel => exact ⟨k + 1, t2, q2, by omega, by go_num, HT9.out, HSM.out, by have := HLE.out; omega⟩
              case measure => simp [intOf]; omega
            | false =>
              have HRC : Hid _ := w_recover HT0.out (by omega)
              go_wp2_with fail
              refine Calls.mono HRC.out ?_
              rintro e w3 ⟨va, vc, rfl, hr3, h3, _⟩
              have HVR : Hid (Calls Tryd.prog 19 #[.pointer (some ⟨m, 0, none⟩)] w3 fun e W' => ∃ va2 vc2, e = .returned (.slice va2 (readA t.l).1.length vc2) ∧ (Texts W' (.slice va2 (readA t.l).1.length vc2) (readA t.l).1 ∧ Texts W' (.slice va (readA t.l).1.length vc) (readA t.l).1) ∧ Two w0 a w0.heap.size d m (recvR t) (mrecR q) W') := (v_recover h3 (by rw [HSI.out.b]; omega)).mono fun e W' ⟨va2, vc2, he, ho, h4, k4⟩ => by
                unfold RdP at ho hr3
                rw [HSI.out.b] at he ho
                exact ⟨va2, vc2, he, ⟨OwnS.texts ho, OwnS.texts (k4.owns (by unfold pM; decide) hr3)⟩, h4⟩
              have hrt := (readA_texts t.l.length t.l (Nat.le_refl _)).1
              clear HRC hr3 h3
              generalize (readA t.l).1 = xs at *
              go_wp2_with fail
              refine Calls.mono HVR.out ?_
              rintro e w4 ⟨va2, vc2, rfl, hx4, h4⟩
              have HST : Hid _ := sameTexts_any (.slice va xs.length vc) (.slice va2 xs.length vc2) xs xs w4 hx4.2 hx4.1 (by omega)
              rw [textsEq_refl2] at HST
              have HT4 : Hid _ := h4
              clear HVR hx4 h4
              go_wp2_with fail
              refine Calls.mono HST.out ?_
              rintro e w5 ⟨rfl, hb5⟩
              have HT5 : Hid (Two w0 a w0.heap.size d m (recvR t) (mrecR q) w5) := HT4.out.below hb5
              have HSM : Hid (Sim (recvR t) (mrecR q)) := sim_recover HSI.out
              have HLE : Hid ((recvR t).l.length ≤ t.l.length + 209) := by have := recv_len t; show _ ≤ _; omega
              clear HST HT4 hb5
              generalize recvR t = t2 at HT5 HSM HLE
              generalize mrecR q = q2 at HT5 HSM
              obtain ⟨Y, HY⟩ : ∃ Y : ByteArray, Hid (bs q2.b = Y) := ⟨_, rfl⟩
              obtain ⟨of, HOF⟩ : ∃ of : Bool, Hid (q2.off = of) := ⟨_, rfl⟩
              have c0 : w5.cell? ⟨m, 0, none⟩ = some (.string Y) := by rw [← HY.out]; exact HT5.out.mt.c0
              have c1 : w5.cell? ⟨m, 1, none⟩ = some (.bool of) := by rw [← HOF.out]; exact HT5.out.mt.c1
              have HBY : Hid (Calls Tryd.prog 14 #[.pointer (some ⟨d, 0, none⟩)] w5.drew fun e W' => e = .returned (.string Y) ∧ W' = w5.drew) := by rw [← HY.out, HSM.out.b]; exact t_bytes HT5.out.drew.tin
              have HPW : Hid (Calls Tryd.prog 12 #[.pointer (some ⟨d, 0, none⟩)] w5.drew fun e W' => e = .returned (.bool (!of)) ∧ W' = w5.drew) := by rw [← HOF.out, HSM.out.off]; exact t_power HT5.out.drew.tin
              have hne := not_eq of
              have HT9 : Hid (Two w0 a w0.heap.size d m t2 q2 w5.drew) := HT5.out.drew
              clear HT5 HY HOF
              go_upto_region 29 with fail
              refine wp_region_held_drew (S := fun w' => w'.cell? ⟨m, 0, none⟩ = some (.string Y) ∧ w'.cell? ⟨m, 1, none⟩ = some (.bool of)) (by kernel_rfl) (by exact ⟨c0, c1⟩) (fun hHeld => ?_)
              refine tk 0 (.pointer (some ⟨d, 0, none⟩)) rfl hHeld ?_
              simp only [tkB, tkS, Act.put]
              refine tk 2 (.pointer (some ⟨m, 0, none⟩)) rfl hHeld ?_
              simp only [tkB, tkS, Act.put]
              refine tk 3 (.pointer (some ⟨m, 0, none⟩)) rfl hHeld ?_
              simp only [tkB, tkS, Act.put]
              refine tk 4 (.pointer (some ⟨m, 0, none⟩)) rfl hHeld ?_
              simp only [tkB, tkS, Act.put]
              refine tk 5 (.string Y) rfl hHeld ?_
              simp only [tkB, tkS, Act.put]
              refine tkR 1 rfl (fun K' hK => ?_)
              simp only [tkB]
              go_simp
              refine Calls.mono HBY.out ?_
              rintro e wx ⟨rfl, rfl⟩
              go_wp2_with fail
              refine hK.out _ _ (by exact ⟨c0, c1⟩) (fun hHeld' => ?_)
              clear hK K' hHeld
              have hHeld := hHeld'
              clear hHeld'
              refine tk 6 (.bool false) rfl hHeld ?_
              simp only [tkB, tkS, Act.put]
              refine tk 7 (.bool false) rfl hHeld ?_
              simp only [tkB, tkS, Act.put]
              refine tk 8 (.pointer (some ⟨d, 0, none⟩)) rfl hHeld ?_
              simp only [tkB, tkS, Act.put]
              refine tk 10 (.pointer (some ⟨m, 0, none⟩)) rfl hHeld ?_
              simp only [tkB, tkS, Act.put]
              refine tk 11 (.pointer (some ⟨m, 0, none⟩)) rfl hHeld ?_
              simp only [tkB, tkS, Act.put]
              refine tk 12 (.pointer (some ⟨m, 1, none⟩)) rfl hHeld ?_
              simp only [tkB, tkS, Act.put]
              refine tk 13 (.bool of) rfl hHeld ?_
              simp only [tkB, tkS, Act.put]
              refine tkR 9 rfl (fun K' hK => ?_)
              simp only [tkB]
              go_simp
              refine Calls.mono HPW.out ?_
              rintro e wx ⟨rfl, rfl⟩
              go_wp2_with fail
              refine hK.out _ _ (by exact ⟨c0, c1⟩) (fun hHeld' => ?_)
              clear hK K' hHeld
              have hHeld := hHeld'
              clear hHeld'
              refine tk 14 (.bool false) rfl hHeld ?_
              simp only [tkB, tkS, Act.put]
              refine tk 15 (.bool false) rfl hHeld ?_
              simp only [tkB, tkS, Act.put]
              refine wpAnyH_done (by kernel_rfl) ?_ _
              clear HBY HPW c0 c1 hHeld
              go_wp2_with fail
              go_roundw
              case rel => exact ⟨k + 1, t2, q2, by omega, by go_num, HT9.out, HSM.out, by have := HLE.out; omega⟩
              case measure => simp [intOf]; omega
    · have hlt' : ¬ (k : Int) < (l.length : Int) := by omega
      obtain ⟨Y, HY⟩ : ∃ Y : ByteArray, Hid (bs q.b = Y) := ⟨_, rfl⟩
      have HYL : Hid (Y.data.toList = t.l) := show _ = _ by rw [← HY.out, bs_list, HSI.out.b]
      have hYs : Y.size ≤ 100000 := by rw [← HY.out, bs_size, HSI.out.b]; omega
      have c0 : wr.cell? ⟨m, 0, none⟩ = some (.string Y) := by rw [← HY.out]; exact HT.out.mt.c0
      have HRD : Hid (Calls Tryd.prog 13 #[.string Y] wr fun e W' => ∃ va vc, e = .returned (.tuple #[.slice va (readA Y.data.toList).1.length vc, .int .i64 (readN Y.data.toList : Int)]) ∧ OwnS W' w0.heap.size (.slice va (readA Y.data.toList).1.length vc) (readA Y.data.toList).1 ∧ Two w0 a w0.heap.size d m t q W') := (read_tape Y _ wr HT.out.tin.lv HT.out.tin.le (by omega)).mono fun e W' ⟨⟨va, vc, he, ho⟩, hb⟩ => ⟨va, vc, he, OwnS.base ho HT.out.tin.le, HT.out.below hb⟩
      have HRT2 : Hid (∀ W, Calls Tryd.prog 20 #[.string Y] W fun e W' => ∃ va vc, e = .returned (.tuple #[.slice va (readA Y.data.toList).1.length vc, .int .i64 (readN Y.data.toList : Int)]) ∧ Texts W' (.slice va (readA Y.data.toList).1.length vc) (readA Y.data.toList).1 ∧ Below W.heap.size W W') := fun W => (readTape_any Y W (by omega)).mono fun e W' ⟨⟨va, vc, he, ho⟩, hb⟩ => ⟨va, vc, he, OwnS.texts ho, hb⟩
      have hrt := (readA_texts Y.size Y.data.toList (by simp)).1
      have hyl : Y.data.toList.length = Y.size := by simp
      rw [hyl] at hrt
      clear HSI HYL
      generalize (readA Y.data.toList).1 = xs at *
      generalize readN Y.data.toList = nn at *
      go_wp2_with fail
      refine Calls.mono HRD.out ?_
      rintro e w3 ⟨va, vc, rfl, ho3, h3⟩
      have c3 : w3.cell? ⟨m, 0, none⟩ = some (.string Y) := by rw [← HY.out]; exact h3.mt.c0
      have HT3 : Hid _ := h3
      have HO3 : Hid _ := ho3
      have HR3 : Hid _ := HRT2.out w3
      clear HRD h3 ho3 c0
      go_wp2_with fail
      refine Calls.mono HR3.out ?_
      rintro e w4 ⟨va2, vc2, rfl, hx4, hb4⟩
      have HST : Hid _ := sameTexts_any (.slice va xs.length vc) (.slice va2 xs.length vc2) xs xs w4 ((OwnS.texts HO3.out).below hb4) hx4 (by omega)
      rw [textsEq_refl2] at HST
      have HT4 : Hid _ := HT3.out.below hb4
      clear HR3 HT3 HO3 hx4 hb4 c3
      go_wp2_with fail
      refine Calls.mono HST.out ?_
      rintro e w5 ⟨rfl, hb5⟩
      have HF : Hid (Below w0.heap.size w0 w5) := (HT4.out.below hb5).tin.fr
      clear HST HT4 hb5
      go_wp2_with fail
      go_ret
      exact ⟨by first | rfl | simp, HB0.out.trans (HF.out.mono HB0.out.size)⟩
end Go.Proofs.YthelggcaggobaaaDoor
