/-
  The contracts of package tape's tape: write, Append, NewDisk, Recover.
  Conditions: the tape lies from block B on, the library's variables and the sentinels below it; the bytes are at most 2000000.
-/
import Derived.Test.YthelggcaggobaaaDoorVd
import Derived.Deep.Cut
namespace Go.Proofs.YthelggcaggobaaaDoor
open Go.RowKit
attribute [local go_sem ↓] Go.wp_at_zero Go.wp_at_succ

section
variable {w : World} {B d g cap : Nat} {t : Tp} {a : Nat → Addr}
/-- A tape on the way: its block's cells, with how much of it is torn. -/
structure CutE (B d : Nat) (w : World) (g : Nat) (t : Tp) (z : Int) (W : World) : Prop where
  ex : ∃ g2 cap2, W.heap[d]? = some (.cells #[.slice (some ⟨g2, 0, none⟩) t.l.length cap2, .bool t.off, .bool t.cut, .int .i64 t.left, .int .i64 z] 52 (0, 0)) ∧ RowU W g2 cap2 t.l ∧ Mk0 W g2 ∧ B ≤ d ∧ B ≤ g2 ∧ g2 ≠ d ∧ TpBut d g w W ∧ (g2 = g ∨ w.heap.size ≤ g2)
theorem ext_all (x : ByteArray) : x.extract 0 x.size = x := by simp
section
variable {z z' : Int} {W : World} {t' : Tp}
theorem CutE.set (h : CutE B d w g t z W) (i : Nat) (y : Value) (hl : t'.l = t.l) (hb : ∀ v0, W.heap[d]? = some (.cells #[v0, .bool t.off, .bool t.cut, .int .i64 t.left, .int .i64 z] 52 (0, 0)) → (W.setCell ⟨d, i, none⟩ y).heap[d]? = some (.cells #[v0, .bool t'.off, .bool t'.cut, .int .i64 t'.left, .int .i64 z'] 52 (0, 0))) : CutE B d w g t' z' (W.setCell ⟨d, i, none⟩ y) := by
  obtain ⟨g2, cap2, hb0, hr, hm, hd, hg, hne, hbut, gg⟩ := h.ex
  have ho : ∀ k, k ≠ d → (W.setCell ⟨d, i, none⟩ y).heap[k]? = W.heap[k]? := fun k hk => set_other hk
  exact ⟨g2, cap2, by rw [hl]; exact hb _ hb0, by rw [hl]; exact hr.keep (ho g2 hne), fun cur fz hh => hm cur fz ((ho g2 hne).symm.trans hh), hd, hg, hne, ⟨hbut.os, hbut.tape, hbut.output, by simpa [World.setCell] using hbut.size, fun k hk h1 h2 => (ho k h1).trans (hbut.block k hk h1 h2)⟩, gg⟩
theorem CutE.torn (h : CutE B d w g t z W) (y : Int) : CutE B d w g t y (W.setCell ⟨d, 4, none⟩ (.int .i64 y)) := h.set 4 _ rfl fun _ hb => (set_tape hb).2.2.2.2
theorem CutE.offs (h : CutE B d w g t z W) (b : Bool) : CutE B d w g ⟨t.l, b, t.cut, t.left⟩ z (W.setCell ⟨d, 1, none⟩ (.bool b)) := h.set 1 _ rfl fun _ hb => (set_tape hb).2.1
theorem CutE.cuts (h : CutE B d w g t z W) (b : Bool) : CutE B d w g ⟨t.l, t.off, b, t.left⟩ z (W.setCell ⟨d, 2, none⟩ (.bool b)) := h.set 2 _ rfl fun _ hb => (set_tape hb).2.2.1
theorem CutE.lefts (h : CutE B d w g t z W) (m : Int) : CutE B d w g ⟨t.l, t.off, t.cut, m⟩ z (W.setCell ⟨d, 3, none⟩ (.int .i64 m)) := h.set 3 _ rfl fun _ hb => (set_tape hb).2.2.2.1
theorem CutE.drew (h : CutE B d w g t z W) : CutE B d w g t z W.drew := by
  obtain ⟨g2, cap2, hb0, hr, hm, hd, hg, hne, hbut, gg⟩ := h.ex
  exact ⟨g2, cap2, hb0, hr.keep rfl, fun cur fz hh => hm cur fz hh, hd, hg, hne, ⟨hbut.os, hbut.tape, hbut.output, hbut.size, hbut.block⟩, gg⟩
theorem CutE.post (h : CutE B d w g t z W) (hz : 0 ≤ z ∧ z ≤ (t.l.length : Int)) (hl : 0 ≤ t.left ∧ t.left ≤ 9223372036854775807) : TpPost B d g w t W := by
  obtain ⟨g2, cap2, hb0, hr, hm, hd, hg, hne, hbut, gg⟩ := h.ex
  exact ⟨g2, cap2, ⟨⟨z, hz, hb0⟩, hr, hm, hd, hg, hl⟩, hbut, gg⟩
theorem CutE.cells (h : CutE B d w g t z W) : (W.cell? ⟨d, 1, none⟩ = some (.bool t.off) ∧ W.cell? ⟨d, 2, none⟩ = some (.bool t.cut) ∧ W.cell? ⟨d, 3, none⟩ = some (.int .i64 t.left) ∧ W.cell? ⟨d, 4, none⟩ = some (.int .i64 z)) ∧ ∀ i, W.frozen? ⟨d, i, none⟩ = false := by
  obtain ⟨g2, cap2, hb0, _⟩ := h.ex
  refine ⟨⟨?_, ?_, ?_, ?_⟩, fun i => by simp [World.frozen?, hb0]⟩ <;> (rw [cell_of_row _ _ _ _ _ _ hb0]; rfl)
end
theorem cut_end (hA : TpAt w B d g cap t) (hB : B ≤ w.heap.size) (x : ByteArray) {g2 cap2 : Nat} {w2 : World} (h2 : RowU w2 g2 cap2 (t.l ++ x.data.toList)) (m2 : Mk0 w2 g2) (gr : w.grownBy w2 (some g)) (gg : g2 = g ∨ w.heap.size ≤ g2) :
    ∃ z : Int, (0 ≤ z ∧ z ≤ (t.l.length : Int)) ∧ CutE B d w g ⟨t.l ++ x.data.toList, t.off, t.cut, t.left⟩ z (w2.setCell ⟨d, 0, none⟩ (.slice (some ⟨g2, 0, none⟩) (t.l.length + x.size) cap2)) := by
  have hn := hA.ne
  have hlt := hA.lt
  have hxl : x.data.toList.length = x.size := by simp
  have hd2 : w2.heap[d]? = w.heap[d]? := gr.block d hlt (by simpa using hn)
  obtain ⟨z, hz, hbk⟩ := hA.blk
  have b0 := (set_tape (y := .slice (some ⟨g2, 0, none⟩) (t.l.length + x.size) cap2) (hd2.trans hbk)).1
  have hn2 : g2 ≠ d := by rcases gg with rfl | h <;> omega
  have ho : ∀ k, k ≠ d → (w2.setCell ⟨d, 0, none⟩ (.slice (some ⟨g2, 0, none⟩) (t.l.length + x.size) cap2)).heap[k]? = w2.heap[k]? := fun k hk => set_other hk
  have hB2 : B ≤ g2 := by rcases gg with rfl | h; exact hA.hg; omega
  have hll : (t.l ++ x.data.toList).length = t.l.length + x.size := by rw [List.length_append, hxl]
  refine ⟨z, hz, g2, cap2, ?_, h2.keep (ho g2 hn2), fun cur fz h => m2 cur fz ((ho g2 hn2).symm.trans h), hA.hd, hB2, hn2, ⟨gr.os, gr.tape, gr.output, by simpa [World.setCell] using gr.size, fun k hk h1 h3 => (ho k h1).trans (gr.block k hk (by simpa using h3))⟩, gg⟩
  rw [hll]
  exact b0
set_option maxRecDepth 100000 in
set_option maxHeartbeats 2000000 in
theorem write_any (x : ByteArray) (hA : TpAt w B d g cap t) (hS : Sn4 a B w) (hB : B ≤ w.heap.size) (hx : x.size ≤ 100000) (hl : t.l.length ≤ 2000000) : Calls Tryd.prog 28 #[.pointer (some ⟨d, 0, none⟩), .string x] w fun e w' => e = .returned (errV a (wrR t x.data.toList).1) ∧ TpPost B d g w (wrR t x.data.toList).2 w' := by
  have hxl : x.data.toList.length = x.size := by simp
  have HR : Hid (TpPost B d g w t w) := ⟨g, cap, hA, TpBut.refl _ _ _, .inl rfl⟩
  have HS : Hid (Sn4 a B w) := hS
  have HA : Hid (TpAt w B d g cap t) := hA
  have c0 := hA.c0
  have c1 := hA.c1
  have c2 := hA.c2
  have c3 := hA.c3
  have f0 := hA.fr 0
  have hlf := hA.lf
  have hne := hA.ne
  have hlt := hA.lt
  have HRW : Hid (RowU w g cap t.l) := hA.row
  have HMK : Hid (Mk0 w g) := hA.mark
  clear hA hS
  cases ho : t.off with
  | true =>
    have HE : Hid (wrR t x.data.toList = (some 12, t)) := by show _ = _; unfold wrR; rw [if_pos ho]
    have so := HS.out.off.2
    rw [ho] at c1
    clear ho
    go_enter Tryd.func28, Tryd.ntmps28
    go_wp2_with fail
    go_ret
    rw [HE.out]
    exact ⟨rfl, HR.out⟩
  | false =>
  rw [ho] at c1
  by_cases hc : t.cut = true ∧ t.left < (x.size : Int)
  · have hlx : t.l.length + (x.extract 0 t.left.toNat).size ≤ 1000000000 := by rw [ByteArray.size_extract]; omega
    have HW : Hid (wrR t x.data.toList = (some 12, ⟨t.l ++ (x.extract 0 t.left.toNat).data.toList, true, false, 0⟩)) := by show _ = _; unfold wrR; rw [if_neg (by rw [ho]; decide), if_pos (by rw [hxl]; exact hc), ext_take]
    have HEND : Hid (∀ g2 cap2 w2, RowU w2 g2 cap2 (t.l ++ (x.extract 0 t.left.toNat).data.toList) → Mk0 w2 g2 → w.grownBy w2 (some g) → (g2 = g ∨ w.heap.size ≤ g2) → ∃ z : Int, (0 ≤ z ∧ z ≤ (t.l.length : Int)) ∧ CutE B d w g ⟨t.l ++ (x.extract 0 t.left.toNat).data.toList, t.off, t.cut, t.left⟩ z (w2.setCell ⟨d, 0, none⟩ (.slice (some ⟨g2, 0, none⟩) (t.l.length + (x.extract 0 t.left.toNat).size) cap2))) := fun g2 cap2 w2 h2 m2 gr gg => cut_end HA.out hB _ h2 m2 gr gg
    obtain ⟨hc1, hc2⟩ := hc
    have HXS : Hid ((x.extract 0 t.left.toNat).size = t.left.toNat) := by show _ = _; rw [ByteArray.size_extract]; omega
    have hl0 : 0 ≤ t.left := hlf.1
    have hl2 : t.left ≤ (x.size : Int) := by omega
    rw [hc1] at c2
    clear ho HR
    go_enter Tryd.func28, Tryd.ntmps28
    go_upto_region 4 with fail
    refine wp_region_held_drew (S := fun w' => w'.cell? ⟨d, 3, none⟩ = some (.int .i64 t.left)) (by kernel_rfl) (by exact c3) (fun hHeld => ?_)
    refine tk 0 (.pointer (some ⟨d, 0, none⟩)) rfl hHeld ?_
    simp only [tkB, tkS, Act.put]
    refine tk 1 (.pointer (some ⟨d, 0, none⟩)) rfl hHeld ?_
    simp only [tkB, tkS, Act.put]
    refine tk 2 (.pointer (some ⟨d, 0, none⟩)) rfl hHeld ?_
    simp only [tkB, tkS, Act.put]
    refine tk 3 (.pointer (some ⟨d, 0, none⟩)) rfl hHeld ?_
    simp only [tkB, tkS, Act.put]
    refine tk 5 (.string x) rfl hHeld ?_
    simp only [tkB, tkS, Act.put]
    refine tk 6 (.pointer (some ⟨d, 0, none⟩)) rfl hHeld ?_
    simp only [tkB, tkS, Act.put]
    refine tk 7 (.pointer (some ⟨d, 0, none⟩)) rfl hHeld ?_
    simp only [tkB, tkS, Act.put]
    refine tk 8 (.pointer (some ⟨d, 3, none⟩)) rfl hHeld ?_
    simp only [tkB, tkS, Act.put]
    refine tk 9 (.int .i64 t.left) rfl hHeld ?_
    simp only [tkB, tkS, Act.put]
    refine tk 10 (.string (x.extract 0 t.left.toNat)) rfl hHeld ?_
    simp only [tkB, tkS, Act.put]
    refine tkR 4 rfl (fun K' hK => ?_)
    simp only [tkB]
    have c0d : w.drew.cell? ⟨d, 0, none⟩ = some (.slice (some ⟨g, 0, none⟩) t.l.length cap) := c0
    go_simp
    go_wp2_with fail
    clear c0d
    refine hK.out _ _ (by exact c3) (fun hHeld' => ?_)
    clear hK K' hHeld
    have hHeld := hHeld'
    clear hHeld'
    refine tkR 11 rfl (fun K' hK => ?_)
    refine step_appB _ (by rfl) _ _ (by rfl) g cap t.l (x.extract 0 t.left.toNat) (by rfl) (by rfl) (HRW.out.keep rfl) (fun cur fz h => HMK.out cur fz h) hlx ?_
    intro g2 cap2 w2 h2 m2 gr2 gg2
    have hsz2 : w.heap.size ≤ w2.heap.size := gr2.size
    have hdw2 : w2.heap[d]? = w.heap[d]? := gr2.block d hlt (by simpa using hne)
    have c02 : w2.cell? ⟨d, 0, none⟩ = some (.slice (some ⟨g, 0, none⟩) t.l.length cap) := (World.cell?_of_block hdw2).trans c0
    have c32 : w2.cell? ⟨d, 3, none⟩ = some (.int .i64 t.left) := (World.cell?_of_block hdw2).trans c3
    have f02 : w2.frozen? ⟨d, 0, none⟩ = false := (World.frozen?_of_block hdw2).trans f0
    obtain ⟨z, hz, hE2⟩ := HEND.out g2 cap2 w2 h2 m2 ⟨gr2.os, gr2.tape, gr2.output, gr2.size, gr2.block⟩ gg2
    rw [HXS.out] at hE2
    have HE2 : Hid _ := hE2
    clear hE2
    clear h2 m2 gr2 gg2
    refine hK.out _ _ (by exact c32) (fun hHeld' => ?_)
    clear hK K' hHeld
    have hHeld := hHeld'
    clear hHeld'
    refine tk 12 (.pointer (some ⟨d, 0, none⟩)) rfl hHeld ?_
    simp only [tkB, tkS, Act.put]
    refine tk 13 (.pointer (some ⟨d, 0, none⟩)) rfl hHeld ?_
    simp only [tkB, tkS, Act.put]
    refine tkR 14 rfl (fun K' hK => ?_)
    simp only [tkB]
    go_simp
    go_wp2_with fail
    refine hK.out _ _ (by exact HE2.out.cells.1.2.2.1) (fun hHeld' => ?_)
    clear hK K' hHeld
    have hHeld := hHeld'
    clear hHeld'
    refine wpAnyH_done (by kernel_rfl) ?_ _
    obtain ⟨W3, HW3⟩ : ∃ W3, Hid (W3 = w2.setCell ⟨d, 0, none⟩ (.slice (some ⟨g2, 0, none⟩) (t.l.length + t.left.toNat) cap2)) := ⟨_, rfl⟩
    rw [← HW3.out] at HE2
    rw [← HW3.out]
    clear HEND c02 c32 f02 hdw2 HW3
    have HLE : Hid ((t.l ++ (x.extract 0 t.left.toNat).data.toList).length = t.l.length + t.left.toNat) := by show _ = _; rw [List.length_append, Array.length_toList]; show _ + (x.extract 0 t.left.toNat).size = _; rw [HXS.out]
    have HW4 : Hid (CutE B d w g ⟨t.l ++ (x.extract 0 t.left.toNat).data.toList, t.off, t.cut, t.left⟩ (z + t.left) ((W3.setCell ⟨d, 4, none⟩ (.int .i64 (z + t.left))).drew)) := (HE2.out.torn _).drew
    have k3 := HE2.out.cells.1.2.2.1
    have k4 := HE2.out.cells.1.2.2.2
    have e4 := HE2.out.cells.2 4
    have hadd : IntKind.i64.wrap (z + t.left) = z + t.left := IntWalk.i64_in _ (by omega)
    simp only at k3
    clear HE2
    go_wp2_with fail
    go_region
    all_goals
      obtain ⟨W4, HWW⟩ : ∃ W4, Hid (W4 = (W3.setCell ⟨d, 4, none⟩ (.int .i64 (z + t.left))).drew) := ⟨_, rfl⟩
      rw [← HWW.out] at HW4 ⊢
      have HPO : Hid _ := (((HW4.out.offs true).cuts false).lefts 0).post ⟨by omega, by simp only; rw [HLE.out]; omega⟩ ⟨Int.le_refl 0, (by decide : (0 : Int) ≤ 9223372036854775807)⟩
      obtain ⟨⟨q1, q2, q3, _⟩, qf⟩ := HW4.out.cells
      have e1 := qf 1
      have e2 := qf 2
      have e3 := qf 3
      have hnd : ¬ 1 = d := by have := HS.out.off.1; have := HA.out.hd; omega
      have so : W4.cell? ⟨1, 0, none⟩ = some (.iface 140 (.pointer (some (a 12)))) := by
        obtain ⟨g3, cap3, _, hbt, _⟩ := HW4.out.post ⟨by omega, by simp only; rw [HLE.out]; omega⟩ hlf
        exact ((HS.out.below (hbt.below hB HA.out.hd HA.out.hg)).off).2
      clear HW4 HWW qf k3 k4 e4
      go_wp2_with fail
      go_ret
      rw [HW.out]
      exact ⟨rfl, HPO.out⟩
  · have hlx : t.l.length + x.size ≤ 1000000000 := by omega
    have HEND : Hid (∀ g2 cap2 w2, RowU w2 g2 cap2 (t.l ++ x.data.toList) → Mk0 w2 g2 → w.grownBy w2 (some g) → (g2 = g ∨ w.heap.size ≤ g2) → ∃ z : Int, (0 ≤ z ∧ z ≤ (t.l.length : Int)) ∧ CutE B d w g ⟨t.l ++ x.data.toList, t.off, t.cut, t.left⟩ z (w2.setCell ⟨d, 0, none⟩ (.slice (some ⟨g2, 0, none⟩) (t.l.length + x.size) cap2))) := fun g2 cap2 w2 h2 m2 gr gg => cut_end HA.out hB _ h2 m2 gr gg
    have HW : Hid (wrR t x.data.toList = (none, ⟨t.l ++ x.data.toList, t.off, t.cut, if t.cut = true then t.left - (x.data.toList.length : Int) else t.left⟩)) := by show _ = _; unfold wrR; rw [if_neg (by rw [ho]; decide), if_neg (by rw [hxl]; exact hc)]
    cases hcc : t.cut with
    | true =>
      have hle : (x.size : Int) ≤ t.left := by have : ¬ t.left < (x.size : Int) := fun h => hc ⟨hcc, h⟩
                                               omega
      rw [hcc] at c2 HW
      rw [if_pos rfl, hxl] at HW
      clear ho HR hc
      go_enter Tryd.func28, Tryd.ntmps28
      go_upto_region 9 with (at_builtin; go_must (refine wpList_appB w (by rfl) _ _ (by rfl) g cap t.l x (by rfl) (by rfl) HRW.out HMK.out hlx ?_; intro g2 cap2 w2 h2 m2 gr2 gg2; (have hdw2 : w2.heap[d]? = w.heap[d]? := gr2.block d hlt (by simpa using hne)); (have c02 : w2.cell? ⟨d, 0, none⟩ = some (.slice (some ⟨g, 0, none⟩) t.l.length cap) := (World.cell?_of_block hdw2).trans c0); (have f02 : w2.frozen? ⟨d, 0, none⟩ = false := (World.frozen?_of_block hdw2).trans f0); (have HE2 : Hid _ := HEND.out g2 cap2 w2 h2 m2 gr2 gg2); clear h2 m2 gr2 gg2 hdw2))
      obtain ⟨W3, HW3⟩ : ∃ W3, Hid (W3 = w2.setCell ⟨d, 0, none⟩ (.slice (some ⟨g2, 0, none⟩) (t.l.length + x.size) cap2)) := ⟨_, rfl⟩
      obtain ⟨z, hz, hE2⟩ := HE2.out
      rw [← HW3.out] at hE2
      (try rw [← HW3.out])
      clear HE2 HEND c02 f02 HW3
      obtain ⟨⟨_, _, _, k4⟩, qf⟩ := hE2.cells
      have e4 := qf 4
      by_cases hz0 : 0 < z
      · have hadd : IntKind.i64.wrap (z + (x.size : Int)) = z + (x.size : Int) := IntWalk.i64_in _ (by omega)
        have HE4 : Hid _ := hE2.torn (z + (x.size : Int))
        obtain ⟨⟨_, k2, k3, _⟩, qf4⟩ := HE4.out.cells
        have e3 := qf4 3
        simp only [hcc] at k2
        have HPO : Hid _ := (HE4.out.lefts (t.left - (x.size : Int))).post ⟨by omega, by simp only; rw [List.length_append, hxl]; omega⟩ ⟨by simp only; omega, by simp only; omega⟩
        simp only [hcc] at HPO
        clear hE2 HE4 qf qf4
        go_wp2_with fail
        go_ret
        rw [HW.out]
        exact ⟨rfl, HPO.out⟩
      · obtain ⟨⟨_, k2, k3, _⟩, _⟩ := hE2.cells
        have e3 := qf 3
        simp only [hcc] at k2
        have HPO : Hid _ := (hE2.lefts (t.left - (x.size : Int))).post ⟨by omega, by simp only; rw [List.length_append, hxl]; omega⟩ ⟨by simp only; omega, by simp only; omega⟩
        simp only [hcc] at HPO
        clear hE2 qf
        go_wp2_with fail
        go_ret
        rw [HW.out]
        exact ⟨rfl, HPO.out⟩
    | false =>
      rw [hcc] at c2 HW
      rw [if_neg (by decide)] at HW
      clear ho HR hc
      go_enter Tryd.func28, Tryd.ntmps28
      go_upto_region 9 with (at_builtin; go_must (refine wpList_appB w (by rfl) _ _ (by rfl) g cap t.l x (by rfl) (by rfl) HRW.out HMK.out hlx ?_; intro g2 cap2 w2 h2 m2 gr2 gg2; (have hdw2 : w2.heap[d]? = w.heap[d]? := gr2.block d hlt (by simpa using hne)); (have c02 : w2.cell? ⟨d, 0, none⟩ = some (.slice (some ⟨g, 0, none⟩) t.l.length cap) := (World.cell?_of_block hdw2).trans c0); (have f02 : w2.frozen? ⟨d, 0, none⟩ = false := (World.frozen?_of_block hdw2).trans f0); (have HE2 : Hid _ := HEND.out g2 cap2 w2 h2 m2 gr2 gg2); clear h2 m2 gr2 gg2 hdw2))
      obtain ⟨W3, HW3⟩ : ∃ W3, Hid (W3 = w2.setCell ⟨d, 0, none⟩ (.slice (some ⟨g2, 0, none⟩) (t.l.length + x.size) cap2)) := ⟨_, rfl⟩
      obtain ⟨z, hz, hE2⟩ := HE2.out
      rw [← HW3.out] at hE2
      (try rw [← HW3.out])
      clear HE2 HEND c02 f02 HW3
      obtain ⟨⟨_, _, _, k4⟩, qf⟩ := hE2.cells
      have e4 := qf 4
      by_cases hz0 : 0 < z
      · have hadd : IntKind.i64.wrap (z + (x.size : Int)) = z + (x.size : Int) := IntWalk.i64_in _ (by omega)
        have HE4 : Hid _ := hE2.torn (z + (x.size : Int))
        obtain ⟨⟨_, k2, _⟩, _⟩ := HE4.out.cells
        simp only [hcc] at k2
        have HPO : Hid _ := HE4.out.post ⟨by omega, by simp only; rw [List.length_append, hxl]; omega⟩ hlf
        simp only [hcc] at HPO
        clear hE2 HE4 qf
        go_wp2_with fail
        go_ret
        rw [HW.out]
        exact ⟨rfl, HPO.out⟩
      · obtain ⟨⟨_, k2, _⟩, _⟩ := hE2.cells
        simp only [hcc] at k2
        have HPO : Hid _ := hE2.post ⟨by omega, by simp only; rw [List.length_append, hxl]; omega⟩ hlf
        simp only [hcc] at HPO
        clear hE2 qf
        go_wp2_with fail
        go_ret
        rw [HW.out]
        exact ⟨rfl, HPO.out⟩
end
end Go.Proofs.YthelggcaggobaaaDoor
