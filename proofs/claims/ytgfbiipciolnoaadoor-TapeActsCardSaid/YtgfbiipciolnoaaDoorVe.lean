/-
  The contracts of package tape's tape: write, Append, NewDisk, Recover.
  Conditions: the tape lies from block B on, the library's variables and the sentinels below it; the bytes are at most 2000000.
-/
import Derived.Test.YtgfbiipciolnoaaDoorVd
import Derived.Deep.Cut
namespace Go.Proofs.YtgfbiipciolnoaaDoor
open Go.RowKit
attribute [local go_sem ↓] Go.wp_at_zero Go.wp_at_succ

section
variable {w : World} {B d g cap : Nat} {t : Tp} {a : Nat → Addr}
/-- The world behind a write that was cut. -/
structure CutE (B d : Nat) (w : World) (g : Nat) (t : Tp) (left : Int) (W : World) : Prop where
  c1 : W.cell? ⟨d, 1, none⟩ = some (.bool t.off)
  c2 : W.cell? ⟨d, 2, none⟩ = some (.bool t.cut)
  c3 : W.cell? ⟨d, 3, none⟩ = some (.int .i64 left)
  f1 : W.frozen? ⟨d, 1, none⟩ = false
  f2 : W.frozen? ⟨d, 2, none⟩ = false
  f3 : W.frozen? ⟨d, 3, none⟩ = false
  post : TpPost B d g w ⟨t.l, true, false, 0⟩ (((W.setCell ⟨d, 1, none⟩ (.bool true)).setCell ⟨d, 2, none⟩ (.bool false)).setCell ⟨d, 3, none⟩ (.int .i64 0))
  full : TpPost B d g w ⟨t.l, t.off, t.cut, left⟩ W
  sub : ∀ m : Int, 0 ≤ m → m ≤ 9223372036854775807 → TpPost B d g w ⟨t.l, t.off, t.cut, m⟩ (W.setCell ⟨d, 3, none⟩ (.int .i64 m))
theorem ext_all (x : ByteArray) : x.extract 0 x.size = x := by simp
theorem cut_end (hA : TpAt w B d g cap t) (hB : B ≤ w.heap.size) (x : ByteArray) {g2 cap2 : Nat} {w2 : World} (h2 : RowU w2 g2 cap2 (t.l ++ x.data.toList)) (m2 : Mk0 w2 g2) (gr : w.grownBy w2 (some g)) (gg : g2 = g ∨ w.heap.size ≤ g2) :
    CutE B d w g ⟨t.l ++ x.data.toList, t.off, t.cut, t.left⟩ t.left (w2.setCell ⟨d, 0, none⟩ (.slice (some ⟨g2, 0, none⟩) (t.l.length + x.size) cap2)) := by
  have hn := hA.ne
  have hlt := hA.lt
  have hxl : x.data.toList.length = x.size := by simp
  have hd2 : w2.heap[d]? = w.heap[d]? := gr.block d hlt (by simpa using hn)
  have b0 := (set_tape (y := .slice (some ⟨g2, 0, none⟩) (t.l.length + x.size) cap2) (hd2.trans hA.blk)).1
  generalize hW : w2.setCell ⟨d, 0, none⟩ (.slice (some ⟨g2, 0, none⟩) (t.l.length + x.size) cap2) = W at b0
  have hn2 : g2 ≠ d := by rcases gg with rfl | h <;> omega
  have ho : ∀ k, k ≠ d → W.heap[k]? = w2.heap[k]? := fun k hk => by rw [← hW, set_other hk]
  have hsz : w.heap.size ≤ W.heap.size := by rw [← hW]; simpa [World.setCell] using gr.size
  have hB2 : B ≤ g2 := by rcases gg with rfl | h; exact hA.hg; omega
  have hbut : ∀ W' : World, W'.os = W.os → W'.tape = W.tape → W'.output = W.output → W'.heap.size = W.heap.size → (∀ k, k ≠ d → W'.heap[k]? = W.heap[k]?) → TpBut d g w W' := fun W' e1 e2 e3 e4 e5 => ⟨e1.trans (by rw [← hW]; exact gr.os), e2.trans (by rw [← hW]; exact gr.tape), e3.trans (by rw [← hW]; exact gr.output), by rw [e4]; exact hsz, fun k hk hd hg => by rw [e5 k hd, ho k hd]; exact gr.block k hk (by simpa using hg)⟩
  have hrow : ∀ W' : World, (∀ k, k ≠ d → W'.heap[k]? = W.heap[k]?) → RowU W' g2 cap2 (t.l ++ x.data.toList) ∧ Mk0 W' g2 := fun W' e5 => ⟨h2.keep ((e5 g2 hn2).trans (ho g2 hn2)), fun cur fz h => m2 cur fz (((e5 g2 hn2).trans (ho g2 hn2)).symm.trans h)⟩
  have hll : (t.l ++ x.data.toList).length = t.l.length + x.size := by rw [List.length_append, hxl]
  rw [← hll] at b0
  have b1 := (set_tape (y := .bool true) b0).2.1
  have b2 := (set_tape (y := .bool false) b1).2.2.1
  have b3 := (set_tape (y := .int .i64 0) b2).2.2.2
  have ho3 : ∀ k, k ≠ d → (((W.setCell ⟨d, 1, none⟩ (.bool true)).setCell ⟨d, 2, none⟩ (.bool false)).setCell ⟨d, 3, none⟩ (.int .i64 0)).heap[k]? = W.heap[k]? := fun k hk => by rw [set_other hk, set_other hk, set_other hk]
  refine ⟨by rw [cell_of_row _ _ _ _ _ _ b0]; rfl, by rw [cell_of_row _ _ _ _ _ _ b0]; rfl, by rw [cell_of_row _ _ _ _ _ _ b0]; rfl, by simp [World.frozen?, b0], by simp [World.frozen?, b0], by simp [World.frozen?, b0], ?_, ?_, ?_⟩
  · exact ⟨g2, cap2, ⟨b3, (hrow _ ho3).1, (hrow _ ho3).2, hA.hd, hB2, ⟨Int.le_refl 0, (by decide : (0 : Int) ≤ 9223372036854775807)⟩⟩, hbut _ rfl rfl rfl (by simp [World.setCell]) ho3, gg⟩
  · exact ⟨g2, cap2, ⟨b0, (hrow _ (fun _ _ => rfl)).1, (hrow _ (fun _ _ => rfl)).2, hA.hd, hB2, hA.lf⟩, hbut _ rfl rfl rfl rfl (fun _ _ => rfl), gg⟩
  · intro m hm0 hm1
    have ho4 : ∀ k, k ≠ d → (W.setCell ⟨d, 3, none⟩ (.int .i64 m)).heap[k]? = W.heap[k]? := fun k hk => set_other hk
    exact ⟨g2, cap2, ⟨(set_tape (y := .int .i64 m) b0).2.2.2, (hrow _ ho4).1, (hrow _ ho4).2, hA.hd, hB2, ⟨hm0, hm1⟩⟩, hbut _ rfl rfl rfl (by simp [World.setCell]) ho4, gg⟩
set_option maxRecDepth 100000 in
set_option maxHeartbeats 2000000 in
theorem write_any (x : ByteArray) (hA : TpAt w B d g cap t) (hS : Sn4 a B w) (hB : B ≤ w.heap.size) (hx : x.size ≤ 100000) (hl : t.l.length ≤ 2000000) : Calls Tryd.prog 22 #[.pointer (some ⟨d, 0, none⟩), .string x] w fun e w' => e = .returned (errV a (wrR t x.data.toList).1) ∧ TpPost B d g w (wrR t x.data.toList).2 w' := by
  have hxl : x.data.toList.length = x.size := by simp
  have HR : Hid (TpPost B d g w t w) := ⟨g, cap, hA, TpBut.refl _ _ _, .inl rfl⟩
  have HS : Hid (Sn4 a B w) := hS
  have HA : Hid (TpAt w B d g cap t) := hA
  have c0 := hA.c0
  have c1 := hA.c1
  have c2 := hA.c2
  have c3 := hA.c3
  have f0 := hA.fr 0
  have hlf := hA.lf
  have hne := hA.ne
  have hlt := hA.lt
  have HRW : Hid (RowU w g cap t.l) := hA.row
  have HMK : Hid (Mk0 w g) := hA.mark
  clear hA hS
  cases ho : t.off with
  | true =>
    have HE : Hid (wrR t x.data.toList = (some 12, t)) := by show _ = _; unfold wrR; rw [if_pos ho]
    have so := HS.out.off.2
    rw [ho] at c1
    clear ho
    go_enter Tryd.func22, Tryd.ntmps22
    go_wp2_with fail
    go_ret
    rw [HE.out]
    exact ⟨rfl, HR.out⟩
  | false =>
  rw [ho] at c1
  by_cases hc : t.cut = true ∧ t.left < (x.size : Int)
  · have hlx : t.l.length + (x.extract 0 t.left.toNat).size ≤ 1000000000 := by rw [ByteArray.size_extract]; omega
    have HW : Hid (wrR t x.data.toList = (some 12, ⟨t.l ++ (x.extract 0 t.left.toNat).data.toList, true, false, 0⟩)) := by show _ = _; unfold wrR; rw [if_neg (by rw [ho]; decide), if_pos (by rw [hxl]; exact hc), ext_take]
    have HEND : Hid (∀ g2 cap2 w2, RowU w2 g2 cap2 (t.l ++ (x.extract 0 t.left.toNat).data.toList) → Mk0 w2 g2 → w.grownBy w2 (some g) → (g2 = g ∨ w.heap.size ≤ g2) → CutE B d w g ⟨t.l ++ (x.extract 0 t.left.toNat).data.toList, t.off, t.cut, t.left⟩ t.left (w2.setCell ⟨d, 0, none⟩ (.slice (some ⟨g2, 0, none⟩) (t.l.length + (x.extract 0 t.left.toNat).size) cap2))) := fun g2 cap2 w2 h2 m2 gr gg => cut_end HA.out hB _ h2 m2 gr gg
    obtain ⟨hc1, hc2⟩ := hc
    have HXS : Hid ((x.extract 0 t.left.toNat).size = t.left.toNat) := by show _ = _; rw [ByteArray.size_extract]; omega
    have hl0 : 0 ≤ t.left := hlf.1
    have hl2 : t.left ≤ (x.size : Int) := by omega
    rw [hc1] at c2
    clear ho HR
    go_enter Tryd.func22, Tryd.ntmps22
    go_upto_region 4 with fail
    refine wp_region_held_drew (S := fun w' => w'.cell? ⟨d, 3, none⟩ = some (.int .i64 t.left)) (by kernel_rfl) (by exact c3) (fun hHeld => ?_)
    refine tk 0 (.pointer (some ⟨d, 0, none⟩)) rfl hHeld ?_
    simp only [tkB, tkS, Act.put]
    refine tk 1 (.pointer (some ⟨d, 0, none⟩)) rfl hHeld ?_
    simp only [tkB, tkS, Act.put]
    refine tk 2 (.pointer (some ⟨d, 0, none⟩)) rfl hHeld ?_
    simp only [tkB, tkS, Act.put]
    refine tk 3 (.pointer (some ⟨d, 0, none⟩)) rfl hHeld ?_
    simp only [tkB, tkS, Act.put]
    refine tk 5 (.string x) rfl hHeld ?_
    simp only [tkB, tkS, Act.put]
    refine tk 6 (.pointer (some ⟨d, 0, none⟩)) rfl hHeld ?_
    simp only [tkB, tkS, Act.put]
    refine tk 7 (.pointer (some ⟨d, 0, none⟩)) rfl hHeld ?_
    simp only [tkB, tkS, Act.put]
    refine tk 8 (.pointer (some ⟨d, 3, none⟩)) rfl hHeld ?_
    simp only [tkB, tkS, Act.put]
    refine tk 9 (.int .i64 t.left) rfl hHeld ?_
    simp only [tkB, tkS, Act.put]
    refine tk 10 (.string (x.extract 0 t.left.toNat)) rfl hHeld ?_
    simp only [tkB, tkS, Act.put]
    refine tkR 4 rfl (fun K' hK => ?_)
    simp only [tkB]
    have c0d : w.drew.cell? ⟨d, 0, none⟩ = some (.slice (some ⟨g, 0, none⟩) t.l.length cap) := c0
    go_simp
    go_wp2_with fail
    clear c0d
    refine hK.out _ _ (by exact c3) (fun hHeld' => ?_)
    clear hK K' hHeld
    have hHeld := hHeld'
    clear hHeld'
    refine tkR 11 rfl (fun K' hK => ?_)
    refine step_appB _ (by rfl) _ _ (by rfl) g cap t.l (x.extract 0 t.left.toNat) (by rfl) (by rfl) (HRW.out.keep rfl) (fun cur fz h => HMK.out cur fz h) hlx ?_
    intro g2 cap2 w2 h2 m2 gr2 gg2
    have hsz2 : w.heap.size ≤ w2.heap.size := gr2.size
    have hdw2 : w2.heap[d]? = w.heap[d]? := gr2.block d hlt (by simpa using hne)
    have c02 : w2.cell? ⟨d, 0, none⟩ = some (.slice (some ⟨g, 0, none⟩) t.l.length cap) := (World.cell?_of_block hdw2).trans c0
    have c32 : w2.cell? ⟨d, 3, none⟩ = some (.int .i64 t.left) := (World.cell?_of_block hdw2).trans c3
    have f02 : w2.frozen? ⟨d, 0, none⟩ = false := (World.frozen?_of_block hdw2).trans f0
    have HE2 : Hid _ := HEND.out g2 cap2 w2 h2 m2 ⟨gr2.os, gr2.tape, gr2.output, gr2.size, gr2.block⟩ gg2
    rw [HXS.out] at HE2
    clear h2 m2 gr2 gg2
    refine hK.out _ _ (by exact c32) (fun hHeld' => ?_)
    clear hK K' hHeld
    have hHeld := hHeld'
    clear hHeld'
    refine tk 12 (.pointer (some ⟨d, 0, none⟩)) rfl hHeld ?_
    simp only [tkB, tkS, Act.put]
    refine tk 13 (.pointer (some ⟨d, 0, none⟩)) rfl hHeld ?_
    simp only [tkB, tkS, Act.put]
    refine tkR 14 rfl (fun K' hK => ?_)
    simp only [tkB]
    go_simp
    go_wp2_with fail
    refine hK.out _ _ (by exact HE2.out.c3) (fun hHeld' => ?_)
    clear hK K' hHeld
    have hHeld := hHeld'
    clear hHeld'
    refine wpAnyH_done (by kernel_rfl) ?_ _
    obtain ⟨W3, HW3⟩ : ∃ W3, Hid (W3 = w2.setCell ⟨d, 0, none⟩ (.slice (some ⟨g2, 0, none⟩) (t.l.length + t.left.toNat) cap2)) := ⟨_, rfl⟩
    rw [← HW3.out] at HE2
    have so : W3.cell? ⟨1, 0, none⟩ = some (.iface 140 (.pointer (some (a 12)))) := by
      obtain ⟨g3, cap3, _, hbt, _⟩ := HE2.out.full
      exact ((HS.out.below (hbt.below hB HA.out.hd HA.out.hg)).off).2
    have k1 := HE2.out.c1
    have k2 := HE2.out.c2
    have k3 := HE2.out.c3
    have e1 := HE2.out.f1
    have e2 := HE2.out.f2
    have e3 := HE2.out.f3
    have hnd : ¬ 1 = d := by have := HS.out.off.1; have := HA.out.hd; omega
    have HPO : Hid _ := HE2.out.post
    rw [← HW3.out]
    clear HE2 HEND c02 c32 f02 hdw2 HW3
    go_wp2_with fail
    go_ret
    rw [HW.out]
    exact ⟨rfl, HPO.out⟩
  · have hlx : t.l.length + x.size ≤ 1000000000 := by omega
    have HEND : Hid (∀ g2 cap2 w2, RowU w2 g2 cap2 (t.l ++ x.data.toList) → Mk0 w2 g2 → w.grownBy w2 (some g) → (g2 = g ∨ w.heap.size ≤ g2) → CutE B d w g ⟨t.l ++ x.data.toList, t.off, t.cut, t.left⟩ t.left (w2.setCell ⟨d, 0, none⟩ (.slice (some ⟨g2, 0, none⟩) (t.l.length + x.size) cap2))) := fun g2 cap2 w2 h2 m2 gr gg => cut_end HA.out hB x h2 m2 gr gg
    have HW : Hid (wrR t x.data.toList = (none, ⟨t.l ++ x.data.toList, t.off, t.cut, if t.cut = true then t.left - (x.data.toList.length : Int) else t.left⟩)) := by show _ = _; unfold wrR; rw [if_neg (by rw [ho]; decide), if_neg (by rw [hxl]; exact hc)]
    cases hcc : t.cut with
    | true =>
      have hle : (x.size : Int) ≤ t.left := by have : ¬ t.left < (x.size : Int) := fun h => hc ⟨hcc, h⟩
                                               omega
      rw [hcc] at c2 HW
      rw [if_pos rfl, hxl] at HW
      clear ho HR hc
      go_enter Tryd.func22, Tryd.ntmps22
      go_upto_region 8 with (at_builtin; go_must (refine wpList_appB w (by rfl) _ _ (by rfl) g cap t.l x (by rfl) (by rfl) HRW.out HMK.out hlx ?_; intro g2 cap2 w2 h2 m2 gr2 gg2; (have hdw2 : w2.heap[d]? = w.heap[d]? := gr2.block d hlt (by simpa using hne)); (have c02 : w2.cell? ⟨d, 0, none⟩ = some (.slice (some ⟨g, 0, none⟩) t.l.length cap) := (World.cell?_of_block hdw2).trans c0); (have f02 : w2.frozen? ⟨d, 0, none⟩ = false := (World.frozen?_of_block hdw2).trans f0); (have HE2 : Hid _ := HEND.out g2 cap2 w2 h2 m2 gr2 gg2); clear h2 m2 gr2 gg2 hdw2))
      obtain ⟨W3, HW3⟩ : ∃ W3, Hid (W3 = w2.setCell ⟨d, 0, none⟩ (.slice (some ⟨g2, 0, none⟩) (t.l.length + x.size) cap2)) := ⟨_, rfl⟩
      rw [← HW3.out] at HE2
      have k2 := HE2.out.c2
      have k3 := HE2.out.c3
      have e3 := HE2.out.f3
      simp only [hcc] at k2
      have HPO : Hid _ := HE2.out.sub (t.left - (x.size : Int)) (by omega) (by omega)
      simp only [hcc] at HPO
      (try rw [← HW3.out])
      clear HE2 HEND c02 f02 HW3
      go_wp2_with fail
      go_ret
      rw [HW.out]
      exact ⟨rfl, HPO.out⟩
    | false =>
      rw [hcc] at c2 HW
      rw [if_neg (by decide)] at HW
      clear ho HR hc
      go_enter Tryd.func22, Tryd.ntmps22
      go_upto_region 8 with (at_builtin; go_must (refine wpList_appB w (by rfl) _ _ (by rfl) g cap t.l x (by rfl) (by rfl) HRW.out HMK.out hlx ?_; intro g2 cap2 w2 h2 m2 gr2 gg2; (have hdw2 : w2.heap[d]? = w.heap[d]? := gr2.block d hlt (by simpa using hne)); (have c02 : w2.cell? ⟨d, 0, none⟩ = some (.slice (some ⟨g, 0, none⟩) t.l.length cap) := (World.cell?_of_block hdw2).trans c0); (have f02 : w2.frozen? ⟨d, 0, none⟩ = false := (World.frozen?_of_block hdw2).trans f0); (have HE2 : Hid _ := HEND.out g2 cap2 w2 h2 m2 gr2 gg2); clear h2 m2 gr2 gg2 hdw2))
      obtain ⟨W3, HW3⟩ : ∃ W3, Hid (W3 = w2.setCell ⟨d, 0, none⟩ (.slice (some ⟨g2, 0, none⟩) (t.l.length + x.size) cap2)) := ⟨_, rfl⟩
      rw [← HW3.out] at HE2
      have k2 := HE2.out.c2
      simp only [hcc] at k2
      have HPO : Hid _ := HE2.out.full
      simp only [hcc] at HPO
      (try rw [← HW3.out])
      clear HE2 HEND c02 f02 HW3
      go_wp2_with fail
      go_ret
      rw [HW.out]
      exact ⟨rfl, HPO.out⟩
end
end Go.Proofs.YtgfbiipciolnoaaDoor
