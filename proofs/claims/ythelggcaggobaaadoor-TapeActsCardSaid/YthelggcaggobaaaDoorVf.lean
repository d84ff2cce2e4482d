/-
  The contracts of package tape's tape: Append, NewDisk, Recover.
  Conditions: the tape lies from block B on, the library's variables and the sentinels below it; the bytes are at most 2000000.
-/
import Derived.Test.YthelggcaggobaaaDoorVe
namespace Go.Proofs.YthelggcaggobaaaDoor
open Go.RowKit
attribute [local go_sem ↓] Go.wp_at_zero Go.wp_at_succ

section
variable {w : World} {B d g cap : Nat} {t : Tp} {a : Nat → Addr}
theorem TpPost.from {w w1 w2 : World} {t' : Tp} (hb : Below w.heap.size w w1) (h : TpPost B d g w1 t' w2) : TpPost B d g w t' w2 := by
  obtain ⟨g', cap', h1, h2, h3⟩ := h
  exact ⟨g', cap', h1, (TpBut.of_below hb).trans h2 (.inl rfl), h3.imp id (fun h => Nat.le_trans hb.size h)⟩
set_option maxRecDepth 100000 in
set_option maxHeartbeats 2000000 in
theorem record_tape (s : ByteArray) (hA : TpAt w B d g cap t) (hS : Sn4 a B w) (hL : Lv B w) (hB : B ≤ w.heap.size) (hs : s.size ≤ 9223372036854775807) (hl : t.l.length ≤ 1048576) : Calls Tryd.prog 21 #[.pointer (some ⟨d, 0, none⟩), .int .i64 (t.l.length : Int), .string s] w fun e w' => e = .returned (errV a (apR t s).1) ∧ TpPost B d g w (apR t s).2 w' := by
  have hsl : s.data.toList.length = s.size := by simp
  have HR : Hid (TpPost B d g w t w) := ⟨g, cap, hA, TpBut.refl _ _ _, .inl rfl⟩
  have HA : Hid (TpAt w B d g cap t) := hA
  by_cases h0 : 20000 < s.size
  · have HE : Hid (apR t s = (some 1, t)) := by show _ = _; unfold apR; rw [if_pos h0]
    have sb := hS.bound.2
    have h0' : (20000 : Int) < (s.size : Int) := by omega
    clear hA hS hL
    go_enter Tryd.func21, Tryd.ntmps21
    go_wp2_with fail
    go_ret
    rw [HE.out]
    exact ⟨rfl, HR.out⟩
  have h0' : (s.size : Int) ≤ 20000 := by omega
  have hrl := recT_len s (by omega)
  obtain ⟨S, HSI⟩ : ∃ S : ByteArray, Hid (({ data := (Lib.itoa (s.size : Int)).toArray } : ByteArray) = S) := ⟨_, rfl⟩
  have HI : Hid _ := Tryd.strconv_Itoa (s.size : Int) (by omega) (by omega) w hL.tab.here
  rw [HSI.out] at HI
  have HSL : Hid (S.data.toList = Lib.decDigits s.size) := by show _ = _; rw [← HSI.out, itoa_natV]
  have hSs : S.size ≤ 6 := by have h1 := dec_short (n := s.size) (by omega); rw [← HSL.out] at h1; simpa using h1
  have HX : Hid ((S ++ ⟨#[58]⟩ ++ s ++ ⟨#[10, 46]⟩ : ByteArray).data.toList = recT s) := by
    show _ = _
    unfold recT
    rw [← HSL.out]
    simp
  have HXS : Hid ((S ++ ⟨#[58]⟩ ++ s ++ ⟨#[10, 46]⟩ : ByteArray).size = (recT s).length) := by show _ = _; rw [← HX.out, Array.length_toList]; rfl
  have HS : Hid (Sn4 a B w) := hS
  clear hS hL HSI HSL hA
  go_enter Tryd.func21, Tryd.ntmps21
  go_wp2_with fail
  refine Calls.mono HI.out ?_
  rintro e w1 ⟨rfl, k, os, rfl⟩
  have HB1 : Hid (Below w.heap.size w (Go.Sort.grow (w.drewN k) os)) := grow_below w k os
  generalize Go.Sort.grow (w.drewN k) os = w1 at HB1 ⊢
  clear HI
  go_upto_region 4 with fail
  have hA1 := HA.out.below HB1.out
  have hS1 := HS.out.below (HB1.out.mono hB)
  have c0 := hA1.c0
  have sf := hS1.full.2
  obtain ⟨X, HXX⟩ : ∃ X : ByteArray, Hid ((S ++ ⟨#[58]⟩ ++ s ++ ⟨#[10, 46]⟩ : ByteArray) = X) := ⟨_, rfl⟩
  rw [HXX.out] at HX HXS ⊢
  have hXs : X.size = (recT s).length := HXS.out
  have hXb : (X.size : Int) ≤ 100000 := by omega
  by_cases hf : 1048576 < t.l.length + (recT s).length
  · have HE : Hid (apR t s = (some 7, t)) := by show _ = _; unfold apR; rw [if_neg h0, if_pos hf]
    have hf' : (1048576 : Int) < (t.l.length : Int) + (X.size : Int) := by omega
    have HR1 : Hid (TpPost B d g w t w1) := TpPost.from HB1.out ⟨g, cap, hA1, TpBut.refl _ _ _, .inl rfl⟩
    clear hXs hA1 hS1
    go_wp2_with fail
    go_ret
    rw [HE.out]
    exact ⟨rfl, HR1.out⟩
  · have HE : Hid (apR t s = wrR t (recT s)) := by show _ = _; unfold apR; rw [if_neg h0, if_neg hf]
    have hf' : ¬ (1048576 : Int) < (t.l.length : Int) + (X.size : Int) := by omega
    have HW : Hid _ := write_any X hA1 hS1 (Nat.le_trans hB HB1.out.size) (by omega) (by omega)
    rw [HX.out] at HW
    clear hXs hA1 hS1
    go_wp2_with fail
    refine Calls.mono HW.out ?_
    rintro e w2 ⟨rfl, hp⟩
    have HP : Hid (TpPost B d g w (wrR t (recT s)).2 w2) := TpPost.from HB1.out hp
    clear hp HW
    go_wp2_with fail
    go_ret
    rw [HE.out]
    exact ⟨rfl, HP.out⟩
set_option maxRecDepth 100000 in
theorem append_tape (s : ByteArray) (hA : TpAt w B d g cap t) (hS : Sn4 a B w) (hL : Lv B w) (hB : B ≤ w.heap.size) (hs : s.size ≤ 9223372036854775807) (hl : t.l.length ≤ 1048576) : Calls Tryd.prog 9 #[.pointer (some ⟨d, 0, none⟩), .string s] w fun e w' => e = .returned (errV a (apR t s).1) ∧ TpPost B d g w (apR t s).2 w' := by
  have HR : Hid _ := record_tape s hA hS hL hB hs hl
  have c0 := hA.c0
  clear hA hS hL
  go_enter Tryd.func9, Tryd.ntmps9
  go_wp2_with fail
  refine Calls.mono HR.out ?_
  rintro e w1 ⟨rfl, hp⟩
  have HP : Hid _ := hp
  clear hp HR
  go_wp2_with fail
  go_ret
  exact ⟨rfl, HP.out⟩
set_option maxRecDepth 100000 in
theorem keep_any (n : Nat) (hA : TpAt w B d g cap t) (hn : n ≤ t.l.length) : Calls Tryd.prog 22 #[.pointer (some ⟨d, 0, none⟩), .int .i64 (n : Int)] w fun e w' => e = .returned (.tuple #[]) ∧ TpAt w' B d g cap ⟨t.l.take n, t.off, t.cut, t.left⟩ ∧ TpBut d g w w' ∧ ∀ k, k ≠ d → w'.heap[k]? = w.heap[k]? := by
  have c0 := hA.c0
  have c4 : ∃ z : Int, w.cell? ⟨d, 4, none⟩ = some (.int .i64 z) := by
    obtain ⟨z, _, hb⟩ := hA.blk
    exact ⟨z, by rw [cell_of_row _ _ _ _ _ _ hb]; rfl⟩
  obtain ⟨z, c4⟩ := c4
  have f0 := hA.fr 0
  have f4 := hA.fr 4
  have hn0 : (0 : Int) ≤ (n : Int) := by omega
  have hnc : (n : Int) ≤ (cap : Int) := by
    obtain ⟨_, _, _, _, h, _⟩ := hA.row
    have h : t.l.length ≤ cap := h
    omega
  have HPO : Hid (∀ y : Nat, y = n → TpAt ((w.setCell ⟨d, 0, none⟩ (.slice (some ⟨g, 0, none⟩) y cap)).setCell ⟨d, 4, none⟩ (.int .i64 0)) B d g cap ⟨t.l.take n, t.off, t.cut, t.left⟩ ∧ TpBut d g w ((w.setCell ⟨d, 0, none⟩ (.slice (some ⟨g, 0, none⟩) y cap)).setCell ⟨d, 4, none⟩ (.int .i64 0)) ∧ ∀ k, k ≠ d → ((w.setCell ⟨d, 0, none⟩ (.slice (some ⟨g, 0, none⟩) y cap)).setCell ⟨d, 4, none⟩ (.int .i64 0)).heap[k]? = w.heap[k]?) := by
    rintro y rfl
    have hne := hA.ne
    have hlen : (t.l.take y).length = y := by rw [List.length_take]; omega
    obtain ⟨z, _, hbk⟩ := hA.blk
    have hb := (set_tape (y := .int .i64 0) (set_tape (y := .slice (some ⟨g, 0, none⟩) y cap) hbk).1).2.2.2.2
    have hrow : RowU w g cap (t.l.take y) := RowU.cut (l := t.l) hA.row _ hn hA.mark
    have ho : ∀ k, k ≠ d → ((w.setCell ⟨d, 0, none⟩ (.slice (some ⟨g, 0, none⟩) y cap)).setCell ⟨d, 4, none⟩ (.int .i64 0)).heap[k]? = w.heap[k]? := fun k hk => by rw [set_other hk, set_other hk]
    refine ⟨⟨⟨0, ⟨Int.le_refl 0, by omega⟩, ?_⟩, hrow.keep (ho g (Ne.symm hne)), fun cur fz h => hA.mark cur fz ((ho g (Ne.symm hne)).symm.trans h), hA.hd, hA.hg, hA.lf⟩, ⟨rfl, rfl, rfl, by simp [World.setCell], fun k _ hk _ => ho k hk⟩, ho⟩
    have e : (⟨t.l.take y, t.off, t.cut, t.left⟩ : Tp).l.length = y := hlen
    rw [e]
    exact hb
  clear hA
  go_enter Tryd.func22, Tryd.ntmps22
  go_wp2_with fail
  go_end0
  have hp := HPO.out n rfl
  exact ⟨rfl, by first | exact hp | simpa using hp⟩
/-! ### NewDisk -/
theorem newRow_tape (w : World) (b : ByteArray) (hb : b.size ≤ 1048576) (o : Obj) (W : World) (hW : W = (Lib.bytesWorld w 5 b).alloc o) : RowU W w.heap.size (grownCap w b.size 0 5) b.data.toList ∧ Mk0 W w.heap.size ∧ Below w.heap.size w W ∧ W.heap.size = w.heap.size + 2 := by
  have hbl : b.data.toList.length = b.size := by simp
  have hge := grownCap_ge w b.size 0 5
  have hcm := grownCap_le_maxLen w b.size 0 5 (by unfold maxLen; omega)
  have hs := Lib.bytesWorld_size w 5 b
  have hn : W.heap[w.heap.size]? = some (.cells (Lib.bytesCells w 5 b) 5 ((Lib.bytesCells w 5 b).size, (Lib.bytesCells w 5 b).size + 1)) := by
    rw [hW, heap_alloc_old _ _ (by omega)]
    exact Lib.bytesWorld_at_new w 5 b
  have hcs : (Lib.bytesCells w 5 b).size = grownCap w b.size 0 5 := by
    have : b.data.size = b.size := rfl
    simp only [Lib.bytesCells, Array.size_append, Array.size_map, Array.size_replicate]
    omega
  refine ⟨⟨_, _, hn, .inr (Nat.le_refl _), by omega, hcm, hcs, ?_⟩, ?_, ?_, ?_⟩
  · have e : (Lib.bytesCells w 5 b).toList = Lib.byteCells b.data.toList ++ (Array.replicate (grownCap w b.size 0 5 - b.size) (Value.int .u8 0)).toList := by
      simp [Lib.bytesCells, Lib.byteCells]
    have e2 : (Lib.byteCells b.data.toList).length = b.data.toList.length := by simp [Lib.byteCells]
    rw [e, ← e2, List.take_left]
  · intro cur fz h
    rw [hn] at h
    simp only [Option.some.injEq, Obj.cells.injEq] at h
    obtain ⟨rfl, _, rfl⟩ := h
    exact .inr (Nat.le_refl _)
  · rw [hW]
    exact (Lib.bytesWorld_below w 5 b).alloc (by omega) _
  · rw [hW]
    simp
    omega
set_option maxRecDepth 100000 in
set_option maxHeartbeats 2000000 in
theorem newDisk_any (b : ByteArray) (w : World) (hb : b.size ≤ 1048576) : Calls Tryd.prog 7 #[.string b] w fun e w' => e = .returned (.tuple #[.pointer (some ⟨w.heap.size + 1, 0, none⟩), .nilIface]) ∧ (∃ cap, TpAt w' w.heap.size (w.heap.size + 1) w.heap.size cap ⟨b.data.toList, false, false, 0⟩) ∧ Below w.heap.size w w' := by
  have hbl : b.data.toList.length = b.size := by simp
  have hb' : (b.size : Int) ≤ 1048576 := by omega
  have hc : (convert 9 50 (.string b)).run Tryd.prog w = .ok (.slice (some ⟨w.heap.size, 0, none⟩) b.size (grownCap w b.size 0 5)) (Lib.bytesWorld w 5 b) := Lib.run_convert_string_bytes w 9 50 5 b Tryd.underlying9 Tryd.underlying50 Tryd.underlying5
  obtain ⟨W, HW⟩ : ∃ W, Hid (W = (Lib.bytesWorld w 5 b).alloc (.cells #[.slice (some ⟨w.heap.size, 0, none⟩) b.size (grownCap w b.size 0 5), .bool false, .bool false, .int .i64 0, .int .i64 0] 52)) := ⟨_, rfl⟩
  have HF : Hid _ := newRow_tape w b hb _ W HW.out
  have HD : Hid (W.heap[w.heap.size + 1]? = some (.cells #[.slice (some ⟨w.heap.size, 0, none⟩) b.size (grownCap w b.size 0 5), .bool false, .bool false, .int .i64 0, .int .i64 0] 52 (0, 0))) := by
    have h := heap_alloc_last (Lib.bytesWorld w 5 b) (.cells #[.slice (some ⟨w.heap.size, 0, none⟩) b.size (grownCap w b.size 0 5), .bool false, .bool false, .int .i64 0, .int .i64 0] 52)
    rw [Lib.bytesWorld_size, ← HW.out] at h
    exact h
  have hbs := Lib.bytesWorld_size w 5 b
  obtain ⟨W1, HW1⟩ : ∃ W1, Hid (Lib.bytesWorld w 5 b = W1) := ⟨_, rfl⟩
  rw [HW1.out] at hc HW hbs
  go_enter Tryd.func7, Tryd.ntmps7
  go_wp2_with fail
  go_ret2
  refine ⟨?_, ⟨grownCap w b.size 0 5, ?_⟩, ?_⟩
  · rfl
  · rw [← HW.out]
    refine ⟨⟨0, ⟨Int.le_refl 0, by omega⟩, ?_⟩, HF.out.1, HF.out.2.1, by omega, Nat.le_refl _, ⟨Int.le_refl 0, (by decide : (0 : Int) ≤ 9223372036854775807)⟩⟩
    show W.heap[w.heap.size + 1]? = some (.cells #[.slice (some ⟨w.heap.size, 0, none⟩) b.data.toList.length _, _, _, _, _] _ _)
    rw [hbl]
    exact HD.out
  · rw [← HW.out]
    exact HF.out.2.2.1
/-! ### Recover -/
set_option maxRecDepth 100000 in
set_option maxHeartbeats 2000000 in
theorem recover_any (hA : TpAt w B d g cap t) (hL : Lv B w) (hB : B ≤ w.heap.size) (hl : t.l.length ≤ 400000) : Calls Tryd.prog 10 #[.pointer (some ⟨d, 0, none⟩)] w fun e w' => (∃ va vc, e = .returned (.tuple #[.slice va (readA t.l).1.length vc, .nilIface]) ∧ OwnS w' w.heap.size (.slice va (readA t.l).1.length vc) (readA t.l).1) ∧ TpPost B d g w (recvR t) w' := by
  have HA : Hid (TpAt w B d g cap t) := hA
  have HL : Hid (Lv B w) := hL
  have HO : Hid _ := on_any hA
  have hN := readN_le t.l
  have HG : Hid (g < w.heap.size) := hA.row.lt
  clear hA hL
  go_enter Tryd.func10, Tryd.ntmps10
  go_wp2_with fail
  refine Calls.mono HO.out ?_
  rintro e w1 ⟨rfl, g1, cap1, hA1, hb1, hg1⟩
  have HA1 : Hid (TpAt w1 B d g1 cap1 (onR t)) := hA1
  have HB1 : Hid (TpBut d g w w1 ∧ (g1 = g ∨ w.heap.size ≤ g1)) := ⟨hb1, hg1⟩
  have HBY : Hid (Calls Tryd.prog 14 #[.pointer (some ⟨d, 0, none⟩)] w1 fun e w' => e = .returned (.string (bs t.l)) ∧ w' = w1) := bytes_tape (t := onR t) hA1
  have HS1 : Hid (w.heap.size ≤ w1.heap.size) := hb1.size
  have HL1 : Hid (Lv B w1) := HL.out.below (hb1.below hB HA.out.hd HA.out.hg)
  clear hA1 hb1 hg1 HO
  go_wp2_with fail
  refine Calls.mono HBY.out ?_
  rintro e w2 ⟨rfl, rfl⟩
  have HRD : Hid (Calls Tryd.prog 13 #[.string (bs t.l)] w2 fun e w' => (∃ va vc, e = .returned (.tuple #[.slice va (readA t.l).1.length vc, .int .i64 (readN t.l : Int)]) ∧ OwnS w' w2.heap.size (.slice va (readA t.l).1.length vc) (readA t.l).1) ∧ Below w2.heap.size w2 w') := read_tape (bs t.l) B w2 HL1.out (Nat.le_trans hB HS1.out) (by rw [bs_size]; exact hl)
  clear HBY
  go_wp2_with fail
  refine Calls.mono HRD.out ?_
  rintro e w3 ⟨⟨va, vc, rfl, ho3⟩, hb3⟩
  have HK : Hid _ := keep_any (readN t.l) (HA1.out.below hb3) hN
  have HO3 : Hid (OwnS w3 w2.heap.size (.slice va (readA t.l).1.length vc) (readA t.l).1) := ho3
  have HB3 : Hid (Below w2.heap.size w2 w3) := hb3
  have HD3 : Hid (∃ z, w3.heap[d]? = some (.cells z 52 (0, 0))) := by
    obtain ⟨_, _, hb⟩ := (HA1.out.below hb3).blk
    exact ⟨_, hb⟩
  clear ho3 hb3 HRD
  go_wp2_with fail
  refine Calls.mono HK.out ?_
  rintro e w4 ⟨rfl, h1, h2, ho⟩
  have HPO : Hid (TpPost B d g w (recvR t) w4 ∧ OwnS w4 w.heap.size (.slice va (readA t.l).1.length vc) (readA t.l).1) := by
    refine ⟨⟨g1, cap1, h1, HB1.out.1.trans ((TpBut.of_below HB3.out).trans (g' := g1) h2 (.inl rfl)) HB1.out.2, HB1.out.2⟩, ?_⟩
    refine (OwnS.base (HO3.out) HS1.out).ext fun k cur hk hb2 hh => ho k ?_
    rintro rfl
    obtain ⟨z, hz⟩ := HD3.out
    rw [hz] at hh
    simp only [Option.some.injEq, Obj.cells.injEq] at hh
    exact absurd hh.2.1 (by decide)
  clear h1 h2 ho HK
  go_wp2_with fail
  go_ret2
  exact ⟨⟨va, vc, rfl, HPO.out.2⟩, HPO.out.1⟩
end
end Go.Proofs.YthelggcaggobaaaDoor
