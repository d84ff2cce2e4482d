/-
  The document's tape: Append, SetCut, Recover; and that the program's and the document's go alike.
  Conditions: the bytes are at most 250000.
-/
import Derived.Test.YthelggcaggobaaaDoorVk
import Derived.Test.YthelggcaggobaaaDoorVd
import Derived.Deep.Cut
namespace Go.Proofs.YthelggcaggobaaaDoor
open Go.RowKit
attribute [local go_sem ↓] Go.wp_at_zero Go.wp_at_succ

/-- The document's tape. -/
structure Mtp where
  b : List UInt8
  off : Bool
  cut : Int
def MtpAt (w : World) (m : Nat) (t : Mtp) : Prop := w.heap[m]? = some (.cells #[.string (bs t.b), .bool t.off, .int .i64 t.cut] 42 (0, 0))
def mapR (t : Mtp) (s : ByteArray) : Nat × Mtp :=
  if 20000 < s.size then (2, t) else if 1048576 < t.b.length + (recT s).length then (8, t) else if t.off = true then (13, t) else if 0 ≤ t.cut ∧ t.cut < ((recT s).length : Int) then (13, ⟨t.b ++ (recT s).take t.cut.toNat, true, t.cut⟩) else (0, ⟨t.b ++ recT s, t.off, if 0 ≤ t.cut then t.cut - ((recT s).length : Int) else t.cut⟩)
def mcutR (t : Mtp) (n : Int) : Nat × Mtp := if n < 0 then (2, t) else if t.off = true then (13, t) else (0, ⟨t.b, t.off, n⟩)
def mrecR (t : Mtp) : Mtp := ⟨t.b.take (readN t.b), false, -1⟩
/-! ### Both -/
def codeN : Option Nat → Nat
  | none => 0
  | some n => n + 1
structure Sim (t : Tp) (q : Mtp) : Prop where
  b : q.b = t.l
  off : q.off = t.off
  cut : t.off = false → (t.cut = true ∧ q.cut = t.left) ∨ (t.cut = false ∧ q.cut = -1)
  lf : 0 ≤ t.left
  qb : -1 ≤ q.cut ∧ q.cut ≤ 9223372036854775807
theorem sim_start (l : List UInt8) : Sim ⟨l, false, false, 0⟩ ⟨l, false, -1⟩ := ⟨rfl, rfl, fun _ => .inr ⟨rfl, rfl⟩, Int.le_refl _, by simp⟩
theorem sim_append {t : Tp} {q : Mtp} (h : Sim t q) (s : ByteArray) : codeN (apR t s).1 = (mapR q s).1 ∧ Sim (apR t s).2 (mapR q s).2 := by
  unfold apR mapR
  rw [h.b, h.off]
  by_cases h1 : 20000 < s.size
  · rw [if_pos h1, if_pos h1]; exact ⟨rfl, h⟩
  rw [if_neg h1, if_neg h1]
  by_cases h2 : 1048576 < t.l.length + (recT s).length
  · rw [if_pos h2, if_pos h2]; exact ⟨rfl, h⟩
  rw [if_neg h2, if_neg h2]
  unfold wrR
  by_cases h3 : t.off = true
  · rw [if_pos h3, if_pos h3]; exact ⟨rfl, h⟩
  rw [if_neg h3, if_neg h3]
  have h3' : t.off = false := by simpa using h3
  have hlf := h.lf
  have hqb := h.qb
  rcases h.cut h3' with ⟨hc, hq⟩ | ⟨hc, hq⟩
  · rw [hq] at hqb ⊢
    by_cases h4 : t.left < ((recT s).length : Int)
    · have e1 : (t.cut = true ∧ t.left < ((recT s).length : Int)) := ⟨hc, h4⟩
      have e2 : (0 ≤ t.left ∧ t.left < ((recT s).length : Int)) := ⟨hlf, h4⟩
      rw [if_pos e1, if_pos e2]
      exact ⟨rfl, ⟨rfl, rfl, fun h => (by cases h), Int.le_refl _, hqb⟩⟩
    · have e1 : ¬ (t.cut = true ∧ t.left < ((recT s).length : Int)) := fun x => h4 x.2
      have e2 : ¬ (0 ≤ t.left ∧ t.left < ((recT s).length : Int)) := fun x => h4 x.2
      rw [if_neg e1, if_neg e2, if_pos hc, if_pos hlf]
      have h5 : 0 ≤ t.left - ((recT s).length : Int) := by omega
      have h6 : -1 ≤ t.left - ((recT s).length : Int) ∧ t.left - ((recT s).length : Int) ≤ 9223372036854775807 := by omega
      exact ⟨rfl, ⟨rfl, rfl, fun _ => .inl ⟨hc, rfl⟩, h5, h6⟩⟩
  · rw [hq]
    have e1 : ¬ (t.cut = true ∧ t.left < ((recT s).length : Int)) := fun x => by have := x.1; rw [hc] at this; cases this
    have e2 : ¬ ((0 : Int) ≤ -1 ∧ (-1 : Int) < ((recT s).length : Int)) := fun x => absurd x.1 (by decide)
    have e3 : ¬ t.cut = true := by rw [hc]; decide
    rw [if_neg e1, if_neg e2, if_neg e3, if_neg (show ¬ (0 : Int) ≤ -1 by decide)]
    exact ⟨rfl, ⟨rfl, rfl, fun _ => .inr ⟨hc, rfl⟩, hlf, ⟨(by decide : (-1 : Int) ≤ -1), (by decide : (-1 : Int) ≤ 9223372036854775807)⟩⟩⟩
theorem sim_cut {t : Tp} {q : Mtp} (h : Sim t q) (n : Int) (hn : n ≤ 9223372036854775807) : codeN (cutR t n).1 = (mcutR q n).1 ∧ Sim (cutR t n).2 (mcutR q n).2 := by
  unfold cutR mcutR
  rw [h.off]
  by_cases h1 : n < 0
  · rw [if_pos h1, if_pos h1]; exact ⟨rfl, h⟩
  rw [if_neg h1, if_neg h1]
  by_cases h3 : t.off = true
  · rw [if_pos h3, if_pos h3]; exact ⟨rfl, h⟩
  rw [if_neg h3, if_neg h3]
  have h5 : 0 ≤ n := by omega
  have h6 : -1 ≤ n ∧ n ≤ 9223372036854775807 := by omega
  exact ⟨rfl, ⟨h.b, rfl, fun _ => .inl ⟨rfl, rfl⟩, h5, h6⟩⟩
theorem sim_on {t : Tp} {q : Mtp} (h : Sim t q) : Sim (onR t) ⟨q.b, false, -1⟩ := ⟨h.b, rfl, fun _ => .inr ⟨rfl, rfl⟩, Int.le_refl _, by simp⟩
theorem sim_recover {t : Tp} {q : Mtp} (h : Sim t q) : Sim (recvR t) (mrecR q) := ⟨by show q.b.take _ = t.l.take _; rw [h.b], rfl, fun _ => .inr ⟨rfl, rfl⟩, Int.le_refl _, ⟨(by decide : (-1 : Int) ≤ -1), (by decide : (-1 : Int) ≤ 9223372036854775807)⟩⟩
theorem set_three {w : World} {d : Nat} {x0 x1 x2 y : Value} {t : TypeId} (h : w.heap[d]? = some (.cells #[x0, x1, x2] t (0, 0))) :
    (w.setCell ⟨d, 0, none⟩ y).heap[d]? = some (.cells #[y, x1, x2] t (0, 0)) ∧ (w.setCell ⟨d, 1, none⟩ y).heap[d]? = some (.cells #[x0, y, x2] t (0, 0)) ∧ (w.setCell ⟨d, 2, none⟩ y).heap[d]? = some (.cells #[x0, x1, y] t (0, 0)) := by
  simp [World.setCell, Array.getElem?_modify, h]
theorem grown_set {w w1 : World} {m i : Nat} {y : Value} (h : w.grownBy w1 (some m)) : w.grownBy (w1.setCell ⟨m, i, none⟩ y) (some m) :=
  ⟨h.os, h.tape, h.output, by simpa [World.setCell] using h.size, fun k hk hne => (Below.heap_setCell _ _ _ _ (fun e => hne (by rw [e]))).trans (h.block k hk hne)⟩
theorem grown_of_below {w w1 : World} {m : Option Nat} (h : Below w.heap.size w w1) : w.grownBy w1 m := ⟨h.os, h.tape, h.output, h.size, fun k hk _ => h.block k hk⟩
section
variable {w : World} {m : Nat} {t : Mtp}
theorem MtpAt.c0 (h : MtpAt w m t) : w.cell? ⟨m, 0, none⟩ = some (.string (bs t.b)) := by rw [cell_of_row _ _ _ _ _ _ h]; rfl
theorem MtpAt.c1 (h : MtpAt w m t) : w.cell? ⟨m, 1, none⟩ = some (.bool t.off) := by rw [cell_of_row _ _ _ _ _ _ h]; rfl
theorem MtpAt.c2 (h : MtpAt w m t) : w.cell? ⟨m, 2, none⟩ = some (.int .i64 t.cut) := by rw [cell_of_row _ _ _ _ _ _ h]; rfl
theorem MtpAt.fr (h : MtpAt w m t) (i : Nat) : w.frozen? ⟨m, i, none⟩ = false := by simp [World.frozen?, show w.heap[m]? = _ from h]
theorem MtpAt.lt (h : MtpAt w m t) : m < w.heap.size := (Array.getElem?_eq_some_iff.1 h).1
theorem MtpAt.below {w' : World} (h : MtpAt w m t) (hb : Below w.heap.size w w') : MtpAt w' m t := (hb.block _ h.lt).trans h
/-- What an act on the document's tape leaves. -/
def MtpP (w : World) (m : Nat) (t : Mtp) (w' : World) : Prop := MtpAt w' m t ∧ w.grownBy w' (some m)
set_option maxRecDepth 100000 in
theorem mcut_any (n : Int) (h : MtpAt w m t) : Calls Tryd.prog 17 #[.pointer (some ⟨m, 0, none⟩), .int .i64 n] w fun e w' => e = .returned (.int .i64 ((mcutR t n).1 : Int)) ∧ MtpP w m (mcutR t n).2 w' := by
  have HR : Hid (MtpP w m t w) := ⟨h, ⟨rfl, rfl, rfl, Nat.le_refl _, fun _ _ _ => rfl⟩⟩
  by_cases h0 : n < 0
  · have HE : Hid (mcutR t n = (2, t)) := by show _ = _; unfold mcutR; rw [if_pos h0]
    clear h
    go_enter Tryd.func17, Tryd.ntmps17
    go_wp2_with fail
    go_ret
    rw [HE.out]
    exact ⟨rfl, HR.out⟩
  have h0' : 0 ≤ n := by omega
  have c1 := h.c1
  have c2 := h.c2
  have f2 := h.fr 2
  cases ho : t.off with
  | true =>
    have HE : Hid (mcutR t n = (13, t)) := by show _ = _; unfold mcutR; rw [if_neg h0, if_pos ho]
    rw [ho] at c1
    clear h ho
    go_enter Tryd.func17, Tryd.ntmps17
    go_wp2_with fail
    go_ret
    rw [HE.out]
    exact ⟨rfl, HR.out⟩
  | false =>
    have HE : Hid (mcutR t n = (0, ⟨t.b, t.off, n⟩)) := by show _ = _; unfold mcutR; rw [if_neg h0, if_neg (by rw [ho]; decide)]
    have HP : Hid (MtpP w m ⟨t.b, t.off, n⟩ (w.setCell ⟨m, 2, none⟩ (.int .i64 n))) := ⟨(set_three (y := .int .i64 n) h).2.2, grown_set HR.out.2⟩
    rw [ho] at c1
    clear h ho
    go_enter Tryd.func17, Tryd.ntmps17
    go_wp2_with fail
    go_ret
    rw [HE.out]
    exact ⟨rfl, HP.out⟩
set_option maxRecDepth 100000 in
set_option maxHeartbeats 1000000 in
theorem mrec_any (h : MtpAt w m t) (hb : t.b.length ≤ 250000) : Calls Tryd.prog 19 #[.pointer (some ⟨m, 0, none⟩)] w fun e w' => (∃ va vc, e = .returned (.slice va (readA t.b).1.length vc) ∧ OwnS w' w.heap.size (.slice va (readA t.b).1.length vc) (readA t.b).1) ∧ MtpP w m (mrecR t) w' := by
  have HRT : Hid (Calls Tryd.prog 20 #[.string (bs t.b)] w fun e w' => (∃ va vc, e = .returned (.tuple #[.slice va (readA t.b).1.length vc, .int .i64 (readN t.b : Int)]) ∧ OwnS w' w.heap.size (.slice va (readA t.b).1.length vc) (readA t.b).1) ∧ Below w.heap.size w w') := readTape_any (bs t.b) w (by rw [bs_size]; exact hb)
  have HM : Hid (MtpAt w m t) := h
  have c0 := h.c0
  have hN := readN_le t.b
  have HEX : Hid ((bs t.b).extract 0 (readN t.b) = bs (t.b.take (readN t.b))) := by show _ = _; rw [← bs_data ((bs t.b).extract 0 (readN t.b)), ext_take, bs_list]
  have hXs : (bs t.b).size = t.b.length := bs_size _
  clear h
  obtain ⟨X, HX⟩ : ∃ X : ByteArray, Hid (bs t.b = X) := ⟨_, rfl⟩
  rw [HX.out] at HRT c0 HEX hXs
  go_enter Tryd.func19, Tryd.ntmps19
  go_wp2_with fail
  refine Calls.mono HRT.out ?_
  rintro e w1 ⟨⟨va, vc, rfl, ho⟩, hb1⟩
  have hM1 := HM.out.below hb1
  have k0 : w1.cell? ⟨m, 0, none⟩ = some (.string X) := by rw [← HX.out]; exact hM1.c0
  have k1 := hM1.c1
  have k2 := hM1.c2
  have f0 := hM1.fr 0
  have f1 := hM1.fr 1
  have f2 := hM1.fr 2
  have hn0 : (0 : Int) ≤ (readN t.b : Int) := by omega
  have hn1 : (readN t.b : Int) ≤ (X.size : Int) := by omega
  have HO : Hid (OwnS w1 w.heap.size (.slice va (readA t.b).1.length vc) (readA t.b).1) := ho
  have HP : Hid (MtpP w m (mrecR t) (((w1.setCell ⟨m, 0, none⟩ (.string (X.extract 0 (readN t.b)))).setCell ⟨m, 1, none⟩ (.bool false)).setCell ⟨m, 2, none⟩ (.int .i64 (-1))) ∧ OwnS (((w1.setCell ⟨m, 0, none⟩ (.string (X.extract 0 (readN t.b)))).setCell ⟨m, 1, none⟩ (.bool false)).setCell ⟨m, 2, none⟩ (.int .i64 (-1))) w.heap.size (.slice va (readA t.b).1.length vc) (readA t.b).1) := by
    have b0 := (set_three (y := .string (X.extract 0 (readN t.b))) hM1).1
    have b1 := (set_three (y := .bool false) b0).2.1
    have b2 := (set_three (y := .int .i64 (-1)) b1).2.2
    have ho3 : ∀ k, k ≠ m → (((w1.setCell ⟨m, 0, none⟩ (.string (X.extract 0 (readN t.b)))).setCell ⟨m, 1, none⟩ (.bool false)).setCell ⟨m, 2, none⟩ (.int .i64 (-1))).heap[k]? = w1.heap[k]? := fun k hk => by rw [set_other hk, set_other hk, set_other hk]
    refine ⟨⟨?_, grown_set (grown_set (grown_set (grown_of_below hb1)))⟩, HO.out.ext fun k cur hk hb2 hh => ho3 k ?_⟩
    · rw [HEX.out] at b2 ⊢
      exact b2
    · rintro rfl
      rw [show w1.heap[k]? = _ from hM1] at hh
      simp only [Option.some.injEq, Obj.cells.injEq] at hh
      exact absurd hh.2.1 (by decide)
  clear ho hb1 hM1 HRT HM
  go_wp2_with fail
  go_ret
  exact ⟨⟨va, vc, rfl, HP.out.2⟩, HP.out.1⟩
set_option maxRecDepth 100000 in
set_option maxHeartbeats 2000000 in
theorem mapp_any (s : ByteArray) (h : MtpAt w m t) (hs : s.size ≤ 9223372036854775807) (hl : t.b.length ≤ 1048576) (hq : -1 ≤ t.cut ∧ t.cut ≤ 9223372036854775807) : Calls Tryd.prog 16 #[.pointer (some ⟨m, 0, none⟩), .string s] w fun e w' => e = .returned (.int .i64 ((mapR t s).1 : Int)) ∧ MtpP w m (mapR t s).2 w' := by
  have HR : Hid (MtpP w m t w) := ⟨h, ⟨rfl, rfl, rfl, Nat.le_refl _, fun _ _ _ => rfl⟩⟩
  have HM : Hid (MtpAt w m t) := h
  by_cases h1 : 20000 < s.size
  · have HE : Hid (mapR t s = (2, t)) := by show _ = _; unfold mapR; rw [if_pos h1]
    have h1' : (20000 : Int) < (s.size : Int) := by omega
    clear h
    go_enter Tryd.func16, Tryd.ntmps16
    go_wp2_with fail
    go_ret
    rw [HE.out]
    exact ⟨rfl, HR.out⟩
  have h1' : (s.size : Int) ≤ 20000 := by omega
  have hrl := recT_len s (by omega)
  have HRC : Hid _ := record_any s w (by omega)
  obtain ⟨R, HRR⟩ : ∃ R : ByteArray, Hid (bs (recT s) = R) := ⟨_, rfl⟩
  rw [HRR.out] at HRC
  have hRs : R.size = (recT s).length := by rw [← HRR.out, bs_size]
  have HRL : Hid (R.data.toList = recT s) := by show _ = _; rw [← HRR.out, bs_list]
  have hRb : (R.size : Int) ≤ 100000 := by omega
  obtain ⟨X, HX⟩ : ∃ X : ByteArray, Hid (bs t.b = X) := ⟨_, rfl⟩
  have hXs : X.size = t.b.length := by rw [← HX.out, bs_size]
  have hXb : (X.size : Int) ≤ 1048576 := by omega
  clear h
  go_enter Tryd.func16, Tryd.ntmps16
  go_wp2_with fail
  refine Calls.mono HRC.out ?_
  rintro e w1 ⟨rfl, hb1⟩
  have HM1 : Hid (MtpAt w1 m t) := HM.out.below hb1
  have HG1 : Hid (w.grownBy w1 (some m)) := grown_of_below hb1
  have c0 : w1.cell? ⟨m, 0, none⟩ = some (.string X) := by rw [← HX.out]; exact HM1.out.c0
  have c1 := HM1.out.c1
  have c2 := HM1.out.c2
  have f0 := HM1.out.fr 0
  have f1 := HM1.out.fr 1
  have f2 := HM1.out.fr 2
  have HR1 : Hid (MtpP w m t w1) := ⟨HM1.out, HG1.out⟩
  clear hb1 HRC HR
  by_cases h2 : 1048576 < t.b.length + (recT s).length
  · have HE : Hid (mapR t s = (8, t)) := by show _ = _; unfold mapR; rw [if_neg h1, if_pos h2]
    have h2' : (1048576 : Int) < (X.size : Int) + (R.size : Int) := by omega
    clear hRs hXs
    go_wp2_with fail
    go_ret
    rw [HE.out]
    exact ⟨rfl, HR1.out⟩
  have h2' : (X.size : Int) + (R.size : Int) ≤ 1048576 := by omega
  cases ho : t.off with
  | true =>
    have HE : Hid (mapR t s = (13, t)) := by show _ = _; unfold mapR; rw [if_neg h1, if_neg h2, if_pos ho]
    rw [ho] at c1
    clear hRs hXs ho
    go_wp2_with fail
    go_ret
    rw [HE.out]
    exact ⟨rfl, HR1.out⟩
  | false =>
  rw [ho] at c1
  by_cases hc : 0 ≤ t.cut ∧ t.cut < (R.size : Int)
  · have HE : Hid (mapR t s = (13, ⟨t.b ++ (recT s).take t.cut.toNat, true, t.cut⟩)) := by show _ = _; unfold mapR; rw [if_neg h1, if_neg h2, if_neg (by rw [ho]; decide), if_pos (by rw [← hRs]; exact hc)]
    have HV : Hid ((X ++ R.extract 0 t.cut.toNat : ByteArray) = bs (t.b ++ (recT s).take t.cut.toNat)) := by
      show _ = _
      rw [← bs_data (X ++ R.extract 0 t.cut.toNat : ByteArray)]
      congr 1
      rw [ByteArray.data_append, Array.toList_append, ext_take, ← HX.out, HRL.out, bs_list]
    obtain ⟨hc0, hc1⟩ := hc
    have hc2 : t.cut ≤ (R.size : Int) := by omega
    have hes : (R.extract 0 t.cut.toNat).size ≤ 100000 := by rw [ByteArray.size_extract]; omega
    have HE9 : Hid ((w1.setCell ⟨m, 0, none⟩ (.string (X ++ R.extract 0 t.cut.toNat))).drew.cell? ⟨m, 2, none⟩ = some (.int .i64 t.cut) ∧ (w1.setCell ⟨m, 0, none⟩ (.string (X ++ R.extract 0 t.cut.toNat))).drew.cell? ⟨m, 1, none⟩ = some (.bool t.off) ∧ (w1.setCell ⟨m, 0, none⟩ (.string (X ++ R.extract 0 t.cut.toNat))).drew.frozen? ⟨m, 1, none⟩ = false ∧ MtpP w m ⟨t.b ++ (recT s).take t.cut.toNat, true, t.cut⟩ ((w1.setCell ⟨m, 0, none⟩ (.string (X ++ R.extract 0 t.cut.toNat))).drew.setCell ⟨m, 1, none⟩ (.bool true))) := by
      have b0 : (w1.setCell ⟨m, 0, none⟩ (.string (X ++ R.extract 0 t.cut.toNat))).drew.heap[m]? = _ := (set_three (y := .string (X ++ R.extract 0 t.cut.toNat)) HM1.out).1
      have hg := grown_set (i := 0) (y := .string (X ++ R.extract 0 t.cut.toNat)) HG1.out
      have hg2 : w.grownBy (w1.setCell ⟨m, 0, none⟩ (.string (X ++ R.extract 0 t.cut.toNat))).drew (some m) := ⟨hg.os, hg.tape, hg.output, hg.size, hg.block⟩
      generalize (w1.setCell ⟨m, 0, none⟩ (.string (X ++ R.extract 0 t.cut.toNat))).drew = V at b0 hg2
      refine ⟨by rw [cell_of_row _ _ _ _ _ _ b0]; rfl, by rw [cell_of_row _ _ _ _ _ _ b0]; rfl, by simp [World.frozen?, b0], ?_, grown_set hg2⟩
      have b1 := (set_three (y := .bool true) b0).2.1
      rw [HV.out] at b1
      exact b1
    have hadd : X.size + t.cut.toNat ≤ 9223372036854775807 := by omega
    clear HM HM1 HG1 HR1 hRs hXs
    go_upto_region 9 with fail
    refine wp_region_held_drew (S := fun w' => w'.cell? ⟨m, 2, none⟩ = some (.int .i64 t.cut)) (by kernel_rfl) (by exact c2) (fun hHeld => ?_)
    refine tk 0 (.pointer (some ⟨m, 0, none⟩)) rfl hHeld ?_
    simp only [tkB, tkS, Act.put]
    refine tk 1 (.pointer (some ⟨m, 0, none⟩)) rfl hHeld ?_
    simp only [tkB, tkS, Act.put]
    refine tk 2 (.pointer (some ⟨m, 0, none⟩)) rfl hHeld ?_
    simp only [tkB, tkS, Act.put]
    refine tk 3 (.pointer (some ⟨m, 0, none⟩)) rfl hHeld ?_
    simp only [tkB, tkS, Act.put]
    refine tk 5 (.string R) rfl hHeld ?_
    simp only [tkB, tkS, Act.put]
    refine tk 6 (.pointer (some ⟨m, 0, none⟩)) rfl hHeld ?_
    simp only [tkB, tkS, Act.put]
    refine tk 7 (.pointer (some ⟨m, 0, none⟩)) rfl hHeld ?_
    simp only [tkB, tkS, Act.put]
    refine tk 8 (.pointer (some ⟨m, 2, none⟩)) rfl hHeld ?_
    simp only [tkB, tkS, Act.put]
    refine tk 9 (.int .i64 t.cut) rfl hHeld ?_
    simp only [tkB, tkS, Act.put]
    refine tk 10 (.string (R.extract 0 t.cut.toNat)) rfl hHeld ?_
    simp only [tkB, tkS, Act.put]
    refine tkR 4 rfl (fun K' hK => ?_)
    simp only [tkB]
    have c0d : w1.drew.cell? ⟨m, 0, none⟩ = some (.string X) := c0
    go_simp
    go_wp2_with fail
    clear c0d
    refine hK.out _ _ (by exact c2) (fun hHeld' => ?_)
    clear hK K' hHeld
    have hHeld := hHeld'
    clear hHeld'
    refine tk 11 (.string (X ++ R.extract 0 t.cut.toNat)) rfl hHeld ?_
    simp only [tkB, tkS, Act.put]
    refine tk 12 (.pointer (some ⟨m, 0, none⟩)) rfl hHeld ?_
    simp only [tkB, tkS, Act.put]
    refine tk 13 (.pointer (some ⟨m, 0, none⟩)) rfl hHeld ?_
    simp only [tkB, tkS, Act.put]
    refine tkR 14 rfl (fun K' hK => ?_)
    simp only [tkB]
    have c0d : w1.drew.cell? ⟨m, 0, none⟩ = some (.string X) := c0
    have f0d : w1.drew.frozen? ⟨m, 0, none⟩ = false := f0
    go_simp
    go_wp2_with fail
    clear c0d f0d
    refine hK.out _ _ (by exact HE9.out.1) (fun hHeld' => ?_)
    clear hK K' hHeld
    have hHeld := hHeld'
    clear hHeld'
    refine wpAnyH_done (by kernel_rfl) ?_ _
    obtain ⟨W3, HW3⟩ : ∃ W3, Hid (W3 = (w1.setCell ⟨m, 0, none⟩ (.string (X ++ R.extract 0 t.cut.toNat))).drew) := ⟨_, rfl⟩
    rw [← HW3.out] at HE9
    have k1 := HE9.out.2.1
    have e1 := HE9.out.2.2.1
    have HPO : Hid _ := HE9.out.2.2.2
    rw [← HW3.out]
    clear HE9 HW3
    go_wp2_with fail
    go_ret
    rw [HE.out]
    exact ⟨rfl, HPO.out⟩
  · have hes : (X ++ R : ByteArray).data.toList = t.b ++ recT s := by rw [ByteArray.data_append, Array.toList_append, HRL.out, ← HX.out, bs_list]
    have HV : Hid ((X ++ R : ByteArray) = bs (t.b ++ recT s)) := by show _ = _; rw [← hes, bs_data]
    clear hes
    by_cases hc0 : 0 ≤ t.cut
    · have hc1 : (R.size : Int) ≤ t.cut := by have : ¬ t.cut < (R.size : Int) := fun h => hc ⟨hc0, h⟩
                                              omega
      have HE : Hid (mapR t s = (0, ⟨t.b ++ recT s, t.off, t.cut - (R.size : Int)⟩)) := by show _ = _; unfold mapR; rw [if_neg h1, if_neg h2, if_neg (by rw [ho]; decide), if_neg (by rw [← hRs]; exact hc), if_pos hc0, ← hRs]
      have HP : Hid (MtpP w m ⟨t.b ++ recT s, t.off, t.cut - (R.size : Int)⟩ ((w1.setCell ⟨m, 2, none⟩ (.int .i64 (t.cut - (R.size : Int)))).setCell ⟨m, 0, none⟩ (.string (X ++ R)))) := by
        have b2 := (set_three (y := .int .i64 (t.cut - (R.size : Int))) HM1.out).2.2
        have b0 := (set_three (y := .string (X ++ R)) b2).1
        refine ⟨?_, grown_set (grown_set HG1.out)⟩
        rw [HV.out] at b0 ⊢
        exact b0
      clear HM HM1 HG1 HR1 hRs hXs hc ho
      go_wp2_with fail
      go_ret
      rw [HE.out]
      exact ⟨rfl, HP.out⟩
    · have hc0' : t.cut < 0 := by omega
      have HE : Hid (mapR t s = (0, ⟨t.b ++ recT s, t.off, t.cut⟩)) := by show _ = _; unfold mapR; rw [if_neg h1, if_neg h2, if_neg (by rw [ho]; decide), if_neg (by rw [← hRs]; exact hc), if_neg hc0]
      have HP : Hid (MtpP w m ⟨t.b ++ recT s, t.off, t.cut⟩ (w1.setCell ⟨m, 0, none⟩ (.string (X ++ R)))) := by
        have b0 := (set_three (y := .string (X ++ R)) HM1.out).1
        refine ⟨?_, grown_set HG1.out⟩
        rw [HV.out] at b0 ⊢
        exact b0
      clear HM HM1 HG1 HR1 hRs hXs hc ho
      go_wp2_with fail
      go_ret
      rw [HE.out]
      exact ⟨rfl, HP.out⟩
end
end Go.Proofs.YthelggcaggobaaaDoor
