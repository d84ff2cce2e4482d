/-
  A tape in a law: its calls over a predicate of worlds; and the closed fact 'taped'.
  Conditions: the sentinels and the library's variables lie as their text lays them.
-/
import Derived.Test.YthelggcaggobaaaDoorVf
import Derived.Test.YthelggcaggobaaaDoorTextsE
namespace Go.Proofs.YthelggcaggobaaaDoor
open Go.RowKit
attribute [local go_sem ↓] Go.wp_at_zero Go.wp_at_succ

theorem Lv.up {B C : Nat} {w : World} (h : Lv B w) (hc : B ≤ C) : Lv C w := ⟨⟨Nat.lt_of_lt_of_le h.syn.1 hc, h.syn.2⟩, ⟨Nat.lt_of_lt_of_le h.rng.1 hc, h.rng.2⟩, ⟨Nat.lt_of_lt_of_le h.mx.1 hc, h.mx.2⟩, fun w' hb => h.tab w' (hb.mono hc)⟩
theorem Sn4.up {a : Nat → Addr} {B C : Nat} {w : World} (h : Sn4 a B w) (hc : B ≤ C) : Sn4 a C w := ⟨⟨Nat.lt_of_lt_of_le h.bound.1 hc, h.bound.2⟩, ⟨Nat.lt_of_lt_of_le h.full.1 hc, h.full.2⟩, ⟨Nat.lt_of_lt_of_le h.off.1 hc, h.off.2⟩⟩
/-- Rows of texts that stay. -/
def KeepS (W W' : World) : Prop := ∀ b v L, OwnS W b v L → OwnS W' b v L
theorem KeepS.refl (W : World) : KeepS W W := fun _ _ _ h => h
theorem KeepS.trans {W W1 W2 : World} (h : KeepS W W1) (h' : KeepS W1 W2) : KeepS W W2 := fun b v L x => h' b v L (h b v L x)
theorem KeepS.of_below {W W' : World} (h : Below W.heap.size W W') : KeepS W W' := fun _ _ _ x => x.below h
/-- A tape that a law has made, in the world w0 (B: its heap's size). -/
structure Tin (w0 : World) (a : Nat → Addr) (B d : Nat) (t : Tp) (W : World) : Prop where
  tp : ∃ g cap, TpAt W B d g cap t
  lv : Lv B W
  sn : Sn4 a B W
  fr : Below B w0 W
  sz : B = w0.heap.size
section
variable {w0 W W' : World} {a : Nat → Addr} {B d : Nat} {t : Tp}
theorem Tin.le (h : Tin w0 a B d t W) : B ≤ W.heap.size := by rw [h.sz]; exact h.fr.size
theorem Tin.below (h : Tin w0 a B d t W) (hb : Below W.heap.size W W') : Tin w0 a B d t W' := by
  obtain ⟨g, cap, hA⟩ := h.tp
  exact ⟨⟨g, cap, hA.below hb⟩, h.lv.below (hb.mono h.le), h.sn.below (hb.mono h.le), h.fr.trans (hb.mono h.le), h.sz⟩
theorem Tin.texts (h : Tin w0 a B d t W) {v : Value} {L : List ByteArray} (hv : Texts w0 v L) : Texts W v L := hv.below (by rw [← h.sz]; exact h.fr)
theorem Tin.post {g cap : Nat} {t' : Tp} (h : Tin w0 a B d t W) (hA : TpAt W B d g cap t) (hp : TpPost B d g W t' W') : Tin w0 a B d t' W' ∧ KeepS W W' := by
  obtain ⟨g', cap', h1, h2, h3⟩ := hp
  have hb := h2.below h.le hA.hd hA.hg
  refine ⟨⟨⟨g', cap', h1⟩, h.lv.below hb, h.sn.below hb, h.fr.trans hb, h.sz⟩, fun b v L hv => hv.ext fun k cur _ _ hk => ?_⟩
  refine h2.block k ((Array.getElem?_eq_some_iff.1 hk).1) ?_ ?_
  · rintro rfl
    obtain ⟨_, _, hblk⟩ := hA.blk
    rw [hblk] at hk
    simp only [Option.some.injEq, Obj.cells.injEq] at hk
    exact absurd hk.2.1 (by decide)
  · rintro rfl
    obtain ⟨c, f, hr, _⟩ := hA.row
    rw [hr] at hk
    simp only [Option.some.injEq, Obj.cells.injEq] at hk
    exact absurd hk.2.1 (by decide)
/-- A row of texts of one's own grows. -/
theorem Tin.grown (h : Tin w0 a B d t W) {b : Nat} {v : Value} {L : List ByteArray} (ho : OwnS W b v L) (hb0 : B ≤ b) (hg : W.grownBy W' v.ownBlock) : Tin w0 a B d t W' := by
  obtain ⟨g, cp, hA⟩ := h.tp
  have hne : ∀ (j : Nat) (c : Array Value) (ty : TypeId) (f : Nat × Nat), W.heap[j]? = some (Obj.cells c ty f) → ty ≠ 9 → W'.heap[j]? = W.heap[j]? := fun j c ty f hj ht => hg.block j ((Array.getElem?_eq_some_iff.1 hj).1) (fun e => by
    obtain ⟨_, cur, hc⟩ := ho.block e.symm
    rw [hj] at hc
    simp only [Option.some.injEq, Obj.cells.injEq] at hc
    exact ht hc.2.1)
  have hle := h.le
  have hb : Below B W W' := ⟨hg.os, hg.tape, hg.output, hg.size, fun j hj => hg.block j (by omega) (fun e => by have := (ho.block e.symm).1; omega)⟩
  refine ⟨⟨g, cp, hA.keep (by obtain ⟨_, _, hblk⟩ := hA.blk; exact hne d _ _ _ hblk (by decide)) ?_⟩, h.lv.below hb, h.sn.below hb, h.fr.trans hb, h.sz⟩
  obtain ⟨cur, fz, hr, _⟩ := hA.row
  exact hne g _ _ _ hr (by decide)
/-- What a call on a tape leaves. -/
def TinP (w0 : World) (a : Nat → Addr) (B d : Nat) (t : Tp) (W W' : World) : Prop := Tin w0 a B d t W' ∧ KeepS W W'
theorem t_append (h : Tin w0 a B d t W) (s : ByteArray) (hs : s.size ≤ 9223372036854775807) (hl : t.l.length ≤ 1048576) : Calls Tryd.prog 9 #[.pointer (some ⟨d, 0, none⟩), .string s] W fun e W' => e = .returned (errV a (apR t s).1) ∧ TinP w0 a B d (apR t s).2 W W' := by
  obtain ⟨g, cap, hA⟩ := h.tp
  exact (append_tape s hA h.sn h.lv h.le hs hl).mono fun e W' ⟨he, hp⟩ => ⟨he, h.post hA hp⟩
theorem t_cut (h : Tin w0 a B d t W) (n : Int) (hn : n ≤ 9223372036854775807) : Calls Tryd.prog 8 #[.pointer (some ⟨d, 0, none⟩), .int .i64 n] W fun e W' => e = .returned (errV a (cutR t n).1) ∧ TinP w0 a B d (cutR t n).2 W W' := by
  obtain ⟨g, cap, hA⟩ := h.tp
  exact (cut_any n hA h.sn hn).mono fun e W' ⟨he, hp⟩ => ⟨he, h.post hA hp⟩
theorem t_on (h : Tin w0 a B d t W) : Calls Tryd.prog 18 #[.pointer (some ⟨d, 0, none⟩)] W fun e W' => e = .returned (.tuple #[]) ∧ TinP w0 a B d (onR t) W W' := by
  obtain ⟨g, cap, hA⟩ := h.tp
  exact (on_any hA).mono fun e W' ⟨he, hp⟩ => ⟨he, h.post hA hp⟩
theorem t_power (h : Tin w0 a B d t W) : Calls Tryd.prog 12 #[.pointer (some ⟨d, 0, none⟩)] W fun e W' => e = .returned (.bool (!t.off)) ∧ W' = W := by
  obtain ⟨g, cap, hA⟩ := h.tp
  exact power_any hA
theorem t_bytes (h : Tin w0 a B d t W) : Calls Tryd.prog 14 #[.pointer (some ⟨d, 0, none⟩)] W fun e W' => e = .returned (.string (bs t.l)) ∧ W' = W := by
  obtain ⟨g, cap, hA⟩ := h.tp
  exact bytes_tape hA
/-- What a reading hands back. -/
def RdP (l : List UInt8) (W : World) (va : Option Addr) (vc : Nat) (W' : World) : Prop := OwnS W' W.heap.size (.slice va (readA l).1.length vc) (readA l).1
theorem t_recover (h : Tin w0 a B d t W) (hl : t.l.length ≤ 400000) : Calls Tryd.prog 10 #[.pointer (some ⟨d, 0, none⟩)] W fun e W' => ∃ va vc, e = .returned (.tuple #[.slice va (readA t.l).1.length vc, .nilIface]) ∧ RdP t.l W va vc W' ∧ TinP w0 a B d (recvR t) W W' := by
  obtain ⟨g, cap, hA⟩ := h.tp
  exact (recover_any hA h.lv h.le hl).mono fun e W' ⟨⟨va, vc, he, ho⟩, hp⟩ => ⟨va, vc, he, ho, h.post hA hp⟩
theorem t_read (h : Tin w0 a B d t W) (b : ByteArray) (hl : b.size ≤ 400000) : Calls Tryd.prog 13 #[.string b] W fun e W' => ∃ va vc, e = .returned (.tuple #[.slice va (readA b.data.toList).1.length vc, .int .i64 (readN b.data.toList : Int)]) ∧ RdP b.data.toList W va vc W' ∧ TinP w0 a B d t W W' :=
  (read_tape b B W h.lv h.le hl).mono fun _ _ ⟨⟨va, vc, he, ho⟩, hb⟩ => ⟨va, vc, he, ho, h.below hb, KeepS.of_below hb⟩
end
theorem t_new {w0 : World} {a : Nat → Addr} (b : ByteArray) (hb : b.size ≤ 1048576) (hL : Lv w0.heap.size w0) (hS : Sn4 a w0.heap.size w0) : Calls Tryd.prog 7 #[.string b] w0 fun e W => e = .returned (.tuple #[.pointer (some ⟨w0.heap.size + 1, 0, none⟩), .nilIface]) ∧ Tin w0 a w0.heap.size (w0.heap.size + 1) ⟨b.data.toList, false, false, 0⟩ W :=
  (newDisk_any b w0 hb).mono fun _ _ ⟨he, ⟨cap, hA⟩, hbl⟩ => ⟨he, ⟨_, cap, hA⟩, hL.below hbl, hS.below hbl, hbl, rfl⟩
/-! ### The closed fact -/
def abB : ByteArray := ⟨#[97, 32, 98]⟩
theorem rec_ab : recT abB = [51, 58, 97, 32, 98, 10, 46] := by
  unfold recT
  rw [show abB.size = 3 from rfl, Lib.decDigits_one (by decide)]
  rfl
theorem ap_ab : apR ⟨[], false, false, 0⟩ abB = (none, ⟨recT abB, false, false, 0⟩) := by
  unfold apR
  rw [if_neg (by decide), if_neg (by rw [rec_ab]; decide)]
  rfl
theorem read_ab : readA (recT abB) = ([abB], []) := by
  have h := readA_whole (ts := [abB]) (by simp [abB]; decide)
  simpa [recs] using h
theorem recv_ab : recvR ⟨recT abB, false, false, 0⟩ = ⟨recT abB, false, false, 0⟩ := by
  unfold recvR readN
  simp only [read_ab]
  simp
theorem textsEq_refl2 (l : List ByteArray) : textsEq l l = true := by
  unfold textsEq eqTo
  simp
theorem eq_ab : textsEq [abB] [abB] = true := by simp [textsEq, eqTo]
set_option maxRecDepth 100000 in
set_option maxHeartbeats 1000000 in
theorem taped_any {a : Nat → Addr} (w : World) (hL : Lv w.heap.size w) (hS : Sn4 a w.heap.size w) : Calls Tryd.prog 6 #[] w fun e w' => e = .returned (.bool true) ∧ Below w.heap.size w w' := by
  have HN : Hid _ := t_new (a := a) ⟨#[]⟩ (by decide) hL hS
  clear hL hS
  go_enter Tryd.func6, Tryd.ntmps6
  go_wp2_with fail
  refine Calls.mono HN.out ?_
  rintro e w1 ⟨rfl, h1⟩
  generalize hd : w.heap.size + 1 = d at *
  have HA : Hid (Calls Tryd.prog 9 #[.pointer (some ⟨d, 0, none⟩), .string ⟨#[97, 32, 98]⟩] w1 fun e W' => e = .returned .nilIface ∧ Tin w a w.heap.size d ⟨recT abB, false, false, 0⟩ W') := (t_append h1 abB (by decide) (by simp)).mono fun e W' ⟨he, hp⟩ => by
    rw [ap_ab] at he hp
    exact ⟨he, hp.1⟩
  clear HN h1 hd
  go_wp2_with fail
  refine Calls.mono HA.out ?_
  rintro e w2 ⟨rfl, h2⟩
  have HR : Hid (Calls Tryd.prog 10 #[.pointer (some ⟨d, 0, none⟩)] w2 fun e W' => ∃ va vc, e = .returned (.tuple #[.slice va 1 vc, .nilIface]) ∧ Texts W' (.slice va 1 vc) [abB] ∧ Tin w a w.heap.size d ⟨recT abB, false, false, 0⟩ W') := (t_recover h2 (by rw [rec_ab]; decide)).mono fun e W' ⟨va, vc, he, ho, hp⟩ => by
    unfold RdP at ho
    rw [read_ab] at he ho
    rw [recv_ab] at hp
    exact ⟨va, vc, he, ho.texts, hp.1⟩
  clear HA h2
  go_wp2_with fail
  refine Calls.mono HR.out ?_
  rintro e w3 ⟨va, vc, rfl, h3, h3'⟩
  obtain ⟨W7, hW7⟩ : ∃ W7, W7 = w3.alloc (.cells #[.string abB] 9) := ⟨_, rfl⟩
  have hb7 : Below w3.heap.size w3 W7 := by rw [hW7]; exact (Below.refl _ _).alloc (Nat.le_refl _) _
  have q7 : W7.heap[w3.heap.size]? = some (.cells #[.string abB] 9 (0, 0)) := by rw [hW7]; exact heap_alloc_last _ _
  have HST : Hid _ := sameTexts_any (.slice va 1 vc) (.slice (some ⟨w3.heap.size, 0, none⟩) 1 1) [abB] [abB] W7 (h3.below hb7) (one_text q7 1) (by simp)
  rw [eq_ab] at HST
  have HW7 : Hid (W7 = w3.alloc (.cells #[.string ⟨#[97, 32, 98]⟩] 9)) := hW7
  have HT7 : Hid (Tin w a w.heap.size d ⟨recT abB, false, false, 0⟩ W7) := h3'.below hb7
  clear hW7 hb7 q7 h3 h3' HR
  go_wp2_with fail
  rw [← HW7.out]
  refine Calls.mono HST.out ?_
  rintro e w8 ⟨rfl, hb8⟩
  have HT8 : Hid (Tin w a w.heap.size d ⟨recT abB, false, false, 0⟩ w8) := HT7.out.below hb8
  have HBY : Hid (Calls Tryd.prog 14 #[.pointer (some ⟨d, 0, none⟩)] w8 fun e W' => e = .returned (.string ⟨#[51, 58, 97, 32, 98, 10, 46]⟩) ∧ W' = w8) := (t_bytes HT8.out).mono fun e W' ⟨he, hw⟩ => ⟨by rw [he, rec_ab]; rfl, hw⟩
  clear hb8 HST HT7
  go_wp2_with fail
  refine Calls.mono HBY.out ?_
  rintro e w9 ⟨rfl, rfl⟩
  go_wp2_with fail
  go_ret
  exact ⟨rfl, HT8.out.fr⟩
end Go.Proofs.YthelggcaggobaaaDoor
