/-
  The walk of the law 'TreeTells': it returns true; nothing that was there has turned.
  Conditions: the sentinels hold what the program's text lays; both nodes lie in memory.
-/
import Derived.Test.YtilkjafggfdjeaaDoorSame
import Derived.Test.YtilkjafggfdjeaaDoorTreed
import Derived.Test.YtilkjafggfdjeaaDoorCodeE
import Derived.Test.YtilkjafggfdjeaaDoorSmall
import Derived.Test.YtilkjafggfdjeaaDoorOwn
import Derived.Test.YtilkjafggfdjeaaDoorRefJ
import Derived.Test.YtilkjafggfdjeaaDoorTellsK
namespace Go.Proofs.YtilkjafggfdjeaaDoor
open Go.RowKit

theorem eqTo_refl (l : List ByteArray) (k : Nat) : eqTo l l k = true := by
  unfold eqTo
  rw [List.all_eq_true]
  intro i _
  simp
theorem textsEq_refl (l : List ByteArray) : textsEq l l = true := by
  unfold textsEq
  rw [eqTo_refl]
  simp
/-- A row of texts that stays. -/
def Stays (w : World) (v : Value) (l : List ByteArray) : Prop := ∀ w', Below w.heap.size w w' → Texts w' v l
theorem Stays.of_own {w : World} {base : Nat} {v : Value} {l : List ByteArray} (h : w.ownsRow base 9 1 v l.length (l.map Value.string)) : Stays w v l := fun _ hb =>
  Texts.of_own (ownsRow_ext h fun k hk => hb.block k (World.ownsRow.lt h k hk).2)
theorem countR_eq {d : Nat} {t : Tree} (hd : Fit d t) : countR (listOf 200 8 t) = countOf d t := by
  unfold countR countOf
  rw [list_errs hd]
  cases h : treeErr d t with
  | none => simp only; rw [fold_ct, S_one, well_list hd h]; omega
  | some e => rfl
theorem sizeR_eq {d : Nat} {t : Tree} (hd : Fit d t) : sizeR (listOf 200 8 t) = sizeOf d t := by
  unfold sizeR sizeOf
  rw [list_errs hd]
  cases h : treeErr d t with
  | none => simp only; rw [well_list hd h]
  | some e => rfl
theorem filesR_eq {d : Nat} {t : Tree} (hd : Fit d t) : filesR (listOf 200 8 t) = filesOf d t := by
  unfold filesR filesOf
  rw [list_errs hd]
  cases h : treeErr d t with
  | none => simp only; rw [well_list hd h]
  | some e => rfl


theorem dat_list {d : Nat} {t : Tree} (h : Dat d t) {x : ByteArray × Nat × Tree} (hx : x ∈ listOf 200 8 t) : x.2.2.data.size ≤ 2001 := by
  obtain ⟨e, he⟩ := list_dat h (200 + 1) x hx
  cases e with
  | zero => exact he.elim
  | succ e => exact he.1
theorem list_short (t : Tree) : (listOf 200 8 t).length ≤ 1000000 := by
  have := listTo_len (most := 200) (deep := 8) (l := [(ByteArray.empty, 0, t)]) (200 + 1)
  unfold listOf
  simp only [List.length_singleton] at this
  omega
theorem files_short {d : Nat} {t : Tree} (h : (pre d ByteArray.empty 0 t).length ≤ 1000) : (filesOf d t).length ≤ 1000000000 := by
  unfold filesOf
  split
  · rw [fold_fl]
    have := isOne_le (pre d ByteArray.empty 0 t)
    simp only [List.length_nil]
    omega
  · simp
theorem tells_tail (a : Nat → Addr) (d : Nat) (s t : Tree) (q : ByteArray) (ua ub xa ya : Option Addr) (uc vc xc yc b0 b c : Nat) (W : World) (R : World → Prop) (S : Sents a W)
    (lA : Lies W W.heap.size d s.kids (.slice ua s.kids.length uc)) (lB : Lies W W.heap.size d t.kids (.slice ub t.kids.length vc)) (lX : Lies W W.heap.size d s.kids (.slice xa s.kids.length xc)) (lY : Lies W W.heap.size d t.kids (.slice ya t.kids.length yc))
    (h0 : b0 + 1 < W.heap.size) (hb : b < W.heap.size) (hc : c < W.heap.size)
    (cA : W.cell? ⟨b0, 0, none⟩ = some (.string s.kind) ∧ W.cell? ⟨b0, 1, none⟩ = some (.string s.data) ∧ W.cell? ⟨b0, 2, none⟩ = some (.bool s.exec) ∧ W.cell? ⟨b0, 3, none⟩ = some (.slice ua s.kids.length uc)) (cB : W.cell? ⟨b0 + 1, 0, none⟩ = some (.string t.kind) ∧ W.cell? ⟨b0 + 1, 1, none⟩ = some (.string t.data) ∧ W.cell? ⟨b0 + 1, 2, none⟩ = some (.bool t.exec) ∧ W.cell? ⟨b0 + 1, 3, none⟩ = some (.slice ub t.kids.length vc)) (cX : W.cell? ⟨b, 0, none⟩ = some (.string s.kind) ∧ W.cell? ⟨b, 1, none⟩ = some (.string s.data) ∧ W.cell? ⟨b, 2, none⟩ = some (.bool s.exec) ∧ W.cell? ⟨b, 3, none⟩ = some (.slice xa s.kids.length xc)) (cY : W.cell? ⟨c, 0, none⟩ = some (.string t.kind) ∧ W.cell? ⟨c, 1, none⟩ = some (.string t.data) ∧ W.cell? ⟨c, 2, none⟩ = some (.bool t.exec) ∧ W.cell? ⟨c, 3, none⟩ = some (.slice ya t.kids.length yc))
    (hok : OkItems (pre d ByteArray.empty 0 s)) (hlen : (pre d ByteArray.empty 0 s).length ≤ 230) (hq : q.size ≤ maxLen) (hR : ∀ w', Below W.heap.size W w' → R w') :
    TellsTail s.kind s.data t.kind t.data q s.exec t.exec ua ub xa ya s.kids.length uc t.kids.length vc xc yc b0 b c R (fun w' => Below W.heap.size W w') (fun v w' => Stays w' v (filesOf d s)) (fun v v2 w' => Texts w' v (filesOf d s) ∧ Texts w' v2 (filesOf d s)) (nameB q) (sameB d s t) (errV a (treeErr d s)) (num (treeErr d s)) (countOf d s : Int) (sizeOf d s : Int) := by
  have hfit : Fit d s := lA.fit
  have hdat : Dat d s := dat_of hfit fun x hx => (hok x hx).2.2
  have hS : ∀ w', Below W.heap.size W w' → SentsB a W.heap.size w' := fun w' h => S.atB.below h (Nat.le_refl _)
  have hA : ∀ w', Below W.heap.size W w' → Lies w' W.heap.size d s.kids (.slice ua s.kids.length uc) := fun w' h => lA.below h (Nat.le_refl _)
  have hX : ∀ w', Below W.heap.size W w' → Lies w' W.heap.size d s.kids (.slice xa s.kids.length xc) := fun w' h => lX.below h (Nat.le_refl _)
  have go : ∀ {w' w''}, Below W.heap.size W w' → Below w'.heap.size w' w'' → Below W.heap.size W w'' := fun h h2 => h.trans (h2.mono h.size)
  have ck : Alive ck ckOk 0 (pre d ByteArray.empty 0 s) := alive_ck _ 0 (by omega) hok
  refine { drew := fun w' h => h.drew, cells := fun w' h => ?_, isName := fun w' h => ?_, sameTree := fun w' h => ?_, check := fun w' h => ?_, treeError := fun w' h => ?_, coded := fun w' h => ?_, same := fun w' h => ?_, name := fun w' h => ?_, count := fun w' h => ?_, countOf := fun w' h => ?_, size := fun w' h => ?_, sizeOf := fun w' h => ?_, files := fun w' h => ?_, filesOf := fun w' v h hv => ?_, sameTexts := fun w' v v2 h hv => ?_, ends := hR }
  · simp only [keeps h (show b0 < W.heap.size by omega), keeps h h0, keeps h hb, keeps h hc]
    exact ⟨cA.1, cA.2.1, cA.2.2.1, cA.2.2.2, cB.1, cB.2.1, cB.2.2.1, cB.2.2.2, cX.1, cX.2.1, cX.2.2.1, cX.2.2.2, cY⟩
  · exact (isName_any q w' hq).mono fun e w'' ⟨h1, h2⟩ => ⟨h1, h2 ▸ h⟩
  · exact (sameTree_any W.heap.size d s t _ _ w' h.size (hA w' h) (lB.below h (Nat.le_refl _))).mono fun e w'' ⟨h1, h2⟩ => ⟨h1, go h h2⟩
  · exact (check_any a d W.heap.size s _ w' (hS w' h) h.size (hX w' h) ck).mono fun e w'' ⟨h1, h2⟩ => ⟨h1, go h h2⟩
  · rw [← list_errs hfit]
    exact (treeError_any W.heap.size d d s _ w' h.size (hA w' h) hdat).mono fun e w'' ⟨h1, h2⟩ => ⟨h1, go h h2⟩
  · exact (coded_err a _ w' (S.below h) fun e he => errOf_lt _ 0 he).mono fun e w'' ⟨h1, h2⟩ => ⟨h1, go h h2⟩
  · exact (same_any W.heap.size d s t _ _ w' h.size (hX w' h) (lY.below h (Nat.le_refl _))).mono fun e w'' ⟨h1, h2⟩ => ⟨h1, go h h2⟩
  · exact (name_any q w' hq).mono fun e w'' ⟨h1, h2⟩ => ⟨h1, h2 ▸ h⟩
  · exact (count_any a d W.heap.size s _ w' (hS w' h) h.size (hX w' h) ck (fun _ => alive_ct _ 0 (by omega) hok)).mono fun e w'' ⟨h1, h2⟩ => ⟨h1, go h h2⟩
  · obtain ⟨l, hl⟩ : ∃ l, l = listOf 200 8 s := ⟨_, rfl⟩
    have e0 := countR_eq hfit
    rw [← hl] at e0
    rw [← e0]
    exact (countOf_any W.heap.size d d s _ w' l hl h.size (hA w' h) hdat).mono fun e w'' ⟨h1, h2⟩ => ⟨h1, go h h2⟩
  · exact (size_any a d W.heap.size s _ w' (hS w' h) h.size (hX w' h) ck (fun _ => alive_sz _ 0 (by omega) hok)).mono fun e w'' ⟨h1, h2⟩ => ⟨h1, go h h2⟩
  · obtain ⟨l, hl⟩ : ∃ l, l = listOf 200 8 s := ⟨_, rfl⟩
    have e0 := sizeR_eq hfit
    have e1 := list_short s
    have e2 : ∀ x ∈ listOf 200 8 s, x.2.2.data.size ≤ 2001 := fun x hx => dat_list hdat hx
    rw [← hl] at e0 e1 e2
    rw [← e0]
    exact (sizeOf_any W.heap.size d d s _ w' l hl h.size (hA w' h) hdat e1 e2).mono fun e w'' ⟨h1, h2⟩ => ⟨h1, go h h2⟩
  · exact (files_any a d W.heap.size s _ w' (hS w' h) h.size (hX w' h) ck (fun _ => alive_fl _ [] (by simp only [List.length_nil]; omega) hok)).mono fun e w'' ⟨v, h1, h2, h3⟩ => ⟨v, h1, go h h3, Stays.of_own h2⟩
  · obtain ⟨l, hl⟩ : ∃ l, l = listOf 200 8 s := ⟨_, rfl⟩
    have e0 := filesR_eq hfit
    have e1 := list_short s
    rw [← hl] at e0 e1
    refine (filesOf_any W.heap.size d d s _ w' l hl h.size (hA w' h) hdat e1).mono fun e w'' ⟨v2, h1, h2, h3⟩ => ⟨v2, h1, go h h3, hv w'' h3, ?_⟩
    rw [e0] at h2
    exact Texts.of_own h2
  · exact (sameTexts_any v v2 _ _ w' hv.1 hv.2 (files_short (by omega))).mono fun e w'' ⟨h1, h2⟩ => ⟨by rw [h1, textsEq_refl], go h h2⟩

theorem tells_owns (a : Nat → Addr) (d : Nat) (s t : Tree) (q : ByteArray) (ua ub : Option Addr) (uc vc b0 : Nat) (W0 : World) (R : World → Prop) (S : Sents a W0)
    (lA : Lies W0 W0.heap.size d s.kids (.slice ua s.kids.length uc)) (lB : Lies W0 W0.heap.size d t.kids (.slice ub t.kids.length vc)) (h0 : b0 + 1 < W0.heap.size)
    (cA : W0.cell? ⟨b0, 0, none⟩ = some (.string s.kind) ∧ W0.cell? ⟨b0, 1, none⟩ = some (.string s.data) ∧ W0.cell? ⟨b0, 2, none⟩ = some (.bool s.exec) ∧ W0.cell? ⟨b0, 3, none⟩ = some (.slice ua s.kids.length uc)) (cB : W0.cell? ⟨b0 + 1, 0, none⟩ = some (.string t.kind) ∧ W0.cell? ⟨b0 + 1, 1, none⟩ = some (.string t.data) ∧ W0.cell? ⟨b0 + 1, 2, none⟩ = some (.bool t.exec) ∧ W0.cell? ⟨b0 + 1, 3, none⟩ = some (.slice ub t.kids.length vc))
    (hok : OkItems (pre d ByteArray.empty 0 s)) (hlen : (pre d ByteArray.empty 0 s).length ≤ 230) (hq : q.size ≤ maxLen) (hR : ∀ w', Below W0.heap.size W0 w' → R w') :
    TellsOwns s.kind s.data t.kind t.data q s.exec t.exec ua ub s.kids.length uc t.kids.length vc b0 R (fun w' => Below W0.heap.size W0 w') := by
  intro w' h
  refine (own_any W0.heap.size d s _ w' h.size (lA.below h (Nat.le_refl _))).mono ?_
  rintro e w1 ⟨u1, rfl, hq1, hb1⟩
  obtain ⟨xa, xc, rfl⟩ := hq1.form
  have hx := box_cells w1 s.kind s.data s.exec xa s.kids.length xc
  have g1 : Below w1.heap.size w1 (w1.alloc (.cells #[.string s.kind, .string s.data, .bool s.exec, .slice xa s.kids.length xc] 24)) := (Below.refl _ _).alloc (Nat.le_refl _) _
  have z1 : w1.heap.size < (w1.alloc (.cells #[.string s.kind, .string s.data, .bool s.exec, .slice xa s.kids.length xc] 24)).heap.size := by simp
  have lx : Lies w1 w1.heap.size d s.kids (.slice xa s.kids.length xc) := hq1.lies fun k hk => hk.2
  have hB0 : Below W0.heap.size W0 w1 := h.trans (hb1.mono h.size)
  refine ⟨xa, xc, rfl, ?_⟩
  generalize w1.alloc (.cells #[.string s.kind, .string s.data, .bool s.exec, .slice xa s.kids.length xc] 24) = W1 at *
  have hB1 : Below W0.heap.size W0 W1 := hB0.trans (g1.mono hB0.size)
  refine ⟨box_keeps hB1 h0 cB, ?_⟩
  refine (own_any W0.heap.size d t _ W1 hB1.size (lB.below hB1 (Nat.le_refl _))).mono ?_
  rintro e w2 ⟨u2, rfl, hq2, hb2⟩
  obtain ⟨ya, yc, rfl⟩ := hq2.form
  have hy := box_cells w2 t.kind t.data t.exec ya t.kids.length yc
  have g2 : Below w2.heap.size w2 (w2.alloc (.cells #[.string t.kind, .string t.data, .bool t.exec, .slice ya t.kids.length yc] 24)) := (Below.refl _ _).alloc (Nat.le_refl _) _
  have z2 : w2.heap.size < (w2.alloc (.cells #[.string t.kind, .string t.data, .bool t.exec, .slice ya t.kids.length yc] 24)).heap.size := by simp
  have ly : Lies w2 w2.heap.size d t.kids (.slice ya t.kids.length yc) := hq2.lies fun k hk => hk.2
  refine ⟨ya, yc, rfl, ?_⟩
  generalize w2.alloc (.cells #[.string t.kind, .string t.data, .bool t.exec, .slice ya t.kids.length yc] 24) = W at *
  have g3 : Below W1.heap.size W1 W := hb2.trans (g2.mono hb2.size)
  have g4 : Below w1.heap.size w1 W := g1.trans (g3.mono g1.size)
  have g5 : Below W0.heap.size W0 W := hB1.trans (g3.mono hB1.size)
  exact ⟨_, _, _, _, _, _, _, _, _, Below.refl _ _, tells_tail a d s t q ua ub xa ya uc vc xc yc b0 w1.heap.size w2.heap.size W R (S.below g5)
    ((lA.below g5 (Nat.le_refl _)).up g5.size (Nat.le_refl _)) ((lB.below g5 (Nat.le_refl _)).up g5.size (Nat.le_refl _)) ((lx.below g4 (Nat.le_refl _)).up g4.size (Nat.le_refl _)) ((ly.below g2 (Nat.le_refl _)).up g2.size (Nat.le_refl _))
    (Nat.lt_of_lt_of_le h0 g5.size) (Nat.lt_of_lt_of_le z1 g3.size) z2 (box_keeps g5 (by omega) cA) (box_keeps g5 h0 cB) (box_keeps g3 z1 hx) hy hok hlen hq fun w' hw => hR w' (g5.trans (hw.mono g5.size))⟩

theorem treeTells_any (a : Nat → Addr) (d : Nat) (s t : Tree) (us ut : Value) (q : ByteArray) (w : World) (S0 : Sents a w) (hls : Lies w w.heap.size d s.kids us) (hlt : Lies w w.heap.size d t.kids ut) (hq : q.size ≤ maxLen) :
    Calls Tryd.prog 3 #[.agg #[.string s.kind, .string s.data, .bool s.exec, us], .agg #[.string t.kind, .string t.data, .bool t.exec, ut], .string q] w fun e w' => e = .returned (.bool true) ∧ Below w.heap.size w w' := by
  obtain ⟨sa, sc, rfl⟩ := hls.form
  obtain ⟨ta, tc, rfl⟩ := hlt.form
  have g1 : Below w.heap.size w (w.alloc (.cells #[.string s.kind, .string s.data, .bool s.exec, .slice sa s.kids.length sc] 24)) := (Below.refl _ _).alloc (Nat.le_refl _) _
  have hx := box_cells w s.kind s.data s.exec sa s.kids.length sc
  have z1 : (w.alloc (.cells #[.string s.kind, .string s.data, .bool s.exec, .slice sa s.kids.length sc] 24)).heap.size = w.heap.size + 1 := by simp
  have hy := box_cells (w.alloc (.cells #[.string s.kind, .string s.data, .bool s.exec, .slice sa s.kids.length sc] 24)) t.kind t.data t.exec ta t.kids.length tc
  have g2 : Below (w.alloc (.cells #[.string s.kind, .string s.data, .bool s.exec, .slice sa s.kids.length sc] 24)).heap.size (w.alloc (.cells #[.string s.kind, .string s.data, .bool s.exec, .slice sa s.kids.length sc] 24)) ((w.alloc (.cells #[.string s.kind, .string s.data, .bool s.exec, .slice sa s.kids.length sc] 24)).alloc (.cells #[.string t.kind, .string t.data, .bool t.exec, .slice ta t.kids.length tc] 24)) := (Below.refl _ _).alloc (Nat.le_refl _) _
  have z2 : ((w.alloc (.cells #[.string s.kind, .string s.data, .bool s.exec, .slice sa s.kids.length sc] 24)).alloc (.cells #[.string t.kind, .string t.data, .bool t.exec, .slice ta t.kids.length tc] 24)).heap.size = w.heap.size + 1 + 1 := by simp
  rw [z1] at hy
  have hxx := box_keeps g2 (by rw [z1]; omega) hx
  have gW := g1.trans (g2.mono g1.size)
  obtain ⟨W0, hW0⟩ : ∃ W0, W0 = (w.alloc (.cells #[.string s.kind, .string s.data, .bool s.exec, .slice sa s.kids.length sc] 24)).alloc (.cells #[.string t.kind, .string t.data, .bool t.exec, .slice ta t.kids.length tc] 24) := ⟨_, rfl⟩
  rw [← hW0] at hy hxx gW z2
  have S := S0.below gW
  have lA := (hls.below gW (Nat.le_refl _)).up gW.size (Nat.le_refl _)
  have lB := (hlt.below gW (Nat.le_refl _)).up gW.size (Nat.le_refl _)
  have hR : ∀ w', Below W0.heap.size W0 w' → Below w.heap.size w w' := fun w' h => gW.trans (h.mono gW.size)
  have go : ∀ {w' w''}, Below W0.heap.size W0 w' → Below w'.heap.size w' w'' → Below W0.heap.size W0 w'' := fun h h2 => h.trans (h2.mono h.size)
  refine tells_skel s.kind s.data t.kind t.data q s.exec t.exec sa ta s.kids.length sc t.kids.length tc w (largeN 230 s) (largeN 230 t) ?_ ?_ hq (fun w' => Below w.heap.size w w') (fun w' => Below W0.heap.size W0 w') hR ?_ (fun w' h => h.drew) ?_ ?_ ?_ ?_
  · have := largeN_bounds 230 s; omega
  · have := largeN_bounds 230 t; omega
  · rw [← hW0]; exact treed_any a W0 S
  · intro w' h
    have h1 := box_keeps h (by omega) hxx
    have h2 := box_keeps h (by omega) hy
    exact ⟨h1.1, h1.2.1, h1.2.2.1, h1.2.2.2, h2⟩
  · exact fun w' h => (large_any W0.heap.size d 230 s _ w' h.size (lA.below h (Nat.le_refl _)) (by omega)).mono fun e w'' ⟨h1, h2⟩ => ⟨h1, go h h2⟩
  · exact fun w' h => (large_any W0.heap.size d 230 t _ w' h.size (lB.below h (Nat.le_refl _)) (by omega)).mono fun e w'' ⟨h1, h2⟩ => ⟨h1, go h h2⟩
  · intro hl _
    have h1 := largeN_bounds 230 s
    have h2 := largeN_bounds 230 t
    obtain ⟨hok, hlen⟩ := small_ok lA.fit (largeN_zero (n := 230) (t := s) (by omega))
    exact tells_owns a d s t q sa ta sc tc w.heap.size W0 _ S lA lB (by omega) hxx hy hok hlen hq hR

end Go.Proofs.YtilkjafggfdjeaaDoor
