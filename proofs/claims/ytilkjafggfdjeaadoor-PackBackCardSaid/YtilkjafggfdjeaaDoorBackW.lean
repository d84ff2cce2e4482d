/-
  The law 'PackBack' returns true: the contracts of package pack and tree, put into its walk.
  Conditions: the sentinels and the table of powers of ten hold what their texts lay; the two nodes lie in memory.
-/
import Derived.Test.YtilkjafggfdjeaaDoorSame
import Derived.Test.YtilkjafggfdjeaaDoorPacked
import Derived.Test.YtilkjafggfdjeaaDoorBackK
import Derived.Test.YtilkjafggfdjeaaDoorReads
namespace Go.Proofs.YtilkjafggfdjeaaDoor
open Go.RowKit

theorem begins_eq {d : Nat} {s t : Tree} (hs : Fit d s) (ht : Fit d t) (ws : treeErr d s = none) (wt : treeErr d t = none) :
    (if (bs (textT d s)).size ≤ (bs (textT d t)).size then (((bs (textT d t)).extract 0 (bs (textT d s)).size).toList == (bs (textT d s)).toList) else false) = sameB d s t := by
  rw [bs_size, bs_size]
  by_cases hsame : sameB d s t = true
  · have e := sameB_eq d s t hsame
    subst e
    have e2 : (bs (textT d s)).extract 0 (textT d s).length = bs (textT d s) := by rw [extract_take, bs_list, List.take_length]
    rw [if_pos (Nat.le_refl _), hsame, e2]
    simp
  · have hf : sameB d s t = false := by simpa using hsame
    rw [hf]
    split
    · rename_i hle
      have e2 : (bs (textT d t)).extract 0 (textT d s).length = bs ((textT d t).take (textT d s).length) := by rw [extract_take, bs_list]
      rw [e2]
      cases hb : ((bs ((textT d t).take (textT d s).length)).toList == (bs (textT d s)).toList)
      · rfl
      · exfalso
        have e3 := bs_inj (ba_eq hb)
        have e4 : textT d t = textT d s ++ (textT d t).drop (textT d s).length := by rw [← e3, List.length_take, Nat.min_eq_left hle, List.take_append_drop]
        have e5 := text_apart hs ht ws wt e4
        subst e5
        exact hsame (sameB_refl hs)
    · rfl

theorem back_tail (a : Nat → Addr) (d : Nat) (s t : Tree) (q : ByteArray) (xa ya : Option Addr) (xc yc b c : Nat) (W : World) (R : World → Prop) (S : Sen a W) (hT : Tab W.heap.size W)
    (lX : Lies W W.heap.size d s.kids (.slice xa s.kids.length xc)) (lY : Lies W W.heap.size d t.kids (.slice ya t.kids.length yc)) (hb : b < W.heap.size) (hc : c < W.heap.size)
    (cX : W.cell? ⟨b, 0, none⟩ = some (.string s.kind) ∧ W.cell? ⟨b, 1, none⟩ = some (.string s.data) ∧ W.cell? ⟨b, 2, none⟩ = some (.bool s.exec) ∧ W.cell? ⟨b, 3, none⟩ = some (.slice xa s.kids.length xc)) (cY : W.cell? ⟨c, 0, none⟩ = some (.string t.kind) ∧ W.cell? ⟨c, 1, none⟩ = some (.string t.data) ∧ W.cell? ⟨c, 2, none⟩ = some (.bool t.exec) ∧ W.cell? ⟨c, 3, none⟩ = some (.slice ya t.kids.length yc))
    (oks : OkItems (pre d ByteArray.empty 0 s)) (okt : OkItems (pre d ByteArray.empty 0 t)) (hq : q.size ≤ 100) (N : Nat) (hN : N = W.heap.size) (hR : ∀ w', Below W.heap.size W w' → R w') :
    BackTail s.kind s.data t.kind t.data q s.exec t.exec xa ya s.kids.length t.kids.length xc yc b c N R (fun w' => Below W.heap.size W w') ((treeErr d s).map a) ((treeErr d t).map a) (bs (textOf d s)) (bs (textOf d t)) (sameB d s t) := by
  have fs : Fit d s := lX.fit
  have ft : Fit d t := lY.fit
  have hS : ∀ w', Below W.heap.size W w' → SentsB a W.heap.size w' := fun w' h => S.atB.below h (Nat.le_refl _)
  have hSe : ∀ w', Below W.heap.size W w' → Sen a w' := fun w' h => (hS w' h).is
  have hX : ∀ w', Below W.heap.size W w' → Lies w' W.heap.size d s.kids (.slice xa s.kids.length xc) := fun w' h => lX.below h (Nat.le_refl _)
  have hY : ∀ w', Below W.heap.size W w' → Lies w' W.heap.size d t.kids (.slice ya t.kids.length yc) := fun w' h => lY.below h (Nat.le_refl _)
  have go : ∀ {w' w''}, Below W.heap.size W w' → Below w'.heap.size w' w'' → Below W.heap.size W w'' := fun h h2 => h.trans (h2.mono h.size)
  have cs : Alive ck ckOk 0 (pre d ByteArray.empty 0 s) := alive_ck _ 0 (by omega) oks
  have ct : Alive ck ckOk 0 (pre d ByteArray.empty 0 t) := alive_ck _ 0 (by omega) okt
  have len : ∀ u : Tree, Fit d u → treeErr d u = none → (textT d u).length ≤ 420000 := fun u hf hw => by
    have h := treeErr_none.1 hw
    have h1 := text_len d ByteArray.empty 0 u hf (fun x hx => (h.2 x hx).2) h.1
    have h2 : 2100 * (pre d ByteArray.empty 0 u).length ≤ 2100 * 200 := Nat.mul_le_mul_left _ h.1
    omega
  have len' : ∀ u : Tree, Fit d u → (textOf d u).length ≤ 420000 := fun u hf => by
    unfold textOf
    split
    · rename_i h; exact len u hf h
    · simp
  have none_of : ∀ {E : Option Nat}, E.map a = none → E = none := fun h => by simpa using h
  have hsame : ∀ {u : Value} {lo hi w3 : World}, Below W.heap.size W w3 → Reads d s → LiesQ hi (fun k => lo.heap.size ≤ k ∧ k < hi.heap.size) 9 s.kids u → hi.heap.size ≤ w3.heap.size → (∀ j, lo.heap.size ≤ j → j < hi.heap.size → w3.heap[j]? = hi.heap[j]?) →
      Calls Tryd.prog 17 #[.agg #[.string s.kind, .string s.data, .bool s.exec, u], .agg #[.string s.kind, .string s.data, .bool s.exec, .slice xa s.kids.length xc]] w3 fun e w4 => e = .returned (.bool true) ∧ Below W.heap.size W w4 ∧ Below w3.heap.size w3 w4 := by
    intro u lo hi w3 h Rd hl hz hk
    have h1 : Lies w3 w3.heap.size (max d 9) s.kids u := (LiesQ.lies (B := w3.heap.size) (fun k hk' => by omega) (LiesQ.kept (Q' := fun k => lo.heap.size ≤ k ∧ k < hi.heap.size) (fun k hk' => hk k hk'.1 hk'.2) (fun k hk' => hk') hl)).up (Nat.le_refl _) (Nat.le_max_right _ _)
    have h2 : Lies w3 w3.heap.size (max d 9) s.kids (.slice xa s.kids.length xc) := (hX w3 h).up h.size (Nat.le_max_left _ _)
    exact (same_any w3.heap.size (max d 9) s s _ _ w3 (Nat.le_refl _) h1 h2).mono fun e w4 ⟨h3, h4⟩ => ⟨by rw [h3, sameB_refl h1.fit], go h h4, h4⟩
  refine { alloc := fun w' o h => h.alloc h.size o, set := fun w' n i v h hn => h.setCell (p := ⟨n, i, none⟩) (by show W.heap.size ≤ n; omega) v, size := fun w' h => by rw [hN]; exact h.size, cells := fun w' h => ?_, check1 := fun w' h => ?_, check2 := fun w' h => ?_, text1 := fun _ _ w' h => ?_, text2 := fun _ _ w' h => ?_, read := fun e1 _ w' h => ?_, add := fun w' => ?_, first := fun e1 _ w' h => ?_, same := fun w' h => ?_, sizes := ?_, begins := fun e1 e2 => ?_, ends := hR }
  · have h1 := box_keeps h hb cX
    have h2 := box_keeps h hc cY
    exact ⟨h1.1, h1.2.1, h1.2.2.1, h1.2.2.2, h2⟩
  · exact (check_any a d W.heap.size s _ w' (hS w' h) h.size (hX w' h) cs).mono fun e w'' ⟨h1, h2⟩ => ⟨by rw [h1]; cases treeErr d s <;> rfl, go h h2⟩
  · exact (check_any a d W.heap.size t _ w' (hS w' h) h.size (hY w' h) ct).mono fun e w'' ⟨h1, h2⟩ => ⟨by rw [h1]; cases treeErr d t <;> rfl, go h h2⟩
  · exact (text_any a d W.heap.size s _ w' (hS w' h) h.size (hX w' h) cs (Tab.on hT h) (fun hw => by have := len s fs hw; omega)).mono fun e w'' ⟨h1, h2⟩ => ⟨h1, go h h2⟩
  · exact (text_any a d W.heap.size t _ w' (hS w' h) h.size (hY w' h) ct (Tab.on hT h) (fun hw => by have := len t ft hw; omega)).mono fun e w'' ⟨h1, h2⟩ => ⟨h1, go h h2⟩
  · have hw := none_of e1
    have Rd := reads_of fs hw oks
    have ex : (bs (textOf d s)).data.toList = textT d s := by rw [bs_list, textOf_well hw]
    refine (read_any a _ w' (hSe w' h) (Rd.alive _ [] (by rw [ex, List.append_nil]))).mono ?_
    rintro e w'' ⟨hb2, hp⟩
    refine ⟨go h hb2, hb2, ?_⟩
    by_cases hlong : 20000 < (bs (textOf d s)).size
    · rcases hp with ⟨er, _, rfl⟩ | ⟨u, v, h1, _⟩
      · exact .inl ⟨hlong, a er, rfl⟩
      · rw [readR_long hlong] at h1; cases h1
    · rcases hp with ⟨er, h1, _⟩ | ⟨u, v, h1, rfl, hlk⟩
      · rw [Rd.whole _ ex hlong] at h1; cases h1
      · rw [Rd.whole _ ex hlong] at h1
        injection h1 with h1
        subst h1
        obtain ⟨na, nc, rfl⟩ := hlk.form
        exact .inr ⟨_, _, _, na, _, nc, rfl, fun w3 h3 hz hk => hsame h3 Rd hlk hz hk⟩
  · have := len' s fs
    exact run_string_add_sum w' _ _ (by rw [bs_size]; omega)
  · have hw := none_of e1
    have Rd := reads_of fs hw oks
    have ex : (bs (textOf d s) ++ q).data.toList = textT d s ++ q.data.toList := by
      rw [ByteArray.data_append, Array.toList_append, bs_list, textOf_well hw]
    have ez : (bs (textOf d s) ++ q).size = (bs (textOf d s)).size + q.size := ByteArray.size_append
    refine (first_any a _ w' (hSe w' h) (Rd.alive _ _ ex)).mono ?_
    rintro e w'' ⟨hb2, hp⟩
    refine ⟨go h hb2, hb2, ?_⟩
    by_cases hlong : 20000 < (bs (textOf d s) ++ q).size
    · rcases hp with ⟨er, _, rfl⟩ | ⟨u, l, v, h1, _⟩
      · exact .inl ⟨by rw [← ez]; exact hlong, a er, rfl⟩
      · rw [firstR_long hlong] at h1; cases h1
    · rcases hp with ⟨er, h1, _⟩ | ⟨u, l, v, h1, rfl, hlk⟩
      · rw [Rd.first _ _ ex hlong] at h1; cases h1
      · rw [Rd.first _ _ ex hlong] at h1
        injection h1 with h1
        have h2 := congrArg Prod.fst h1
        have h3 := congrArg Prod.snd h1
        simp only at h2 h3
        subst h2; subst h3
        obtain ⟨na, nc, rfl⟩ := hlk.form
        exact .inr ⟨_, _, _, na, _, nc, by rw [bs_data], fun w3 h3 hz hk => hsame h3 Rd hlk hz hk⟩
  · exact (same_any W.heap.size d s t _ _ w' h.size (hX w' h) (hY w' h)).mono fun e w'' ⟨h1, h2⟩ => ⟨h1, go h h2⟩
  · have h1 := len' s fs
    have h2 := len' t ft
    exact ⟨by rw [bs_size]; omega, by rw [bs_size]; omega, hq⟩
  · have ws := none_of e1
    have wt := none_of e2
    rw [textOf_well ws, textOf_well wt]
    exact begins_eq fs ft ws wt
theorem back_owns (a : Nat → Addr) (d : Nat) (s t : Tree) (q : ByteArray) (ua ub : Option Addr) (uc vc b0 : Nat) (W0 : World) (R : World → Prop) (S : Sen a W0) (hT : Tab W0.heap.size W0)
    (lA : Lies W0 W0.heap.size d s.kids (.slice ua s.kids.length uc)) (lB : Lies W0 W0.heap.size d t.kids (.slice ub t.kids.length vc)) (h0 : b0 + 1 < W0.heap.size)
    (_cA : W0.cell? ⟨b0, 0, none⟩ = some (.string s.kind) ∧ W0.cell? ⟨b0, 1, none⟩ = some (.string s.data) ∧ W0.cell? ⟨b0, 2, none⟩ = some (.bool s.exec) ∧ W0.cell? ⟨b0, 3, none⟩ = some (.slice ua s.kids.length uc)) (cB : W0.cell? ⟨b0 + 1, 0, none⟩ = some (.string t.kind) ∧ W0.cell? ⟨b0 + 1, 1, none⟩ = some (.string t.data) ∧ W0.cell? ⟨b0 + 1, 2, none⟩ = some (.bool t.exec) ∧ W0.cell? ⟨b0 + 1, 3, none⟩ = some (.slice ub t.kids.length vc))
    (oks : OkItems (pre d ByteArray.empty 0 s)) (okt : OkItems (pre d ByteArray.empty 0 t)) (hq : q.size ≤ 100) (hR : ∀ w', Below W0.heap.size W0 w' → R w') :
    BackOwns s.kind s.data t.kind t.data q s.exec t.exec ua ub s.kids.length uc t.kids.length vc b0 R (fun w' => Below W0.heap.size W0 w') := by
  intro w' h
  refine (own_any W0.heap.size d s _ w' h.size (lA.below h (Nat.le_refl _))).mono ?_
  rintro e w1 ⟨u1, rfl, hq1, hb1⟩
  obtain ⟨xa, xc, rfl⟩ := hq1.form
  have hx := box_cells w1 s.kind s.data s.exec xa s.kids.length xc
  have g1 : Below w1.heap.size w1 (w1.alloc (.cells #[.string s.kind, .string s.data, .bool s.exec, .slice xa s.kids.length xc] 24)) := (Below.refl _ _).alloc (Nat.le_refl _) _
  have z1 : w1.heap.size < (w1.alloc (.cells #[.string s.kind, .string s.data, .bool s.exec, .slice xa s.kids.length xc] 24)).heap.size := by simp
  have lx : Lies w1 w1.heap.size d s.kids (.slice xa s.kids.length xc) := hq1.lies fun k hk => hk.2
  have hB0 : Below W0.heap.size W0 w1 := h.trans (hb1.mono h.size)
  refine ⟨xa, xc, rfl, ?_⟩
  generalize w1.alloc (.cells #[.string s.kind, .string s.data, .bool s.exec, .slice xa s.kids.length xc] 24) = W1 at *
  have hB1 : Below W0.heap.size W0 W1 := hB0.trans (g1.mono hB0.size)
  refine ⟨box_keeps hB1 h0 cB, ?_⟩
  refine (own_any W0.heap.size d t _ W1 hB1.size (lB.below hB1 (Nat.le_refl _))).mono ?_
  rintro e w2 ⟨u2, rfl, hq2, hb2⟩
  obtain ⟨ya, yc, rfl⟩ := hq2.form
  have hy := box_cells w2 t.kind t.data t.exec ya t.kids.length yc
  have g2 : Below w2.heap.size w2 (w2.alloc (.cells #[.string t.kind, .string t.data, .bool t.exec, .slice ya t.kids.length yc] 24)) := (Below.refl _ _).alloc (Nat.le_refl _) _
  have z2 : w2.heap.size < (w2.alloc (.cells #[.string t.kind, .string t.data, .bool t.exec, .slice ya t.kids.length yc] 24)).heap.size := by simp
  have z3 : (w2.alloc (.cells #[.string t.kind, .string t.data, .bool t.exec, .slice ya t.kids.length yc] 24)).heap.size = w2.heap.size + 1 := by simp
  have ly : Lies w2 w2.heap.size d t.kids (.slice ya t.kids.length yc) := hq2.lies fun k hk => hk.2
  refine ⟨ya, yc, rfl, ?_⟩
  generalize w2.alloc (.cells #[.string t.kind, .string t.data, .bool t.exec, .slice ya t.kids.length yc] 24) = W at *
  have g3 : Below W1.heap.size W1 W := hb2.trans (g2.mono hb2.size)
  have g4 : Below w1.heap.size w1 W := g1.trans (g3.mono g1.size)
  have g5 : Below W0.heap.size W0 W := hB1.trans (g3.mono hB1.size)
  have hz : w2.heap.size + 1 = W.heap.size := z3.symm
  exact ⟨_, _, _, _, _, _, Below.refl _ _, back_tail a d s t q xa ya xc yc w1.heap.size w2.heap.size W R (S.below g5) (Tab.up (Tab.on hT g5) g5.size)
    ((lx.below g4 (Nat.le_refl _)).up g4.size (Nat.le_refl _)) ((ly.below g2 (Nat.le_refl _)).up g2.size (Nat.le_refl _))
    (Nat.lt_of_lt_of_le z1 g3.size) z2 (box_keeps g3 z1 hx) hy oks okt hq _ hz fun w' hw => hR w' (g5.trans (hw.mono g5.size))⟩

theorem packBack_any (a : Nat → Addr) (d : Nat) (s t : Tree) (us ut : Value) (q : ByteArray) (w : World) (S0 : Sen a w) (hT0 : Tab w.heap.size w) (hls : Lies w w.heap.size d s.kids us) (hlt : Lies w w.heap.size d t.kids ut) (hq : q.size ≤ maxLen) :
    Calls Tryd.prog 7 #[.agg #[.string s.kind, .string s.data, .bool s.exec, us], .agg #[.string t.kind, .string t.data, .bool t.exec, ut], .string q] w fun e w' => e = .returned (.bool true) ∧ Below w.heap.size w w' := by
  obtain ⟨sa, sc, rfl⟩ := hls.form
  obtain ⟨ta, tc, rfl⟩ := hlt.form
  have g1 : Below w.heap.size w (w.alloc (.cells #[.string s.kind, .string s.data, .bool s.exec, .slice sa s.kids.length sc] 24)) := (Below.refl _ _).alloc (Nat.le_refl _) _
  have hx := box_cells w s.kind s.data s.exec sa s.kids.length sc
  have z1 : (w.alloc (.cells #[.string s.kind, .string s.data, .bool s.exec, .slice sa s.kids.length sc] 24)).heap.size = w.heap.size + 1 := by simp
  have hy := box_cells (w.alloc (.cells #[.string s.kind, .string s.data, .bool s.exec, .slice sa s.kids.length sc] 24)) t.kind t.data t.exec ta t.kids.length tc
  have g2 : Below (w.alloc (.cells #[.string s.kind, .string s.data, .bool s.exec, .slice sa s.kids.length sc] 24)).heap.size (w.alloc (.cells #[.string s.kind, .string s.data, .bool s.exec, .slice sa s.kids.length sc] 24)) ((w.alloc (.cells #[.string s.kind, .string s.data, .bool s.exec, .slice sa s.kids.length sc] 24)).alloc (.cells #[.string t.kind, .string t.data, .bool t.exec, .slice ta t.kids.length tc] 24)) := (Below.refl _ _).alloc (Nat.le_refl _) _
  have z2 : ((w.alloc (.cells #[.string s.kind, .string s.data, .bool s.exec, .slice sa s.kids.length sc] 24)).alloc (.cells #[.string t.kind, .string t.data, .bool t.exec, .slice ta t.kids.length tc] 24)).heap.size = w.heap.size + 1 + 1 := by simp
  rw [z1] at hy
  have hxx := box_keeps g2 (by rw [z1]; omega) hx
  have gW := g1.trans (g2.mono g1.size)
  obtain ⟨W0, hW0⟩ : ∃ W0, W0 = (w.alloc (.cells #[.string s.kind, .string s.data, .bool s.exec, .slice sa s.kids.length sc] 24)).alloc (.cells #[.string t.kind, .string t.data, .bool t.exec, .slice ta t.kids.length tc] 24) := ⟨_, rfl⟩
  rw [← hW0] at hy hxx gW z2
  have S := S0.below gW
  have hT : Tab W0.heap.size W0 := Tab.up (Tab.on hT0 gW) gW.size
  have lA := (hls.below gW (Nat.le_refl _)).up gW.size (Nat.le_refl _)
  have lB := (hlt.below gW (Nat.le_refl _)).up gW.size (Nat.le_refl _)
  have hR : ∀ w', Below W0.heap.size W0 w' → Below w.heap.size w w' := fun w' h => gW.trans (h.mono gW.size)
  have go : ∀ {w' w''}, Below W0.heap.size W0 w' → Below w'.heap.size w' w'' → Below W0.heap.size W0 w'' := fun h h2 => h.trans (h2.mono h.size)
  refine back_skel s.kind s.data t.kind t.data q s.exec t.exec sa ta s.kids.length sc t.kids.length tc w (largeN 100 s) (largeN 100 t) ?_ ?_ hq (fun w' => Below w.heap.size w w') (fun w' => Below W0.heap.size W0 w') hR ?_ (fun w' h => h.drew) ?_ ?_ ?_ ?_
  · have := largeN_bounds 100 s; omega
  · have := largeN_bounds 100 t; omega
  · rw [← hW0]; exact packed_any a W0 S hT
  · intro w' h
    have h1 := box_keeps h (by omega) hxx
    have h2 := box_keeps h (by omega) hy
    exact ⟨h1.1, h1.2.1, h1.2.2.1, h1.2.2.2, h2⟩
  · exact fun w' h => (large_any W0.heap.size d 100 s _ w' h.size (lA.below h (Nat.le_refl _)) (by omega)).mono fun e w'' ⟨h1, h2⟩ => ⟨h1, go h h2⟩
  · exact fun w' h => (large_any W0.heap.size d 100 t _ w' h.size (lB.below h (Nat.le_refl _)) (by omega)).mono fun e w'' ⟨h1, h2⟩ => ⟨h1, go h h2⟩
  · intro hl hq1
    have h1 := largeN_bounds 100 s
    have h2 := largeN_bounds 100 t
    obtain ⟨oks, _⟩ := small_ok lA.fit (largeN_zero (n := 100) (t := s) (by omega))
    obtain ⟨okt, _⟩ := small_ok lB.fit (largeN_zero (n := 100) (t := t) (by omega))
    exact back_owns a d s t q sa ta sc tc w.heap.size W0 _ S hT lA lB (by omega) hxx hy oks okt hq1 hR

end Go.Proofs.YtilkjafggfdjeaaDoor
