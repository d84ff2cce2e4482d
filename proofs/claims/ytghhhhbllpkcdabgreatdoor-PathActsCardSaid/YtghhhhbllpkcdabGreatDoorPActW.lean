/-
  The law 'PathActs' returns true: the contracts of package path and of the document's answers, put into its walk.
  Conditions: the sentinels hold what the program's text lays; the library's MaxLen holds a number; the nodes lie in memory.
-/
import Derived.Test.YtghhhhbllpkcdabGreatDoorZPut
import Derived.Test.YtghhhhbllpkcdabGreatDoorPActK
import Derived.Test.YtghhhhbllpkcdabGreatDoorZCode
import Derived.Test.YtghhhhbllpkcdabGreatDoorTextsE
import Derived.Test.YtghhhhbllpkcdabGreatDoorDocPut
import Derived.Test.YtghhhhbllpkcdabGreatDoorDocFol
namespace Go.Proofs.YtghhhhbllpkcdabGreatDoor
open Go.RowKit

theorem psen_sents {a : Nat → Addr} {w : World} (S : Sents a w) (hm : ∃ m, w.cell? ⟨14, 0, none⟩ = some (.int .i64 m)) : PSen a w := ⟨S.sen, S.c5, hm⟩
theorem OkT.dat : ∀ {n : Nat} {t : Tree}, OkT n t → DatM 2001 n t
  | 0, _, h => h
  | _ + 1, _, h => ⟨h.1, fun x hx => (h.2 x hx).2.dat⟩
theorem treeErr_lt {d e : Nat} {t : Tree} (h : treeErr d t = some e) : e < 13 := errOf_lt _ 0 h
theorem getR_lt {d er : Nat} {t : Tree} {s : ByteArray} (h : getR d t s = .error er) : er < 13 := by
  unfold getR at h
  cases ht : treeErr d t with
  | some e => rw [ht] at h; injection h with h; rw [← h]; exact treeErr_lt ht
  | none =>
    rw [ht] at h
    simp only at h
    split at h
    · injection h with h; omega
    · split at h
      · injection h with h; omega
      · cases h
theorem putR_lt {d e er : Nat} {t X : Tree} {s : ByteArray} (h : putR d e t s X = .error er) : er < 13 := by
  unfold putR at h
  cases ht : treeErr d t with
  | some e => rw [ht] at h; injection h with h; rw [← h]; exact treeErr_lt ht
  | none =>
    rw [ht] at h
    simp only at h
    split at h
    · injection h with h; omega
    · split at h
      · rename_i l _ _
        cases h9 : treeErr e (setAt X l t) with
        | some e9 => rw [h9] at h; injection h with h; rw [← h]; exact treeErr_lt h9
        | none => rw [h9] at h; cases h
      · injection h with h; omega
theorem dropR_lt {d er : Nat} {t : Tree} {s : ByteArray} (h : dropR d t s = .error er) : er < 13 := by
  unfold dropR at h
  cases ht : treeErr d t with
  | some e => rw [ht] at h; injection h with h; rw [← h]; exact treeErr_lt ht
  | none =>
    rw [ht] at h
    simp only at h
    split at h
    · injection h with h; omega
    · split at h
      · injection h with h; omega
      · split at h
        · injection h with h; omega
        · cases h
theorem stepR_lt {t : Tree} {x : ByteArray} {h a : List ByteArray} {n e : Nat} (hh : stepR t x h a n = .error e) : e < 13 := by
  unfold stepR at hh
  split at hh
  · cases hh
  · split at hh
    · cases hh
    · split at hh
      · injection hh with hh; omega
      · split at hh
        · injection hh with hh; omega
        · split at hh
          · unfold linkR at hh
            split at hh
            · injection hh with hh; omega
            · cases hh
          · cases hh
theorem followR_lt {t : Tree} {d : Nat} (hs : ShortD d t) : ∀ (f : Nat) (s : WkS) {e : Nat}, s.links ≤ 16 → wkM s < f → followR t f s = .error e → e < 13
  | 0, _, _, _, h, _ => by omega
  | f + 1, ⟨h, a, n⟩, e, hl, h1, hh => by
    simp only [followR] at hh
    cases a with
    | nil => cases hh
    | cons x a =>
      simp only at hh
      cases hst : stepR t x h a n with
      | error e' => rw [hst] at hh; injection hh with hh; rw [← hh]; exact stepR_lt hst
      | ok s' =>
        rw [hst] at hh
        simp only at hh
        have hl' : n ≤ 16 := hl
        have := step_less hs hl' hst
        exact followR_lt hs f s' this.2 (by omega) hh
theorem followT_lt {d er : Nat} {t : Tree} {s : ByteArray} (hf : Fit d t) (h : followT d t s = .error er) : er < 13 := by
  unfold followT at h
  cases ht : treeErr d t with
  | some e => rw [ht] at h; injection h with h; rw [← h]; exact treeErr_lt ht
  | none =>
    rw [ht] at h
    simp only at h
    split at h
    · injection h with h; omega
    · split at h
      · rename_i l _ e he
        injection h with h
        rw [← h]
        exact followR_lt (short_well hf ht) _ _ (by show 0 ≤ 16; omega) (by omega) he
      · cases h
/-- Both told an error. -/
theorem two_err (a : Nat → Addr) (er : Nat) (w : World) (S : Sents a w) (h : er < 13) : Calls Tryz.prog 9 #[.iface 154 (.pointer (some (a er))), .int .i64 ((er : Int) + 1)] w fun e w5 => e = .returned (.bool true) ∧ Below w.heap.size w w5 ∧
    Calls Tryz.prog 13 #[.agg #[.string { data := #[] }, .string { data := #[] }, .bool false, .slice none 0 0], .agg #[.string { data := #[] }, .string { data := #[] }, .bool false, .slice none 0 0]] w5 fun e w6 => e = .returned (.bool true) ∧ Below w5.heap.size w5 w6 := by
  refine (coded_sent a er _ w S h).mono ?_
  rintro e w5 ⟨rfl, hb⟩
  refine ⟨by rw [decide_eq_true rfl], hb, ?_⟩
  refine (sameTree_any 0 1 zeroT zeroT (.slice none 0 0) (.slice none 0 0) w5 (Nat.zero_le _) (lies_nil _ _) (lies_nil _ _)).mono ?_
  rintro e w6 ⟨rfl, hb6⟩
  exact ⟨by rw [sameB_refl (lies_nil w5 0).fit], hb6⟩
/-- Both told the same tree. -/
theorem two_ok (w : World) (k : Tree) (u1 u2 : Value) (D1 D2 : Nat) (h1 : Lies w w.heap.size D1 k.kids u1) (h2 : Lies w w.heap.size D2 k.kids u2) : Calls Tryz.prog 9 #[.nilIface, .int .i64 0] w fun e w5 => e = .returned (.bool true) ∧ Below w.heap.size w w5 ∧
    Calls Tryz.prog 13 #[.agg #[.string k.kind, .string k.data, .bool k.exec, u1], .agg #[.string k.kind, .string k.data, .bool k.exec, u2]] w5 fun e w6 => e = .returned (.bool true) ∧ Below w5.heap.size w5 w6 := by
  refine (coded_nil 0 w).mono ?_
  rintro e w5 ⟨rfl, rfl⟩
  refine ⟨rfl, Below.refl _ _, ?_⟩
  have h1' := h1.up (Nat.le_refl _) (Nat.le_add_right D1 D2)
  refine (sameTree_any w5.heap.size (D1 + D2) k k u1 u2 w5 (Nat.le_refl _) h1' (h2.up (Nat.le_refl _) (Nat.le_add_left D2 D1))).mono ?_
  rintro e w6 ⟨rfl, hb6⟩
  exact ⟨by rw [sameB_refl h1'.fit], hb6⟩
theorem blk4 {w w1 w2 w3 w4 : World} {ab bb : Nat} {f : Bool} (h2 : ButUp ab w1 w2) (ha : if f = true then w1.heap.size ≤ ab else ab < w.heap.size) (hb3 : Below w2.heap.size w2 w3) (h4 : ButUp bb w3 w4) (hb : if f = true then w3.heap.size ≤ bb else bb < w.heap.size) :
    w1.heap.size ≤ w4.heap.size ∧ ∀ k, w.heap.size ≤ k → k < w1.heap.size → w4.heap[k]? = w1.heap[k]? := by
  have s2 := h2.size
  have s3 := hb3.size
  have s4 := h4.size
  refine ⟨by omega, fun k h1 h5 => ?_⟩
  have n1 : k ≠ ab := by cases f <;> simp at ha <;> omega
  have n2 : k ≠ bb := by cases f <;> simp at hb <;> omega
  rw [h4.block k (by omega) n2, hb3.block k (by omega), h2.block k h5 n1]
theorem blkQ {w w1 w2 w3 w4 : World} {bb B L D : Nat} {f : Bool} {l : List (ByteArray × Tree)} {u : Value} (hb1 : Below w.heap.size w w1) (s2 : w1.heap.size ≤ w2.heap.size) (hb3 : Below w2.heap.size w2 w3) (h4 : ButUp bb w3 w4) (hL : L ≤ bb) (hBL : B ≤ L) (hBw : B ≤ w3.heap.size) (hb : if f = true then w3.heap.size ≤ bb else bb < w.heap.size)
    (h : LiesQ w3 (fun b => b < B ∨ (w2.heap.size ≤ b ∧ b < w3.heap.size)) D l u) : Lies w4 w4.heap.size D l u := by
  have s1 := hb1.size
  have s3 := hb3.size
  have s4 := h4.size
  refine (h.kept (w' := w4) (Q' := fun b => b < w4.heap.size) (fun k hk => ?_) fun k hk => by rcases hk with hk | hk <;> omega).lies fun k hk => hk
  have n2 : k ≠ bb := by cases f <;> simp at hb <;> rcases hk with hk | hk <;> omega
  exact h4.block k (by rcases hk with hk | hk <;> omega) n2

theorem pathActs_any (a : Nat → Addr) (d : Nat) (n X : Tree) (us ux : Value) (s : ByteArray) (w : World) (S0 : Sents a w) (hm0 : ∃ m, w.cell? ⟨14, 0, none⟩ = some (.int .i64 m)) (hls : Lies w w.heap.size d n.kids us) (hlx : Lies w w.heap.size d X.kids ux) (hsm : s.size ≤ maxLen) :
    Calls Tryz.prog 3 #[.agg #[.string n.kind, .string n.data, .bool n.exec, us], .string s, .agg #[.string X.kind, .string X.data, .bool X.exec, ux]] w fun e w' => e = .returned (.bool true) ∧ Below w.heap.size w w' := by
  obtain ⟨sa, sc, rfl⟩ := hls.form
  obtain ⟨za, zc, rfl⟩ := hlx.form
  have gW : Below w.heap.size w ((w.alloc (.cells #[.string n.kind, .string n.data, .bool n.exec, .slice sa n.kids.length sc] 24)).alloc (.cells #[.string X.kind, .string X.data, .bool X.exec, .slice za X.kids.length zc] 24)) := ((Below.refl _ _).alloc (Nat.le_refl _) _).alloc (by simp) _
  have hx := row4b (show ((w.alloc (.cells #[.string n.kind, .string n.data, .bool n.exec, .slice sa n.kids.length sc] 24)).alloc (.cells #[.string X.kind, .string X.data, .bool X.exec, .slice za X.kids.length zc] 24)).heap[w.heap.size]? = _ by rw [Below.heap_alloc _ _ _ (by simp)]; exact row_alloc' _ _ _)
  have hy := row4b (show ((w.alloc (.cells #[.string n.kind, .string n.data, .bool n.exec, .slice sa n.kids.length sc] 24)).alloc (.cells #[.string X.kind, .string X.data, .bool X.exec, .slice za X.kids.length zc] 24)).heap[w.heap.size + 1]? = some (.cells #[.string X.kind, .string X.data, .bool X.exec, .slice za X.kids.length zc] 24 (0, 0)) by
    have := row_alloc' (w.alloc (.cells #[.string n.kind, .string n.data, .bool n.exec, .slice sa n.kids.length sc] 24)) #[.string X.kind, .string X.data, .bool X.exec, .slice za X.kids.length zc] 24
    simpa using this)
  have z1 : ((w.alloc (.cells #[.string n.kind, .string n.data, .bool n.exec, .slice sa n.kids.length sc] 24)).alloc (.cells #[.string X.kind, .string X.data, .bool X.exec, .slice za X.kids.length zc] 24)).heap.size = w.heap.size + 2 := by simp
  obtain ⟨W0, hW0⟩ : ∃ W0, W0 = (w.alloc (.cells #[.string n.kind, .string n.data, .bool n.exec, .slice sa n.kids.length sc] 24)).alloc (.cells #[.string X.kind, .string X.data, .bool X.exec, .slice za X.kids.length zc] 24) := ⟨_, rfl⟩
  rw [← hW0] at hx hy gW z1
  have S := S0.below gW
  have hm : ∃ m, W0.cell? ⟨14, 0, none⟩ = some (.int .i64 m) := by
    obtain ⟨m, h⟩ := hm0
    exact ⟨m, by rw [gW.cell (p := ⟨14, 0, none⟩) (lt_of_cell h)]; exact h⟩
  have P : PSen a W0 := psen_sents S hm
  have lA := (hls.below gW (Nat.le_refl _)).up gW.size (Nat.le_refl _)
  have lB := (hlx.below gW (Nat.le_refl _)).up gW.size (Nat.le_refl _)
  have hR : ∀ w', Below W0.heap.size W0 w' → Below w.heap.size w w' := fun w' h => gW.trans (h.mono gW.size)
  have go : ∀ {w' w''}, Below W0.heap.size W0 w' → Below w'.heap.size w' w'' → Below W0.heap.size W0 w'' := fun h h2 => h.trans (h2.mono h.size)
  have b1 := largeN_bounds 100 n
  have b2 := largeN_bounds 100 X
  refine acts_skel n.kind n.data n.exec sa n.kids.length sc X.kind X.data X.exec za X.kids.length zc s w (largeN 100 n) (largeN 100 X) (by omega) (by omega) hsm (fun w' => Below w.heap.size w w') (fun w' => Below W0.heap.size W0 w') hR ?_ (fun w' h => h.drew) ?_ ?_ ?_ ?_
  · rw [← hW0]; exact pathed_any a W0 P
  · intro w' h
    have h1 := box_keeps h (by omega) hx.1
    have h2 := box_keeps h (by omega) hy.1
    exact ⟨h1.1, h1.2.1, h1.2.2.1, h1.2.2.2, h2⟩
  · exact fun w' h => (large_any W0.heap.size d 100 n _ w' h.size (lA.below h (Nat.le_refl _)) (by omega)).mono fun e w'' ⟨h1, h2⟩ => ⟨h1, go h h2⟩
  · exact fun w' h => (large_any W0.heap.size d 100 X _ w' h.size (lB.below h (Nat.le_refl _)) (by omega)).mono fun e w'' ⟨h1, h2⟩ => ⟨h1, go h h2⟩
  · intro hl hs w' h
    have okN : OkT 12 n := OkT.small lA.fit (largeN_zero (n := 100) (t := n) (by omega))
    have okX : OkT 12 X := OkT.small lB.fit (largeN_zero (n := 100) (t := X) (by omega))
    have hfN : Fit d n := hls.fit
    refine (own_any W0.heap.size d n _ w' h.size (lA.below h (Nat.le_refl _))).mono ?_
    rintro e w1 ⟨u1, rfl, hq1, hb1⟩
    obtain ⟨xa, xc, rfl⟩ := hq1.form
    have g1 : Below w1.heap.size w1 (w1.alloc (.cells #[.string n.kind, .string n.data, .bool n.exec, .slice xa n.kids.length xc] 24)) := (Below.refl _ _).alloc (Nat.le_refl _) _
    have hB1 := go h hb1
    have hxx := (row4b (row_alloc' w1 #[.string n.kind, .string n.data, .bool n.exec, .slice xa n.kids.length xc] 24)).1
    have zz : w1.heap.size < (w1.alloc (.cells #[.string n.kind, .string n.data, .bool n.exec, .slice xa n.kids.length xc] 24)).heap.size := by simp
    have lx : Lies w1 w1.heap.size d n.kids (.slice xa n.kids.length xc) := hq1.lies fun k hk => hk.2
    refine ⟨xa, xc, rfl, ?_⟩
    have hBW := go hB1 g1
    have lN := (lx.below g1 (Nat.le_refl _)).up g1.size (Nat.le_refl d)
    generalize w1.alloc (.cells #[.string n.kind, .string n.data, .bool n.exec, .slice xa n.kids.length xc] 24) = W at *
    have lX := (lB.below hBW (Nat.le_refl _)).up hBW.size (Nat.le_refl d)
    have hxW := box_keeps hBW (by omega) hx.1
    have hyW := box_keeps hBW (by omega) hy.1
    have hzW := hBW.size
    have hwW : w.heap.size ≤ W.heap.size := by omega
    have gow : ∀ {w' w''}, Below W.heap.size W w' → Below w'.heap.size w' w'' → Below W.heap.size W w'' := fun h h2 => h.trans (h2.mono h.size)
    have SW := S.below hBW
    have hmW : ∃ m, W.cell? ⟨14, 0, none⟩ = some (.int .i64 m) := by
      obtain ⟨m, h⟩ := hm
      exact ⟨m, by rw [hBW.cell (p := ⟨14, 0, none⟩) (lt_of_cell h)]; exact h⟩
    have PW : PSen a W := psen_sents SW hmW
    have hRW : ∀ w', Below W.heap.size W w' → Below w.heap.size w w' := fun w' h => hR w' (go hBW h)
    have up : ∀ {ab : Nat} {w1 w2 : World}, Below W.heap.size W w1 → ButUp ab w1 w2 → W.heap.size ≤ ab → Below W.heap.size W w2 := fun h1 h2 h3 => h2.below h1 h3 h1.size
    have lAt : ∀ {w'}, Below W.heap.size W w' → Lies w' w.heap.size d n.kids (.slice sa n.kids.length sc) := fun h => hls.below (hRW _ h) (Nat.le_refl _)
    have lXt : ∀ {w'}, Below W.heap.size W w' → Lies w' w.heap.size d X.kids (.slice za X.kids.length zc) := fun h => hlx.below (hRW _ h) (Nat.le_refl _)
    have lNt : ∀ {w'}, Below W.heap.size W w' → Lies w' w'.heap.size d n.kids (.slice xa n.kids.length xc) := fun h => (lN.below h (Nat.le_refl _)).up h.size (Nat.le_refl _)
    have hdY : ∀ l, splitR s = some l → OkT (12 + l.length + 12) (setAt X l n) := fun l hsp => OkT.set okX okN fun x hx => by have := name_size (List.all_eq_true.1 (splitR_names hsp) x hx); omega
    refine ⟨⟨fun w' hw => ?_, fun w' hw => ?_, fun w' hw => ?_, fun w' hw => ?_, fun w' hw => ?_, fun w' hw => ?_⟩, hRW⟩
    · have h0 := box_keeps hw (by omega) hxW
      have h1 := box_keeps hw (by omega) hyW
      have h2 := box_keeps hw zz hxx
      exact ⟨h0.1, h0.2.1, h0.2.2.1, h0.2.2.2, h1.1, h1.2.1, h1.2.2.1, h1.2.2.2, h2⟩
    · -- Split
      refine (split_any a s w' (PW.below hw) (by omega)).mono ?_
      rintro e w2 ⟨hb2, ⟨h2, rfl⟩ | ⟨l, v, h2, rfl, htx, hrm⟩⟩
      · refine ⟨_, _, _, _, rfl, hb2, ?_⟩
        refine (splitOf_any s w2 (by omega)).mono ?_
        rintro e w3 ⟨hb3, ⟨h3, rfl⟩ | ⟨l', v', h3, rfl, _, _⟩⟩
        · refine ⟨_, _, _, _, rfl, hb3, ?_⟩
          refine (coded_sent a 4 5 w3 (SW.below (gow (gow hw hb2) hb3)) (by omega)).mono ?_
          rintro e w4 ⟨rfl, hb4⟩
          refine ⟨by rw [decide_eq_true (by decide)], hb4, ?_⟩
          refine (sameTexts_any (.slice none 0 0) (.slice none 0 0) [] [] w4 ⟨none, 0, rfl, fun i x h => by simp at h⟩ ⟨none, 0, rfl, fun i x h => by simp at h⟩ (by simp)).mono ?_
          rintro e w5 ⟨rfl, hb5⟩
          exact ⟨by rw [show textsEq [] [] = true by unfold textsEq eqTo; simp], hb5⟩
        · rw [h2] at h3; cases h3
      · obtain ⟨va, vc, rfl, _⟩ := hrm
        refine ⟨_, _, _, _, rfl, hb2, ?_⟩
        refine (splitOf_any s w2 (by omega)).mono ?_
        rintro e w3 ⟨hb3, ⟨h3, rfl⟩ | ⟨l', v', h3, rfl, htx', hrm'⟩⟩
        · rw [h2] at h3; cases h3
        · rw [h2] at h3
          injection h3 with h3
          subst h3
          obtain ⟨va', vc', rfl, _⟩ := hrm'
          refine ⟨_, _, _, _, rfl, hb3, ?_⟩
          refine (coded_nil 0 w3).mono ?_
          rintro e w4 ⟨rfl, rfl⟩
          refine ⟨rfl, Below.refl _ _, ?_⟩
          refine (sameTexts_any _ _ l l w4 (htx.below hb3) htx' (by have := splitR_len h2; omega)).mono ?_
          rintro e w5 ⟨rfl, hb5⟩
          exact ⟨by rw [show textsEq l l = true by unfold textsEq eqTo; simp], hb5⟩
    · -- Get
      refine (get_any a d w'.heap.size n _ s w' (PW.below hw) (Nat.le_refl _) (lNt hw) (okN.alive (by omega)) (by omega)).mono ?_
      rintro e w2 ⟨hb2, ⟨er, h2, rfl⟩ | ⟨k, u, d', h2, _, rfl, hq2⟩⟩
      · refine ⟨_, _, _, _, _, _, _, rfl, hb2, fun ab w3 h3 hab ha => ?_⟩
        have hw3 := up (gow hw hb2) h3 hab
        refine (getOf_any w.heap.size d 12 n _ s w3 (by have := hw3.size; omega) (lAt hw3) okN.dat (by omega) (by omega)).mono ?_
        rintro e w4 ⟨hb4, ⟨er', h4, rfl⟩ | ⟨k', u', d', h4, rfl, _⟩⟩
        · rw [h2] at h4
          injection h4 with h4
          subst h4
          exact ⟨_, _, _, _, _, _, _, rfl, hb4, fun bb w5 h5 hbb _ => two_err a er w5 (SW.below (up (gow hw3 hb4) h5 hbb)) (getR_lt h2)⟩
        · rw [h2] at h4; cases h4
      · obtain ⟨ka, kc, rfl⟩ := hq2.form
        refine ⟨_, _, _, _, _, _, _, rfl, hb2, fun ab w3 h3 hab ha => ?_⟩
        have hw3 := up (gow hw hb2) h3 hab
        refine (getOf_any w.heap.size d 12 n _ s w3 (by have := hw3.size; omega) (lAt hw3) okN.dat (by omega) (by omega)).mono ?_
        rintro e w4 ⟨hb4, ⟨er', h4, rfl⟩ | ⟨k', u', d'', h4, rfl, hl4⟩⟩
        · rw [h2] at h4; cases h4
        · rw [h2] at h4
          injection h4 with h4
          subst h4
          obtain ⟨ka', kc', rfl⟩ := hl4.form
          refine ⟨_, _, _, _, _, _, _, rfl, hb4, fun bb w5 h5 hbb hb => ?_⟩
          obtain ⟨hz, hblk⟩ := blk4 h3 ha hb4 h5 hb
          simp only [if_true] at hb
          have hz5 := h5.size
          refine two_ok w5 k _ _ d' d'' ((hq2.kept (w' := w5) (Q' := fun b => b < w5.heap.size) (fun k hk => hblk k hk.1 hk.2) fun k hk => by omega).lies fun k hk => hk) ?_
          exact ((hl4.toQ (Q := fun b => b < w4.heap.size) fun b h => h).kept (w' := w5) (Q' := fun b => b < w5.heap.size) (fun k hk => h5.block k hk (by omega)) fun k hk => by omega).lies fun k hk => hk
    · -- Put
      refine (own_any W.heap.size d X _ w' hw.size (lX.below hw (Nat.le_refl _))).mono ?_
      rintro e w2 ⟨u2, rfl, hq2, hb2⟩
      obtain ⟨ya, yc, rfl⟩ := hq2.form
      refine ⟨ya, yc, rfl, hb2, ?_⟩
      have hw2 := gow hw hb2
      have lY : Lies w2 w2.heap.size d X.kids (.slice ya X.kids.length yc) := hq2.lies fun k hk => hk.2
      refine (put_any a d d w2.heap.size n X _ _ s w2 (PW.below hw2) (Nat.le_refl _) (lNt hw2) lY (okN.alive (by omega)) (by omega) (fun l hsp _ => (hdY l hsp).alive (by have := splitR_len hsp; omega))).mono ?_
      have hPO : ∀ {w3}, Below W.heap.size W w3 → Calls Tryz.prog _ _ w3 _ := fun {w3} hw3 => putOf_any (M := 2001) w.heap.size d 12 d n X (.slice sa n.kids.length sc) (.slice za X.kids.length zc) s w3 (by have := hw3.size; omega) (lAt hw3) (lXt hw3) okN.dat (by omega) (by omega) fun l hsp _ => ⟨_, (hdY l hsp).dat⟩
      rintro e w3 ⟨hb3, ⟨er, h3, rfl⟩ | ⟨Y, u, h3, rfl, hfr⟩⟩
      · refine ⟨_, _, _, _, _, _, _, rfl, hb3, fun ab w4 h4 hab ha => ?_⟩
        have hw4 := up (gow hw2 hb3) h4 hab
        refine (hPO hw4).mono ?_
        rintro e w5 ⟨hb5, ⟨er', h5, rfl⟩ | ⟨k', u', d', h5, rfl, _⟩⟩
        · rw [h3] at h5
          injection h5 with h5
          subst h5
          exact ⟨_, _, _, _, _, _, _, rfl, hb5, fun bb w6 h6 hbb _ => two_err a er w6 (SW.below (up (gow hw4 hb5) h6 hbb)) (putR_lt h3)⟩
        · rw [h3] at h5; cases h5
      · obtain ⟨ka, kc, rfl⟩ := hfr.lies.form
        refine ⟨_, _, _, _, _, _, _, rfl, hb3, fun ab w4 h4 hab ha => ?_⟩
        have hw4 := up (gow hw2 hb3) h4 hab
        refine (hPO hw4).mono ?_
        rintro e w5 ⟨hb5, ⟨er', h5, rfl⟩ | ⟨k', u', d', h5, rfl, hq5⟩⟩
        · rw [h3] at h5; cases h5
        · rw [h3] at h5
          injection h5 with h5
          subst h5
          obtain ⟨ka', kc', rfl⟩ := hq5.form
          refine ⟨_, _, _, _, _, _, _, rfl, hb5, fun bb w6 h6 hbb hb => ?_⟩
          obtain ⟨hz, hblk⟩ := blk4 h4 ha hb5 h6 hb
          exact two_ok w6 Y _ _ _ d' ((hfr w6 hblk hz).up hz (Nat.le_refl _)) (blkQ hb3 h4.size hb5 h6 hbb hwW (by have := hw4.size; have := hb5.size; omega) hb hq5)
    · -- Drop
      refine (drop_any a d w'.heap.size n _ s w' (PW.below hw) (Nat.le_refl _) (lNt hw) (okN.alive (by omega)) (by omega)).mono ?_
      have hDO : ∀ {w3}, Below W.heap.size W w3 → Calls Tryz.prog _ _ w3 _ := fun {w3} hw3 => dropOf_any (M := 2001) w.heap.size d 12 n (.slice sa n.kids.length sc) s w3 (by have := hw3.size; omega) (lAt hw3) okN.dat (by omega) (by omega)
      rintro e w3 ⟨hb3, ⟨er, h3, rfl⟩ | ⟨Y, u, h3, rfl, hfr⟩⟩
      · refine ⟨_, _, _, _, _, _, _, rfl, hb3, fun ab w4 h4 hab ha => ?_⟩
        have hw4 := up (gow hw hb3) h4 hab
        refine (hDO hw4).mono ?_
        rintro e w5 ⟨hb5, ⟨er', h5, rfl⟩ | ⟨k', u', d', h5, rfl, _⟩⟩
        · rw [h3] at h5
          injection h5 with h5
          subst h5
          exact ⟨_, _, _, _, _, _, _, rfl, hb5, fun bb w6 h6 hbb _ => two_err a er w6 (SW.below (up (gow hw4 hb5) h6 hbb)) (dropR_lt h3)⟩
        · rw [h3] at h5; cases h5
      · obtain ⟨ka, kc, rfl⟩ := hfr.lies.form
        refine ⟨_, _, _, _, _, _, _, rfl, hb3, fun ab w4 h4 hab ha => ?_⟩
        have hw4 := up (gow hw hb3) h4 hab
        refine (hDO hw4).mono ?_
        rintro e w5 ⟨hb5, ⟨er', h5, rfl⟩ | ⟨k', u', d', h5, rfl, hq5⟩⟩
        · rw [h3] at h5; cases h5
        · rw [h3] at h5
          injection h5 with h5
          subst h5
          obtain ⟨ka', kc', rfl⟩ := hq5.form
          refine ⟨_, _, _, _, _, _, _, rfl, hb5, fun bb w6 h6 hbb hb => ?_⟩
          obtain ⟨hz, hblk⟩ := blk4 h4 ha hb5 h6 hb
          exact two_ok w6 Y _ _ _ d' ((hfr w6 hblk hz).up hz (Nat.le_refl _)) (blkQ hb3 h4.size hb5 h6 hbb hwW (by have := hw4.size; have := hb5.size; omega) hb hq5)
    · -- Follow
      refine (follow_any a d w'.heap.size n _ s w' (PW.below hw) (Nat.le_refl _) (lNt hw) (okN.alive (by omega)) (by omega)).mono ?_
      have hsame : ∀ {w3}, Below W.heap.size W w3 → Calls Tryz.prog _ _ w3 _ := fun {w3} hw3 => sameTree_any w3.heap.size d n n (.slice xa n.kids.length xc) (.slice sa n.kids.length sc) w3 (Nat.le_refl _) (lNt hw3) ((lAt hw3).up (by have := hw3.size; omega) (Nat.le_refl _))
      rintro e w3 ⟨hb3, ⟨er, h3, rfl⟩ | ⟨p, h3, rfl⟩⟩
      · refine ⟨_, _, rfl, hb3, ?_⟩
        have hw3 := gow hw hb3
        refine (followOf_any w.heap.size d 12 n _ s w3 (by have := hw3.size; omega) (lAt hw3) okN.dat (by omega) (by omega)).mono ?_
        rintro e w4 ⟨hb4, ⟨er', h4, rfl⟩ | ⟨q, h4, rfl⟩⟩
        · rw [h3] at h4
          injection h4 with h4
          subst h4
          have hw4 := gow hw3 hb4
          refine ⟨_, _, rfl, by simp, hb4, ?_⟩
          refine (coded_sent a er _ w4 (SW.below hw4) (followT_lt hfN h3)).mono ?_
          rintro e w5 ⟨rfl, hb5⟩
          refine ⟨by rw [decide_eq_true rfl], hb5, ?_⟩
          refine (hsame (gow hw4 hb5)).mono ?_
          rintro e w6 ⟨rfl, hb6⟩
          exact ⟨by rw [sameB_refl hfN], hb6⟩
        · rw [h3] at h4; cases h4
      · refine ⟨_, _, rfl, hb3, ?_⟩
        have hw3 := gow hw hb3
        refine (followOf_any w.heap.size d 12 n _ s w3 (by have := hw3.size; omega) (lAt hw3) okN.dat (by omega) (by omega)).mono ?_
        rintro e w4 ⟨hb4, ⟨er', h4, rfl⟩ | ⟨q, h4, rfl⟩⟩
        · rw [h3] at h4; cases h4
        · rw [h3] at h4
          injection h4 with h4
          subst h4
          have hw4 := gow hw3 hb4
          refine ⟨_, _, rfl, by simp, hb4, ?_⟩
          refine (coded_nil 0 w4).mono ?_
          rintro e w5 ⟨rfl, rfl⟩
          refine ⟨rfl, Below.refl _ _, ?_⟩
          refine (hsame hw4).mono ?_
          rintro e w6 ⟨rfl, hb6⟩
          exact ⟨by rw [sameB_refl hfN], hb6⟩
end Go.Proofs.YtghhhhbllpkcdabGreatDoor
