/-
  The law 'PathActs' returns true: the contracts of package path and of the document's answers, put into its walk.
  Sentinels out of a row's list of variables, variable by variable.
  A row's wrap that keeps both what the listed variables hold and the world's shape; the library's MaxLen; a row of texts among the arguments; the first of the listed variables.
  What the condition of the law's row on the listed variables gives a walk: thirteen sentinels; and a world that meets it.
  Conditions: those that each states.
-/
import Derived.Test.YtpjjpmikhjlgnaaGreatDoorM16
import Derived.Test.YtpjjpmikhjlgnaaGreatDoorM17
import Derived.Test.YtpjjpmikhjlgnaaGreatDoorM18
import Derived.Test.YtpjjpmikhjlgnaaGreatDoorM19
import Derived.Test.YtpjjpmikhjlgnaaGreatDoorM20
import Derived.Test.YtpjjpmikhjlgnaaGreatDoorM09
import Derived.Test.YtpjjpmikhjlgnaaGreatDoorM24
import Derived.Test.YtpjjpmikhjlgnaaGreatDoorM27
import Derived.Test.YtpjjpmikhjlgnaaGreatDoorRows
import Derived.LaidLaws
import Derived.LaidHandle
import Derived.LaidMore
import Derived.Stop.LaidErr
import Derived.Handed
import Derived.SizedLaws
import Derived.Shelf.Vars
import Derived.Deep.Strs
import Derived.ProofKit
import Derived.Test.YtpjjpmikhjlgnaaGreatDoorM03
import Derived.Lay
namespace Go.Proofs.YtpjjpmikhjlgnaaGreatDoor
open Go.RowKit

theorem psen_sents {a : Nat → Addr} {w : World} (S : Sents a w) (hm : ∃ m, w.cell? ⟨14, 0, none⟩ = some (.int .i64 m)) : PSen a w := ⟨S.sen, S.c5, hm⟩
theorem OkT.dat : ∀ {n : Nat} {t : Tree}, OkT n t → DatM 2001 n t
  | 0, _, h => h
  | _ + 1, _, h => ⟨h.1, fun x hx => (h.2 x hx).2.dat⟩
theorem stepR_lt {t : Tree} {x : ByteArray} {h a : List ByteArray} {n e : Nat} (hh : stepR t x h a n = .error e) : e < 13 := by
  unfold stepR at hh
  split at hh
  · cases hh
  · split at hh
    · cases hh
    · split at hh
      · injection hh with hh; omega
      · split at hh
        · injection hh with hh; omega
        · split at hh
          · unfold linkR at hh
            split at hh
            · injection hh with hh; omega
            · cases hh
          · cases hh
theorem followR_lt {t : Tree} {d : Nat} (hs : ShortD d t) : ∀ (f : Nat) (s : WkS) {e : Nat}, s.links ≤ 16 → wkM s < f → followR t f s = .error e → e < 13
  | 0, _, _, _, h, _ => by omega
  | f + 1, ⟨h, a, n⟩, e, hl, h1, hh => by
    simp only [followR] at hh
    cases a with
    | nil => cases hh
    | cons x a =>
      simp only at hh
      cases hst : stepR t x h a n with
      | error e' => rw [hst] at hh; injection hh with hh; rw [← hh]; exact stepR_lt hst
      | ok s' =>
        rw [hst] at hh
        simp only at hh
        have hl' : n ≤ 16 := hl
        have := step_less hs hl' hst
        exact followR_lt hs f s' this.2 (by omega) hh
theorem followT_lt {d er : Nat} {t : Tree} {s : ByteArray} (hf : Fit d t) (h : followT d t s = .error er) : er < 13 := by
  unfold followT at h
  cases ht : treeErr d t with
  | some e => rw [ht] at h; injection h with h; rw [← h]; exact treeErr_lt ht
  | none =>
    rw [ht] at h
    simp only at h
    split at h
    · injection h with h; omega
    · split at h
      · rename_i l _ e he
        injection h with h
        rw [← h]
        exact followR_lt (short_well hf ht) _ _ (by show 0 ≤ 16; omega) (by omega) he
      · cases h
/-- Both told an error. -/
theorem two_err (a : Nat → Addr) (er : Nat) (w : World) (S : Sents a w) (h : er < 13) : Calls Tryz.prog 10 #[.iface 181 (.pointer (some (a er))), .int .i64 ((er : Int) + 1)] w fun e w5 => e = .returned (.bool true) ∧ Below w.heap.size w w5 ∧
    Calls Tryz.prog 14 #[.agg #[.string { data := #[] }, .string { data := #[] }, .bool false, .slice none 0 0], .agg #[.string { data := #[] }, .string { data := #[] }, .bool false, .slice none 0 0]] w5 fun e w6 => e = .returned (.bool true) ∧ Below w5.heap.size w5 w6 := by
  refine (coded_sent a er _ w S h).mono ?_
  rintro e w5 ⟨rfl, hb⟩
  refine ⟨by rw [decide_eq_true rfl], hb, ?_⟩
  refine (sameTree_any 0 1 zeroT zeroT (.slice none 0 0) (.slice none 0 0) w5 (Nat.zero_le _) (lies_nil _ _) (lies_nil _ _)).mono ?_
  rintro e w6 ⟨rfl, hb6⟩
  exact ⟨by rw [sameB_refl (lies_nil w5 0).fit], hb6⟩
/-- Both told the same tree. -/
theorem two_ok (w : World) (k : Tree) (u1 u2 : Value) (D1 D2 : Nat) (h1 : Lies w w.heap.size D1 k.kids u1) (h2 : Lies w w.heap.size D2 k.kids u2) : Calls Tryz.prog 10 #[.nilIface, .int .i64 0] w fun e w5 => e = .returned (.bool true) ∧ Below w.heap.size w w5 ∧
    Calls Tryz.prog 14 #[.agg #[.string k.kind, .string k.data, .bool k.exec, u1], .agg #[.string k.kind, .string k.data, .bool k.exec, u2]] w5 fun e w6 => e = .returned (.bool true) ∧ Below w5.heap.size w5 w6 := by
  refine (coded_nil 0 w).mono ?_
  rintro e w5 ⟨rfl, rfl⟩
  refine ⟨rfl, Below.refl _ _, ?_⟩
  have h1' := h1.up (Nat.le_refl _) (Nat.le_add_right D1 D2)
  refine (sameTree_any w5.heap.size (D1 + D2) k k u1 u2 w5 (Nat.le_refl _) h1' (h2.up (Nat.le_refl _) (Nat.le_add_left D2 D1))).mono ?_
  rintro e w6 ⟨rfl, hb6⟩
  exact ⟨by rw [sameB_refl h1'.fit], hb6⟩
theorem blk4 {w w1 w2 w3 w4 : World} {ab bb : Nat} {f : Bool} (h2 : ButUp ab w1 w2) (ha : if f = true then w1.heap.size ≤ ab else ab < w.heap.size) (hb3 : Below w2.heap.size w2 w3) (h4 : ButUp bb w3 w4) (hb : if f = true then w3.heap.size ≤ bb else bb < w.heap.size) :
    w1.heap.size ≤ w4.heap.size ∧ ∀ k, w.heap.size ≤ k → k < w1.heap.size → w4.heap[k]? = w1.heap[k]? := by
  have s2 := h2.size
  have s3 := hb3.size
  have s4 := h4.size
  refine ⟨by omega, fun k h1 h5 => ?_⟩
  have n1 : k ≠ ab := by cases f <;> simp at ha <;> omega
  have n2 : k ≠ bb := by cases f <;> simp at hb <;> omega
  rw [h4.block k (by omega) n2, hb3.block k (by omega), h2.block k h5 n1]
theorem blkQ {w w1 w2 w3 w4 : World} {bb B L D : Nat} {f : Bool} {l : List (ByteArray × Tree)} {u : Value} (hb1 : Below w.heap.size w w1) (s2 : w1.heap.size ≤ w2.heap.size) (hb3 : Below w2.heap.size w2 w3) (h4 : ButUp bb w3 w4) (hL : L ≤ bb) (hBL : B ≤ L) (hBw : B ≤ w3.heap.size) (hb : if f = true then w3.heap.size ≤ bb else bb < w.heap.size)
    (h : LiesQ w3 (fun b => b < B ∨ (w2.heap.size ≤ b ∧ b < w3.heap.size)) D l u) : Lies w4 w4.heap.size D l u := by
  have s1 := hb1.size
  have s3 := hb3.size
  have s4 := h4.size
  refine (h.kept (w' := w4) (Q' := fun b => b < w4.heap.size) (fun k hk => ?_) fun k hk => by rcases hk with hk | hk <;> omega).lies fun k hk => hk
  have n2 : k ≠ bb := by cases f <;> simp at hb <;> rcases hk with hk | hk <;> omega
  exact h4.block k (by rcases hk with hk | hk <;> omega) n2

theorem pathActs_any (a : Nat → Addr) (d : Nat) (n X : Tree) (us ux : Value) (s : ByteArray) (w : World) (S0 : Sents a w) (hm0 : ∃ m, w.cell? ⟨14, 0, none⟩ = some (.int .i64 m)) (hls : Lies w w.heap.size d n.kids us) (hlx : Lies w w.heap.size d X.kids ux) (hsm : s.size ≤ maxLen) :
    Calls Tryz.prog 3 #[.agg #[.string n.kind, .string n.data, .bool n.exec, us], .string s, .agg #[.string X.kind, .string X.data, .bool X.exec, ux]] w fun e w' => e = .returned (.bool true) ∧ Below w.heap.size w w' := by
  obtain ⟨sa, sc, rfl⟩ := hls.form
  obtain ⟨za, zc, rfl⟩ := hlx.form
  have gW : Below w.heap.size w ((w.alloc (.cells #[.string n.kind, .string n.data, .bool n.exec, .slice sa n.kids.length sc] 24)).alloc (.cells #[.string X.kind, .string X.data, .bool X.exec, .slice za X.kids.length zc] 24)) := ((Below.refl _ _).alloc (Nat.le_refl _) _).alloc (by simp) _
  have hx := row4b (show ((w.alloc (.cells #[.string n.kind, .string n.data, .bool n.exec, .slice sa n.kids.length sc] 24)).alloc (.cells #[.string X.kind, .string X.data, .bool X.exec, .slice za X.kids.length zc] 24)).heap[w.heap.size]? = _ by rw [Below.heap_alloc _ _ _ (by simp)]; exact row_alloc' _ _ _)
  have hy := row4b (show ((w.alloc (.cells #[.string n.kind, .string n.data, .bool n.exec, .slice sa n.kids.length sc] 24)).alloc (.cells #[.string X.kind, .string X.data, .bool X.exec, .slice za X.kids.length zc] 24)).heap[w.heap.size + 1]? = some (.cells #[.string X.kind, .string X.data, .bool X.exec, .slice za X.kids.length zc] 24 (0, 0)) by
    have := row_alloc' (w.alloc (.cells #[.string n.kind, .string n.data, .bool n.exec, .slice sa n.kids.length sc] 24)) #[.string X.kind, .string X.data, .bool X.exec, .slice za X.kids.length zc] 24
    simpa using this)
  have z1 : ((w.alloc (.cells #[.string n.kind, .string n.data, .bool n.exec, .slice sa n.kids.length sc] 24)).alloc (.cells #[.string X.kind, .string X.data, .bool X.exec, .slice za X.kids.length zc] 24)).heap.size = w.heap.size + 2 := by simp
  obtain ⟨W0, hW0⟩ : ∃ W0, W0 = (w.alloc (.cells #[.string n.kind, .string n.data, .bool n.exec, .slice sa n.kids.length sc] 24)).alloc (.cells #[.string X.kind, .string X.data, .bool X.exec, .slice za X.kids.length zc] 24) := ⟨_, rfl⟩
  rw [← hW0] at hx hy gW z1
  have S := S0.below gW
  have hm : ∃ m, W0.cell? ⟨14, 0, none⟩ = some (.int .i64 m) := by
    obtain ⟨m, h⟩ := hm0
    exact ⟨m, by rw [gW.cell (p := ⟨14, 0, none⟩) (lt_of_cell h)]; exact h⟩
  have P : PSen a W0 := psen_sents S hm
  have lA := (hls.below gW (Nat.le_refl _)).up gW.size (Nat.le_refl _)
  have lB := (hlx.below gW (Nat.le_refl _)).up gW.size (Nat.le_refl _)
  have hR : ∀ w', Below W0.heap.size W0 w' → Below w.heap.size w w' := fun w' h => gW.trans (h.mono gW.size)
  have go : ∀ {w' w''}, Below W0.heap.size W0 w' → Below w'.heap.size w' w'' → Below W0.heap.size W0 w'' := fun h h2 => h.trans (h2.mono h.size)
  have b1 := largeN_bounds 100 n
  have b2 := largeN_bounds 100 X
  refine acts_skel n.kind n.data n.exec sa n.kids.length sc X.kind X.data X.exec za X.kids.length zc s w (largeN 100 n) (largeN 100 X) (by omega) (by omega) hsm (fun w' => Below w.heap.size w w') (fun w' => Below W0.heap.size W0 w') hR ?_ (fun w' h => h.drew) ?_ ?_ ?_ ?_
  · rw [← hW0]; exact pathed_any a W0 P
  · intro w' h
    have h1 := box_keeps h (by omega) hx.1
    have h2 := box_keeps h (by omega) hy.1
    exact ⟨h1.1, h1.2.1, h1.2.2.1, h1.2.2.2, h2⟩
  · exact fun w' h => (large_any W0.heap.size d 100 n _ w' h.size (lA.below h (Nat.le_refl _)) (by omega)).mono fun e w'' ⟨h1, h2⟩ => ⟨h1, go h h2⟩
  · exact fun w' h => (large_any W0.heap.size d 100 X _ w' h.size (lB.below h (Nat.le_refl _)) (by omega)).mono fun e w'' ⟨h1, h2⟩ => ⟨h1, go h h2⟩
  · intro hl hs w' h
    have okN : OkT 12 n := OkT.small lA.fit (largeN_zero (n := 100) (t := n) (by omega))
    have okX : OkT 12 X := OkT.small lB.fit (largeN_zero (n := 100) (t := X) (by omega))
    have hfN : Fit d n := hls.fit
    refine (own_any W0.heap.size d n _ w' h.size (lA.below h (Nat.le_refl _))).mono ?_
    rintro e w1 ⟨u1, rfl, hq1, hb1⟩
    obtain ⟨xa, xc, rfl⟩ := hq1.form
    have g1 : Below w1.heap.size w1 (w1.alloc (.cells #[.string n.kind, .string n.data, .bool n.exec, .slice xa n.kids.length xc] 24)) := (Below.refl _ _).alloc (Nat.le_refl _) _
    have hB1 := go h hb1
    have hxx := (row4b (row_alloc' w1 #[.string n.kind, .string n.data, .bool n.exec, .slice xa n.kids.length xc] 24)).1
    have zz : w1.heap.size < (w1.alloc (.cells #[.string n.kind, .string n.data, .bool n.exec, .slice xa n.kids.length xc] 24)).heap.size := by simp
    have lx : Lies w1 w1.heap.size d n.kids (.slice xa n.kids.length xc) := hq1.lies fun k hk => hk.2
    refine ⟨xa, xc, rfl, ?_⟩
    have hBW := go hB1 g1
    have lN := (lx.below g1 (Nat.le_refl _)).up g1.size (Nat.le_refl d)
    generalize w1.alloc (.cells #[.string n.kind, .string n.data, .bool n.exec, .slice xa n.kids.length xc] 24) = W at *
    have lX := (lB.below hBW (Nat.le_refl _)).up hBW.size (Nat.le_refl d)
    have hxW := box_keeps hBW (by omega) hx.1
    have hyW := box_keeps hBW (by omega) hy.1
    have hzW := hBW.size
    have hwW : w.heap.size ≤ W.heap.size := by omega
    have gow : ∀ {w' w''}, Below W.heap.size W w' → Below w'.heap.size w' w'' → Below W.heap.size W w'' := fun h h2 => h.trans (h2.mono h.size)
    have SW := S.below hBW
    have hmW : ∃ m, W.cell? ⟨14, 0, none⟩ = some (.int .i64 m) := by
      obtain ⟨m, h⟩ := hm
      exact ⟨m, by rw [hBW.cell (p := ⟨14, 0, none⟩) (lt_of_cell h)]; exact h⟩
    have PW : PSen a W := psen_sents SW hmW
    have hRW : ∀ w', Below W.heap.size W w' → Below w.heap.size w w' := fun w' h => hR w' (go hBW h)
    have up : ∀ {ab : Nat} {w1 w2 : World}, Below W.heap.size W w1 → ButUp ab w1 w2 → W.heap.size ≤ ab → Below W.heap.size W w2 := fun h1 h2 h3 => h2.below h1 h3 h1.size
    have lAt : ∀ {w'}, Below W.heap.size W w' → Lies w' w.heap.size d n.kids (.slice sa n.kids.length sc) := fun h => hls.below (hRW _ h) (Nat.le_refl _)
    have lXt : ∀ {w'}, Below W.heap.size W w' → Lies w' w.heap.size d X.kids (.slice za X.kids.length zc) := fun h => hlx.below (hRW _ h) (Nat.le_refl _)
    have lNt : ∀ {w'}, Below W.heap.size W w' → Lies w' w'.heap.size d n.kids (.slice xa n.kids.length xc) := fun h => (lN.below h (Nat.le_refl _)).up h.size (Nat.le_refl _)
    have hdY : ∀ l, splitR s = some l → OkT (12 + l.length + 12) (setAt X l n) := fun l hsp => OkT.set okX okN fun x hx => by have := name_size (List.all_eq_true.1 (splitR_names hsp) x hx); omega
    refine ⟨⟨fun w' hw => ?_, fun w' hw => ?_, fun w' hw => ?_, fun w' hw => ?_, fun w' hw => ?_, fun w' hw => ?_⟩, hRW⟩
    · have h0 := box_keeps hw (by omega) hxW
      have h1 := box_keeps hw (by omega) hyW
      have h2 := box_keeps hw zz hxx
      exact ⟨h0.1, h0.2.1, h0.2.2.1, h0.2.2.2, h1.1, h1.2.1, h1.2.2.1, h1.2.2.2, h2⟩
    · -- Split
      refine (split_any a s w' (PW.below hw) (by omega)).mono ?_
      rintro e w2 ⟨hb2, ⟨h2, rfl⟩ | ⟨l, v, h2, rfl, htx, hrm⟩⟩
      · refine ⟨_, _, _, _, rfl, hb2, ?_⟩
        refine (splitOf_any s w2 (by omega)).mono ?_
        rintro e w3 ⟨hb3, ⟨h3, rfl⟩ | ⟨l', v', h3, rfl, _, _⟩⟩
        · refine ⟨_, _, _, _, rfl, hb3, ?_⟩
          refine (coded_sent a 4 5 w3 (SW.below (gow (gow hw hb2) hb3)) (by omega)).mono ?_
          rintro e w4 ⟨rfl, hb4⟩
          refine ⟨by rw [decide_eq_true (by decide)], hb4, ?_⟩
          refine (sameTexts_any (.slice none 0 0) (.slice none 0 0) [] [] w4 ⟨none, 0, rfl, fun i x h => by simp at h⟩ ⟨none, 0, rfl, fun i x h => by simp at h⟩ (by simp)).mono ?_
          rintro e w5 ⟨rfl, hb5⟩
          exact ⟨by rw [show textsEq [] [] = true by unfold textsEq eqTo; simp], hb5⟩
        · rw [h2] at h3; cases h3
      · obtain ⟨va, vc, rfl, _⟩ := hrm
        refine ⟨_, _, _, _, rfl, hb2, ?_⟩
        refine (splitOf_any s w2 (by omega)).mono ?_
        rintro e w3 ⟨hb3, ⟨h3, rfl⟩ | ⟨l', v', h3, rfl, htx', hrm'⟩⟩
        · rw [h2] at h3; cases h3
        · rw [h2] at h3
          injection h3 with h3
          subst h3
          obtain ⟨va', vc', rfl, _⟩ := hrm'
          refine ⟨_, _, _, _, rfl, hb3, ?_⟩
          refine (coded_nil 0 w3).mono ?_
          rintro e w4 ⟨rfl, rfl⟩
          refine ⟨rfl, Below.refl _ _, ?_⟩
          refine (sameTexts_any _ _ l l w4 (htx.below hb3) htx' (by have := splitR_len h2; omega)).mono ?_
          rintro e w5 ⟨rfl, hb5⟩
          exact ⟨by rw [show textsEq l l = true by unfold textsEq eqTo; simp], hb5⟩
    · -- Get
      refine (get_any a d w'.heap.size n _ s w' (PW.below hw) (Nat.le_refl _) (lNt hw) (okN.alive (by omega)) (by omega)).mono ?_
      rintro e w2 ⟨hb2, ⟨er, h2, rfl⟩ | ⟨k, u, d', h2, _, rfl, hq2⟩⟩
      · refine ⟨_, _, _, _, _, _, _, rfl, hb2, fun ab w3 h3 hab ha => ?_⟩
        have hw3 := up (gow hw hb2) h3 hab
        refine (getOf_any w.heap.size d 12 n _ s w3 (by have := hw3.size; omega) (lAt hw3) okN.dat (by omega) (by omega)).mono ?_
        rintro e w4 ⟨hb4, ⟨er', h4, rfl⟩ | ⟨k', u', d', h4, rfl, _⟩⟩
        · rw [h2] at h4
          injection h4 with h4
          subst h4
          exact ⟨_, _, _, _, _, _, _, rfl, hb4, fun bb w5 h5 hbb _ => two_err a er w5 (SW.below (up (gow hw3 hb4) h5 hbb)) (getR_lt h2)⟩
        · rw [h2] at h4; cases h4
      · obtain ⟨ka, kc, rfl⟩ := hq2.form
        refine ⟨_, _, _, _, _, _, _, rfl, hb2, fun ab w3 h3 hab ha => ?_⟩
        have hw3 := up (gow hw hb2) h3 hab
        refine (getOf_any w.heap.size d 12 n _ s w3 (by have := hw3.size; omega) (lAt hw3) okN.dat (by omega) (by omega)).mono ?_
        rintro e w4 ⟨hb4, ⟨er', h4, rfl⟩ | ⟨k', u', d'', h4, rfl, hl4⟩⟩
        · rw [h2] at h4; cases h4
        · rw [h2] at h4
          injection h4 with h4
          subst h4
          obtain ⟨ka', kc', rfl⟩ := hl4.form
          refine ⟨_, _, _, _, _, _, _, rfl, hb4, fun bb w5 h5 hbb hb => ?_⟩
          obtain ⟨hz, hblk⟩ := blk4 h3 ha hb4 h5 hb
          simp only [if_true] at hb
          have hz5 := h5.size
          refine two_ok w5 k _ _ d' d'' ((hq2.kept (w' := w5) (Q' := fun b => b < w5.heap.size) (fun k hk => hblk k hk.1 hk.2) fun k hk => by omega).lies fun k hk => hk) ?_
          exact ((hl4.toQ (Q := fun b => b < w4.heap.size) fun b h => h).kept (w' := w5) (Q' := fun b => b < w5.heap.size) (fun k hk => h5.block k hk (by omega)) fun k hk => by omega).lies fun k hk => hk
    · -- Put
      refine (own_any W.heap.size d X _ w' hw.size (lX.below hw (Nat.le_refl _))).mono ?_
      rintro e w2 ⟨u2, rfl, hq2, hb2⟩
      obtain ⟨ya, yc, rfl⟩ := hq2.form
      refine ⟨ya, yc, rfl, hb2, ?_⟩
      have hw2 := gow hw hb2
      have lY : Lies w2 w2.heap.size d X.kids (.slice ya X.kids.length yc) := hq2.lies fun k hk => hk.2
      refine (put_any a d d w2.heap.size n X _ _ s w2 (PW.below hw2) (Nat.le_refl _) (lNt hw2) lY (okN.alive (by omega)) (by omega) (fun l hsp _ => (hdY l hsp).alive (by have := splitR_len hsp; omega))).mono ?_
      have hPO : ∀ {w3}, Below W.heap.size W w3 → Calls Tryz.prog _ _ w3 _ := fun {w3} hw3 => putOf_any (M := 2001) w.heap.size d 12 d n X (.slice sa n.kids.length sc) (.slice za X.kids.length zc) s w3 (by have := hw3.size; omega) (lAt hw3) (lXt hw3) okN.dat (by omega) (by omega) fun l hsp _ => ⟨_, (hdY l hsp).dat⟩
      rintro e w3 ⟨hb3, ⟨er, h3, rfl⟩ | ⟨Y, u, h3, rfl, hfr⟩⟩
      · refine ⟨_, _, _, _, _, _, _, rfl, hb3, fun ab w4 h4 hab ha => ?_⟩
        have hw4 := up (gow hw2 hb3) h4 hab
        refine (hPO hw4).mono ?_
        rintro e w5 ⟨hb5, ⟨er', h5, rfl⟩ | ⟨k', u', h5, rfl, _⟩⟩
        · rw [h3] at h5
          injection h5 with h5
          subst h5
          exact ⟨_, _, _, _, _, _, _, rfl, hb5, fun bb w6 h6 hbb _ => two_err a er w6 (SW.below (up (gow hw4 hb5) h6 hbb)) (putR_lt h3)⟩
        · rw [h3] at h5; cases h5
      · obtain ⟨ka, kc, rfl⟩ := hfr.lies.form
        refine ⟨_, _, _, _, _, _, _, rfl, hb3, fun ab w4 h4 hab ha => ?_⟩
        have hw4 := up (gow hw2 hb3) h4 hab
        refine (hPO hw4).mono ?_
        rintro e w5 ⟨hb5, ⟨er', h5, rfl⟩ | ⟨k', u', h5, rfl, hq5⟩⟩
        · rw [h3] at h5; cases h5
        · rw [h3] at h5
          injection h5 with h5
          subst h5
          obtain ⟨ka', kc', rfl⟩ := hq5.form
          refine ⟨_, _, _, _, _, _, _, rfl, hb5, fun bb w6 h6 hbb hb => ?_⟩
          obtain ⟨hz, hblk⟩ := blk4 h4 ha hb5 h6 hb
          exact two_ok w6 Y _ _ _ _ ((hfr w6 hblk hz).up hz (Nat.le_refl _)) (blkQ hb3 h4.size hb5 h6 hbb hwW (by have := hw4.size; have := hb5.size; omega) hb hq5)
    · -- Drop
      refine (drop_any a d w'.heap.size n _ s w' (PW.below hw) (Nat.le_refl _) (lNt hw) (okN.alive (by omega)) (by omega)).mono ?_
      have hDO : ∀ {w3}, Below W.heap.size W w3 → Calls Tryz.prog _ _ w3 _ := fun {w3} hw3 => dropOf_any (M := 2001) w.heap.size d 12 n (.slice sa n.kids.length sc) s w3 (by have := hw3.size; omega) (lAt hw3) okN.dat (by omega) (by omega)
      rintro e w3 ⟨hb3, ⟨er, h3, rfl⟩ | ⟨Y, u, h3, rfl, hfr⟩⟩
      · refine ⟨_, _, _, _, _, _, _, rfl, hb3, fun ab w4 h4 hab ha => ?_⟩
        have hw4 := up (gow hw hb3) h4 hab
        refine (hDO hw4).mono ?_
        rintro e w5 ⟨hb5, ⟨er', h5, rfl⟩ | ⟨k', u', h5, rfl, _⟩⟩
        · rw [h3] at h5
          injection h5 with h5
          subst h5
          exact ⟨_, _, _, _, _, _, _, rfl, hb5, fun bb w6 h6 hbb _ => two_err a er w6 (SW.below (up (gow hw4 hb5) h6 hbb)) (dropR_lt h3)⟩
        · rw [h3] at h5; cases h5
      · obtain ⟨ka, kc, rfl⟩ := hfr.lies.form
        refine ⟨_, _, _, _, _, _, _, rfl, hb3, fun ab w4 h4 hab ha => ?_⟩
        have hw4 := up (gow hw hb3) h4 hab
        refine (hDO hw4).mono ?_
        rintro e w5 ⟨hb5, ⟨er', h5, rfl⟩ | ⟨k', u', h5, rfl, hq5⟩⟩
        · rw [h3] at h5; cases h5
        · rw [h3] at h5
          injection h5 with h5
          subst h5
          obtain ⟨ka', kc', rfl⟩ := hq5.form
          refine ⟨_, _, _, _, _, _, _, rfl, hb5, fun bb w6 h6 hbb hb => ?_⟩
          obtain ⟨hz, hblk⟩ := blk4 h4 ha hb5 h6 hb
          exact two_ok w6 Y _ _ _ _ ((hfr w6 hblk hz).up hz (Nat.le_refl _)) (blkQ hb3 h4.size hb5 h6 hbb hwW (by have := hw4.size; have := hb5.size; omega) hb hq5)
    · -- Follow
      refine (follow_any a d w'.heap.size n _ s w' (PW.below hw) (Nat.le_refl _) (lNt hw) (okN.alive (by omega)) (by omega)).mono ?_
      have hsame : ∀ {w3}, Below W.heap.size W w3 → Calls Tryz.prog _ _ w3 _ := fun {w3} hw3 => sameTree_any w3.heap.size d n n (.slice xa n.kids.length xc) (.slice sa n.kids.length sc) w3 (Nat.le_refl _) (lNt hw3) ((lAt hw3).up (by have := hw3.size; omega) (Nat.le_refl _))
      rintro e w3 ⟨hb3, ⟨er, h3, rfl⟩ | ⟨p, h3, rfl⟩⟩
      · refine ⟨_, _, rfl, hb3, ?_⟩
        have hw3 := gow hw hb3
        refine (followOf_any w.heap.size d 12 n _ s w3 (by have := hw3.size; omega) (lAt hw3) okN.dat (by omega) (by omega)).mono ?_
        rintro e w4 ⟨hb4, ⟨er', h4, rfl⟩ | ⟨q, h4, rfl⟩⟩
        · rw [h3] at h4
          injection h4 with h4
          subst h4
          have hw4 := gow hw3 hb4
          refine ⟨_, _, rfl, by simp, hb4, ?_⟩
          refine (coded_sent a er _ w4 (SW.below hw4) (followT_lt hfN h3)).mono ?_
          rintro e w5 ⟨rfl, hb5⟩
          refine ⟨by rw [decide_eq_true rfl], hb5, ?_⟩
          refine (hsame (gow hw4 hb5)).mono ?_
          rintro e w6 ⟨rfl, hb6⟩
          exact ⟨by rw [sameB_refl hfN], hb6⟩
        · rw [h3] at h4; cases h4
      · refine ⟨_, _, rfl, hb3, ?_⟩
        have hw3 := gow hw hb3
        refine (followOf_any w.heap.size d 12 n _ s w3 (by have := hw3.size; omega) (lAt hw3) okN.dat (by omega) (by omega)).mono ?_
        rintro e w4 ⟨hb4, ⟨er', h4, rfl⟩ | ⟨q, h4, rfl⟩⟩
        · rw [h3] at h4; cases h4
        · rw [h3] at h4
          injection h4 with h4
          subst h4
          have hw4 := gow hw3 hb4
          refine ⟨_, _, rfl, by simp, hb4, ?_⟩
          refine (coded_nil 0 w4).mono ?_
          rintro e w5 ⟨rfl, rfl⟩
          refine ⟨rfl, Below.refl _ _, ?_⟩
          refine (hsame hw4).mono ?_
          rintro e w6 ⟨rfl, hb6⟩
          exact ⟨by rw [sameB_refl hfN], hb6⟩
end Go.Proofs.YtpjjpmikhjlgnaaGreatDoor
namespace Go.Proofs.YtpjjpmikhjlgnaaGreatDoor
open Go.ChangeShapes Go.WideShapes Go.RowKit

/-- Variable by variable: the sentinel's cell, and its row of cells. -/
def SentsL (W : World) (tp : TypeId) : List Nat → List Addr → Prop
  | [], [] => True
  | g :: gs, a :: la => (W.cell? ⟨g, 0, none⟩ = some (.iface tp (.pointer (some a))) ∧ ∃ c t, W.heap[a.block]? = some (.cells c t (0, 0))) ∧ SentsL W tp gs la
  | _, _ => False

theorem SentsL.at {W : World} {tp : TypeId} : ∀ {gs : List Nat} {la : List Addr}, SentsL W tp gs la → ∀ {i g : Nat}, gs[i]? = some g →
    ∃ a, la[i]? = some a ∧ W.cell? ⟨g, 0, none⟩ = some (.iface tp (.pointer (some a))) ∧ ∃ c t, W.heap[a.block]? = some (.cells c t (0, 0))
  | [], _, _, i, g, hi => by simp at hi
  | _ :: _, [], h, _, _, _ => by exact absurd h (by simp [SentsL])
  | g0 :: gs, a0 :: la, h, i, g, hi => by
    obtain ⟨h0, h1⟩ := h
    cases i with
    | zero =>
      simp only [List.getElem?_cons_zero, Option.some.injEq] at hi
      subst hi
      exact ⟨a0, rfl, h0⟩
    | succ i =>
      simp only [List.getElem?_cons_succ] at hi ⊢
      exact SentsL.at h1 hi

theorem laid_list {P : Program} {W : World} {nm : String} {ti tp te ts : TypeId} {ms : Array (String × TypeId)} {f : Field}
    (hi : P.underlying ti = some (.interface ms)) (hrow : ∀ u, P.typeName? 3 u = some nm → u = tp)
    (hp : P.underlying tp = some (.pointer te)) (he : P.underlying te = some (.struct #[f])) (hft : f.type = ts) (hfo : f.offset = 0) (hs : P.underlying ts = some .string) (hc : P.cellsOf te = 1) (hcs : P.cellsOf ts = 1) :
    ∀ (l : List (String × Nat × List UInt8)) {ps : List MemPlace}, DataW.LaidVars P W (l.map fun x => (x.1, .iface nm (.ptr (.agg [.lit (.string x.2.2)])))) ps →
      (∀ x ∈ l, P.globalNamed x.1 = some x.2.1 ∧ (P.globals[x.2.1]?).map (·.type) = some ti) →
      (∀ b off, MemPlace.cell b off ∈ ps → (∃ c t, W.heap[b]? = some (.cells c t (0, 0))) ∧ ∀ u v, W.cell? ⟨b, off, none⟩ = some (.iface u v) → Value.okWide P W .any 0 u v) →
      ∃ la : List Addr, SentsL W tp (l.map (·.2.1)) la ∧ (la.map fun a => MemPlace.cell a.block a.off).Sublist ps
  | [], ps, _, _, _ => ⟨[], trivial, List.nil_sublist _⟩
  | (n, g, text) :: l, ps, hv, hx, hrows => by
    obtain ⟨g0, t0, cs0, f0, p0, q0, hg0, ht0, hv0, hd0, hq, e0⟩ := hv
    obtain ⟨hg, ht⟩ := hx (n, g, text) (List.mem_cons_self)
    simp only at hg ht
    obtain rfl := Option.some.inj (hg.symm.trans hg0)
    obtain rfl := Option.some.inj (ht.symm.trans ht0)
    subst e0
    obtain ⟨l0⟩ := cs0
    have ok0 : ∀ u v, l0 = [.iface u v] → Value.okWide P W .any 0 u v := fun u v e => by
      subst e
      exact (hrows g 0 (by simp [MemPlace.row])).2 u v (by simpa using World.var?_cell hg0 hv0 0)
    obtain ⟨a0, s0, rfl, _, _, _, rfl⟩ := errorString_of_trod hi hrow hp he hft hfo hs hc hcs hd0 ok0
    obtain ⟨la, h1, h2⟩ := laid_list hi hrow hp he hft hfo hs hc hcs l hq (fun x hx' => hx x (List.mem_cons_of_mem _ hx')) (fun b off hm => hrows b off (List.mem_append_right _ hm))
    refine ⟨a0 :: la, ⟨⟨?_, (hrows a0.block a0.off (by simp [MemPlace.row])).1⟩, h1⟩, ?_⟩
    · simpa using World.var?_cell hg0 hv0 0
    · refine List.Sublist.trans (List.Sublist.cons_cons _ h2) ?_
      have e : MemPlace.cell a0.block a0.off :: q0 = MemPlace.row a0 1 ++ q0 := by simp [MemPlace.row]
      rw [e, List.append_assoc]
      exact List.sublist_append_right _ _

theorem star : "*errors.errorString" = "*" ++ "errors.errorString" := by decide
theorem rowS (u : TypeId) (h : Tryz.prog.typeName? 3 u = some "*errors.errorString") : u = 181 :=
  typeName_ptr_named (nm := "errors.errorString") (by rw [← star]; kernel_rfl) (by kernel_rfl) (by decide) u (by rw [← star]; exact h)
theorem cellsES : Tryz.prog.cellsOf 200 = 1 := by kernel_rfl
theorem cellsStr : Tryz.prog.cellsOf 9 = 1 := by kernel_rfl

def textIn : DataW Unit → List UInt8
  | .iface _ (.ptr (.agg [.lit (.string s)])) => s
  | _ => []
end Go.Proofs.YtpjjpmikhjlgnaaGreatDoor
namespace Go.Proofs.YtpjjpmikhjlgnaaGreatDoor
open Go.ChangeShapes Go.WideShapes Go.RowKit

theorem handed_and_shaped {H : Type} {enc : TypeId × Value → H} {a : Assume} {C : Checked} {os : Os} {f : FuncId} {fn : Func} {s : ChangeSpec} {conds : List PathCond} {apart fresh handsOn again : Bool} {X : World → Array Value → Prop}
    (hX : ∀ (w w' : World) (args : Array Value), w.heap = w'.heap → X w args → X w' args)
    (own : ownKnob C.prog.godebug = none) (started : os.Started) (noInit : C.prog.inits.idxOf? f = none) (hfn : C.prog.funcs[f]? = some fn)
    (witness : ∃ (w : World) (tape : Tape) (i : Input), w.os = os ∧ (w.forCall tape i).Shaped C.prog ∧ i.vars = [] ∧ Input.okWide C.prog (w.forCall tape i) .any w.heap.size f i ∧
      ((s.pre enc C.prog fn conds apart (w.forCall tape i).memory i.args ∧ X (w.forCall tape i).memory i.args) ∧ sizedMet enc C.prog fn (OpenSpec.ofChange s) apart (w.forCall tape i).memory i.args) ∧ a.holds C.prog (lone (Frame.enter C.prog f i.args .normal) [] (w.forCall tape i)))
    (contract : ∀ (W : World) (base : Nat) (args : Array Value) (ds gs : List (DataW H)) (before : List MemPlace),
      (∀ (j : Nat) t v, fn.params[j]? = some t → args[j]? = some v → Value.okWide C.prog W .any base t v) →
      DataW.Whole enc C.prog fn.params.toList s.vars apart W args.toList ds gs before →
      (DataW.weightsEach C.prog (fn.params.toList ++ s.plain.varTypes C.prog) (ds ++ gs)).all (· ≤ reachBytes) = true → X W args → W.ShapedOpen C.prog →
      Calls C.prog f args W fun e W' => ∃ v, e = .returned v ∧ s.post enc C.prog fn apart fresh handsOn again W args v W') :
    ReturnsInHanded a C os f .any (fun w args => (s.pre enc C.prog fn conds apart w args ∧ X w args) ∧ sizedMet enc C.prog fn (OpenSpec.ofChange s) apart w args) (s.post enc C.prog fn apart fresh handsOn again) := by
  refine returnsInHanded_of_calls own started noInit witness ?_
  intro w tape i _ hsh _ hok hpre _
  obtain ⟨_, _, _, fn', hfn', _, _, _, _, hval⟩ := hok
  obtain rfl : fn' = fn := Option.some.inj (hfn'.symm.trans hfn)
  obtain ⟨⟨⟨ds, gs, before, hw, _⟩, hx⟩, hz⟩ := hpre
  have hw' := DataW.Whole.of_heap (w' := w.forCall tape i) (by rfl) hw
  refine (contract (w.forCall tape i) w.heap.size i.args ds gs before hval hw' (hz.weights hw) (hX _ _ _ (by rfl) hx) hsh).mono fun e W' ⟨v, he, hp⟩ => ?_
  subst he
  exact ChangeSpec.post_blind hp

theorem max_of_shaped {W : World} (h : W.ShapedOpen Tryz.prog) : ∃ m, W.cell? ⟨14, 0, none⟩ = some (.int .i64 m) :=
  Go.Proofs.cell_of_shapedOpen_int (zero := #[.int .i64 0]) (t := 3) h (of_decide_eq_true (by kernel_rfl)) (by kernel_rfl) rfl (by kernel_rfl) (by kernel_rfl) Tryz.underlying3

set_option maxRecDepth 100000 in
/-- A row of texts among the arguments. -/
theorem texts_arg {H : Type} {enc : TypeId × Value → H} {W : World} {base : Nat} {v : Value} {d : DataW H} {p : List MemPlace} (hval : Value.okWide Tryz.prog W .any base 28 v) (h : DataW.Trod enc Tryz.prog W 0 (fun _ => true) true 28 v d p) :
    ∃ l, Texts W v l ∧ l.length ≤ maxLen ∧ ∀ x ∈ l, x.size ≤ maxLen := by
  obtain ⟨va, vn, vc, rfl⟩ := okWide_slice Tryz.underlying28 hval
  obtain ⟨fuel, hf⟩ := h
  rcases Deep.open_strs Tryz.underlying28 Tryz.underlying9 cellsStr hf with ⟨e, _⟩ | ⟨a, len, cap, m, Sx, e, _, hlc, hcm, hm, _, hcell⟩
  · have e' : [Value.slice va vn vc] = [.slice none 0 0] := e
    simp only [List.cons.injEq, Value.slice.injEq, and_true] at e'
    obtain ⟨rfl, rfl, rfl⟩ := e'
    exact ⟨[], ⟨none, 0, rfl, fun i x hx => by simp at hx⟩, by simp, fun x hx => by simp at hx⟩
  · have e' : [Value.slice va vn vc] = [.slice (some a) len cap] := e
    simp only [List.cons.injEq, Value.slice.injEq, and_true] at e'
    obtain ⟨rfl, rfl, rfl⟩ := e'
    have hmc : m = vc := by rw [hm]; rfl
    refine ⟨(List.range vn).map Sx, ⟨some a, vc, by simp, fun i x hx => ?_⟩, by simp; omega, fun x hx => ?_⟩
    · have hi : i < vn := by have := (List.getElem?_eq_some_iff.1 hx).1; simpa using this
      rw [List.getElem?_map, List.getElem?_range hi] at hx
      simp only [Option.map_some, Option.some.injEq] at hx
      subst hx
      have hc := (hcell i (by omega)).1
      have h0 := (hcell 0 (by omega)).1
      obtain ⟨b, off, spot⟩ := a
      have hsp : spot = none := by simpa [Addr.add] using World.cell?_spot h0
      subst hsp
      refine ⟨b, off, rfl, ?_⟩
      have hadd : (⟨b, off, none⟩ : Addr).add i = ⟨b, off + i, none⟩ := by unfold Addr.add; split <;> simp_all
      rw [hadd] at hc
      exact hc
    · obtain ⟨i, hi, rfl⟩ := List.mem_map.1 hx
      exact (hcell i (by have := List.mem_range.1 hi; omega)).2

theorem laidVars_init {P : Program} {w : World} : ∀ (l m : List (String × DataW Unit)) (ps : List MemPlace), DataW.LaidVars P w (l ++ m) ps → ∃ qs, DataW.LaidVars P w l qs ∧ qs.Sublist ps
  | [], _, ps, _ => ⟨[], rfl, List.nil_sublist ps⟩
  | (n, d) :: l, m, ps, h => by
    obtain ⟨g, t, cs, fuel, p, q, h1, h2, h3, h4, hq, rfl⟩ := h
    obtain ⟨qs, hqs, hsub⟩ := laidVars_init l m q hq
    exact ⟨_, ⟨g, t, cs, fuel, p, qs, h1, h2, h3, h4, hqs, rfl⟩, (List.append_sublist_append_left _).2 hsub⟩
theorem laidMet_init {P : Program} {w : World} {l m : List (String × DataW Unit)} (h : laidMet P (l ++ m) w) : laidMet P l w := by
  obtain ⟨ps, hv, hnd, hrows⟩ := h
  obtain ⟨qs, hqs, hsub⟩ := laidVars_init l m ps hv
  exact ⟨qs, hqs, List.Nodup.sublist hsub hnd, fun b off hm => hrows b off (hsub.subset hm)⟩
end Go.Proofs.YtpjjpmikhjlgnaaGreatDoor
namespace Go.Proofs.YtpjjpmikhjlgnaaGreatDoor
open Go.ChangeShapes Go.WideShapes Go.RowKit

/-- The thirteen, off the row's own list. -/
def sentTexts : List (String × Nat × List UInt8) := (((Rows.pathActsRow.laid.drop 2).take 13).zip gvs).map fun x => (x.1.1, x.2, textIn x.1.2)
theorem laid_parts (W : World) : laidMetH Tryz.prog Rows.pathActsRow.laid W =
    (laidMet Tryz.prog (("unicode/utf8.acceptRanges", Rows.laid_unicode_utf8_acceptRanges) :: ((sentTexts.map fun x => (x.1, .iface "*errors.errorString" (.ptr (.agg [.lit (.string x.2.2)])))) ++ [("unicode/utf8.first", Rows.laid_unicode_utf8_first)])) W ∧ handlesMet Tryz.prog ((Rows.pathActsRow.laid.drop 1).take 1) W) := by kernel_rfl
theorem sent_globals : (sentTexts.all fun x => decide (Tryz.prog.globalNamed x.1 = some x.2.1) && decide ((Tryz.prog.globals[x.2.1]?).map (·.type) = some 30)) = true := by kernel_rfl
theorem sent_places : sentTexts.map (·.2.1) = gvs := by kernel_rfl
theorem gv_at : ∀ i, i < 13 → gvs[i]? = some (gv i) := by decide
theorem handle1 : (Rows.pathActsRow.laid.drop 1).take 1 = [("errors.errorType", Rows.laid_errors_errorType)] := by kernel_rfl
theorem gET : Tryz.prog.globalNamed "errors.errorType" = some 13 := by kernel_rfl
theorem rtypeIs : (Tryz.prog.cutTypes.find? (·.1 == "internal/reflectlite.rtype")).map (·.2) = some 157 := by kernel_rfl
theorem oneRow : ((List.range 211).filter fun t => Tryz.prog.rowNamed t [101, 114, 114, 111, 114]) = [30] := by kernel_rfl
theorem typesSize : Tryz.prog.types.size = 211 := by kernel_rfl

theorem handle_of {W : World} (h : handlesMet Tryz.prog ((Rows.pathActsRow.laid.drop 1).take 1) W) : W.cell? ⟨13, 0, none⟩ = some (.iface 157 (.agg #[.pointer (some ⟨17, 30, none⟩)])) := by
  rw [handle1] at h
  obtain ⟨name, u, ty, e1, e2, e3, e4, e5⟩ := h _ (List.mem_singleton.2 rfl)
  have en : name = [101, 114, 114, 111, 114] := (Option.some.inj e1).symm
  subst en
  obtain rfl := Option.some.inj (rtypeIs.symm.trans e2)
  have hm : ty ∈ (List.range 211).filter fun t => Tryz.prog.rowNamed t [101, 114, 114, 111, 114] := List.mem_filter.2 ⟨List.mem_range.2 (by rw [← typesSize]; exact e3), e4⟩
  rw [oneRow] at hm
  obtain rfl := List.mem_singleton.1 hm
  have hh : typeHandle Tryz.prog 30 = .pointer (some ⟨17, 30, none⟩) := by kernel_rfl
  rw [hh] at e5
  simpa using World.var?_cell gET e5 0

theorem sents_of_laid {W : World} (h : laidMetH Tryz.prog Rows.pathActsRow.laid W) : ∃ a, Sents a W := by
  rw [laid_parts] at h
  obtain ⟨hpl, hh⟩ := h
  obtain ⟨ps, hv, hnd, hrows⟩ := laidMet_init hpl.tail
  have hx : ∀ x ∈ sentTexts, Tryz.prog.globalNamed x.1 = some x.2.1 ∧ (Tryz.prog.globals[x.2.1]?).map (·.type) = some 30 := fun x hx => by
    have := List.all_eq_true.1 sent_globals x hx
    simpa using this
  obtain ⟨la, h1, h2⟩ := laid_list Tryz.underlying30 rowS Tryz.underlying181 Tryz.underlying200 rfl rfl Tryz.underlying9 cellsES cellsStr sentTexts hv hx hrows
  rw [sent_places] at h1
  have hat : ∀ i, i < 13 → ∃ a, la[i]? = some a ∧ W.cell? ⟨gv i, 0, none⟩ = some (.iface 181 (.pointer (some a))) ∧ ∃ c t, W.heap[a.block]? = some (.cells c t (0, 0)) := fun i hi => h1.at (gv_at i hi)
  refine ⟨fun i => (la[i]?).getD ⟨0, 0, none⟩, ⟨fun i hi => ?_, fun i hi => ?_, fun i j hi hj hij => ?_, handle_of hh⟩⟩
  · obtain ⟨a, e, hc, _⟩ := hat i hi
    rw [e]; exact hc
  · obtain ⟨a, e, _, hc⟩ := hat i hi
    rw [e]; exact hc
  · obtain ⟨a, e, _, _⟩ := hat i hi
    obtain ⟨b, e', _, _⟩ := hat j hj
    rw [e, e']
    intro hab
    have hab : a = b := hab
    subst hab
    have hn : (la.map fun a => MemPlace.cell a.block a.off).Nodup := List.Nodup.sublist h2 hnd
    have hlt : i < (la.map fun a => MemPlace.cell a.block a.off).length := by
      have := (List.getElem?_eq_some_iff.1 e).1
      simpa using this
    exact hij ((List.getElem?_inj hlt hn).1 (by simp [e, e']))
/-- All that is listed but the handle. -/
def filesPlain : List (String × DataW Unit) := Rows.pathActsRow.laid.filter fun x => x.2.handleName?.isNone
theorem filesWorld_os (os : Os) : (((World.holding Tryz.prog os ⟨#[], #[], []⟩).setCell ⟨13, 0, none⟩ (.iface 157 (.agg #[.pointer (some ⟨17, 30, none⟩)]))).layVars Tryz.prog filesPlain).os = os := World.layVars_os _ _ _
theorem files_fits (os : Os) : ((World.holding Tryz.prog os ⟨#[], #[], []⟩).setCell ⟨13, 0, none⟩ (.iface 157 (.agg #[.pointer (some ⟨17, 30, none⟩)]))).layFits Tryz.prog filesPlain [] = true := by kernel_rfl
theorem files_ifaces (os : Os) : ((World.holding Tryz.prog os ⟨#[], #[], []⟩).setCell ⟨13, 0, none⟩ (.iface 157 (.agg #[.pointer (some ⟨17, 30, none⟩)]))).layIfaces Tryz.prog filesPlain (((World.holding Tryz.prog os ⟨#[], #[], []⟩).setCell ⟨13, 0, none⟩ (.iface 157 (.agg #[.pointer (some ⟨17, 30, none⟩)]))).layVars Tryz.prog filesPlain) = true := by kernel_rfl
theorem files_plain (os : Os) (args : Array Value) : laidMet Tryz.prog filesPlain ((((World.holding Tryz.prog os ⟨#[], #[], []⟩).setCell ⟨13, 0, none⟩ (.iface 157 (.agg #[.pointer (some ⟨17, 30, none⟩)]))).layVars Tryz.prog filesPlain).forCall (fun _ _ => 0) ⟨#[], args, []⟩).memory := by
  have e1 : (filesPlain.filter fun x => (filesPlain.map (·.1)).contains x.1) = filesPlain := List.filter_eq_self.2 fun x hx => List.contains_iff_mem.2 (List.mem_map.2 ⟨x, hx, rfl⟩)
  have e2 : (filesPlain.filter fun x => !(filesPlain.map (·.1)).contains x.1) = [] := List.filter_eq_nil_iff.2 fun x hx => by rw [List.contains_iff_mem.2 (List.mem_map.2 ⟨x, hx, rfl⟩)]; simp
  have h : laidMet Tryz.prog filesPlain (((World.holding Tryz.prog os ⟨#[], #[], []⟩).setCell ⟨13, 0, none⟩ (.iface 157 (.agg #[.pointer (some ⟨17, 30, none⟩)]))).layVars Tryz.prog filesPlain) := laidMet_layVars (w0 := ((World.holding Tryz.prog os ⟨#[], #[], []⟩).setCell ⟨13, 0, none⟩ (.iface 157 (.agg #[.pointer (some ⟨17, 30, none⟩)])))) (filesPlain.map (·.1)) [] (by rw [e1]) (by rw [e1]; exact files_fits os) (by rw [e1]; exact files_ifaces os) (by rw [e2]; exact LaidIn.none)
  exact h.of_heap (by simp [World.memory, World.forCall, Input.heap])
theorem pathActs_door (os : Os) (args : Array Value) : laidMetH Tryz.prog Rows.pathActsRow.laid ((((World.holding Tryz.prog os ⟨#[], #[], []⟩).setCell ⟨13, 0, none⟩ (.iface 157 (.agg #[.pointer (some ⟨17, 30, none⟩)]))).layVars Tryz.prog filesPlain).forCall (fun _ _ => 0) ⟨#[], args, []⟩).memory :=
  laidMetH_of_parts3 (fuel := 8) (files_plain os args) (by kernel_rfl) (by kernel_rfl)
end Go.Proofs.YtpjjpmikhjlgnaaGreatDoor
