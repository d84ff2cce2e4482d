/-
  The law 'PathFollows' returns true: the contracts of package path, put into its walk.
  Conditions: the sentinels hold what the program's text lays; the library's MaxLen holds a number; the node lies in memory.
-/
import Derived.Test.YtilkjafggfdjeabDoorPFollow
import Derived.Test.YtilkjafggfdjeabDoorFolK
import Derived.Test.YtilkjafggfdjeabDoorPathed
import Derived.Test.YtilkjafggfdjeabDoorSmall
import Derived.Test.YtilkjafggfdjeabDoorOwn
namespace Go.Proofs.YtilkjafggfdjeabDoor
open Go.RowKit

/-- Where Follow ends, in a tree that is well. -/
theorem followT_end {d : Nat} {t : Tree} {s p : ByteArray} (hf : Fit d t) (h : followT d t s = .ok p) : treeErr d t = none ∧ ∃ l r, splitR s = some l ∧ followS t ⟨[], l, 0⟩ = .ok r ∧ Clear t r ∧ p = tellP r ∧ r.length ≤ 8 ∧ r.all nameB = true := by
  unfold followT at h
  cases ht : treeErr d t with
  | some e => rw [ht] at h; cases h
  | none =>
    rw [ht] at h
    cases hsp : splitR s with
    | none => simp only [hsp] at h; cases h
    | some l =>
      simp only [hsp] at h
      cases hfo : followS t ⟨[], l, 0⟩ with
      | error e => simp only [hfo] at h; cases h
      | ok r =>
        simp only [hfo] at h
        injection h with h
        have c : Clear t r := clear_follow (clear_nil t) hfo
        exact ⟨rfl, l, r, rfl, hfo, c, h.symm, clear_len hf ht c, List.all_eq_true.2 c.1⟩
theorem follow_again {d : Nat} {t : Tree} {r : List ByteArray} (ht : treeErr d t = none) (c : Clear t r) (h8 : r.length ≤ 8) (hn : r.all nameB = true) : followT d t (tellP r) = .ok (tellP r) := by
  refine followT_ok ht (tell_split h8 hn) ?_
  unfold followS
  have h := follow_clear (h := []) (n := 0) (f := wkM ⟨[], r, 0⟩ + 1) (by rw [List.nil_append]; exact c) (by unfold wkM; simp only; omega)
  rw [List.nil_append] at h
  exact h
theorem tell_nil : tellP [] = strokeB := by
  unfold tellP
  rw [joinB_isEmpty]
  rfl
theorem tell_stroke {r : List ByteArray} (hn : r.all nameB = true) : ((tellP r).toList == [47]) = decide (r = []) := by
  cases r with
  | nil => rw [tell_nil, ba_toList]; rfl
  | cons x r =>
    have hx : nameB x = true := List.all_eq_true.1 hn x (by simp)
    unfold tellP
    rw [joinB_isEmpty, if_neg (by simp), stroke_ne (joinB_ne (fun h => name_ne hx h.2))]
    simp
theorem split_tell {s : ByteArray} {l : List ByteArray} (h : splitR s = some l) : tellP l = s := by
  rcases split_join h with ⟨rfl, rfl⟩ | ⟨_, h2⟩
  · exact tell_nil
  · unfold tellP
    rw [joinB_isEmpty]
    cases l with
    | nil =>
      rw [← h2, joinB_nil] at h
      rw [splitR_nil (by decide) rfl] at h
      cases h
    | cons x l => rw [if_neg (by simp)]; exact h2
theorem take_split {l : List ByteArray} {j : Nat} {s : ByteArray} (h : splitR s = some l) (hj : j < l.length) : splitR (joinB (l.take (j + 1))) = some (l.take (j + 1)) := by
  have h8 := splitR_len h
  have hn := List.all_eq_true.1 (splitR_names h)
  have h1 := tell_split (m := l.take (j + 1)) (by rw [List.length_take]; omega) (List.all_eq_true.2 fun x hx => hn x (List.mem_of_mem_take hx))
  unfold tellP at h1
  rw [joinB_isEmpty] at h1
  cases l with
  | nil => simp at hj
  | cons x l =>
    rw [if_neg (by simp)] at h1
    exact h1
theorem fo_tail (a : Nat → Addr) (d : Nat) (t : Tree) (s : ByteArray) (xa : Option Addr) (xc b : Nat) (W : World) (R : World → Prop) (S : PSen a W)
    (lX : Lies W W.heap.size d t.kids (.slice xa t.kids.length xc)) (hb : b < W.heap.size) (cX : W.cell? ⟨b, 0, none⟩ = some (.string t.kind) ∧ W.cell? ⟨b, 1, none⟩ = some (.string t.data) ∧ W.cell? ⟨b, 2, none⟩ = some (.bool t.exec) ∧ W.cell? ⟨b, 3, none⟩ = some (.slice xa t.kids.length xc))
    (hok : OkItems (pre d ByteArray.empty 0 t)) (hs : s.size ≤ 150) (hR : ∀ w', Below W.heap.size W w' → R w') :
    ∃ p ev l P C, FoTail t.kind t.data s p t.exec xa t.kids.length xc b R (fun w' => Below W.heap.size W w') ev l P C := by
  have hfit : Fit d t := lX.fit
  have hX : ∀ w', Below W.heap.size W w' → Lies w' W.heap.size d t.kids (.slice xa t.kids.length xc) := fun w' h => lX.below h (Nat.le_refl _)
  have go : ∀ {w' w''}, Below W.heap.size W w' → Below w'.heap.size w' w'' → Below W.heap.size W w'' := fun h h2 => h.trans (h2.mono h.size)
  have ck : Alive ck ckOk 0 (pre d ByteArray.empty 0 t) := alive_ck _ 0 (by omega) hok
  have hFO : ∀ w', Below W.heap.size W w' → ∀ q : ByteArray, q.size ≤ 1000 → Calls Tryd.prog _ #[.agg #[.string t.kind, .string t.data, .bool t.exec, .slice xa t.kids.length xc], .string q] w' (FolPost a d t q w') := fun w' h q hq =>
    follow_any a d W.heap.size t _ q w' (S.below h) h.size (hX w' h) ck (by omega)
  have hGE : ∀ w', Below W.heap.size W w' → ∀ q : ByteArray, q.size ≤ 1000 → Calls Tryd.prog _ #[.agg #[.string t.kind, .string t.data, .bool t.exec, .slice xa t.kids.length xc], .string q] w' (GetPost a d t q w') := fun w' h q hq =>
    get_any a d W.heap.size t _ q w' (S.below h) h.size (hX w' h) ck (by omega)
  cases hfo : followT d t s with
  | error er =>
    refine ⟨{ data := #[] }, .iface 153 (.pointer (some (a er))), [], fun _ => { data := #[] }, fun _ => True, { on := fun w' w'' h h2 => go h h2, low := fun w' h => Nat.lt_of_lt_of_le hb h.size, cells := fun w' h => box_keeps h hb cX, follow := fun w' h => ?_, err := .inr ⟨by rw [ba_toList]; rfl, _, _, rfl⟩, get := fun h => (by cases h), again := fun h => (by cases h), split := fun h => (by cases h), len := by simp, zero := rfl, none := trivial, add := fun j y hy => (by simp at hy), each := fun h => (by cases h), all := fun h => (by cases h), ends := hR }⟩
    refine (hFO w' h s (by omega)).mono ?_
    rintro e w'' ⟨hb2, ⟨er', h1, rfl⟩ | ⟨p, h1, _⟩⟩
    · rw [hfo] at h1
      injection h1 with h1
      subst h1
      exact ⟨rfl, hb2⟩
    · rw [hfo] at h1; cases h1
  | ok p =>
    obtain ⟨ht, l, r, hsp, hfs, c, rfl, h8, hn⟩ := followT_end hfit hfo
    have hts := tell_size h8 hn
    have hl8 := splitR_len hsp
    have hln := List.all_eq_true.1 (splitR_names hsp)
    have hjs : ∀ j, (joinB (l.take j)).size ≤ 200 := fun j => by
      have h1 := joinB_size (l := l.take j) (n := 12) fun x hx => by
        have := hln x (List.mem_of_mem_take hx)
        unfold nameB at this
        simp only [Bool.and_eq_true, decide_eq_true_eq] at this
        exact this.1.1.1.2
      have h2 : (l.take j).length ≤ 8 := by rw [List.length_take]; omega
      have h3 : (l.take j).length * (12 + 1) ≤ 8 * 13 := Nat.mul_le_mul h2 (Nat.le_refl _)
      omega
    refine ⟨tellP r, .nilIface, l, fun j => joinB (l.take j), fun j => Clear t (l.take j), { on := fun w' w'' h h2 => go h h2, low := fun w' h => Nat.lt_of_lt_of_le hb h.size, cells := fun w' h => box_keeps h hb cX, follow := fun w' h => ?_, err := .inl rfl, get := fun _ w' h => ?_, again := fun _ w' h => ?_, split := fun _ w' h => ?_, len := hl8, zero := rfl, none := clear_nil t, add := fun j y hy => ?_, each := fun _ j hj hc w' h => ?_, all := fun _ hc => ?_, ends := hR }⟩
    · refine (hFO w' h s (by omega)).mono ?_
      rintro e w'' ⟨hb2, ⟨er', h1, _⟩ | ⟨p, h1, rfl⟩⟩
      · rw [hfo] at h1; cases h1
      · rw [hfo] at h1
        injection h1 with h1
        subst h1
        exact ⟨rfl, hb2⟩
    · obtain ⟨k, hk, hkl⟩ := clear_at c
      have hg : getR d t (tellP r) = .ok k := getR_some ht (tell_split h8 hn) hk
      refine (hGE w' h (tellP r) hts).mono ?_
      rintro e w'' ⟨hb2, ⟨er, h1, _⟩ | ⟨k', u, d', h1, _, rfl, hl⟩⟩
      · rw [hg] at h1; cases h1
      · rw [hg] at h1
        injection h1 with h1
        subst h1
        obtain ⟨ra, rc, rfl⟩ := hl.form
        refine ⟨_, _, _, ra, _, rc, rfl, ?_, hb2⟩
        rw [tell_stroke hn]
        by_cases hr : r = []
        · exact .inl (decide_eq_true hr)
        · exact .inr ⟨decide_eq_false hr, hkl hr⟩
    · refine (hFO w' h (tellP r) hts).mono ?_
      rintro e w'' ⟨hb2, ⟨er', h1, _⟩ | ⟨p, h1, rfl⟩⟩
      · rw [follow_again ht c h8 hn] at h1; cases h1
      · rw [follow_again ht c h8 hn] at h1
        injection h1 with h1
        subst h1
        exact ⟨rfl, hb2⟩
    · refine (split_any a s w' (S.below h) (by omega)).mono ?_
      rintro e w'' ⟨hb2, ⟨h1, _⟩ | ⟨l', v, h1, rfl, ⟨va, vc, rfl, hcs⟩, _⟩⟩
      · rw [hsp] at h1; cases h1
      · rw [hsp] at h1
        injection h1 with h1
        subst h1
        refine ⟨va, vc, rfl, hb2, fun w3 hb3 j q hq => ?_⟩
        obtain ⟨g, off, e2, hc⟩ := hcs j q hq
        exact ⟨g, off, e2, by rw [hb3.cell (p := ⟨g, off + j, none⟩) (lt_of_cell hc)]; exact hc⟩
    · have h1 := hjs j
      have h2 := hjs (j + 1)
      have e := joinB_snoc hy
      refine ⟨joinB (l.take j) ++ strokeB, fun w' => run_string_add_sum w' _ _ (show (joinB (l.take j)).size + 1 ≤ _ by omega), fun w' => ?_⟩
      show _ = Result.ok (Value.string (joinB (l.take (j + 1)))) w'
      rw [e] at h2 ⊢
      rw [ByteArray.size_append] at h2
      exact run_string_add_sum w' _ _ (by omega)
    · have hsp2 := take_split hsp hj
      refine (hGE w' h (joinB (l.take (j + 1))) (by have := hjs (j + 1); omega)).mono ?_
      rintro e w'' ⟨hb2, ⟨er, h1, rfl⟩ | ⟨k, u, d', h1, _, rfl, hl⟩⟩
      · exact ⟨_, _, _, _, _, _, _, rfl, .inl ⟨_, _, rfl⟩, hb2⟩
      · obtain ⟨ra, rc, rfl⟩ := hl.form
        refine ⟨_, _, _, _, _, _, _, rfl, ?_, hb2⟩
        cases hik : isLink k with
        | true => exact .inr (.inl ⟨rfl, hik⟩)
        | false =>
          refine .inr (.inr ⟨rfl, hik, ?_⟩)
          obtain ⟨x, hx⟩ : ∃ x, l[j]? = some x := ⟨l[j], List.getElem?_eq_getElem hj⟩
          have e3 : l.take (j + 1) = l.take j ++ [x] := by rw [List.take_succ_eq_append_getElem hj, (List.getElem?_eq_some_iff.1 hx).2]
          have hat : atR (l.take (j + 1)) t = some k := by
            unfold getR at h1
            rw [ht] at h1
            simp only [hsp2] at h1
            cases hat : atR (l.take (j + 1)) t with
            | none => rw [hat] at h1; cases h1
            | some k' => rw [hat] at h1; injection h1 with h1; rw [h1]
          show Clear t (l.take (j + 1))
          rw [e3] at hat ⊢
          exact clear_snoc hc (hln x (List.mem_of_getElem? hx)) hat hik
    · have hc' : Clear t l := by
        have h2 := hc
        simp only [List.take_length] at h2
        exact h2
      have hfs2 : followS t ⟨[], l, 0⟩ = .ok l := by
        unfold followS
        have h3 := follow_clear (h := []) (n := 0) (f := wkM ⟨[], l, 0⟩ + 1) (by rw [List.nil_append]; exact hc') (by unfold wkM; simp only; omega)
        rw [List.nil_append] at h3
        exact h3
      rw [hfs] at hfs2
      injection hfs2 with hfs2
      subst hfs2
      rw [split_tell hsp]
      simp

theorem pathFollows_any (a : Nat → Addr) (d : Nat) (t : Tree) (us : Value) (s : ByteArray) (w : World) (S0 : PSen a w) (hls : Lies w w.heap.size d t.kids us) (hsm : s.size ≤ maxLen) :
    Calls Tryd.prog 4 #[.agg #[.string t.kind, .string t.data, .bool t.exec, us], .string s] w fun e w' => e = .returned (.bool true) ∧ Below w.heap.size w w' := by
  obtain ⟨sa, sc, rfl⟩ := hls.form
  have gW : Below w.heap.size w (w.alloc (.cells #[.string t.kind, .string t.data, .bool t.exec, .slice sa t.kids.length sc] 24)) := (Below.refl _ _).alloc (Nat.le_refl _) _
  have hx := box_cells w t.kind t.data t.exec sa t.kids.length sc
  have z1 : (w.alloc (.cells #[.string t.kind, .string t.data, .bool t.exec, .slice sa t.kids.length sc] 24)).heap.size = w.heap.size + 1 := by simp
  obtain ⟨W0, hW0⟩ : ∃ W0, W0 = w.alloc (.cells #[.string t.kind, .string t.data, .bool t.exec, .slice sa t.kids.length sc] 24) := ⟨_, rfl⟩
  rw [← hW0] at hx gW z1
  have S := S0.below gW
  have lA := (hls.below gW (Nat.le_refl _)).up gW.size (Nat.le_refl _)
  have hR : ∀ w', Below W0.heap.size W0 w' → Below w.heap.size w w' := fun w' h => gW.trans (h.mono gW.size)
  have go : ∀ {w' w''}, Below W0.heap.size W0 w' → Below w'.heap.size w' w'' → Below W0.heap.size W0 w'' := fun h h2 => h.trans (h2.mono h.size)
  refine follows_skel t.kind t.data s t.exec sa t.kids.length sc w (largeN 100 t) ?_ hsm (fun w' => Below w.heap.size w w') (fun w' => Below W0.heap.size W0 w') hR ?_ ?_ ?_ ?_
  · have := largeN_bounds 100 t; omega
  · rw [← hW0]; exact pathed_any a W0 S
  · exact fun w' h => box_keeps h (by omega) hx
  · exact fun w' h => (large_any W0.heap.size d 100 t _ w' h.size (lA.below h (Nat.le_refl _)) (by omega)).mono fun e w'' ⟨h1, h2⟩ => ⟨h1, go h h2⟩
  · intro hl hs w' h
    obtain ⟨hok, _⟩ := small_ok lA.fit (largeN_zero (n := 100) (t := t) (by omega))
    refine (own_any W0.heap.size d t _ w' h.size (lA.below h (Nat.le_refl _))).mono ?_
    rintro e w1 ⟨u1, rfl, hq1, hb1⟩
    obtain ⟨xa, xc, rfl⟩ := hq1.form
    have hxx := box_cells w1 t.kind t.data t.exec xa t.kids.length xc
    have g1 : Below w1.heap.size w1 (w1.alloc (.cells #[.string t.kind, .string t.data, .bool t.exec, .slice xa t.kids.length xc] 24)) := (Below.refl _ _).alloc (Nat.le_refl _) _
    have zz : w1.heap.size < (w1.alloc (.cells #[.string t.kind, .string t.data, .bool t.exec, .slice xa t.kids.length xc] 24)).heap.size := by simp
    have lx : Lies w1 w1.heap.size d t.kids (.slice xa t.kids.length xc) := hq1.lies fun k hk => hk.2
    have hB0 := go h hb1
    refine ⟨xa, xc, rfl, ?_⟩
    generalize w1.alloc (.cells #[.string t.kind, .string t.data, .bool t.exec, .slice xa t.kids.length xc] 24) = W at *
    have hBW := go hB0 g1
    obtain ⟨p, ev, l, P, C, T⟩ := fo_tail a d t s xa xc w1.heap.size W (fun w' => Below w.heap.size w w') (S.below hBW) ((lx.below g1 (Nat.le_refl _)).up g1.size (Nat.le_refl _)) zz hxx hok hs fun w'' hw => hR w'' (hBW.trans (hw.mono hBW.size))
    exact ⟨_, p, ev, l, P, C, Below.refl _ _, T⟩
end Go.Proofs.YtilkjafggfdjeabDoor
