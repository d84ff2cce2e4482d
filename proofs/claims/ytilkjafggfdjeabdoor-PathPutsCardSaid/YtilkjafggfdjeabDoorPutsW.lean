/-
  The law 'PathPuts' returns true: the contracts of package path, put into its walk.
  Conditions: the sentinels hold what the program's text lays; the library's MaxLen holds a number; the nodes lie in memory.
-/
import Derived.Test.YtilkjafggfdjeabDoorPPut
import Derived.Test.YtilkjafggfdjeabDoorPDrop
import Derived.Test.YtilkjafggfdjeabDoorApart
import Derived.Test.YtilkjafggfdjeabDoorPutsK
import Derived.Test.YtilkjafggfdjeabDoorPathed
import Derived.Test.YtilkjafggfdjeabDoorSame
import Derived.Test.YtilkjafggfdjeabDoorCode
namespace Go.Proofs.YtilkjafggfdjeabDoor
open Go.RowKit

theorem psen_sents {a : Nat → Addr} {w : World} (S : Sents a w) (hm : ∃ m, w.cell? ⟨14, 0, none⟩ = some (.int .i64 m)) : PSen a w := ⟨S.sen, S.c5, hm⟩
theorem putR_is {d e : Nat} {t X Y : Tree} {s : ByteArray} (h : putR d e t s X = .ok Y) : ∃ l, treeErr d t = none ∧ splitR s = some l ∧ Y = setAt X l t ∧ treeErr e Y = none := by
  unfold putR at h
  cases ht : treeErr d t with
  | some er => rw [ht] at h; cases h
  | none =>
    rw [ht] at h
    cases hs : splitR s with
    | none => simp only [hs] at h; cases h
    | some l =>
      simp only [hs] at h
      split at h
      · cases hy : treeErr e (setAt X l t) with
        | some er => rw [hy] at h; cases h
        | none =>
          rw [hy] at h
          injection h with h
          exact ⟨l, rfl, rfl, h.symm, by rw [← h]; exact hy⟩
      · cases h
/-- Another path, before and behind. -/
theorem gets_same {d e : Nat} {t X : Tree} {s q : ByteArray} {l : List ByteArray} (hf : Fit d t) (hF : Fit e (setAt X l t)) (ht : treeErr d t = none) (hY : treeErr e (setAt X l t) = none) (hs : splitR s = some l) (ha : apartB s q = true) : getR e (setAt X l t) q = getR d t q := by
  unfold getR
  rw [ht, hY]
  cases hq : splitR q with
  | none => rfl
  | some m => simp only [at_other (apart_names hs hq ha) (rises_well hf ht) (rises_well hF hY)]
theorem zero_empty : (({ data := #[] } : ByteArray).toList == []) = true := by rw [ba_toList]; rfl

/-- The tail: Drop, Get, coded. -/
theorem pu_drop (a : Nat → Addr) (D : Nat) (Y X : Tree) (ya : Option Addr) (yc : Nat) (s : ByteArray) (l : List ByteArray) (W w : World) (S : Sents a W) (hm : ∃ m, W.cell? ⟨14, 0, none⟩ = some (.int .i64 m)) (R : World → Prop) (hR : ∀ w', Below W.heap.size W w' → R w') (hb : Below W.heap.size W w)
    (hl : Lies w w.heap.size D Y.kids (.slice ya Y.kids.length yc)) (hY : treeErr D Y = none) (hs : s.size ≤ 150) (hsp : splitR s = some l) (hat : atR l Y = some X) : PuDrop Y.kind Y.data Y.exec ya Y.kids.length yc s R w := by
  have P : PSen a W := psen_sents S hm
  have hfit := hl.fit
  have go : ∀ {w' w''}, Below W.heap.size W w' → Below w'.heap.size w' w'' → Below W.heap.size W w'' := fun h h2 => h.trans (h2.mono h.size)
  refine (drop_any a D w.heap.size Y _ s w (P.below hb) (Nat.le_refl _) hl ((OkT.well hfit hY).alive (by omega)) (by omega)).mono ?_
  rintro e w1 ⟨hb1, ⟨er, h1, rfl⟩ | ⟨Z, u, h1, rfl, hfr⟩⟩
  · refine ⟨_, _, _, _, _, _, _, rfl, .inl ⟨⟨_, _, rfl⟩, ?_, hR _ ((go hb hb1).alloc (go hb hb1).size _)⟩⟩
    rcases List.eq_nil_or_concat l with rfl | ⟨m, x, rfl⟩
    · rcases split_join hsp with ⟨rfl, _⟩ | ⟨_, h2⟩
      · rw [ba_toList]; rfl
      · rw [← h2, joinB_nil, splitR_nil (by decide) rfl] at hsp
        cases hsp
    · rw [List.concat_eq_append] at hsp hat
      rw [dropR_ok hY hsp hat] at h1
      cases h1
  · obtain ⟨ua, uc, rfl⟩ := hfr.lies.form
    have hne : l ≠ [] := fun e => by
      subst e
      rw [dropR_top hY hsp] at h1
      cases h1
    have hZ : Z = dropAt l Y := by
      rcases List.eq_nil_or_concat l with rfl | ⟨m, x, rfl⟩
      · exact absurd rfl hne
      · rw [List.concat_eq_append] at hsp hat ⊢
        rw [dropR_ok hY hsp hat] at h1
        injection h1 with h1
        exact h1.symm
    subst hZ
    obtain ⟨hz1, hz2⟩ := drop_tree hfit hY hat
    have hz3 : treeErr (D + 1) (dropAt l Y) = none := by rw [treeErr_up (rises_fit hz2) (by omega)]; exact hz1
    have hA : Below w1.heap.size w1 (w1.alloc (.cells #[.string (dropAt l Y).kind, .string (dropAt l Y).data, .bool (dropAt l Y).exec, .slice ua (dropAt l Y).kids.length uc] 24)) := (Below.refl _ _).alloc (Nat.le_refl _) _
    have hbA := go (go hb hb1) hA
    refine ⟨_, _, _, ua, _, uc, _, rfl, .inr ⟨rfl, ?_⟩⟩
    refine (get_any a (D + 1) w1.heap.size (dropAt l Y) _ s _ (P.below hbA) hA.size (hfr.lies.below hA (Nat.le_refl _)) ((OkT.well hfr.lies.fit hz3).alive (by omega)) (by omega)).mono ?_
    have hg : getR (D + 1) (dropAt l Y) s = .error 5 := getR_none hz3 hsp (at_drop hne (rises_well hfit hY) hat)
    rintro e w2 ⟨hb2, ⟨er, h2, rfl⟩ | ⟨k, u, d', h2, _⟩⟩
    · rw [hg] at h2
      injection h2 with h2
      subst h2
      refine ⟨_, _, _, _, _, _, _, rfl, ?_⟩
      have hb3 := go hbA hb2
      refine (coded_sent a 5 6 w2 (S.below hb3) (by decide)).mono ?_
      rintro e w3 ⟨rfl, hb4⟩
      exact ⟨by rw [decide_eq_true (by decide)], hR _ (go hb3 hb4)⟩
    · rw [hg] at h2; cases h2
theorem box_at {w : World} {N : Array Value} {x0 x1 x2 x3 : Value} (hN : N = #[x0, x1, x2, x3]) {w' : World} (h : Below (w.alloc (.cells N 24)).heap.size (w.alloc (.cells N 24)) w') : w'.cell? ⟨w.heap.size, 0, none⟩ = some x0 ∧ w'.cell? ⟨w.heap.size, 1, none⟩ = some x1 ∧ w'.cell? ⟨w.heap.size, 2, none⟩ = some x2 ∧ w'.cell? ⟨w.heap.size, 3, none⟩ = some x3 := by
  subst hN
  exact (row4b ((h.block w.heap.size (by simp)).trans (row_alloc' w _ _))).1
/-- The two Gets of another path, and Same. -/
theorem pu_gets (a : Nat → Addr) (d D : Nat) (n X : Tree) (xa ya : Option Addr) (xc yc yb : Nat) (s q : ByteArray) (l : List ByteArray) (W w : World) (S : Sents a W) (hm : ∃ m, W.cell? ⟨14, 0, none⟩ = some (.int .i64 m)) (R : World → Prop) (hR : ∀ w', Below W.heap.size W w' → R w') (hb : Below W.heap.size W w) (hd : d ≤ D)
    (hln : Lies w w.heap.size d n.kids (.slice xa n.kids.length xc)) (hn : treeErr d n = none) (hl : Lies w w.heap.size D (setAt X l n).kids (.slice ya (setAt X l n).kids.length yc)) (hY : treeErr D (setAt X l n) = none) (hs : s.size ≤ 150) (hq : q.size ≤ 150) (hsp : splitR s = some l) (hap : apartB s q = true) (hyb : yb < w.heap.size)
    (hcy : w.cell? ⟨yb, 0, none⟩ = some (.string (setAt X l n).kind) ∧ w.cell? ⟨yb, 1, none⟩ = some (.string (setAt X l n).data) ∧ w.cell? ⟨yb, 2, none⟩ = some (.bool (setAt X l n).exec) ∧ w.cell? ⟨yb, 3, none⟩ = some (.slice ya (setAt X l n).kids.length yc)) :
    PuGets n.kind n.data n.exec xa n.kids.length xc (setAt X l n).kind (setAt X l n).data (setAt X l n).exec ya (setAt X l n).kids.length yc s q yb R w := by
  have P : PSen a W := psen_sents S hm
  have go : ∀ {w' w''}, Below W.heap.size W w' → Below w'.heap.size w' w'' → Below W.heap.size W w'' := fun h h2 => h.trans (h2.mono h.size)
  have hsame := gets_same hln.fit hl.fit hn hY hsp hap
  have hat : atR l (setAt X l n) = some X := at_set (rises_well hln.fit hn) (rises_well hl.fit hY)
  have hD : ∀ w', Below w.heap.size w w' → PuDrop (setAt X l n).kind (setAt X l n).data (setAt X l n).exec ya (setAt X l n).kids.length yc s R w' := fun w' h => pu_drop a D (setAt X l n) X ya yc s l W w' S hm R hR (go hb h) ((hl.below h (Nat.le_refl _)).up h.size (Nat.le_refl _)) hY hs hsp hat
  generalize setAt X l n = Y at *
  refine (get_any a d w.heap.size n _ q w (P.below hb) (Nat.le_refl _) hln ((OkT.well hln.fit hn).alive (by omega)) (by omega)).mono ?_
  rintro e w1 ⟨hb1, h0⟩
  -- what is got of the first
  have key : ∃ K ka kc e1, e = .returned (.tuple #[.agg #[.string K.kind, .string K.data, .bool K.exec, .slice ka K.kids.length kc], e1]) ∧ ((∃ er, getR d n q = .error er ∧ e1 = .iface 153 (.pointer (some (a er)))) ∨ (getR d n q = .ok K ∧ e1 = .nilIface ∧ Lies w1 w1.heap.size D K.kids (.slice ka K.kids.length kc))) := by
    rcases h0 with ⟨er, h1, rfl⟩ | ⟨K, u, d', h1, hd', rfl, hlq⟩
    · exact ⟨zeroT, none, 0, _, rfl, .inl ⟨er, h1, rfl⟩⟩
    · obtain ⟨ka, kc, rfl⟩ := hlq.form
      exact ⟨K, ka, kc, _, rfl, .inr ⟨h1, rfl, (hlq.lies fun k hk => hk.2).up (Nat.le_refl _) (by omega)⟩⟩
  clear h0
  obtain ⟨K, ka, kc, e1, rfl, h1⟩ := key
  have hA1 : Below w1.heap.size w1 (w1.alloc (.cells #[.string K.kind, .string K.data, .bool K.exec, .slice ka K.kids.length kc] 24)) := (Below.refl _ _).alloc (Nat.le_refl _) _
  have hbA : Below w.heap.size w (w1.alloc (.cells #[.string K.kind, .string K.data, .bool K.exec, .slice ka K.kids.length kc] 24)) := hb1.trans (hA1.mono hb1.size)
  refine ⟨_, _, _, ka, _, kc, e1, rfl, box_keeps hbA hyb hcy, ?_⟩
  have hl1 := (hl.below hbA (Nat.le_refl _)).up hbA.size (Nat.le_refl D)
  refine (get_any a D _ Y _ q _ (P.below (go hb hbA)) (Nat.le_refl _) hl1 ((OkT.well hl1.fit hY).alive (by omega)) (by omega)).mono ?_
  rintro e w2 ⟨hb2, h2⟩
  rw [hsame] at h2
  have hw2 : Below w.heap.size w w2 := hbA.trans (hb2.mono hbA.size)
  rcases h1 with ⟨er, h1, rfl⟩ | ⟨h1, rfl, hlk⟩
  · rcases h2 with ⟨er', h2, rfl⟩ | ⟨K', u, d', h2, _⟩
    · have hw3 : Below w.heap.size w (w2.alloc (.cells #[.string { data := #[] }, .string { data := #[] }, .bool false, .slice none 0 0] 24)) := hw2.alloc hw2.size _
      exact ⟨_, _, _, _, _, _, _, rfl, .inl ⟨⟨_, _, _, _, rfl, rfl⟩, box_keeps hw3 hyb hcy, hD _ hw3.drew⟩⟩
    · rw [h1] at h2; cases h2
  · rcases h2 with ⟨er', h2, rfl⟩ | ⟨K', u, d', h2, hd', rfl, hlq⟩
    · rw [h1] at h2; cases h2
    · rw [h1] at h2
      injection h2 with h2
      subst h2
      obtain ⟨qa, qc, rfl⟩ := hlq.form
      have hlQ : Lies w2 w2.heap.size D K.kids (.slice qa K.kids.length qc) := (hlq.lies fun k hk => hk.2).up (Nat.le_refl _) (by omega)
      have hA2 : Below w2.heap.size w2 (w2.alloc (.cells #[.string K.kind, .string K.data, .bool K.exec, .slice qa K.kids.length qc] 24)) := (Below.refl _ _).alloc (Nat.le_refl _) _
      have hw3 : Below w.heap.size w (w2.alloc (.cells #[.string K.kind, .string K.data, .bool K.exec, .slice qa K.kids.length qc] 24)) := hw2.trans (hA2.mono hw2.size)
      have h12 : Below (w1.alloc (.cells #[.string K.kind, .string K.data, .bool K.exec, .slice ka K.kids.length kc] 24)).heap.size (w1.alloc (.cells #[.string K.kind, .string K.data, .bool K.exec, .slice ka K.kids.length kc] 24)) (w2.alloc (.cells #[.string K.kind, .string K.data, .bool K.exec, .slice qa K.kids.length qc] 24)) := hb2.trans (hA2.mono hb2.size)
      refine ⟨_, _, _, qa, _, qc, _, rfl, .inr ⟨rfl, rfl, box_at rfl h12, ?_⟩⟩
      have hlk2 : Lies (w2.alloc (.cells #[.string K.kind, .string K.data, .bool K.exec, .slice qa K.kids.length qc] 24)).drew (w2.alloc (.cells #[.string K.kind, .string K.data, .bool K.exec, .slice qa K.kids.length qc] 24)).drew.heap.size D K.kids (.slice ka K.kids.length kc) := (hlk.below (hA1.trans (h12.drew.mono hA1.size)) (Nat.le_refl _)).up (by have := hA1.size; have := h12.size; exact Nat.le_trans ‹_› ‹_›) (Nat.le_refl _)
      have hlQ2 : Lies (w2.alloc (.cells #[.string K.kind, .string K.data, .bool K.exec, .slice qa K.kids.length qc] 24)).drew (w2.alloc (.cells #[.string K.kind, .string K.data, .bool K.exec, .slice qa K.kids.length qc] 24)).drew.heap.size D K.kids (.slice qa K.kids.length qc) := (hlQ.below hA2.drew (Nat.le_refl _)).up hA2.size (Nat.le_refl _)
      refine (same_any _ D K K _ _ _ (Nat.le_refl _) hlk2 hlQ2).mono ?_
      rintro e w3 ⟨rfl, hb3⟩
      have hb3' : Below (w2.alloc (.cells #[.string K.kind, .string K.data, .bool K.exec, .slice qa K.kids.length qc] 24)).heap.size (w2.alloc (.cells #[.string K.kind, .string K.data, .bool K.exec, .slice qa K.kids.length qc] 24)) w3 := (Below.refl _ _).drew.trans hb3
      have hw4 : Below w.heap.size w w3 := hw3.trans (hb3'.mono hw3.size)
      exact ⟨by rw [sameB_refl hlk.fit], box_at rfl (h12.trans (hb3'.mono h12.size)), box_at rfl hb3', box_keeps hw4 hyb hcy, hD _ hw4⟩
/-- Behind Put. -/
theorem pu_after (a : Nat → Addr) (d D : Nat) (n X : Tree) (xa xb ya : Option Addr) (xc bc yc xb0 b0 yb : Nat) (s q : ByteArray) (l : List ByteArray) (W w : World) (S : Sents a W) (hm : ∃ m, W.cell? ⟨14, 0, none⟩ = some (.int .i64 m)) (R : World → Prop) (hR : ∀ w', Below W.heap.size W w' → R w') (hb : Below W.heap.size W w) (hd : d ≤ D)
    (hln : Lies W W.heap.size d n.kids (.slice xa n.kids.length xc)) (hlx : Lies W W.heap.size d X.kids (.slice xb X.kids.length bc)) (hn : treeErr d n = none) (hl : Lies w w.heap.size D (setAt X l n).kids (.slice ya (setAt X l n).kids.length yc)) (hY : treeErr D (setAt X l n) = none) (hs : s.size ≤ 150) (hq : q.size ≤ 150) (hsp : splitR s = some l) (hyb : yb < w.heap.size)
    (hcy : w.cell? ⟨yb, 0, none⟩ = some (.string (setAt X l n).kind) ∧ w.cell? ⟨yb, 1, none⟩ = some (.string (setAt X l n).data) ∧ w.cell? ⟨yb, 2, none⟩ = some (.bool (setAt X l n).exec) ∧ w.cell? ⟨yb, 3, none⟩ = some (.slice ya (setAt X l n).kids.length yc))
    (hx0 : xb0 < W.heap.size) (hcx : W.cell? ⟨xb0, 0, none⟩ = some (.string n.kind) ∧ W.cell? ⟨xb0, 1, none⟩ = some (.string n.data) ∧ W.cell? ⟨xb0, 2, none⟩ = some (.bool n.exec) ∧ W.cell? ⟨xb0, 3, none⟩ = some (.slice xa n.kids.length xc))
    (hb0 : b0 + 1 < W.heap.size) (hcb : W.cell? ⟨b0 + 1, 0, none⟩ = some (.string X.kind) ∧ W.cell? ⟨b0 + 1, 1, none⟩ = some (.string X.data) ∧ W.cell? ⟨b0 + 1, 2, none⟩ = some (.bool X.exec) ∧ W.cell? ⟨b0 + 1, 3, none⟩ = some (.slice xb X.kids.length bc)) :
    PuAfter n.kind n.data n.exec xa n.kids.length xc X.kind X.data X.exec xb X.kids.length bc (setAt X l n).kind (setAt X l n).data (setAt X l n).exec ya (setAt X l n).kids.length yc s q b0 xb0 yb R .nilIface w := by
  have P : PSen a W := psen_sents S hm
  have go : ∀ {w' w''}, Below W.heap.size W w' → Below w'.heap.size w' w'' → Below W.heap.size W w'' := fun h h2 => h.trans (h2.mono h.size)
  have hat : atR l (setAt X l n) = some X := at_set (rises_well hln.fit hn) (rises_well hl.fit hY)
  refine .inr ⟨rfl, ?_⟩
  refine (get_any a D w.heap.size (setAt X l n) _ s w (P.below hb) (Nat.le_refl _) hl ((OkT.well hl.fit hY).alive (by omega)) (by omega)).mono ?_
  have hg : getR D (setAt X l n) s = .ok X := getR_some hY hsp hat
  rintro e w1 ⟨hb1, ⟨er, h1, rfl⟩ | ⟨K, u, d', h1, hd', rfl, hlq⟩⟩
  · rw [hg] at h1; cases h1
  rw [hg] at h1
  injection h1 with h1
  subst h1
  obtain ⟨ka, kc, rfl⟩ := hlq.form
  have hA1 : Below w1.heap.size w1 (w1.alloc (.cells #[.string X.kind, .string X.data, .bool X.exec, .slice ka X.kids.length kc] 24)) := (Below.refl _ _).alloc (Nat.le_refl _) _
  have hbA := go (go hb hb1) hA1
  have hwA : Below w.heap.size w (w1.alloc (.cells #[.string X.kind, .string X.data, .bool X.exec, .slice ka X.kids.length kc] 24)) := hb1.trans (hA1.mono hb1.size)
  refine ⟨_, _, _, ka, _, kc, rfl, box_keeps hbA hb0 hcb, ?_⟩
  have hlK : Lies (w1.alloc (.cells #[.string X.kind, .string X.data, .bool X.exec, .slice ka X.kids.length kc] 24)) (w1.alloc (.cells #[.string X.kind, .string X.data, .bool X.exec, .slice ka X.kids.length kc] 24)).heap.size D X.kids (.slice ka X.kids.length kc) := ((hlq.lies fun k hk => hk.2).below hA1 (Nat.le_refl _)).up hA1.size hd'
  have hlX : Lies (w1.alloc (.cells #[.string X.kind, .string X.data, .bool X.exec, .slice ka X.kids.length kc] 24)) (w1.alloc (.cells #[.string X.kind, .string X.data, .bool X.exec, .slice ka X.kids.length kc] 24)).heap.size D X.kids (.slice xb X.kids.length bc) := (hlx.below hbA (Nat.le_refl _)).up hbA.size hd
  refine (same_any _ D X X _ _ _ (Nat.le_refl _) hlK hlX).mono ?_
  rintro e w2 ⟨rfl, hb2⟩
  refine ⟨by rw [sameB_refl hlX.fit], ?_⟩
  have hb3 := go hbA hb2
  have hw3 : Below w.heap.size w w2 := hwA.trans (hb2.mono hwA.size)
  refine (apart_any s q w2 (by omega) (by omega)).mono ?_
  rintro e w3 ⟨rfl, rfl⟩
  refine ⟨_, rfl, ?_⟩
  cases hap : apartB s q with
  | false => exact .inl ⟨rfl, hR _ hb3⟩
  | true =>
    refine .inr ⟨rfl, box_keeps hb3 hx0 hcx, ?_⟩
    exact pu_gets a d D n X xa ya xc yc yb s q l W w3 S hm R hR hb3 hd ((hln.below hb3 (Nat.le_refl _)).up hb3.size (Nat.le_refl _)) hn ((hl.below hw3 (Nat.le_refl _)).up hw3.size (Nat.le_refl _)) hY hs hq hsp hap (by have := hw3.size; omega) (box_keeps hw3 hyb hcy)

theorem pathPuts_any (a : Nat → Addr) (d : Nat) (n X : Tree) (us ux : Value) (s q : ByteArray) (w : World) (S0 : Sents a w) (hm0 : ∃ m, w.cell? ⟨14, 0, none⟩ = some (.int .i64 m)) (hls : Lies w w.heap.size d n.kids us) (hlx : Lies w w.heap.size d X.kids ux) (hsm : s.size ≤ maxLen) (hqm : q.size ≤ maxLen) :
    Calls Tryd.prog 3 #[.agg #[.string n.kind, .string n.data, .bool n.exec, us], .string s, .string q, .agg #[.string X.kind, .string X.data, .bool X.exec, ux]] w fun e w' => e = .returned (.bool true) ∧ Below w.heap.size w w' := by
  obtain ⟨sa, sc, rfl⟩ := hls.form
  obtain ⟨za, zc, rfl⟩ := hlx.form
  have gW : Below w.heap.size w ((w.alloc (.cells #[.string n.kind, .string n.data, .bool n.exec, .slice sa n.kids.length sc] 24)).alloc (.cells #[.string X.kind, .string X.data, .bool X.exec, .slice za X.kids.length zc] 24)) := ((Below.refl _ _).alloc (Nat.le_refl _) _).alloc (by simp) _
  have hx := row4b (show ((w.alloc (.cells #[.string n.kind, .string n.data, .bool n.exec, .slice sa n.kids.length sc] 24)).alloc (.cells #[.string X.kind, .string X.data, .bool X.exec, .slice za X.kids.length zc] 24)).heap[w.heap.size]? = _ by rw [Below.heap_alloc _ _ _ (by simp)]; exact row_alloc' _ _ _)
  have hy := row4b (show ((w.alloc (.cells #[.string n.kind, .string n.data, .bool n.exec, .slice sa n.kids.length sc] 24)).alloc (.cells #[.string X.kind, .string X.data, .bool X.exec, .slice za X.kids.length zc] 24)).heap[w.heap.size + 1]? = some (.cells #[.string X.kind, .string X.data, .bool X.exec, .slice za X.kids.length zc] 24 (0, 0)) by
    have := row_alloc' (w.alloc (.cells #[.string n.kind, .string n.data, .bool n.exec, .slice sa n.kids.length sc] 24)) #[.string X.kind, .string X.data, .bool X.exec, .slice za X.kids.length zc] 24
    simpa using this)
  have z1 : ((w.alloc (.cells #[.string n.kind, .string n.data, .bool n.exec, .slice sa n.kids.length sc] 24)).alloc (.cells #[.string X.kind, .string X.data, .bool X.exec, .slice za X.kids.length zc] 24)).heap.size = w.heap.size + 2 := by simp
  obtain ⟨W0, hW0⟩ : ∃ W0, W0 = (w.alloc (.cells #[.string n.kind, .string n.data, .bool n.exec, .slice sa n.kids.length sc] 24)).alloc (.cells #[.string X.kind, .string X.data, .bool X.exec, .slice za X.kids.length zc] 24) := ⟨_, rfl⟩
  rw [← hW0] at hx hy gW z1
  have S := S0.below gW
  have hm : ∃ m, W0.cell? ⟨14, 0, none⟩ = some (.int .i64 m) := by
    obtain ⟨m, h⟩ := hm0
    exact ⟨m, by rw [gW.cell (p := ⟨14, 0, none⟩) (lt_of_cell h)]; exact h⟩
  have P : PSen a W0 := psen_sents S hm
  have lA := (hls.below gW (Nat.le_refl _)).up gW.size (Nat.le_refl _)
  have lB := (hlx.below gW (Nat.le_refl _)).up gW.size (Nat.le_refl _)
  have hR : ∀ w', Below W0.heap.size W0 w' → Below w.heap.size w w' := fun w' h => gW.trans (h.mono gW.size)
  have go : ∀ {w' w''}, Below W0.heap.size W0 w' → Below w'.heap.size w' w'' → Below W0.heap.size W0 w'' := fun h h2 => h.trans (h2.mono h.size)
  have b1 := largeN_bounds 100 n
  have b2 := largeN_bounds 60 X
  refine puts_skel n.kind n.data n.exec sa n.kids.length sc X.kind X.data X.exec za X.kids.length zc s q w (largeN 100 n) (largeN 60 X) (by omega) (by omega) hsm hqm (fun w' => Below w.heap.size w w') (fun w' => Below W0.heap.size W0 w') hR ?_ (fun w' h => h.drew) ?_ ?_ ?_ ?_
  · rw [← hW0]; exact pathed_any a W0 P
  · intro w' h
    have h1 := box_keeps h (by omega) hx.1
    have h2 := box_keeps h (by omega) hy.1
    exact ⟨h1.1, h1.2.1, h1.2.2.1, h1.2.2.2, h2⟩
  · exact fun w' h => (large_any W0.heap.size d 100 n _ w' h.size (lA.below h (Nat.le_refl _)) (by omega)).mono fun e w'' ⟨h1, h2⟩ => ⟨h1, go h h2⟩
  · exact fun w' h => (large_any W0.heap.size d 60 X _ w' h.size (lB.below h (Nat.le_refl _)) (by omega)).mono fun e w'' ⟨h1, h2⟩ => ⟨h1, go h h2⟩
  · intro hl hs hq w' h
    have okN : OkT 12 n := OkT.small lA.fit (largeN_zero (n := 100) (t := n) (by omega))
    have okX : OkT 12 X := OkT.small lB.fit (largeN_zero (n := 60) (t := X) (by omega))
    refine (own_any W0.heap.size d n _ w' h.size (lA.below h (Nat.le_refl _))).mono ?_
    rintro e w1 ⟨u1, rfl, hq1, hb1⟩
    obtain ⟨xa, xc, rfl⟩ := hq1.form
    have g1 : Below w1.heap.size w1 (w1.alloc (.cells #[.string n.kind, .string n.data, .bool n.exec, .slice xa n.kids.length xc] 24)) := (Below.refl _ _).alloc (Nat.le_refl _) _
    have hB1 := go h hb1
    have hxx := (row4b (row_alloc' w1 #[.string n.kind, .string n.data, .bool n.exec, .slice xa n.kids.length xc] 24)).1
    have zz : w1.heap.size < (w1.alloc (.cells #[.string n.kind, .string n.data, .bool n.exec, .slice xa n.kids.length xc] 24)).heap.size := by simp
    have lx : Lies w1 w1.heap.size d n.kids (.slice xa n.kids.length xc) := hq1.lies fun k hk => hk.2
    refine ⟨xa, xc, rfl, ?_⟩
    have hBW := go hB1 g1
    have lN := (lx.below g1 (Nat.le_refl _)).up g1.size (Nat.le_refl d)
    generalize w1.alloc (.cells #[.string n.kind, .string n.data, .bool n.exec, .slice xa n.kids.length xc] 24) = W at *
    have lX := (lB.below hBW (Nat.le_refl _)).up hBW.size (Nat.le_refl d)
    have hyW := box_keeps hBW (by omega) hy.1
    have hzW := hBW.size
    have gow : ∀ {w' w''}, Below W.heap.size W w' → Below w'.heap.size w' w'' → Below W.heap.size W w'' := fun h h2 => h.trans (h2.mono h.size)
    have SW := S.below hBW
    have hmW : ∃ m, W.cell? ⟨14, 0, none⟩ = some (.int .i64 m) := by
      obtain ⟨m, h⟩ := hm
      exact ⟨m, by rw [hBW.cell (p := ⟨14, 0, none⟩) (lt_of_cell h)]; exact h⟩
    have PW : PSen a W := psen_sents SW hmW
    have hRW : ∀ w', Below W.heap.size W w' → Below w.heap.size w w' := fun w' h => hR w' (go hBW h)
    refine ⟨fun w' hw => ?_, fun w' hw => ?_⟩
    · have h1 := box_keeps hw zz hxx
      have h2 := box_keeps hw (by omega) hyW
      exact ⟨h1.1, h1.2.1, h1.2.2.1, h1.2.2.2, h2⟩
    · refine (own_any W.heap.size d X _ w' hw.size (lX.below hw (Nat.le_refl _))).mono ?_
      rintro e w2 ⟨u2, rfl, hq2, hb2⟩
      obtain ⟨ya, yc, rfl⟩ := hq2.form
      refine ⟨ya, yc, rfl, hb2, fun w3 hb3 => ?_⟩
      have hw2 := gow hw hb2
      have hw3 := gow hw2 hb3
      have lY : Lies w3 w3.heap.size d X.kids (.slice ya X.kids.length yc) := ((hq2.lies fun k hk => hk.2).below hb3 (Nat.le_refl _)).up hb3.size (Nat.le_refl _)
      refine (put_any a d d w3.heap.size n X _ _ s w3 (PW.below hw3) (Nat.le_refl _) ((lN.below hw3 (Nat.le_refl _)).up hw3.size (Nat.le_refl _)) lY (okN.alive (by omega)) (by omega) (fun l hsp _ => (OkT.set okX okN fun x hx => by have := name_size (List.all_eq_true.1 (splitR_names hsp) x hx); omega).alive (by have := splitR_len hsp; omega))).mono ?_
      rintro e w4 ⟨hb4, ⟨er, h1, rfl⟩ | ⟨Y, u, h1, rfl, hfr⟩⟩
      · refine ⟨_, _, _, _, _, _, _, rfl, hb4, fun yb w5 h5 hyb _ _ => .inl ⟨⟨_, _, rfl⟩, zero_empty, rfl, ?_⟩⟩
        have hw4 := gow hw3 hb4
        exact hRW _ (h5.below hw4 hyb hw4.size)
      · obtain ⟨ua, uc, rfl⟩ := hfr.lies.form
        obtain ⟨l, ht, hsp, rfl, hY⟩ := putR_is h1
        refine ⟨_, _, _, ua, _, uc, _, rfl, hb4, fun yb w5 h5 hyb hor hcy => ?_⟩
        have hw4 := gow hw3 hb4
        have hw5 := h5.below hw4 hyb hw4.size
        have lies5 : Lies w5 w5.heap.size (d + 1 + d) (setAt X l n).kids (.slice ua (setAt X l n).kids.length uc) := (hfr w5 (fun k hk1 hk2 => h5.block k hk2 (by omega)) h5.size).up h5.size (Nat.le_refl _)
        exact pu_after a d (d + 1 + d) n X xa za ua xc zc uc w1.heap.size w.heap.size yb s q l W w5 SW hmW _ hRW hw5 (by omega) lN lX ht lies5 hY hs hq hsp (lt_of_cell hcy.1) hcy zz hxx (by omega) hyW
end Go.Proofs.YtilkjafggfdjeabDoor
