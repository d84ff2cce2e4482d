/-
  A node dropped: what the tree is, in plain mathematics and in memory of its own. Conditions: those that each states.
-/
import Derived.Test.YtpjjpmikhjlgnaaGreatDoorPutP
import Derived.Test.YtpjjpmikhjlgnaaGreatDoorRoom
namespace Go.Proofs.YtpjjpmikhjlgnaaGreatDoor
open Go.RowKit

theorem rises_sub {l m : List (ByteArray × Tree)} (hr : Rises l) (hs : m.Sublist l) : Rises m := by
  have e : ∀ l : List (ByteArray × Tree), Rises l ↔ l.Pairwise fun x y => Op.bytesLess x.1.toList y.1.toList = true := fun l => by
    rw [List.pairwise_iff_getElem]
    constructor
    · intro h i j hi hj hij
      exact h i j _ _ hij (List.getElem?_eq_getElem hi) (List.getElem?_eq_getElem hj)
    · intro h i j x y hij hx hy
      obtain ⟨hi, rfl⟩ := List.getElem?_eq_some_iff.1 hx
      obtain ⟨hj, rfl⟩ := List.getElem?_eq_some_iff.1 hy
      exact h i j hi hj hij
  rw [e] at hr ⊢
  exact hr.sublist hs
theorem set_names {l : List (ByteArray × Tree)} {x : ByteArray} {k : Tree} (ht : thereAt l x = true) (i : Nat) : ((setKid l x k)[i]?).map (·.1) = (l[i]?).map (·.1) := by
  unfold setKid
  rw [if_pos ht]
  obtain ⟨y, hy, e⟩ := there_some ht
  by_cases h : placeOf l x = i
  · subst h
    rw [List.getElem?_set_self (List.getElem?_eq_some_iff.1 hy).1, hy]
    simp [e]
  · rw [List.getElem?_set_ne h]
theorem rises_set {l : List (ByteArray × Tree)} {x : ByteArray} {k : Tree} (hr : Rises l) (ht : thereAt l x = true) : Rises (setKid l x k) := fun i j y z hij hy hz => by
  have h1 := set_names (k := k) ht i
  have h2 := set_names (k := k) ht j
  rw [hy] at h1
  rw [hz] at h2
  cases hyl : l[i]? with
  | none => rw [hyl] at h1; cases h1
  | some y' =>
    cases hzl : l[j]? with
    | none => rw [hzl] at h2; cases h2
    | some z' =>
      rw [hyl] at h1
      rw [hzl] at h2
      simp only [Option.map_some, Option.some.injEq] at h1 h2
      rw [h1, h2]
      exact hr i j y' z' hij hyl hzl
theorem risesTo_of {l : List (ByteArray × Tree)} (hr : Rises l) : risesTo l l.length = true := by
  unfold risesTo
  rw [List.all_eq_true]
  intro j hj
  have hj' := List.mem_range.1 hj
  cases j with
  | zero => rfl
  | succ j =>
    have h1 : l[j]? = some l[j] := List.getElem?_eq_getElem (by omega)
    have h2 : l[j + 1]? = some l[j + 1] := List.getElem?_eq_getElem hj'
    have h3 := hr j (j + 1) _ _ (by omega) h1 h2
    simp only [Nat.add_sub_cancel, h1, h2, Option.map_some, Option.getD_some, h3, Bool.or_true]
/-- Of a dir, other kids. -/
theorem node_kids {t : Tree} {K : List (ByteArray × Tree)} (h : nodeErr t = none) (hne : t.kids ≠ []) (hn : ∀ x ∈ K, nameB x.1 = true) (hr : Rises K) : nodeErr { t with kids := K } = none := by
  have hp : 0 < t.kids.length := by
    cases hk : t.kids with
    | nil => exact absurd hk hne
    | cons a b => simp
  unfold nodeErr at h
  cases hf : isFile t with
  | true =>
    rw [if_pos hf] at h
    unfold fileErr at h
    rw [if_pos hp] at h
    cases h
  | false =>
    rw [if_neg (by rw [hf]; decide)] at h
    cases hd : isDir t with
    | false =>
      rw [if_neg (by rw [hd]; decide)] at h
      split at h
      · unfold linkErr at h
        rw [if_pos (.inr hp)] at h
        cases h
      · cases h
    | true =>
      rw [if_pos hd] at h
      have e1 : isFile { t with kids := K } = false := hf
      have e2 : isDir { t with kids := K } = true := hd
      unfold nodeErr
      rw [if_neg (by rw [e1]; decide), if_pos e2]
      unfold dirErr at h ⊢
      simp only
      split at h
      · cases h
      · rename_i h1
        rw [if_neg h1, if_pos (List.all_eq_true.2 hn), if_pos (risesTo_of hr)]
/-- A tree with a node dropped at names. -/
def dropAt : List ByteArray → Tree → Tree
  | [], t => t
  | [x], t => { t with kids := t.kids.eraseIdx (placeOf t.kids x) }
  | x :: y :: r, t => { t with kids := setKid t.kids x (dropAt (y :: r) ((kidOf t x).getD zeroT)) }
theorem names_well {t : Tree} (h : nodeErr t = none) (hne : t.kids ≠ []) : ∀ x ∈ t.kids, nameB x.1 = true := by
  have hp : 0 < t.kids.length := by
    cases hk : t.kids with
    | nil => exact absurd hk hne
    | cons a b => simp
  unfold nodeErr at h
  split at h
  · unfold fileErr at h
    rw [if_pos hp] at h
    cases h
  · split at h
    · unfold dirErr at h
      split at h
      · cases h
      · split at h
        · rename_i h2
          exact fun x hx => List.all_eq_true.1 h2 x hx
        · cases h
    · split at h
      · unfold linkErr at h
        rw [if_pos (.inr hp)] at h
        cases h
      · cases h
theorem sum_set {α : Type} (f : α → Nat) : ∀ {l : List α} {i : Nat} {x y : α}, l[i]? = some x → f y ≤ f x → ((l.set i y).map f).sum ≤ (l.map f).sum
  | [], i, x, y, h, _ => by simp at h
  | a :: l, 0, x, y, h, hf => by
    simp only [List.getElem?_cons_zero, Option.some.injEq] at h
    subst h
    simp only [List.set_cons_zero, List.map_cons, List.sum_cons]
    omega
  | a :: l, i + 1, x, y, h, hf => by
    have := sum_set f (l := l) (i := i) (x := x) (y := y) (by simpa using h) hf
    simp only [List.set_cons_succ, List.map_cons, List.sum_cons]
    omega
theorem sum_erase {α : Type} (f : α → Nat) : ∀ (l : List α) (i : Nat), ((l.eraseIdx i).map f).sum ≤ (l.map f).sum
  | [], i => by simp
  | a :: l, 0 => by simp
  | a :: l, i + 1 => by
    have := sum_erase f l i
    simp only [List.eraseIdx_cons_succ, List.map_cons, List.sum_cons]
    omega
/-- It is well, and no larger. -/
theorem drop_well : ∀ {l : List ByteArray} {d : Nat} {p : ByteArray} {n : Nat} {t k : Tree}, RisesD d t → atR l t = some k → (∀ x ∈ pre d p n t, x.2.1 ≤ 8 ∧ nodeErr x.2.2 = none) →
    (∀ x ∈ pre d p n (dropAt l t), x.2.1 ≤ 8 ∧ nodeErr x.2.2 = none) ∧ (pre d p n (dropAt l t)).length ≤ (pre d p n t).length ∧ RisesD d (dropAt l t)
  | _, 0, _, _, _, _, h, _, _ => h.elim
  | [], d + 1, p, n, t, k, h, _, hw => ⟨hw, Nat.le_refl _, h⟩
  | [x], d + 1, p, n, t, k, h, hk, hw => by
    have hk' : kidOf t x = some k := by
      simp only [atR] at hk
      cases hq : kidOf t x with
      | none => rw [hq] at hk; cases hk
      | some q => rw [hq] at hk; exact hk
    have hm := (kid_mem h.1).1 hk'
    have hne : t.kids ≠ [] := fun e => by rw [e] at hm; simp at hm
    have hsub : ∀ y ∈ t.kids.eraseIdx (placeOf t.kids x), y ∈ t.kids := fun y hy => List.mem_of_mem_eraseIdx hy
    simp only [pre, List.mem_cons, List.mem_flatMap, dropAt] at hw ⊢
    have ht := hw _ (.inl rfl)
    have hr := rises_sub h.1 (List.eraseIdx_sublist t.kids (placeOf t.kids x))
    refine ⟨?_, ?_, hr, fun y hy => h.2 y (hsub y hy)⟩
    · rintro y (rfl | ⟨z, hz, hy⟩)
      · exact ⟨ht.1, node_kids ht.2 hne (fun y hy => names_well ht.2 hne y (hsub y hy)) hr⟩
      · exact hw y (.inr ⟨z, hsub z hz, hy⟩)
    · simp only [List.length_cons, List.length_flatMap]
      have := sum_erase (fun y : ByteArray × Tree => (pre d (p ++ slash ++ y.1) (n + 1) y.2).length) t.kids (placeOf t.kids x)
      omega
  | x :: y :: r, d + 1, p, n, t, k, h, hk, hw => by
    cases hq : kidOf t x with
    | none => simp only [atR, hq] at hk; cases hk
    | some q =>
      have hk2 : atR (y :: r) q = some k := by
        rw [atR, hq] at hk
        exact hk
      have hm := (kid_mem h.1).1 hq
      have hne : t.kids ≠ [] := fun e => by rw [e] at hm; simp at hm
      have hth : thereAt t.kids x = true := (there_mem h.1).2 ⟨_, hm, rfl⟩
      have ih := drop_well (l := y :: r) (p := p ++ slash ++ x) (n := n + 1) (h.2 _ hm) hk2 fun z hz => hw z (by simp only [pre]; exact List.mem_cons_of_mem _ (List.mem_flatMap.2 ⟨_, hm, hz⟩))
      have hmem := fun z => setKid_mem (x := x) (k := dropAt (y :: r) q) h.1 z
      have hr := rises_set (k := dropAt (y :: r) q) h.1 hth
      simp only [pre, List.mem_cons, List.mem_flatMap, dropAt, hq, Option.getD_some] at hw ⊢
      have ht := hw _ (.inl rfl)
      refine ⟨?_, ?_, hr, fun z hz => ?_⟩
      · rintro z (rfl | ⟨v, hv, hz⟩)
        · refine ⟨ht.1, node_kids ht.2 hne (fun v hv => ?_) hr⟩
          rcases (hmem v).1 hv with rfl | ⟨_, hv⟩
          · exact names_well ht.2 hne (x, q) hm
          · exact names_well ht.2 hne v hv
        · rcases (hmem v).1 hv with rfl | ⟨_, hv⟩
          · exact ih.1 z hz
          · exact hw z (.inr ⟨v, hv, hz⟩)
      · obtain ⟨y', hy', e⟩ := there_some hth
        have hy2 : y' = (x, q) := by
          have hmm := List.mem_of_getElem? hy'
          have e2 : kidOf t x = some y'.2 := (kid_mem h.1).2 (by rw [← e]; exact hmm)
          rw [hq] at e2
          obtain ⟨u1, u2⟩ := y'
          simp only at e e2
          injection e2 with e2
          rw [e, e2]
        subst hy2
        have hs := sum_set (fun v : ByteArray × Tree => (pre d (p ++ slash ++ v.1) (n + 1) v.2).length) (y := (x, dropAt (y :: r) q)) hy' ih.2.1
        unfold setKid
        rw [if_pos hth]
        simp only [List.length_cons, List.length_flatMap]
        omega
      · rcases (hmem z).1 hz with rfl | ⟨_, hz⟩
        · exact ih.2.2
        · exact h.2 z hz
theorem drop_tree {l : List ByteArray} {d : Nat} {t k : Tree} (hf : Fit d t) (h : treeErr d t = none) (hk : atR l t = some k) : treeErr d (dropAt l t) = none ∧ RisesD d (dropAt l t) := by
  have hn := treeErr_none.1 h
  have := drop_well (p := ByteArray.empty) (n := 0) (rises_well hf h) hk hn.2
  exact ⟨treeErr_none.2 ⟨Nat.le_trans this.2.1 hn.1, this.1⟩, this.2.2⟩
/-- It is gone. -/
theorem at_drop : ∀ {l : List ByteArray} {d : Nat} {t k : Tree}, l ≠ [] → RisesD d t → atR l t = some k → atR l (dropAt l t) = none
  | [], _, _, _, h, _, _ => absurd rfl h
  | [x], d, t, k, _, h, hk => by
    simp only [atR, dropAt]
    have hr := rises_sub (rises_top h) (List.eraseIdx_sublist t.kids (placeOf t.kids x))
    cases hq : kidOf { t with kids := t.kids.eraseIdx (placeOf t.kids x) } x with
    | none => rfl
    | some q =>
      have hm := (kid_mem (t := { t with kids := t.kids.eraseIdx (placeOf t.kids x) }) hr).1 hq
      obtain ⟨i, hi⟩ := List.mem_iff_getElem?.1 hm
      rw [List.getElem?_eraseIdx] at hi
      split at hi
      · rename_i h1
        have := place_at (rises_top h) hi
        simp only at this
        omega
      · rename_i h1
        have := place_at (rises_top h) hi
        simp only at this
        omega
  | x :: y :: r, d, t, k, _, h, hk => by
    cases hq : kidOf t x with
    | none => simp only [atR, hq] at hk; cases hk
    | some q =>
      have hk2 : atR (y :: r) q = some k := by
        rw [atR, hq] at hk
        exact hk
      have hm := (kid_mem (rises_top h)).1 hq
      have hth : thereAt t.kids x = true := (there_mem (rises_top h)).2 ⟨_, hm, rfl⟩
      obtain ⟨e, he⟩ := rises_kid h hq
      have hs := kid_set (z := x) (x := x) (k := dropAt (y :: r) q) (rises_top h) (rises_set (rises_top h) hth)
      rw [if_pos rfl] at hs
      have ih := at_drop (l := y :: r) (by simp) he hk2
      simp only [dropAt, hq, Option.getD_some]
      rw [atR, hs]
      exact ih
end Go.Proofs.YtpjjpmikhjlgnaaGreatDoor
namespace Go.Proofs.YtpjjpmikhjlgnaaGreatDoor
open Go.RowKit

/-- A kid taken out, told by its dir. -/
theorem set_drop {x : ByteArray} : ∀ {m : List ByteArray} {t k : Tree}, atR m t = some k → setAt { k with kids := k.kids.eraseIdx (placeOf k.kids x) } m t = dropAt (m ++ [x]) t
  | [], t, k, h => by
    simp only [atR, Option.some.injEq] at h
    subst h
    rfl
  | z :: r, t, k, h => by
    simp only [atR] at h
    cases hq : kidOf t z with
    | none => rw [hq] at h; cases h
    | some q =>
      rw [hq] at h
      simp only at h
      have ih := set_drop (x := x) h
      have e : dropAt (z :: (r ++ [x])) t = { t with kids := setKid t.kids z (dropAt (r ++ [x]) ((kidOf t z).getD zeroT)) } := by
        cases r with
        | nil => rfl
        | cons y r => rfl
      show setAt _ (z :: r) t = dropAt (z :: (r ++ [x])) t
      rw [e]
      simp only [setAt, hq, Option.getD_some, ih]
/-- A kid taken out. -/
theorem drop_new {w w1 : World} {Q : Nat → Prop} {d b0 b o g c p : Nat} {t k : Tree} {m : List ByteArray} {u : Value} {xs : List Value}
    (hQ : ∀ q, Q q → q < w.heap.size ∧ q ≠ b0) (hbox : w.heap[b0]? = some (.cells #[.string t.kind, .string t.data, .bool t.exec, u] 24 (0, 0)))
    (hO : OwnT w Q d t.kids u) (hat : atR m t = some k) (had : AddrAt w m t b0 0 b o) (hud : w.cell? ⟨b, o + 3, none⟩ = some (.slice (some ⟨g, 0, none⟩) k.kids.length c)) (hp : p < k.kids.length) (hxs : w.ownsRow 0 65 5 (.slice (some ⟨g, 0, none⟩) k.kids.length c) k.kids.length xs)
    (hdel : w1.ownsRow 0 65 5 (.slice (some ⟨g, 0, none⟩) (k.kids.length - 1) c) (k.kids.length - 1) (xs.take (p * 5) ++ xs.drop ((p + 1) * 5))) (hg : w.grownBy w1 (some g)) :
    ∃ u', (w1.setCell ⟨b, o + 3, none⟩ (.slice (some ⟨g, 0, none⟩) (k.kids.length - 1) c)).heap[b0]? = some (.cells #[.string t.kind, .string t.data, .bool t.exec, u'] 24 (0, 0)) ∧
      OwnT (w1.setCell ⟨b, o + 3, none⟩ (.slice (some ⟨g, 0, none⟩) (k.kids.length - 1) c)) (fun q => Q q ∨ (w.heap.size ≤ q ∧ q < w1.heap.size)) (d + 1) (setAt { k with kids := k.kids.eraseIdx p } m t).kids u' ∧
      Kept (fun q => q = b0 ∨ Q q) w (w1.setCell ⟨b, o + 3, none⟩ (.slice (some ⟨g, 0, none⟩) (k.kids.length - 1) c)) := by
  obtain ⟨⟨y0, y1, y2, y3⟩, _⟩ := row4b hbox
  have hb0 : b0 < w.heap.size := lt_of_cell y0
  obtain ⟨Qk, dk, ud', hC, hOk, _, hQk, hmb, _⟩ := own_at hO (o0 := 0) ⟨y0, y1, y2, y3⟩ (fun i => free_of_row hbox i) (fun q hq => (hQ q hq).2) hat had
  obtain rfl : ud' = .slice (some ⟨g, 0, none⟩) k.kids.length c := Option.some.inj (hC.kids.symm.trans hud)
  have hown : ∀ q, (Value.slice (some ⟨g, 0, none⟩) k.kids.length c).ownBlock = some q → Qk q := own_block hOk
  have hQg : Qk g := hown g rfl
  have hbl : b < w.heap.size := lt_of_cell hud
  have hbo : g ≠ b := fun e => (hQk b (e ▸ hQg)).2 rfl
  have hb0o : g ≠ b0 := fun e => (hQ b0 (hQk b0 (e ▸ hQg)).1).2 rfl
  have hw1b : w1.heap[b]? = w.heap[b]? := hg.block b hbl fun e => hbo (Option.some.inj e).symm
  generalize hW2 : w1.setCell ⟨b, o + 3, none⟩ (.slice (some ⟨g, 0, none⟩) (k.kids.length - 1) c) = w2
  have hz2 : w2.heap.size = w1.heap.size := by rw [← hW2]; simp [World.setCell]
  have hoth : ∀ q, q ≠ b → w2.heap[q]? = w1.heap[q]? := fun q hq => by rw [← hW2]; exact Below.heap_setCell _ _ _ _ hq
  have hsame : ∀ q, q ≠ b → (Value.slice (some ⟨g, 0, none⟩) k.kids.length c).ownBlock ≠ some q → q < w.heap.size → w2.heap[q]? = w.heap[q]? := fun q h1 h2 h3 => by
    rw [hoth q h1]
    exact hg.block q h3 fun e => h2 e.symm
  have hK : ∀ Qk dk, OwnT w Qk dk k.kids (.slice (some ⟨g, 0, none⟩) k.kids.length c) → (∀ q, Qk q → q < w.heap.size ∧ q ≠ b) → OwnT w2 (fun q => Qk q ∨ (w.heap.size ≤ q ∧ q < w2.heap.size)) (dk + 1) (k.kids.eraseIdx p) (.slice (some ⟨g, 0, none⟩) (k.kids.length - 1) c) := fun Qk dk h hq => by
    refine (own_delete h (fun q h1 => (hq q h1).1) hp hxs hdel hg).kept (fun q h1 => hoth q ?_) (fun q h1 => by rw [hz2]; exact h1)
    rcases h1 with h1 | h1
    · exact (hq q h1).2
    · omega
  have hkept : Kept (fun q => q = b0 ∨ Q q) w w2 := by
    refine ⟨?_, ?_, ?_, by rw [hz2]; exact hg.size, fun q hq hc => ?_⟩
    · rw [← hW2]; exact hg.os
    · rw [← hW2]; exact hg.tape
    · rw [← hW2]; exact hg.output
    · refine hsame q (fun e => ?_) (fun e => hc (.inr (hQk q (hown q e)).1)) hq
      rcases hmb with rfl | hb
      · exact hc (.inl (by rw [e]; exact had.1))
      · exact hc (.inr (by rw [e]; exact hb))
  cases m with
  | nil =>
    simp only [atR, Option.some.injEq] at hat
    subst hat
    obtain ⟨rfl, rfl⟩ := had
    have hu : u = .slice (some ⟨g, 0, none⟩) t.kids.length c := by
      rw [Nat.zero_add, y3] at hud
      exact Option.some.inj hud
    subst hu
    refine ⟨.slice (some ⟨g, 0, none⟩) (t.kids.length - 1) c, ?_, ?_, hkept⟩
    · rw [← hW2, setCell_block hw1b]
      simp [World.setCell, Array.getElem?_modify, hbox]
    · have := hK Q d hO fun q hq => ⟨(hQ q hq).1, (hQ q hq).2⟩
      rw [hz2] at this
      exact this
  | cons z r =>
    have hQb : Q b := by
      rcases hmb with h | h
      · cases h
      · exact h
    have hne : b0 ≠ b := fun e => (hQ b hQb).2 e.symm
    have hb2 : w2.heap[b0]? = w.heap[b0]? := hsame b0 hne (fun e => hb0o (Option.some.inj e)) hb0
    have hblk : w2.heap[b]? = (w.setCell ⟨b, o + 3, none⟩ (.slice (some ⟨g, 0, none⟩) (k.kids.length - 1) c)).heap[b]? := by
      rw [← hW2]; exact setCell_block hw1b
    obtain ⟨_, _, hnew⟩ := own_kids (k := k) (K := k.kids.eraseIdx p) hud hblk hsame hK (l := z :: r) (by simp) (fun q hq => (hQ q hq).1) hO (by rw [Nat.zero_add]; exact y3) hat had
    refine ⟨u, by rw [hb2]; exact hbox, ?_, hkept⟩
    rw [hz2] at hnew
    exact hnew
/-- What Drop tells. -/
def dropR (d : Nat) (t : Tree) (s : ByteArray) : Except Nat Tree := match treeErr d t with
  | some er => .error er
  | none => match splitR s with
    | none => .error 4
    | some l => if l.isEmpty = true then .error 2 else (match atR l t with
      | none => .error 5
      | some _ => .ok (dropAt l t))
theorem dropR_tree {d er : Nat} {t : Tree} {s : ByteArray} (h : treeErr d t = some er) : dropR d t s = .error er := by unfold dropR; rw [h]
theorem dropR_split {d : Nat} {t : Tree} {s : ByteArray} (h : treeErr d t = none) (h2 : splitR s = none) : dropR d t s = .error 4 := by unfold dropR; rw [h]; simp only [h2]
theorem dropR_top {d : Nat} {t : Tree} {s : ByteArray} (h : treeErr d t = none) (h2 : splitR s = some []) : dropR d t s = .error 2 := by unfold dropR; rw [h]; simp only [h2]; rfl
theorem dropR_none {d : Nat} {t : Tree} {s : ByteArray} {m : List ByteArray} {x : ByteArray} (h : treeErr d t = none) (h2 : splitR s = some (m ++ [x])) (h3 : atR (m ++ [x]) t = none) : dropR d t s = .error 5 := by
  unfold dropR; rw [h]; simp only [h2, h3]; rw [if_neg (by simp)]
theorem dropR_ok {d : Nat} {t k : Tree} {s : ByteArray} {m : List ByteArray} {x : ByteArray} (h : treeErr d t = none) (h2 : splitR s = some (m ++ [x])) (h3 : atR (m ++ [x]) t = some k) : dropR d t s = .ok (dropAt (m ++ [x]) t) := by
  unfold dropR; rw [h]; simp only [h2, h3]; rw [if_neg (by simp)]
end Go.Proofs.YtpjjpmikhjlgnaaGreatDoor
