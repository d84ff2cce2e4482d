/-
  A tree in memory of its own, with a node written anew, or the kids of one dir of it changed: what it is, and where.
-/
import Derived.Test.YtpjjpmikhjlgnaaGreatDoorOwnT
import Derived.Test.YtpjjpmikhjlgnaaGreatDoorPutP
namespace Go.Proofs.YtpjjpmikhjlgnaaGreatDoor
open Go.RowKit

/-- A node's four cells, and its kids in memory below B. -/
structure CellsAt (w : World) (b o : Nat) (t : Tree) (u : Value) : Prop where
  kind : w.cell? ⟨b, o, none⟩ = some (.string t.kind)
  data : w.cell? ⟨b, o + 1, none⟩ = some (.string t.data)
  exec : w.cell? ⟨b, o + 2, none⟩ = some (.bool t.exec)
  kids : w.cell? ⟨b, o + 3, none⟩ = some u
/-- One kid of a row, by its cells. -/
theorem row_kid {w : World} {base : Nat} {l : List (ByteArray × Tree)} {us : List Value} {v u : Value} {g i : Nat} {x : ByteArray × Tree} (h : w.ownsRow base 65 5 v l.length (kidCells l us)) (hg : v.ownBlock = some g) (hx : l[i]? = some x) (hu : us[i]? = some u) :
    w.cell? ⟨g, i * 5, none⟩ = some (.string x.1) ∧ CellsAt w g (i * 5 + 1) x.2 u := by
  have hc := h.cells (g := g) hg
  have hadd : ∀ j, (⟨g, 0, none⟩ : Addr).add j = ⟨g, j, none⟩ := fun j => by unfold Addr.add; split <;> simp_all
  obtain ⟨h0, h1, h2, h3, h4⟩ := kidCells_at hx hu
  have c0 := hc _ _ h0
  have c1 := hc _ _ h1
  have c2 := hc _ _ h2
  have c3 := hc _ _ h3
  have c4 := hc _ _ h4
  rw [hadd] at c0 c1 c2 c3 c4
  exact ⟨c0, c1, c2, c3, c4⟩
/-- Kids, each by its cells, lie. -/
theorem lies_cells {w : World} {B d g cap : Nat} {l : List (ByteArray × Tree)} (hlen : l.length ≤ 1759218604390) (hs : ∀ x ∈ l, x.1.size ≤ 140737488355328) (hg : g < B)
    (h : ∀ i x, l[i]? = some x → ∃ u, w.cell? ⟨g, i * 5, none⟩ = some (.string x.1) ∧ CellsAt w g (i * 5 + 1) x.2 u ∧ Lies w B d x.2.kids u) : Lies w B (d + 1) l (.slice (some ⟨g, 0, none⟩) l.length cap) :=
  ⟨some ⟨g, 0, none⟩, cap, rfl, hlen, fun i x hx => by
    obtain ⟨u, h0, c, hl⟩ := h i x hx
    refine ⟨g, 0, u, rfl, hg, hs x (List.mem_of_getElem? hx), ?_⟩
    simp only [Nat.zero_add]
    exact ⟨h0, c.kind, c.data, c.exec, c.kids, hl⟩⟩
theorem CellsAt.same {w w' : World} {b o : Nat} {t : Tree} {u : Value} (h : CellsAt w b o t u) (hc : ∀ j, o ≤ j → j < o + 4 → w'.cell? ⟨b, j, none⟩ = w.cell? ⟨b, j, none⟩) : CellsAt w' b o t u :=
  ⟨by rw [hc o (by omega) (by omega)]; exact h.kind, by rw [hc (o + 1) (by omega) (by omega)]; exact h.data, by rw [hc (o + 2) (by omega) (by omega)]; exact h.exec, by rw [hc (o + 3) (by omega) (by omega)]; exact h.kids⟩
/-- What a row of kids is opened to. -/
theorem own_open {w : World} {Q : Nat → Prop} {d g go n c : Nat} {l : List (ByteArray × Tree)} (h : OwnT w Q (d + 1) l (.slice (some ⟨g, go, none⟩) n c)) :
    go = 0 ∧ n = l.length ∧ l.length ≤ 1759218604390 ∧ (∀ x ∈ l, x.1.size ≤ 140737488355328) ∧ Q g ∧ ∃ (us : List Value) (Qs : Nat → Nat → Prop), us.length = l.length ∧ (∀ i x u, l[i]? = some x → us[i]? = some u → w.cell? ⟨g, i * 5, none⟩ = some (.string x.1) ∧ CellsAt w g (i * 5 + 1) x.2 u ∧ OwnT w (Qs i) d x.2.kids u) ∧
      (∀ i k, Qs i k → Q k ∧ k ≠ g) ∧ ∀ i j k, i ≠ j → Qs i k → ¬ Qs j k := by
  obtain ⟨h1, h2, us, Qs, h3, h4, h5, h6, h7, h8⟩ := h
  have hf : go = 0 ∧ n = l.length := by
    rcases h4.2 with ⟨e, _⟩ | ⟨g', cap, cur, e, _⟩
    · simp at e
    · simp only [Value.slice.injEq, Option.some.injEq, Addr.mk.injEq] at e
      exact ⟨e.1.2.1, e.2.1⟩
  obtain ⟨rfl, rfl⟩ := hf
  refine ⟨rfl, rfl, h1, h2, h5 g rfl, us, Qs, h3, fun i x u hx hu => ?_, fun i k hk => ⟨(h7 i k hk).1, fun e => (h7 i k hk).2 (by rw [e]; rfl)⟩, h8⟩
  obtain ⟨c0, c1⟩ := row_kid h4 (g := g) rfl hx hu
  exact ⟨c0, c1, h6 i x u hx hu⟩
theorem set_there {t k : Tree} {x : ByteArray} (K : Tree) (h : kidOf t x = some k) : setKid t.kids x K = t.kids.set (placeOf t.kids x) (x, K) ∧ t.kids[placeOf t.kids x]? = some (x, k) := by
  have hth : thereAt t.kids x = true := by
    cases ht : thereAt t.kids x with
    | true => rfl
    | false => rw [kid_none.2 ht] at h; cases h
  refine ⟨by unfold setKid; rw [if_pos hth], ?_⟩
  obtain ⟨y, hy, e⟩ := there_some hth
  unfold kidOf at h
  rw [if_pos hth, hy] at h
  simp only [Option.map_some, Option.some.injEq] at h
  rw [hy, ← e, ← h]
/-- A node written at names: where it was, and nothing else of the tree's memory, is changed. -/
theorem own_put {w w' : World} {B : Nat} {X : Tree} {ux : Value} {b o : Nat} {dX : Nat} {P : Nat → Prop} (hX : Lies w' B dX X.kids ux) (hC : CellsAt w' b o X ux) (hsame : ∀ k, k ≠ b → P k → w'.heap[k]? = w.heap[k]?) (hoth : ∀ j, j < o ∨ o + 4 ≤ j → w'.cell? ⟨b, j, none⟩ = w.cell? ⟨b, j, none⟩) :
    ∀ {l : List ByteArray} {d : Nat} {Q : Nat → Prop} {t : Tree} {u : Value} {b0 o0 : Nat}, l ≠ [] → (∀ k, Q k → k < B ∧ P k) → OwnT w Q d t.kids u → w.cell? ⟨b0, o0 + 3, none⟩ = some u → AddrAt w l t b0 o0 b o → Q b ∧ Lies w' B (d + dX) (setAt X l t).kids u
  | [], _, _, _, _, _, _, h, _, _, _, _ => absurd rfl h
  | _ :: _, 0, _, _, _, _, _, _, _, h, _, _ => h.elim
  | [x], d + 1, Q, t, u, b0, o0, _, hQ, hO, hu, ⟨k, g, go, n, c, hk, hc, hb, ho⟩ => by
    rw [hu] at hc
    simp only [Option.some.injEq] at hc
    subst hc
    obtain ⟨rfl, rfl, hlen, hsz, hg, us, Qs, hul, hcell, hq1, hq2⟩ := own_open hO
    subst hb
    rw [Nat.zero_add] at ho
    obtain ⟨hset, hpx⟩ := set_there X hk
    have hBg := hQ b hg
    refine ⟨hg, ?_⟩
    show Lies w' B (d + 1 + dX) (setKid t.kids x X) _
    rw [hset, show d + 1 + dX = (d + dX) + 1 by omega]
    have hll : (t.kids.set (placeOf t.kids x) (x, X)).length = t.kids.length := List.length_set
    rw [← hll]
    refine lies_cells (by rw [hll]; exact hlen) (fun y hy => ?_) hBg.1 fun i y hy => ?_
    · rcases List.mem_or_eq_of_mem_set hy with h | h
      · exact hsz y h
      · rw [h]; exact hsz (x, k) (List.mem_of_getElem? hpx)
    · by_cases hi : placeOf t.kids x = i
      · subst hi
        have hpl := (List.getElem?_eq_some_iff.1 hpx).1
        rw [List.getElem?_set_self hpl] at hy
        obtain rfl := Option.some.inj hy
        obtain ⟨v, hv⟩ : ∃ v, us[placeOf t.kids x]? = some v := ⟨us[placeOf t.kids x]'(by omega), List.getElem?_eq_getElem (by omega)⟩
        obtain ⟨c0, _, _⟩ := hcell _ _ _ hpx hv
        refine ⟨ux, ?_, ?_, hX.up (Nat.le_refl _) (by omega)⟩
        · rw [hoth _ (.inl (by omega))]; exact c0
        · rw [← ho]; exact hC
      · rw [List.getElem?_set_ne hi] at hy
        have hil := (List.getElem?_eq_some_iff.1 hy).1
        obtain ⟨v, hv⟩ : ∃ v, us[i]? = some v := ⟨us[i]'(by omega), List.getElem?_eq_getElem (by omega)⟩
        obtain ⟨c0, c1, c2⟩ := hcell _ _ _ hy hv
        have hio : ∀ j, i * 5 ≤ j → j < i * 5 + 5 → j < o ∨ o + 4 ≤ j := fun j h1 h2 => by
          rcases Nat.lt_or_ge i (placeOf t.kids x) with h | h
          · left; omega
          · right; omega
        refine ⟨v, ?_, c1.same fun j h1 h2 => hoth j (hio j (by omega) (by omega)), ?_⟩
        · rw [hoth _ (hio _ (by omega) (by omega))]; exact c0
        · refine Lies.up (Nat.le_refl _) (by omega) ((c2.kept (fun q hq => hsame q (hq1 i q hq).2 (hQ q (hq1 i q hq).1).2) (fun _ h => h)).liesQ.lies fun q hq => (hQ q (hq1 i q hq).1).1)
  | x :: y :: r, d + 1, Q, t, u, b0, o0, _, hQ, hO, hu, ⟨k, g, go, n, c, hk, hc, had⟩ => by
    rw [hu] at hc
    simp only [Option.some.injEq] at hc
    subst hc
    obtain ⟨rfl, rfl, hlen, hsz, hg, us, Qs, hul, hcell, hq1, hq2⟩ := own_open hO
    rw [Nat.zero_add] at had
    obtain ⟨hset, hpx⟩ := set_there (setAt X (y :: r) k) hk
    have hpl := (List.getElem?_eq_some_iff.1 hpx).1
    obtain ⟨v, hv⟩ : ∃ v, us[placeOf t.kids x]? = some v := ⟨us[placeOf t.kids x]'(by omega), List.getElem?_eq_getElem (by omega)⟩
    obtain ⟨c0, c1, c2⟩ := hcell _ _ _ hpx hv
    obtain ⟨hqb, hl⟩ := own_put hX hC hsame hoth (l := y :: r) (by simp) (fun q hq => hQ q (hq1 _ q hq).1) c2 c1.kids had
    have hbg := (hq1 _ b hqb).2
    have hBg := hQ g hg
    have hgs : ∀ j, w'.cell? ⟨g, j, none⟩ = w.cell? ⟨g, j, none⟩ := fun j => World.cell?_of_block (hsame g (fun e => hbg e.symm) hBg.2)
    refine ⟨(hq1 _ b hqb).1, ?_⟩
    have e : (setAt X (x :: y :: r) t).kids = t.kids.set (placeOf t.kids x) (x, setAt X (y :: r) k) := by
      rw [← hset]
      simp only [setAt, hk, Option.getD_some]
    rw [e, show d + 1 + dX = (d + dX) + 1 by omega]
    have hll : (t.kids.set (placeOf t.kids x) (x, setAt X (y :: r) k)).length = t.kids.length := List.length_set
    rw [← hll]
    refine lies_cells (by rw [hll]; exact hlen) (fun z hz => ?_) hBg.1 fun i z hz => ?_
    · rcases List.mem_or_eq_of_mem_set hz with h | h
      · exact hsz z h
      · rw [h]; exact hsz (x, k) (List.mem_of_getElem? hpx)
    · by_cases hi : placeOf t.kids x = i
      · subst hi
        rw [List.getElem?_set_self hpl] at hz
        obtain rfl := Option.some.inj hz
        exact ⟨v, by rw [hgs]; exact c0, ⟨by rw [hgs]; exact c1.kind, by rw [hgs]; exact c1.data, by rw [hgs]; exact c1.exec, by rw [hgs]; exact c1.kids⟩, hl⟩
      · rw [List.getElem?_set_ne hi] at hz
        have hil := (List.getElem?_eq_some_iff.1 hz).1
        obtain ⟨v2, hv2⟩ : ∃ v, us[i]? = some v := ⟨us[i]'(by omega), List.getElem?_eq_getElem (by omega)⟩
        obtain ⟨e0, e1, e2⟩ := hcell _ _ _ hz hv2
        refine ⟨v2, by rw [hgs]; exact e0, e1.same fun j _ _ => hgs j, ?_⟩
        exact Lies.up (Nat.le_refl _) (by omega) ((e2.kept (fun q hq => hsame q (fun e => hq2 _ i b hi hqb (e ▸ hq)) (hQ q (hq1 i q hq).1).2) (fun _ h => h)).liesQ.lies fun q hq => (hQ q (hq1 i q hq).1).1)
end Go.Proofs.YtpjjpmikhjlgnaaGreatDoor
namespace Go.Proofs.YtpjjpmikhjlgnaaGreatDoor
open Go.RowKit

theorem kidCells_len : ∀ {l : List (ByteArray × Tree)} {us : List Value}, us.length = l.length → (kidCells l us).length = l.length * 5
  | [], [], _ => rfl
  | _ :: l, _ :: us, h => by
    simp only [kidCells, List.length_cons, kidCells_len (l := l) (us := us) (by simpa using h)]
    omega
  | [], _ :: _, h => by simp at h
  | _ :: _, [], h => by simp at h
theorem kidCells_set : ∀ {l : List (ByteArray × Tree)} {us : List Value} {p : Nat} {x : ByteArray} {k K : Tree} {u : Value}, l[p]? = some (x, k) → us.length = l.length → K.kind = k.kind → K.data = k.data → K.exec = k.exec → kidCells (l.set p (x, K)) (us.set p u) = (kidCells l us).set (p * 5 + 4) u
  | [], _, _, _, _, _, _, h, _, _, _, _ => by simp at h
  | _ :: _, [], _, _, _, _, _, _, h, _, _, _ => by simp at h
  | y :: l, v :: us, 0, x, k, K, u, h, _, h1, h2, h3 => by
    simp only [List.getElem?_cons_zero, Option.some.injEq] at h
    subst h
    simp only [List.set_cons_zero, kidCells, h1, h2, h3, Nat.zero_mul, Nat.zero_add]
    rfl
  | y :: l, v :: us, p + 1, x, k, K, u, h, hl, h1, h2, h3 => by
    have ih := kidCells_set (l := l) (us := us) (p := p) (u := u) (by simpa using h) (by simpa using hl) h1 h2 h3
    simp only [List.set_cons_succ, kidCells, ih]
    rw [show (p + 1) * 5 = (p * 5 + 4) + 1 by omega]
    simp only [List.set_cons_succ]
/-- One cell of an owned row is set. -/
theorem ownsRow_set {w w' : World} {g n c i : Nat} {v : Value} {xs : List Value} {e : TypeId} {size : Nat} (h : w.ownsRow 0 e size (.slice (some ⟨g, 0, none⟩) n c) n xs) (hw : w'.heap[g]? = (w.setCell ⟨g, i, none⟩ v).heap[g]?) : w'.ownsRow 0 e size (.slice (some ⟨g, 0, none⟩) n c) n (xs.set i v) := by
  obtain ⟨h1, h2⟩ := h
  refine ⟨by rw [List.length_set]; exact h1, ?_⟩
  rcases h2 with ⟨e1, _⟩ | ⟨g', cap, cur, e1, hb, hh, hnc, hcm, hs, ht⟩
  · simp at e1
  · simp only [Value.slice.injEq, Option.some.injEq, Addr.mk.injEq, and_true, true_and] at e1
    obtain ⟨rfl, rfl⟩ := e1
    refine .inr ⟨g, c, cur.setIfInBounds i v, rfl, Nat.zero_le _, ?_, hnc, hcm, by simpa using hs, ?_⟩
    · rw [hw]
      simp [World.setCell, Array.getElem?_modify, hh]
    · rw [Array.toList_setIfInBounds, List.take_set, ht]
/-- The kids of a dir changed. -/
theorem own_kids {w w' : World} {k : Tree} {K : List (ByteArray × Tree)} {ud uK : Value} {b o : Nat} (hud : w.cell? ⟨b, o + 3, none⟩ = some ud) (hblk : w'.heap[b]? = (w.setCell ⟨b, o + 3, none⟩ uK).heap[b]?) (hsame : ∀ q, q ≠ b → ud.ownBlock ≠ some q → q < w.heap.size → w'.heap[q]? = w.heap[q]?)
    (hK : ∀ Qk dk, OwnT w Qk dk k.kids ud → (∀ q, Qk q → q < w.heap.size ∧ q ≠ b) → OwnT w' (fun q => Qk q ∨ (w.heap.size ≤ q ∧ q < w'.heap.size)) (dk + 1) K uK) :
    ∀ {l : List ByteArray} {d : Nat} {Q : Nat → Prop} {t : Tree} {u : Value} {b0 o0 : Nat}, l ≠ [] → (∀ q, Q q → q < w.heap.size) → OwnT w Q d t.kids u → w.cell? ⟨b0, o0 + 3, none⟩ = some u → atR l t = some k → AddrAt w l t b0 o0 b o →
      Q b ∧ (∀ q, ud.ownBlock = some q → Q q) ∧ OwnT w' (fun q => Q q ∨ (w.heap.size ≤ q ∧ q < w'.heap.size)) (d + 1) (setAt { k with kids := K } l t).kids u
  | [], _, _, _, _, _, _, h, _, _, _, _, _ => absurd rfl h
  | _ :: _, 0, _, _, _, _, _, _, _, h, _, _, _ => h.elim
  | [x], d + 1, Q, t, u, b0, o0, _, hQ, hO, hu, hat, ⟨k', g, go, n, c, hk, hc, hb, ho⟩ => by
    simp only [atR, hk, Option.some.injEq] at hat
    subst hat
    rw [hu] at hc
    simp only [Option.some.injEq] at hc
    subst hc
    have hO2 := hO
    obtain ⟨rfl, rfl, hlen, hsz, hg, _⟩ := own_open hO
    subst hb
    rw [Nat.zero_add] at ho
    obtain ⟨_, _, us, Qs, h3, h4, h5, h6, h7, h8⟩ := hO2
    obtain ⟨hset, hpx⟩ := set_there { k' with kids := K } hk
    have hpl := (List.getElem?_eq_some_iff.1 hpx).1
    obtain ⟨v, hv⟩ : ∃ v, us[placeOf t.kids x]? = some v := ⟨us[placeOf t.kids x]'(by omega), List.getElem?_eq_getElem (by omega)⟩
    obtain ⟨_, c1⟩ := row_kid h4 (g := b) rfl hpx hv
    have hvu : v = ud := by
      have := c1.kids
      rw [← ho, hud] at this
      exact (Option.some.inj this).symm
    subst hvu
    have hkid := h6 _ _ _ hpx hv
    have hQs : ∀ i q, Qs i q → Q q ∧ q ≠ b := fun i q hq => ⟨(h7 i q hq).1, fun e => (h7 i q hq).2 (by rw [e]; rfl)⟩
    have hown : ∀ q, v.ownBlock = some q → Qs (placeOf t.kids x) q := by
      cases d with
      | zero => exact hkid.elim
      | succ d =>
        obtain ⟨_, _, _, _, _, _, z5, _⟩ := hkid
        exact z5
    have hnew := hK (Qs (placeOf t.kids x)) d hkid fun q hq => ⟨hQ q (hQs _ q hq).1, (hQs _ q hq).2⟩
    have hbl := hQ b hg
    refine ⟨hg, fun q hq => (hQs _ q (hown q hq)).1, ?_⟩
    have e : (setAt { k' with kids := K } [x] t).kids = t.kids.set (placeOf t.kids x) (x, { k' with kids := K }) := by
      rw [← hset]
      simp only [setAt]
    rw [e]
    have hll : (t.kids.set (placeOf t.kids x) (x, ({ k' with kids := K } : Tree))).length = t.kids.length := List.length_set
    refine ⟨by rw [hll]; exact hlen, fun y hy => ?_, us.set (placeOf t.kids x) uK, fun i => if i = placeOf t.kids x then (fun q => Qs (placeOf t.kids x) q ∨ (w.heap.size ≤ q ∧ q < w'.heap.size)) else Qs i, by rw [List.length_set, hll]; exact h3, ?_, fun q hq => .inl (h5 q hq), fun i y z hy hz => ?_, fun i q hq => ?_, fun i j q hij hq hq' => ?_⟩
    · rcases List.mem_or_eq_of_mem_set hy with h | h
      · exact hsz y h
      · rw [h]; exact hsz (x, k') (List.mem_of_getElem? hpx)
    · rw [hll, kidCells_set (K := { k' with kids := K }) hpx h3 rfl rfl rfl]
      refine ownsRow_set h4 ?_
      rw [hblk, ho]
    · by_cases hi : i = placeOf t.kids x
      · subst hi
        rw [List.getElem?_set_self hpl] at hy
        rw [List.getElem?_set_self (by omega)] at hz
        obtain rfl := Option.some.inj hy
        obtain rfl := Option.some.inj hz
        simp only [if_true]
        exact hnew
      · rw [List.getElem?_set_ne (fun e => hi e.symm)] at hy hz
        simp only [if_neg hi]
        exact ((h6 i y z hy hz).kept (fun q hq => hsame q (hQs i q hq).2 (fun e => h8 i _ q hi hq (hown q e)) (hQ q (hQs i q hq).1)) (fun _ h => h)).up (by omega)
    · by_cases hi : i = placeOf t.kids x
      · simp only [if_pos hi] at hq
        rcases hq with hq | hq
        · exact ⟨.inl (hQs _ q hq).1, (h7 _ q hq).2⟩
        · refine ⟨.inr hq, fun e => ?_⟩
          simp only [Value.ownBlock, Option.some.injEq] at e
          omega
      · simp only [if_neg hi] at hq
        exact ⟨.inl (hQs i q hq).1, (h7 i q hq).2⟩
    · by_cases hi : i = placeOf t.kids x
      · have hj : j ≠ placeOf t.kids x := by omega
        simp only [if_pos hi] at hq
        simp only [if_neg hj] at hq'
        rcases hq with hq | hq
        · exact h8 _ j q (fun e => hj e.symm) hq hq'
        · have := hQ q (hQs j q hq').1; omega
      · simp only [if_neg hi] at hq
        by_cases hj : j = placeOf t.kids x
        · simp only [if_pos hj] at hq'
          rcases hq' with hq' | hq'
          · exact h8 i _ q hi hq hq'
          · have := hQ q (hQs i q hq).1; omega
        · simp only [if_neg hj] at hq'
          exact h8 i j q hij hq hq'
  | x :: y :: r, d + 1, Q, t, u, b0, o0, _, hQ, hO, hu, hat, ⟨k', g, go, n, c, hk, hc, had⟩ => by
    have hat' : atR (y :: r) k' = some k := by
      rw [atR, hk] at hat
      exact hat
    rw [hu] at hc
    simp only [Option.some.injEq] at hc
    subst hc
    have hO2 := hO
    obtain ⟨rfl, rfl, hlen, hsz, hg, _⟩ := own_open hO
    rw [Nat.zero_add] at had
    obtain ⟨_, _, us, Qs, h3, h4, h5, h6, h7, h8⟩ := hO2
    obtain ⟨hset, hpx⟩ := set_there (setAt { k with kids := K } (y :: r) k') hk
    have hpl := (List.getElem?_eq_some_iff.1 hpx).1
    obtain ⟨v, hv⟩ : ∃ v, us[placeOf t.kids x]? = some v := ⟨us[placeOf t.kids x]'(by omega), List.getElem?_eq_getElem (by omega)⟩
    obtain ⟨_, c1⟩ := row_kid h4 (g := g) rfl hpx hv
    have hQs : ∀ i q, Qs i q → Q q ∧ q ≠ g := fun i q hq => ⟨(h7 i q hq).1, fun e => (h7 i q hq).2 (by rw [e]; rfl)⟩
    obtain ⟨hqb, hqo, hnew⟩ := own_kids hud hblk hsame hK (l := y :: r) (by simp) (fun q hq => hQ q (hQs _ q hq).1) (h6 _ _ _ hpx hv) c1.kids hat' had
    have hgl := hQ g hg
    have hgs : w'.heap[g]? = w.heap[g]? := hsame g (fun e => (hQs _ b hqb).2 e.symm) (fun e => (hQs _ g (hqo g e)).2 rfl) hgl
    refine ⟨(hQs _ b hqb).1, fun q hq => (hQs _ q (hqo q hq)).1, ?_⟩
    have e : (setAt { k with kids := K } (x :: y :: r) t).kids = t.kids.set (placeOf t.kids x) (x, setAt { k with kids := K } (y :: r) k') := by
      rw [← hset]
      simp only [setAt, hk, Option.getD_some]
    rw [e]
    have hll : (t.kids.set (placeOf t.kids x) (x, setAt { k with kids := K } (y :: r) k')).length = t.kids.length := List.length_set
    have hus : us.set (placeOf t.kids x) v = us := by
      have := (List.getElem?_eq_some_iff.1 hv)
      obtain ⟨h1, h2⟩ := this
      rw [← h2]
      exact List.set_getElem_self h1
    refine ⟨by rw [hll]; exact hlen, fun z hz => ?_, us, fun i => if i = placeOf t.kids x then (fun q => Qs (placeOf t.kids x) q ∨ (w.heap.size ≤ q ∧ q < w'.heap.size)) else Qs i, by rw [hll]; exact h3, ?_, fun q hq => .inl (h5 q hq), fun i z s hz hs => ?_, fun i q hq => ?_, fun i j q hij hq hq' => ?_⟩
    · rcases List.mem_or_eq_of_mem_set hz with h | h
      · exact hsz z h
      · rw [h]; exact hsz (x, k') (List.mem_of_getElem? hpx)
    · have e2 := kidCells_set (K := setAt { k with kids := K } (y :: r) k') (u := v) hpx h3 rfl rfl rfl
      have e3 : (kidCells t.kids us).set (placeOf t.kids x * 5 + 4) v = kidCells t.kids us := by
        have h9 := (kidCells_at hpx hv).2.2.2.2
        obtain ⟨h1, h2⟩ := List.getElem?_eq_some_iff.1 h9
        rw [← h2]
        exact List.set_getElem_self h1
      rw [hus, e3] at e2
      rw [hll, e2]
      exact ownsRow_ext' h4 fun q hq => by
        simp only [Value.ownBlock, Option.some.injEq] at hq
        subst hq
        exact hgs
    · by_cases hi : i = placeOf t.kids x
      · subst hi
        rw [List.getElem?_set_self hpl] at hz
        obtain rfl := Option.some.inj hz
        rw [hv] at hs
        obtain rfl := Option.some.inj hs
        simp only [if_true]
        exact hnew
      · rw [List.getElem?_set_ne (fun e => hi e.symm)] at hz
        simp only [if_neg hi]
        exact ((h6 i z s hz hs).kept (fun q hq => hsame q (fun e => h8 i _ q hi hq (e ▸ hqb)) (fun e => h8 i _ q hi hq (hqo q e)) (hQ q (hQs i q hq).1)) (fun _ h => h)).up (by omega)
    · by_cases hi : i = placeOf t.kids x
      · simp only [if_pos hi] at hq
        rcases hq with hq | hq
        · exact ⟨.inl (hQs _ q hq).1, (h7 _ q hq).2⟩
        · refine ⟨.inr hq, fun e => ?_⟩
          simp only [Value.ownBlock, Option.some.injEq] at e
          omega
      · simp only [if_neg hi] at hq
        exact ⟨.inl (hQs i q hq).1, (h7 i q hq).2⟩
    · by_cases hi : i = placeOf t.kids x
      · have hj : j ≠ placeOf t.kids x := by omega
        simp only [if_pos hi] at hq
        simp only [if_neg hj] at hq'
        rcases hq with hq | hq
        · exact h8 _ j q (fun e => hj e.symm) hq hq'
        · have := hQ q (hQs j q hq').1; omega
      · simp only [if_neg hi] at hq
        by_cases hj : j = placeOf t.kids x
        · simp only [if_pos hj] at hq'
          rcases hq' with hq' | hq'
          · exact h8 i _ q hi hq hq'
          · have := hQ q (hQs i q hq).1; omega
        · simp only [if_neg hj] at hq'
          exact h8 i j q hij hq hq'
end Go.Proofs.YtpjjpmikhjlgnaaGreatDoor
namespace Go.Proofs.YtpjjpmikhjlgnaaGreatDoor
open Go.RowKit

theorem place_names {l m : List (ByteArray × Tree)} (h : l.map (·.1) = m.map (·.1)) (s : ByteArray) : placeOf l s = placeOf m s := by
  have e : ∀ l : List (ByteArray × Tree), placeOf l s = (l.map (·.1)).countP fun x => Op.bytesLess x.toList s.toList := fun l => by
    unfold placeOf
    rw [List.countP_map]
    rfl
  rw [e, e, h]
theorem set_same {l : List (ByteArray × Tree)} {p : Nat} {x : ByteArray} {k K : Tree} (h : l[p]? = some (x, k)) : (l.set p (x, K)).map (·.1) = l.map (·.1) := by
  rw [List.map_set]
  obtain ⟨hp, e⟩ := List.getElem?_eq_some_iff.1 h
  have : (l.map (·.1))[p]'(by simpa using hp) = x := by simp [e]
  conv => lhs; arg 3; rw [← this]
  exact List.set_getElem_self _
theorem kid_set_there {t k : Tree} {x : ByteArray} (K : Tree) (h : kidOf t x = some k) : kidOf { t with kids := setKid t.kids x K } x = some K ∧ placeOf (setKid t.kids x K) x = placeOf t.kids x := by
  obtain ⟨hset, hpx⟩ := set_there K h
  have hpl := (List.getElem?_eq_some_iff.1 hpx).1
  have hp : placeOf (setKid t.kids x K) x = placeOf t.kids x := by rw [hset]; exact place_names (set_same hpx) x
  have hg : (setKid t.kids x K)[placeOf t.kids x]? = some (x, K) := by rw [hset, List.getElem?_set_self hpl]
  refine ⟨?_, hp⟩
  unfold kidOf
  have ht : thereAt (setKid t.kids x K) x = true := by
    unfold thereAt
    rw [hp, hg]
    simp
  simp only
  rw [if_pos ht, hp, hg]
  rfl
/-- The address of a dir whose kids are changed. -/
theorem own_addr {w w' : World} {k : Tree} {K : List (ByteArray × Tree)} {ud uK : Value} {b o : Nat} (hud : w.cell? ⟨b, o + 3, none⟩ = some ud) (hblk : w'.heap[b]? = (w.setCell ⟨b, o + 3, none⟩ uK).heap[b]?) (hsame : ∀ q, q ≠ b → ud.ownBlock ≠ some q → q < w.heap.size → w'.heap[q]? = w.heap[q]?)
    (hK : ∀ Qk dk, OwnT w Qk dk k.kids ud → (∀ q, Qk q → q < w.heap.size ∧ q ≠ b) → OwnT w' (fun q => Qk q ∨ (w.heap.size ≤ q ∧ q < w'.heap.size)) (dk + 1) K uK) :
    ∀ {l : List ByteArray} {d : Nat} {Q : Nat → Prop} {t : Tree} {u : Value} {b0 o0 : Nat}, l ≠ [] → (∀ q, Q q → q < w.heap.size) → OwnT w Q d t.kids u → w.cell? ⟨b0, o0 + 3, none⟩ = some u → w'.cell? ⟨b0, o0 + 3, none⟩ = some u → atR l t = some k → AddrAt w l t b0 o0 b o → AddrAt w' l (setAt { k with kids := K } l t) b0 o0 b o
  | [], _, _, _, _, _, _, h, _, _, _, _, _, _ => absurd rfl h
  | _ :: _, 0, _, _, _, _, _, _, _, h, _, _, _, _ => h.elim
  | [x], d + 1, Q, t, u, b0, o0, _, hQ, hO, hu, hu', hat, ⟨k', g, go, n, c, hk, hc, hb, ho⟩ => by
    rw [hu] at hc
    have hs := kid_set_there (setAt { k with kids := K } [] k') hk
    have e : setAt { k with kids := K } [x] t = { t with kids := setKid t.kids x (setAt { k with kids := K } [] k') } := by
      simp only [setAt]
    rw [e]
    refine ⟨_, g, go, n, c, hs.1, by rw [hu', ← hc], hb, ?_⟩
    simp only
    rw [hs.2]
    exact ho
  | x :: y :: r, d + 1, Q, t, u, b0, o0, _, hQ, hO, hu, hu', hat, ⟨k', g, go, n, c, hk, hc, had⟩ => by
    have hat' : atR (y :: r) k' = some k := by
      rw [atR, hk] at hat
      exact hat
    rw [hu] at hc
    have hc2 := hc
    simp only [Option.some.injEq] at hc
    subst hc
    obtain ⟨rfl, rfl, hlen, hsz, hg, us, Qs, hul, hcell, hq1, hq2⟩ := own_open hO
    rw [Nat.zero_add] at had
    obtain ⟨_, hpx⟩ := set_there (setAt { k with kids := K } (y :: r) k') hk
    have hpl := (List.getElem?_eq_some_iff.1 hpx).1
    obtain ⟨v, hv⟩ : ∃ v, us[placeOf t.kids x]? = some v := ⟨us[placeOf t.kids x]'(by omega), List.getElem?_eq_getElem (by omega)⟩
    obtain ⟨_, c1, c2⟩ := hcell _ _ _ hpx hv
    obtain ⟨hqb, hqo, _⟩ := own_kids hud hblk hsame hK (l := y :: r) (by simp) (fun q hq => hQ q (hq1 _ q hq).1) c2 c1.kids hat' had
    have hgs : w'.heap[g]? = w.heap[g]? := hsame g (fun e => (hq1 _ b hqb).2 e.symm) (fun e => (hq1 _ g (hqo g e)).2 rfl) (hQ g hg)
    have ih := own_addr hud hblk hsame hK (l := y :: r) (by simp) (fun q hq => hQ q (hq1 _ q hq).1) c2 c1.kids (by rw [World.cell?_of_block hgs]; exact c1.kids) hat' had
    have hs := kid_set_there (setAt { k with kids := K } (y :: r) k') hk
    have e : setAt { k with kids := K } (x :: y :: r) t = { t with kids := setKid t.kids x (setAt { k with kids := K } (y :: r) k') } := by
      simp only [setAt, hk, Option.getD_some]
    rw [e]
    refine ⟨_, g, 0, _, c, hs.1, hu', ?_⟩
    simp only
    rw [hs.2, Nat.zero_add]
    exact ih
theorem there_get {l : List (ByteArray × Tree)} {x : ByteArray} {k : Tree} (h : l[placeOf l x]? = some (x, k)) : thereAt l x = true := by
  unfold thereAt
  rw [h]
  simp
/-- Set twice. -/
theorem setKid_twice (l : List (ByteArray × Tree)) (x : ByteArray) (A B : Tree) : setKid (setKid l x A) x B = setKid l x B := by
  cases ht : thereAt l x with
  | true =>
    obtain ⟨y, hy, e⟩ := there_some ht
    obtain ⟨y1, y2⟩ := y
    simp only at e
    subst e
    have hpl := (List.getElem?_eq_some_iff.1 hy).1
    have e1 : ∀ C, setKid l y1 C = l.set (placeOf l y1) (y1, C) := fun C => by unfold setKid; rw [if_pos ht]
    rw [e1 A, e1 B]
    have hp : placeOf (l.set (placeOf l y1) (y1, A)) y1 = placeOf l y1 := place_names (set_same hy) y1
    have ht2 : thereAt (l.set (placeOf l y1) (y1, A)) y1 = true := there_get (k := A) (by rw [hp, List.getElem?_set_self hpl])
    unfold setKid
    rw [if_pos ht2, hp, List.set_set]
  | false =>
    have e1 : ∀ C, setKid l x C = l.take (placeOf l x) ++ (x, C) :: l.drop (placeOf l x) := fun C => by unfold setKid; rw [if_neg (by rw [ht]; decide)]
    rw [e1 A, e1 B]
    have hle := place_le l x
    have hp : placeOf (l.take (placeOf l x) ++ (x, A) :: l.drop (placeOf l x)) x = placeOf l x := by
      have e2 : placeOf l x = (l.take (placeOf l x)).countP (fun y => Op.bytesLess y.1.toList x.toList) + (l.drop (placeOf l x)).countP (fun y => Op.bytesLess y.1.toList x.toList) := by
        rw [← List.countP_append, List.take_append_drop]
        rfl
      conv => rhs; rw [e2]
      show List.countP _ _ = _
      rw [List.countP_append, List.countP_cons_of_neg (by simp [less_irrefl])]
    have hl : (l.take (placeOf l x)).length = placeOf l x := by rw [List.length_take]; omega
    have hg : (l.take (placeOf l x) ++ (x, A) :: l.drop (placeOf l x))[placeOf l x]? = some (x, A) := by
      rw [List.getElem?_append_right (by omega), hl, Nat.sub_self]
      rfl
    have ht2 : thereAt (l.take (placeOf l x) ++ (x, A) :: l.drop (placeOf l x)) x = true := there_get (k := A) (by rw [hp]; exact hg)
    unfold setKid
    rw [if_pos ht2, hp, List.set_append_right _ _ (by omega), hl, Nat.sub_self]
    rfl
/-- A place made first, and then taken. -/
theorem set_zero {X : Tree} {x : ByteArray} : ∀ {m : List ByteArray} {t k : Tree}, atR m t = some k → setAt X (m ++ [x]) (setAt { k with kids := setKid k.kids x zeroT } m t) = setAt X (m ++ [x]) t
  | [], t, k, h => by
    simp only [atR, Option.some.injEq] at h
    subst h
    simp only [List.nil_append, setAt, setKid_twice]
  | z :: r, t, k, h => by
    simp only [atR] at h
    cases hq : kidOf t z with
    | none => rw [hq] at h; cases h
    | some q =>
      rw [hq] at h
      simp only at h
      have ih := set_zero (X := X) (x := x) h
      have hs := kid_set_there (setAt { k with kids := setKid k.kids x zeroT } r q) hq
      simp only [List.cons_append, setAt, hq, Option.getD_some, hs.1, setKid_twice, ih]
end Go.Proofs.YtpjjpmikhjlgnaaGreatDoor
namespace Go.Proofs.YtpjjpmikhjlgnaaGreatDoor
open Go.RowKit

theorem ownsRow_unique {w : World} {base base' size n : Nat} {e : TypeId} {v : Value} {xs ys : List Value} (h : w.ownsRow base e size v n xs) (h' : w.ownsRow base' e size v n ys) : xs = ys := by
  rcases h.2 with ⟨e1, e2⟩ | ⟨g, cap, cur, e1, _, hh, _, _, _, ht⟩
  · have l1 := h.1
    have l2 := h'.1
    rw [e2, Nat.zero_mul] at l1 l2
    rw [List.eq_nil_of_length_eq_zero l1, List.eq_nil_of_length_eq_zero l2]
  · rcases h'.2 with ⟨e3, _⟩ | ⟨g', cap', cur', e3, _, hh', _, _, _, ht'⟩
    · rw [e1] at e3; simp at e3
    · rw [e1] at e3
      simp only [Value.slice.injEq, Option.some.injEq, Addr.mk.injEq, and_true, true_and] at e3
      obtain ⟨rfl, rfl⟩ := e3
      rw [hh] at hh'
      simp only [Option.some.injEq, Obj.cells.injEq] at hh'
      rw [← ht, ← ht', hh'.1]
def zeroK (x : ByteArray) : List Value := [.string x, .string { data := #[] }, .string { data := #[] }, .bool false, .slice none 0 0]
theorem kidCells_ins : ∀ {l : List (ByteArray × Tree)} {us : List Value} {p : Nat} {x : ByteArray}, us.length = l.length → p ≤ l.length → kidCells (l.take p ++ (x, zeroT) :: l.drop p) (us.take p ++ .slice none 0 0 :: us.drop p) = (kidCells l us).take (p * 5) ++ zeroK x ++ (kidCells l us).drop (p * 5)
  | l, us, 0, x, _, _ => by
    simp only [List.take_zero, List.drop_zero, List.nil_append, Nat.zero_mul, kidCells, zeroT, zeroK]
    rfl
  | [], _, p + 1, _, _, h => by simp at h
  | _ :: _, [], _ + 1, _, h, _ => by simp at h
  | y :: l, u :: us, p + 1, x, h, hp => by
    have ih := kidCells_ins (l := l) (us := us) (p := p) (x := x) (by simpa using h) (by simpa using hp)
    simp only [List.take_succ_cons, List.drop_succ_cons, List.cons_append, kidCells, ih]
    rw [show (p + 1) * 5 = p * 5 + 1 + 1 + 1 + 1 + 1 by omega]
    simp only [List.take_succ_cons, List.drop_succ_cons, List.cons_append]
theorem own_insert {w w' : World} {Q : Nat → Prop} {d g cap : Nat} {l : List (ByteArray × Tree)} {ud : Value} {x : ByteArray} {xs : List Value} (h : OwnT w Q d l ud) (hQ : ∀ q, Q q → q < w.heap.size) (hnot : thereAt l x = false) (hx : x.size ≤ 140737488355328) (hlen : l.length + 1 ≤ 1759218604390) (hxs : w.ownsRow 0 65 5 ud l.length xs)
    (hins : w'.ownsRow 0 65 5 (.slice (some ⟨g, 0, none⟩) (l.length + 1) cap) (l.length + 1) (xs.take (placeOf l x * 5) ++ zeroK x ++ xs.drop (placeOf l x * 5))) (hg : w.grownBy w' ud.ownBlock) (hat : ud.ownBlock = some g ∨ w.heap.size ≤ g) :
    OwnT w' (fun q => Q q ∨ (w.heap.size ≤ q ∧ q < w'.heap.size)) (d + 1) (setKid l x zeroT) (.slice (some ⟨g, 0, none⟩) (l.length + 1) cap) := by
  cases d with
  | zero => exact h.elim
  | succ d =>
    obtain ⟨h1, h2, us, Qs, h3, h4, h5, h6, h7, h8⟩ := h
    obtain rfl := ownsRow_unique hxs h4
    have hp := place_le l x
    have hset : setKid l x zeroT = l.take (placeOf l x) ++ (x, zeroT) :: l.drop (placeOf l x) := by unfold setKid; rw [if_neg (by rw [hnot]; decide)]
    have hl : (l.take (placeOf l x) ++ (x, zeroT) :: l.drop (placeOf l x)).length = l.length + 1 := by simp; omega
    have hgl := (hins.lt g rfl).2
    have hlt : (l.take (placeOf l x)).length = placeOf l x := by rw [List.length_take]; omega
    have hut : (us.take (placeOf l x)).length = placeOf l x := by rw [List.length_take]; omega
    have hnb : ∀ i q, Qs i q → q ≠ g := fun i q hq e => by
      rcases hat with h | h
      · exact (h7 i q hq).2 (by rw [h, e])
      · have := hQ q (h7 i q hq).1; omega
    have hkeep : ∀ i y u, l[i]? = some y → us[i]? = some u → OwnT w' (Qs i) (d + 1) y.2.kids u := fun i y u hy hu =>
      ((h6 i y u hy hu).kept (fun q hq => hg.block q (hQ q (h7 i q hq).1) (fun e => (h7 i q hq).2 e.symm)) (fun _ hq => hq)).up (by omega)
    rw [hset]
    refine ⟨by omega, fun y hy => ?_, us.take (placeOf l x) ++ .slice none 0 0 :: us.drop (placeOf l x), fun i => if i < placeOf l x then Qs i else if i = placeOf l x then (fun _ => False) else Qs (i - 1), by simp; omega, ?_, fun q hq => ?_, fun i y u hy hu => ?_, fun i q hq => ?_, fun i j q hij hq hq' => ?_⟩
    · rcases List.mem_append.1 hy with hy | hy
      · exact h2 y (List.mem_of_mem_take hy)
      · rcases List.mem_cons.1 hy with rfl | hy
        · exact hx
        · exact h2 y (List.mem_of_mem_drop hy)
    · rw [hl, kidCells_ins h3 hp]
      exact hins
    · simp only [Value.ownBlock, Option.some.injEq] at hq
      subst hq
      rcases hat with h | h
      · exact .inl (h5 g h)
      · exact .inr ⟨h, hgl⟩
    · by_cases hi : i < placeOf l x
      · rw [List.getElem?_append_left (by omega), List.getElem?_take_of_lt hi] at hy hu
        simp only [if_pos hi]
        exact hkeep i y u hy hu
      · rw [List.getElem?_append_right (by omega)] at hy hu
        rw [hlt] at hy
        rw [hut] at hu
        by_cases hi2 : i = placeOf l x
        · subst hi2
          rw [Nat.sub_self] at hy hu
          simp only [List.getElem?_cons_zero, Option.some.injEq] at hy hu
          subst hy; subst hu
          simp only [Nat.lt_irrefl, if_false, if_true]
          exact ⟨by simp [zeroT], fun y hy => by simp [zeroT] at hy, [], fun _ _ => False, rfl, World.ownsRow_nil _ _ _ _, fun g hg => by simp [Value.ownBlock] at hg, fun i y u hy _ => by simp [zeroT] at hy, fun _ _ h => h.elim, fun _ _ _ _ h => h.elim⟩
        · obtain ⟨m, hm⟩ : ∃ m, i - placeOf l x = m + 1 := ⟨i - placeOf l x - 1, by omega⟩
          rw [hm, List.getElem?_cons_succ, List.getElem?_drop] at hy hu
          have e : placeOf l x + m = i - 1 := by omega
          rw [e] at hy hu
          simp only [if_neg hi, if_neg hi2]
          exact hkeep (i - 1) y u hy hu
    · by_cases hi : i < placeOf l x
      · simp only [if_pos hi] at hq
        exact ⟨.inl (h7 i q hq).1, fun e => hnb i q hq (by simpa [Value.ownBlock] using e.symm)⟩
      · by_cases hi2 : i = placeOf l x
        · simp only [if_neg hi, if_pos hi2] at hq
        · simp only [if_neg hi, if_neg hi2] at hq
          exact ⟨.inl (h7 _ q hq).1, fun e => hnb _ q hq (by simpa [Value.ownBlock] using e.symm)⟩
    · have key : ∀ i q, (if i < placeOf l x then Qs i else if i = placeOf l x then (fun _ => False) else Qs (i - 1)) q → ∃ m, Qs m q ∧ ((i < placeOf l x ∧ m = i) ∨ (placeOf l x < i ∧ m = i - 1)) := fun i q hq => by
        by_cases hi : i < placeOf l x
        · simp only [if_pos hi] at hq
          exact ⟨i, hq, .inl ⟨hi, rfl⟩⟩
        · by_cases hi2 : i = placeOf l x
          · simp only [if_neg hi, if_pos hi2] at hq
          · simp only [if_neg hi, if_neg hi2] at hq
            exact ⟨i - 1, hq, .inr ⟨by omega, rfl⟩⟩
      obtain ⟨m, hm, hmi⟩ := key i q hq
      obtain ⟨m', hm', hmj⟩ := key j q hq'
      exact h8 m m' q (by omega) hm hm'
theorem kidCells_erase : ∀ {l : List (ByteArray × Tree)} {us : List Value} {p : Nat}, us.length = l.length → p < l.length → kidCells (l.eraseIdx p) (us.eraseIdx p) = (kidCells l us).take (p * 5) ++ (kidCells l us).drop ((p + 1) * 5)
  | [], _, _, _, h => by simp at h
  | _ :: _, [], _, h, _ => by simp at h
  | y :: l, u :: us, 0, _, _ => by
    simp only [List.eraseIdx_cons_zero, Nat.zero_mul, List.take_zero, List.nil_append, Nat.zero_add, Nat.one_mul, kidCells]
    rfl
  | y :: l, u :: us, p + 1, h, hp => by
    have ih := kidCells_erase (l := l) (us := us) (p := p) (by simpa using h) (by simpa using hp)
    simp only [List.eraseIdx_cons_succ, kidCells, ih]
    rw [show (p + 1) * 5 = p * 5 + 1 + 1 + 1 + 1 + 1 by omega, show (p + 1 + 1) * 5 = (p + 1) * 5 + 1 + 1 + 1 + 1 + 1 by omega]
    simp only [List.take_succ_cons, List.drop_succ_cons, List.cons_append]
    rw [show (p + 1) * 5 = p * 5 + 1 + 1 + 1 + 1 + 1 by omega]
/-- One taken out. -/
theorem own_delete {w w' : World} {Q : Nat → Prop} {d g c p : Nat} {l : List (ByteArray × Tree)} {xs : List Value} (h : OwnT w Q d l (.slice (some ⟨g, 0, none⟩) l.length c)) (hQ : ∀ q, Q q → q < w.heap.size) (hp : p < l.length) (hxs : w.ownsRow 0 65 5 (.slice (some ⟨g, 0, none⟩) l.length c) l.length xs)
    (hdel : w'.ownsRow 0 65 5 (.slice (some ⟨g, 0, none⟩) (l.length - 1) c) (l.length - 1) (xs.take (p * 5) ++ xs.drop ((p + 1) * 5))) (hg : w.grownBy w' (some g)) :
    OwnT w' (fun q => Q q ∨ (w.heap.size ≤ q ∧ q < w'.heap.size)) (d + 1) (l.eraseIdx p) (.slice (some ⟨g, 0, none⟩) (l.length - 1) c) := by
  cases d with
  | zero => exact h.elim
  | succ d =>
    obtain ⟨h1, h2, us, Qs, h3, h4, h5, h6, h7, h8⟩ := h
    obtain rfl := ownsRow_unique hxs h4
    have hl : (l.eraseIdx p).length = l.length - 1 := List.length_eraseIdx_of_lt hp
    have hnb : ∀ i q, Qs i q → q ≠ g := fun i q hq e => (h7 i q hq).2 (by rw [e]; rfl)
    have hkeep : ∀ i y u, l[i]? = some y → us[i]? = some u → OwnT w' (Qs i) (d + 1) y.2.kids u := fun i y u hy hu =>
      ((h6 i y u hy hu).kept (fun q hq => hg.block q (hQ q (h7 i q hq).1) (fun e => hnb i q hq (Option.some.inj e))) (fun _ hq => hq)).up (by omega)
    refine ⟨by omega, fun y hy => h2 y (List.mem_of_mem_eraseIdx hy), us.eraseIdx p, fun i => if i < p then Qs i else Qs (i + 1), by rw [List.length_eraseIdx_of_lt (by omega), hl]; omega, ?_, fun q hq => .inl (h5 q hq), fun i y u hy hu => ?_, fun i q hq => ?_, fun i j q hij hq hq' => ?_⟩
    · rw [hl, kidCells_erase h3 hp]
      exact hdel
    · rw [List.getElem?_eraseIdx] at hy hu
      by_cases hi : i < p
      · simp only [if_pos hi] at hy hu ⊢
        exact hkeep i y u hy hu
      · simp only [if_neg hi] at hy hu ⊢
        exact hkeep (i + 1) y u hy hu
    · by_cases hi : i < p
      · simp only [if_pos hi] at hq
        exact ⟨.inl (h7 i q hq).1, fun e => hnb i q hq (by simpa [Value.ownBlock] using e.symm)⟩
      · simp only [if_neg hi] at hq
        exact ⟨.inl (h7 _ q hq).1, fun e => hnb _ q hq (by simpa [Value.ownBlock] using e.symm)⟩
    · by_cases hi : i < p
      · simp only [if_pos hi] at hq
        by_cases hj : j < p
        · simp only [if_pos hj] at hq'
          exact h8 i j q hij hq hq'
        · simp only [if_neg hj] at hq'
          exact h8 i (j + 1) q (by omega) hq hq'
      · simp only [if_neg hi] at hq
        by_cases hj : j < p
        · simp only [if_pos hj] at hq'
          exact h8 (i + 1) j q (by omega) hq hq'
        · simp only [if_neg hj] at hq'
          exact h8 (i + 1) (j + 1) q (by omega) hq hq'
end Go.Proofs.YtpjjpmikhjlgnaaGreatDoor
