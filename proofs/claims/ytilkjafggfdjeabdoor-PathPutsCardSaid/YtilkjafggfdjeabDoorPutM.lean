/-
  Trees whose data, names and depth are bounded, also with a node put at names; a node written at a place of a tree of one's own memory. Conditions: those that each states.
-/
import Derived.Test.YtilkjafggfdjeabDoorSmall
import Derived.Test.YtilkjafggfdjeabDoorOwnPut
import Derived.Test.YtilkjafggfdjeabDoorRoom
import Derived.Test.YtilkjafggfdjeabDoorPathT
namespace Go.Proofs.YtilkjafggfdjeabDoor
open Go.RowKit

/-- Bounded: so deep at most. -/
def OkT : Nat → Tree → Prop
  | 0, _ => False
  | n + 1, t => t.data.size ≤ 2001 ∧ ∀ x ∈ t.kids, x.1.size ≤ 30 ∧ OkT n x.2
theorem OkT.up : ∀ {n m : Nat} {t : Tree}, n ≤ m → OkT n t → OkT m t
  | 0, _, _, _, h => h.elim
  | _ + 1, 0, _, h, _ => by omega
  | _ + 1, _ + 1, _, hm, ⟨h1, h2⟩ => ⟨h1, fun x hx => ⟨(h2 x hx).1, OkT.up (by omega) (h2 x hx).2⟩⟩
theorem OkT.items : ∀ {d n : Nat} {p : ByteArray} {k : Nat} {t : Tree}, OkT n t → ∀ x ∈ pre d p k t, x.1.size ≤ p.size + 31 * n ∧ x.2.1 ≤ k + n ∧ x.2.2.data.size ≤ 2001
  | 0, _, _, _, _, _, x, hx => by simp [pre] at hx
  | _ + 1, 0, _, _, _, h, _, _ => h.elim
  | d + 1, n + 1, p, k, t, ⟨h1, h2⟩, x, hx => by
    simp only [pre] at hx
    rcases List.mem_cons.1 hx with rfl | hx
    · exact ⟨by simp only; omega, by simp only; omega, h1⟩
    · obtain ⟨y, hy, hx⟩ := List.mem_flatMap.1 hx
      have hn := h2 y hy
      have ih := OkT.items (d := d) (p := p ++ slash ++ y.1) (k := k + 1) hn.2 x hx
      simp only [ByteArray.size_append] at ih
      have e : slash.size = 1 := rfl
      exact ⟨by omega, by omega, ih.2.2⟩
theorem OkT.ok {n d : Nat} {t : Tree} (h : OkT n t) (hn : n ≤ 1000) : OkItems (pre d ByteArray.empty 0 t) := fun x hx => by
  have h1 := h.items x hx
  have e0 : ByteArray.empty.size = 0 := rfl
  exact ⟨by unfold maxLen; omega, by omega, h1.2.2⟩
theorem OkT.alive {n d : Nat} {t : Tree} (h : OkT n t) (hn : n ≤ 1000) : Alive ck ckOk 0 (pre d ByteArray.empty 0 t) := alive_ck _ 0 (by omega) (h.ok hn)
theorem OkT.of : ∀ {d m k n : Nat} {p : ByteArray} {t : Tree}, Fit d t → k + n = m + 1 → (∀ x ∈ pre d p k t, x.2.1 ≤ m ∧ x.2.2.data.size ≤ 2001 ∧ ∀ y ∈ x.2.2.kids, y.1.size ≤ 30) → OkT n t
  | 0, _, _, _, _, _, h, _, _ => h.elim
  | d + 1, m, k, n, p, t, hf, hk, h => by
    simp only [pre] at h
    have h0 := h (p, k, t) List.mem_cons_self
    cases n with
    | zero => simp only at h0; omega
    | succ n =>
      refine ⟨h0.2.1, fun y hy => ⟨h0.2.2 y hy, ?_⟩⟩
      exact OkT.of (m := m) (k := k + 1) (p := p ++ slash ++ y.1) (hf y hy) (by omega) fun x hx => h x (List.mem_cons_of_mem _ (List.mem_flatMap.2 ⟨y, hy, hx⟩))
theorem OkT.small {most d : Nat} {t : Tree} (hd : Fit d t) (h : largeB most t = false) : OkT 12 t := by
  have e := pre_eq hd h
  unfold largeB at h
  simp only [Bool.or_eq_false_iff, decide_eq_false_iff_not] at h
  refine OkT.of (m := 11) (k := 0) (p := ByteArray.empty) hd (by omega) fun x hx => ?_
  rw [e] at hx
  have h1 := List.any_eq_false.1 h.2 x hx
  unfold itemLarge at h1
  simp only [Bool.or_eq_true, decide_eq_true_eq, not_or] at h1
  refine ⟨by omega, by omega, fun y hy => ?_⟩
  have h2 : x.2.2.kids.any longName = false := by simpa using h1.2
  have h3 := List.any_eq_false.1 h2 y hy
  unfold longName at h3
  simp only [decide_eq_true_eq] at h3
  omega
theorem name_size {x : ByteArray} (h : nameB x = true) : 1 ≤ x.size ∧ x.size ≤ 12 := by
  unfold nameB at h
  simp only [Bool.and_eq_true, decide_eq_true_eq] at h
  exact h.1.1.1
theorem node_bounds {t : Tree} (h : nodeErr t = none) : t.data.size ≤ 2000 ∧ ∀ y ∈ t.kids, y.1.size ≤ 12 := by
  unfold nodeErr at h
  split at h
  · unfold fileErr at h
    split at h
    · cases h
    · split at h
      · cases h
      · refine ⟨by omega, fun y hy => ?_⟩
        have := List.length_pos_of_mem hy
        omega
  · split at h
    · unfold dirErr at h
      split at h
      · cases h
      · rename_i h1
        split at h
        · rename_i h2
          refine ⟨?_, fun y hy => (name_size (List.all_eq_true.1 h2 y hy)).2⟩
          simp only [not_or] at h1
          have h3 : t.data.toList.isEmpty = true := by
            cases hh : t.data.toList.isEmpty with
            | true => rfl
            | false => exact absurd hh h1.1
          have h4 : t.data.toList = [] := by simpa using h3
          have h5 : t.data.toList.length = t.data.size := by rw [ba_toList]; rfl
          rw [h4] at h5
          simp at h5
          omega
        · cases h
    · split at h
      · unfold linkErr at h
        split at h
        · cases h
        · rename_i h1
          split at h
          · cases h
          · refine ⟨by omega, fun y hy => ?_⟩
            have := List.length_pos_of_mem hy
            exact absurd (.inr this) h1
      · cases h
theorem OkT.well {d : Nat} {t : Tree} (hd : Fit d t) (h : treeErr d t = none) : OkT 9 t :=
  OkT.of (m := 8) (k := 0) (p := ByteArray.empty) hd (by omega) fun x hx => by
    have h1 := (treeErr_none.1 h).2 x hx
    have h2 := node_bounds h1.2
    exact ⟨h1.1, by omega, fun y hy => by have := h2.2 y hy; omega⟩
theorem setKid_sub {l : List (ByteArray × Tree)} {x : ByteArray} {k : Tree} {z : ByteArray × Tree} (h : z ∈ setKid l x k) : z = (x, k) ∨ z ∈ l := by
  unfold setKid at h
  split at h
  · rcases List.mem_or_eq_of_mem_set h with h | h
    · exact .inr h
    · exact .inl h
  · rcases List.mem_append.1 h with h | h
    · exact .inr (List.mem_of_mem_take h)
    · rcases List.mem_cons.1 h with h | h
      · exact .inl h
      · exact .inr (List.mem_of_mem_drop h)
theorem OkT.set {X : Tree} {m : Nat} (hX : OkT m X) : ∀ {l : List ByteArray} {n : Nat} {t : Tree}, OkT n t → (∀ x ∈ l, x.size ≤ 30) → OkT (n + l.length + m) (setAt X l t)
  | [], n, t, _, _ => hX.up (by simp)
  | x :: r, 0, t, h, _ => h.elim
  | x :: r, n + 1, t, h, hl => by
    obtain ⟨h1, h2⟩ := h
    rw [show n + 1 + (x :: r).length + m = (n + 1 + r.length + m) + 1 by simp; omega]
    refine ⟨h1, fun z hz => ?_⟩
    have hz' : z ∈ setKid t.kids x (setAt X r ((kidOf t x).getD zeroT)) := hz
    rcases setKid_sub hz' with rfl | hz'
    · refine ⟨hl x List.mem_cons_self, ?_⟩
      have hr : ∀ y ∈ r, y.size ≤ 30 := fun y hy => hl y (List.mem_cons_of_mem _ hy)
      cases hk : kidOf t x with
      | none => exact (OkT.set hX (l := r) (n := 1) (t := zeroT) ⟨by simp [zeroT], fun y hy => by simp [zeroT] at hy⟩ hr).up (by omega)
      | some k => exact (OkT.set hX (h2 _ (List.mem_of_getElem? (set_there k hk).2)).2 hr).up (by omega)
    · exact ⟨(h2 z hz').1, (h2 z hz').2.up (by omega)⟩
end Go.Proofs.YtilkjafggfdjeabDoor
namespace Go.Proofs.YtilkjafggfdjeabDoor
open Go.RowKit

/-- Four cells in a row are set. -/
def set4 (w : World) (b o : Nat) (v0 v1 v2 v3 : Value) : World := (((w.setCell ⟨b, o, none⟩ v0).setCell ⟨b, o + 1, none⟩ v1).setCell ⟨b, o + 2, none⟩ v2).setCell ⟨b, o + 3, none⟩ v3
theorem set4_block (w : World) (b o : Nat) (v0 v1 v2 v3 : Value) {k : Nat} (h : k ≠ b) : (set4 w b o v0 v1 v2 v3).heap[k]? = w.heap[k]? := by
  unfold set4
  rw [Below.heap_setCell _ _ _ _ h, Below.heap_setCell _ _ _ _ h, Below.heap_setCell _ _ _ _ h, Below.heap_setCell _ _ _ _ h]
theorem set4_size (w : World) (b o : Nat) (v0 v1 v2 v3 : Value) : (set4 w b o v0 v1 v2 v3).heap.size = w.heap.size := by simp [set4, World.setCell]
theorem cell_off {w : World} {b i j : Nat} {v : Value} (h : i ≠ j) : (w.setCell ⟨b, i, none⟩ v).cell? ⟨b, j, none⟩ = w.cell? ⟨b, j, none⟩ := World.cell?_setCell_other _ _ _ _ (fun e => h (by injection e))
theorem cell_on {w : World} {a : Addr} {u v : Value} (h : w.cell? a = some u) : (w.setCell a v).cell? a = some v := World.cell?_setCell_same' _ _ _ (by rw [h]; rfl)
theorem set4_oth (w : World) (b o : Nat) (v0 v1 v2 v3 : Value) {j : Nat} (h : j < o ∨ o + 4 ≤ j) : (set4 w b o v0 v1 v2 v3).cell? ⟨b, j, none⟩ = w.cell? ⟨b, j, none⟩ := by
  unfold set4
  rw [cell_off (by omega), cell_off (by omega), cell_off (by omega), cell_off (by omega)]
theorem set4_in {w : World} {b o : Nat} {X k : Tree} {u : Value} (h : CellsAt w b o k u) (ux : Value) : CellsAt (set4 w b o (.string X.kind) (.string X.data) (.bool X.exec) ux) b o X ux := by
  unfold set4
  refine ⟨?_, ?_, ?_, ?_⟩
  · rw [cell_off (by omega), cell_off (by omega), cell_off (by omega)]
    exact cell_on h.kind
  · rw [cell_off (by omega), cell_off (by omega)]
    exact cell_on (u := .string k.data) (by rw [cell_off (by omega)]; exact h.data)
  · rw [cell_off (by omega)]
    exact cell_on (u := .bool k.exec) (by rw [cell_off (by omega), cell_off (by omega)]; exact h.exec)
  · exact cell_on (u := u) (by rw [cell_off (by omega), cell_off (by omega), cell_off (by omega)]; exact h.kids)
/-- A node written at its place. -/
theorem put_place {w w' : World} {B b0 b o d dX : Nat} {Q P : Nat → Prop} {t t' X : Tree} {l : List ByteArray} {u' ux : Value} (hQ : ∀ q, Q q → q < B ∧ P q ∧ q ≠ b0) (hb0 : P b0)
    (hbox : CellsAt w b0 0 t' u') (hO : OwnT w Q d t'.kids u') (had : AddrAt w l t' b0 0 b o) (hset : setAt X l t' = setAt X l t)
    (hX : Lies w' B dX X.kids ux) (hC : CellsAt w' b o X ux) (hsame : ∀ k, k ≠ b → P k → w'.heap[k]? = w.heap[k]?) (hoth : ∀ j, j < o ∨ o + 4 ≤ j → w'.cell? ⟨b, j, none⟩ = w.cell? ⟨b, j, none⟩) :
    ∃ uu, CellsAt w' b0 0 (setAt X l t) uu ∧ Lies w' B (d + dX) (setAt X l t).kids uu := by
  rw [← hset]
  cases l with
  | nil =>
    obtain ⟨rfl, rfl⟩ := had
    exact ⟨ux, hC, hX.up (Nat.le_refl _) (by omega)⟩
  | cons x r =>
    obtain ⟨hqb, hl⟩ := own_put hX hC hsame hoth (l := x :: r) (by simp) (fun q hq => ⟨(hQ q hq).1, (hQ q hq).2.1⟩) hO hbox.kids had
    have hne : b0 ≠ b := fun e => (hQ b hqb).2.2 e.symm
    have hc : ∀ j, w'.cell? ⟨b0, j, none⟩ = w.cell? ⟨b0, j, none⟩ := fun j => World.cell?_of_block (hsame b0 hne hb0)
    exact ⟨u', ⟨by rw [hc]; exact hbox.kind, by rw [hc]; exact hbox.data, by rw [hc]; exact hbox.exec, by rw [hc]; exact hbox.kids⟩, hl⟩
theorem flat_len {α β : Type} {F : α → List β} : ∀ {l : List α}, (∀ x ∈ l, 1 ≤ (F x).length) → l.length ≤ (l.flatMap F).length
  | [], _ => by simp
  | x :: l, h => by
    have h1 := h x (by simp)
    have h2 := flat_len (F := F) (l := l) fun y hy => h y (List.mem_cons_of_mem _ hy)
    simp only [List.flatMap_cons, List.length_append, List.length_cons]
    omega
theorem kids_few {d : Nat} {t : Tree} (hf : Fit d t) (h : treeErr d t = none) : t.kids.length ≤ 200 := by
  cases d with
  | zero => exact hf.elim
  | succ d =>
    have h1 := (treeErr_none.1 h).1
    simp only [pre, List.length_cons] at h1
    have h2 := flat_len (F := fun x : ByteArray × Tree => pre d (ByteArray.empty ++ slash ++ x.1) (0 + 1) x.2) (l := t.kids) fun x hx => by
      have := hf x hx
      cases d with
      | zero => exact this.elim
      | succ d => simp [pre]
    omega
theorem at_well : ∀ {m : List ByteArray} {d : Nat} {t k : Tree}, Fit d t → treeErr d t = none → atR m t = some k → ∃ e, e ≤ d ∧ Fit e k ∧ treeErr e k = none
  | [], d, t, k, hf, h, hk => by
    simp only [atR, Option.some.injEq] at hk
    subst hk
    exact ⟨d, Nat.le_refl _, hf, h⟩
  | x :: m, 0, t, k, hf, h, hk => hf.elim
  | x :: m, d + 1, t, k, hf, h, hk => by
    simp only [atR] at hk
    cases hq : kidOf t x with
    | none => rw [hq] at hk; cases hk
    | some q =>
      rw [hq] at hk
      have hm := List.mem_of_getElem? (set_there q hq).2
      obtain ⟨e, h1, h2, h3⟩ := at_well (hf _ hm) (kid_well hm h) hk
      exact ⟨e, by omega, h2, h3⟩
theorem at_few {m : List ByteArray} {d : Nat} {t k : Tree} (hf : Fit d t) (h : treeErr d t = none) (hk : atR m t = some k) : k.kids.length ≤ 200 := by
  obtain ⟨e, _, h2, h3⟩ := at_well hf h hk
  exact kids_few h2 h3
theorem rises_fit : ∀ {d : Nat} {t : Tree}, RisesD d t → Fit d t
  | 0, _, h => h
  | _ + 1, _, h => fun x hx => rises_fit (h.2 x hx)
theorem pre_up : ∀ {d e : Nat} {p : ByteArray} {k : Nat} {t : Tree}, Fit d t → d ≤ e → pre e p k t = pre d p k t
  | 0, _, _, _, _, h, _ => h.elim
  | _ + 1, 0, _, _, _, _, h => by omega
  | d + 1, e + 1, p, k, t, h, he => by
    simp only [pre, List.cons.injEq, true_and]
    have hm : ∀ l : List (ByteArray × Tree), (∀ x ∈ l, x ∈ t.kids) → (l.flatMap fun x => pre e (p ++ slash ++ x.1) (k + 1) x.2) = l.flatMap fun x => pre d (p ++ slash ++ x.1) (k + 1) x.2 := fun l => by
      induction l with
      | nil => intro _; rfl
      | cons x l ih =>
        intro hl
        rw [List.flatMap_cons, List.flatMap_cons, ih (fun y hy => hl y (List.mem_cons_of_mem _ hy)), pre_up (h x (hl x List.mem_cons_self)) (by omega)]
    exact hm t.kids fun _ h => h
theorem treeErr_up {d e : Nat} {t : Tree} (h : Fit d t) (he : d ≤ e) : treeErr e t = treeErr d t := by
  unfold treeErr
  rw [pre_up h he]
theorem Fit.up : ∀ {d e : Nat} {t : Tree}, d ≤ e → Fit d t → Fit e t
  | 0, _, _, _, h => h.elim
  | _ + 1, 0, _, h, _ => by omega
  | _ + 1, _ + 1, _, he, h => fun x hx => Fit.up (by omega) (h x hx)
/-- Kids in memory that is new: whatever is done elsewhere, they lie there. -/
def Fresh (w w' : World) (d : Nat) (l : List (ByteArray × Tree)) (v : Value) : Prop := ∀ w9 : World, (∀ k, w.heap.size ≤ k → k < w'.heap.size → w9.heap[k]? = w'.heap[k]?) → w'.heap.size ≤ w9.heap.size → Lies w9 w'.heap.size d l v
theorem Fresh.lies {w w' : World} {d : Nat} {l : List (ByteArray × Tree)} {v : Value} (h : Fresh w w' d l v) : Lies w' w'.heap.size d l v := h w' (fun _ _ _ => rfl) (Nat.le_refl _)
theorem LiesQ.fresh {w w' : World} {d : Nat} {l : List (ByteArray × Tree)} {v : Value} {Q : Nat → Prop} (h : LiesQ w' Q d l v) (hQ : ∀ q, Q q → w.heap.size ≤ q ∧ q < w'.heap.size) : Fresh w w' d l v := fun _ h9 _ => (h.kept (fun k hk => h9 k (hQ k hk).1 (hQ k hk).2) (fun _ hk => hk)).lies fun k hk => (hQ k hk).2
/-- What Put tells. -/
def putR (d e : Nat) (t : Tree) (s : ByteArray) (X : Tree) : Except Nat Tree := match treeErr d t with
  | some er => .error er
  | none => match splitR s with
    | none => .error 4
    | some l => if roomB l t = true then (match treeErr e (setAt X l t) with
      | some er => .error er
      | none => .ok (setAt X l t)) else .error 5
theorem putR_tree {d e er : Nat} {t X : Tree} {s : ByteArray} (h : treeErr d t = some er) : putR d e t s X = .error er := by unfold putR; rw [h]
theorem putR_split {d e : Nat} {t X : Tree} {s : ByteArray} (h : treeErr d t = none) (h2 : splitR s = none) : putR d e t s X = .error 4 := by unfold putR; rw [h]; simp only [h2]
theorem putR_none {d e : Nat} {t X : Tree} {s : ByteArray} {l : List ByteArray} (h : treeErr d t = none) (h2 : splitR s = some l) (h3 : roomB l t = false) : putR d e t s X = .error 5 := by
  unfold putR; rw [h]; simp only [h2, h3]; rfl
theorem putR_bad {d e er : Nat} {t X : Tree} {s : ByteArray} {l : List ByteArray} (h : treeErr d t = none) (h2 : splitR s = some l) (h3 : roomB l t = true) (h4 : treeErr e (setAt X l t) = some er) : putR d e t s X = .error er := by
  unfold putR; rw [h]; simp only [h2, h3, if_true, h4]
theorem putR_ok {d e : Nat} {t X : Tree} {s : ByteArray} {l : List ByteArray} (h : treeErr d t = none) (h2 : splitR s = some l) (h3 : roomB l t = true) (h4 : treeErr e (setAt X l t) = none) : putR d e t s X = .ok (setAt X l t) := by
  unfold putR; rw [h]; simp only [h2, h3, if_true, h4]
end Go.Proofs.YtilkjafggfdjeabDoor
