/-
  Trees as plain mathematics: what a name is, what a node's error is, a tree's nodes in the order of the walk, and what is told of them. No program stands here.
  Conditions: none.
-/
import Derived.Below
import Derived.Laws.AppendOwn
namespace Go.Proofs.YtpjjpmikhjlgnaaGreatDoor
open Go.RowKit

/-- A node: its kind, its data, whether it may be run, its kids with their names. -/
structure Tree where
  kind : ByteArray
  data : ByteArray
  exec : Bool
  kids : List (ByteArray × Tree)

/-- A byte of a name. -/
def nb (c : Int) : Bool := decide ((97 ≤ c ∧ c ≤ 122) ∨ (48 ≤ c ∧ c ≤ 57) ∨ c = 46 ∨ c = 45)
/-- Is a text a name? -/
def nameB (s : ByteArray) : Bool := decide (1 ≤ s.size ∧ s.size ≤ 12) && !(s.toList == [46]) && !(s.toList == [46, 46]) && s.data.toList.all fun c => nb (c.toNat : Int)
theorem nameB_no {s : ByteArray} (h : ¬ ((1 ≤ s.size ∧ s.size ≤ 12) ∧ (s.toList == [46]) = false ∧ (s.toList == [46, 46]) = false)) : nameB s = false := by
  unfold nameB
  cases h1 : s.toList == [46] <;> cases h2 : s.toList == [46, 46] <;> simp_all
  intro a b; have := h a; omega
theorem nameB_yes {s : ByteArray} (h1 : 1 ≤ s.size) (h2 : s.size ≤ 12) (h3 : (s.toList == [46]) = false) (h4 : (s.toList == [46, 46]) = false) : nameB s = s.data.toList.all fun c => nb (c.toNat : Int) := by
  unfold nameB
  simp [h1, h2, h3, h4]
theorem take_snoc (s : ByteArray) (k : Nat) (h : k < s.size) : s.data.toList.take (k + 1) = s.data.toList.take k ++ [s[k]] := by
  rw [List.take_succ_eq_append_getElem (by simpa using h)]; rfl
theorem all_snoc {p : UInt8 → Bool} (s : ByteArray) (k : Nat) (h : k < s.size) : (s.data.toList.take (k + 1)).all p = ((s.data.toList.take k).all p && p s[k]) := by
  rw [take_snoc s k h]; simp
theorem all_whole {p : UInt8 → Bool} (s : ByteArray) : (s.data.toList.take s.size).all p = s.data.toList.all p := by
  rw [List.take_of_length_le (by simp)]
theorem all_miss {p : UInt8 → Bool} (s : ByteArray) (k : Nat) (h : k < s.size) (hp : p s[k] = false) : s.data.toList.all p = false := by
  rw [List.all_eq_false]
  exact ⟨s[k], by rw [Array.mem_toList_iff]; exact Array.getElem_mem _, by simp [hp]⟩

/-! ### The error of a node by itself: the number of a sentinel (0 text, 1 bound, 2 shape, 3 kind, 4 name, 9 order) -/
def isFile (t : Tree) : Bool := t.kind.toList == [102, 105, 108, 101]
def isDir (t : Tree) : Bool := t.kind.toList == [100, 105, 114]
def isLink (t : Tree) : Bool := t.kind.toList == [108, 105, 110, 107]
def fileErr (t : Tree) : Option Nat := if 0 < t.kids.length then some 2 else if 2000 < t.data.size then some 1 else none
def seen (c : UInt8) : Bool := decide (33 ≤ (c.toNat : Int) ∧ (c.toNat : Int) ≤ 126)
def linkErr (t : Tree) : Option Nat :=
  if t.exec = true ∨ 0 < t.kids.length then some 2 else if t.data.size < 1 ∨ 40 < t.data.size then some 1 else if t.data.data.toList.all seen = true then none else some 0
/-- Names rise up to a place. -/
def risesTo (l : List (ByteArray × Tree)) (k : Nat) : Bool := (List.range k).all fun j => j == 0 || Op.bytesLess ((l[j - 1]?.map (·.1)).getD ByteArray.empty).toList ((l[j]?.map (·.1)).getD ByteArray.empty).toList
def dirErr (t : Tree) : Option Nat :=
  if t.data.toList.isEmpty = false ∨ t.exec = true then some 2 else if (t.kids.all fun x => nameB x.1) = true then (if risesTo t.kids t.kids.length = true then none else some 9) else some 4
def nodeErr (t : Tree) : Option Nat := if isFile t = true then fileErr t else if isDir t = true then dirErr t else if isLink t = true then linkErr t else some 3

/-! ### Memory -/
/-- Kids lie in memory below block B: so deep at most. -/
def Lies (w : World) (B : Nat) : Nat → List (ByteArray × Tree) → Value → Prop
  | 0, _, _ => False
  | d + 1, l, v => ∃ ad cap, v = .slice ad l.length cap ∧ l.length ≤ 1759218604390 ∧ ∀ i x, l[i]? = some x → ∃ b off u, ad = some ⟨b, off, none⟩ ∧ b < B ∧ x.1.size ≤ 140737488355328 ∧
      w.cell? ⟨b, off + i * 5, none⟩ = some (.string x.1) ∧ w.cell? ⟨b, off + i * 5 + 1, none⟩ = some (.string x.2.kind) ∧ w.cell? ⟨b, off + i * 5 + 2, none⟩ = some (.string x.2.data) ∧
      w.cell? ⟨b, off + i * 5 + 3, none⟩ = some (.bool x.2.exec) ∧ w.cell? ⟨b, off + i * 5 + 4, none⟩ = some u ∧ Lies w B d x.2.kids u

/-- One kid in memory. -/
structure KidAt (w : World) (B d b off i : Nat) (x : ByteArray × Tree) (u : Value) : Prop where
  lt : b < B
  size : x.1.size ≤ 140737488355328
  name : w.cell? ⟨b, off + i * 5, none⟩ = some (.string x.1)
  kind : w.cell? ⟨b, off + i * 5 + 1, none⟩ = some (.string x.2.kind)
  data : w.cell? ⟨b, off + i * 5 + 2, none⟩ = some (.string x.2.data)
  exec : w.cell? ⟨b, off + i * 5 + 3, none⟩ = some (.bool x.2.exec)
  kids : w.cell? ⟨b, off + i * 5 + 4, none⟩ = some u
  lies : Lies w B d x.2.kids u

/-- What a walk wants of kids: none, or an address and each kid there. -/
theorem Lies.open {w : World} {B d : Nat} {l : List (ByteArray × Tree)} {v : Value} (h : Lies w B (d + 1) l v) :
    l.length ≤ 1759218604390 ∧ ((l = [] ∧ ∃ ad cap, v = .slice ad 0 cap) ∨ ∃ b off cap, v = .slice (some ⟨b, off, none⟩) l.length cap ∧ b < B ∧ ∀ i x, l[i]? = some x → ∃ u, KidAt w B d b off i x u) := by
  obtain ⟨ad, cap, rfl, hlen, hk⟩ := h
  refine ⟨hlen, ?_⟩
  cases l with
  | nil => exact .inl ⟨rfl, ad, cap, rfl⟩
  | cons x0 r =>
    obtain ⟨b, off, _, rfl, hb, _⟩ := hk 0 x0 rfl
    refine .inr ⟨b, off, cap, rfl, hb, fun i x hx => ?_⟩
    obtain ⟨b', off', u, e, h1, h2, h3, h4, h5, h6, h7, h8⟩ := hk i x hx
    simp only [Option.some.injEq, Addr.mk.injEq] at e
    obtain ⟨rfl, rfl, _⟩ := e
    exact ⟨u, h1, h2, h3, h4, h5, h6, h7, h8⟩

/-- Memory below B has not turned: what lies there lies there still. -/
theorem Lies.kept {w w' : World} {B : Nat} (hb : ∀ k, k < B → w'.heap[k]? = w.heap[k]?) : ∀ {d : Nat} {l : List (ByteArray × Tree)} {v : Value}, Lies w B d l v → Lies w' B d l v
  | 0, _, _, h => h
  | d + 1, l, v, ⟨ad, cap, e, hlen, hk⟩ => ⟨ad, cap, e, hlen, fun i x hx => by
    obtain ⟨b, off, u, e, h1, h2, h3, h4, h5, h6, h7, h8⟩ := hk i x hx
    have hc : ∀ o, w'.cell? ⟨b, o, none⟩ = w.cell? ⟨b, o, none⟩ := fun o => World.cell?_of_block (hb b h1)
    exact ⟨b, off, u, e, h1, h2, by rw [hc]; exact h3, by rw [hc]; exact h4, by rw [hc]; exact h5, by rw [hc]; exact h6, by rw [hc]; exact h7, Lies.kept hb h8⟩⟩
theorem Lies.below {w w' : World} {B d : Nat} {l : List (ByteArray × Tree)} {v : Value} (h : Lies w B d l v) {C : Nat} (hb : Below C w w') (hC : B ≤ C) : Lies w' B d l v :=
  h.kept fun k hk => hb.block k (by omega)
/-- Deeper reading, higher bound. -/
theorem Lies.up {w : World} {B B' : Nat} (hB : B ≤ B') : ∀ {d d' : Nat} {l : List (ByteArray × Tree)} {v : Value}, d ≤ d' → Lies w B d l v → Lies w B' d' l v
  | 0, _, _, _, _, h => absurd h (by simp [Lies])
  | d + 1, 0, _, _, hd, _ => by omega
  | d + 1, d' + 1, l, v, hd, ⟨ad, cap, e, hlen, hk⟩ => ⟨ad, cap, e, hlen, fun i x hx => by
    obtain ⟨b, off, u, e, h1, h2, h3, h4, h5, h6, h7, h8⟩ := hk i x hx
    exact ⟨b, off, u, e, by omega, h2, h3, h4, h5, h6, h7, Lies.up hB (by omega) h8⟩⟩

theorem KidAt.below {w w' : World} {B d b off i : Nat} {x : ByteArray × Tree} {u : Value} (h : KidAt w B d b off i x u) {C : Nat} (hb : Below C w w') (hC : B ≤ C) : KidAt w' B d b off i x u := by
  have hc : ∀ o, w'.cell? ⟨b, o, none⟩ = w.cell? ⟨b, o, none⟩ := fun o => hb.cell (p := ⟨b, o, none⟩) (Nat.lt_of_lt_of_le h.lt hC)
  exact ⟨h.lt, h.size, by rw [hc]; exact h.name, by rw [hc]; exact h.kind, by rw [hc]; exact h.data, by rw [hc]; exact h.exec, by rw [hc]; exact h.kids, h.lies.below hb hC⟩

/-! ### Lists of kids, place by place -/
theorem kids_snoc {p : ByteArray × Tree → Bool} {l : List (ByteArray × Tree)} {k : Nat} {x : ByteArray × Tree} (h : l[k]? = some x) : (l.take (k + 1)).all p = ((l.take k).all p && p x) := by
  have hk : k < l.length := (List.getElem?_eq_some_iff.1 h).1
  have e : l[k] = x := (List.getElem?_eq_some_iff.1 h).2
  rw [List.take_succ_eq_append_getElem hk, e]; simp
theorem kids_miss {p : ByteArray × Tree → Bool} {l : List (ByteArray × Tree)} {k : Nat} {x : ByteArray × Tree} (h : l[k]? = some x) (hp : p x = false) : l.all p = false := by
  rw [List.all_eq_false]
  exact ⟨x, List.mem_of_getElem? h, by simp [hp]⟩
theorem risesTo_succ {l : List (ByteArray × Tree)} {k : Nat} {x y : ByteArray × Tree} (hx : l[k]? = some x) (hy : l[k + 1]? = some y) : risesTo l (k + 1 + 1) = (risesTo l (k + 1) && Op.bytesLess x.1.toList y.1.toList) := by
  unfold risesTo
  rw [List.range_succ (n := k + 1), List.all_append]
  simp [hx, hy]
theorem risesTo_mono {l : List (ByteArray × Tree)} {k n : Nat} (h : k ≤ n) (hf : risesTo l k = false) : risesTo l n = false := by
  unfold risesTo at *
  rw [List.all_eq_false] at *
  obtain ⟨j, hj, hp⟩ := hf
  exact ⟨j, List.mem_range.2 (by have := List.mem_range.1 hj; omega), hp⟩
theorem risesTo_one (l : List (ByteArray × Tree)) : risesTo l 1 = true := by simp [risesTo]
theorem Lies.form {w : World} {B : Nat} : ∀ {d : Nat} {l : List (ByteArray × Tree)} {v : Value}, Lies w B d l v → ∃ ad cap, v = .slice ad l.length cap
  | 0, _, _, h => absurd h (by simp [Lies])
  | _ + 1, _, _, ⟨ad, cap, e, _⟩ => ⟨ad, cap, e⟩

/-! ### The walk: nodes with their paths and depths, in their order -/
def slash : ByteArray := { data := #[47] }
def pre : Nat → ByteArray → Nat → Tree → List (ByteArray × Nat × Tree)
  | 0, _, _, _ => []
  | d + 1, p, k, t => (p, k, t) :: t.kids.flatMap fun x => pre d (p ++ slash ++ x.1) (k + 1) x.2
/-- A state that goes through items, and ends at the first error. -/
def runs {σ : Type} (step : σ → ByteArray × Nat × Tree → σ × Option Nat) : σ → List (ByteArray × Nat × Tree) → σ × Option Nat
  | s, [] => (s, none)
  | s, x :: r => match step s x with
    | (s', none) => runs step s' r
    | (s', some e) => (s', some e)
theorem runs_append {σ : Type} {step : σ → ByteArray × Nat × Tree → σ × Option Nat} : ∀ (l1 l2 : List (ByteArray × Nat × Tree)) (s : σ), (runs step s l1).2 = none → runs step s (l1 ++ l2) = runs step (runs step s l1).1 l2
  | [], _, _, _ => rfl
  | x :: r, l2, s, h => by
    simp only [List.cons_append, runs] at h ⊢
    cases hx : step s x with
    | mk s' e =>
      rw [hx] at h
      cases e with
      | none => exact runs_append r l2 s' h
      | some e => simp at h
theorem runs_append_err {σ : Type} {step : σ → ByteArray × Nat × Tree → σ × Option Nat} : ∀ (l1 l2 : List (ByteArray × Nat × Tree)) (s : σ) {e : Nat}, (runs step s l1).2 = some e → runs step s (l1 ++ l2) = runs step s l1
  | [], _, _, _, h => by simp [runs] at h
  | x :: r, l2, s, e, h => by
    simp only [List.cons_append, runs] at h ⊢
    cases hx : step s x with
    | mk s' e' =>
      rw [hx] at h
      cases e' with
      | none => exact runs_append_err r l2 s' h
      | some e' => rfl
/-- What every step on the way may ask. -/
def Alive {σ : Type} (step : σ → ByteArray × Nat × Tree → σ × Option Nat) (ok : σ → ByteArray × Nat × Tree → Prop) : σ → List (ByteArray × Nat × Tree) → Prop
  | _, [] => True
  | s, x :: r => ok s x ∧ ((step s x).2 = none → Alive step ok (step s x).1 r)
theorem Alive.append {σ : Type} {step : σ → ByteArray × Nat × Tree → σ × Option Nat} {ok : σ → ByteArray × Nat × Tree → Prop} : ∀ {l1 l2 : List (ByteArray × Nat × Tree)} {s : σ}, Alive step ok s (l1 ++ l2) → Alive step ok s l1 ∧ ((runs step s l1).2 = none → Alive step ok (runs step s l1).1 l2)
  | [], _, _, h => ⟨trivial, fun _ => h⟩
  | x :: r, l2, s, ⟨h1, h2⟩ => by
    cases hx : step s x with
    | mk s' e =>
      rw [hx] at h2
      cases e with
      | none =>
        have h3 := Alive.append (h2 rfl)
        refine ⟨⟨h1, fun _ => by rw [hx]; exact h3.1⟩, fun h => ?_⟩
        simp only [runs, hx] at h ⊢
        exact h3.2 h
      | some e => exact ⟨⟨h1, fun h => by rw [hx] at h; cases h⟩, fun h => by simp [runs, hx] at h⟩

/-- All memory but the blocks of C is as it was. -/
structure Kept (C : Nat → Prop) (w w' : World) : Prop where
  os : w'.os = w.os
  tape : w'.tape = w.tape
  output : w'.output = w.output
  size : w.heap.size ≤ w'.heap.size
  block : ∀ k, k < w.heap.size → ¬ C k → w'.heap[k]? = w.heap[k]?
theorem Kept.of_below {C : Nat → Prop} {w w' : World} (h : Below w.heap.size w w') : Kept C w w' := ⟨h.os, h.tape, h.output, h.size, fun k hk _ => h.block k hk⟩
theorem Kept.below {C : Nat → Prop} {w w' : World} {B : Nat} (h : Kept C w w') (hC : ∀ k, C k → B ≤ k) (hB : B ≤ w.heap.size) : Below B w w' :=
  ⟨h.os, h.tape, h.output, h.size, fun k hk => h.block k (by omega) fun hc => by have := hC k hc; omega⟩
theorem Kept.trans {C C' : Nat → Prop} {w w1 w2 : World} (h : Kept C w w1) (h' : Kept C' w1 w2) (hC : ∀ k, C' k → C k ∨ w.heap.size ≤ k) : Kept C w w2 :=
  ⟨h'.os.trans h.os, h'.tape.trans h.tape, h'.output.trans h.output, Nat.le_trans h.size h'.size, fun k hk hc => by
    rw [h'.block k (Nat.lt_of_lt_of_le hk h.size) fun hc' => by rcases hC k hc' with h1 | h1; exact hc h1; omega]
    exact h.block k hk hc⟩
theorem flat_take {α β : Type} {l : List α} {j : Nat} {x : α} (h : l[j]? = some x) (F : α → List β) : (l.take (j + 1)).flatMap F = (l.take j).flatMap F ++ F x := by
  have hk : j < l.length := (List.getElem?_eq_some_iff.1 h).1
  have e : l[j] = x := (List.getElem?_eq_some_iff.1 h).2
  rw [List.take_succ_eq_append_getElem hk, e]; simp
theorem flat_split {α β : Type} {l : List α} {j : Nat} {x : α} (h : l[j]? = some x) (F : α → List β) : l.flatMap F = (l.take j).flatMap F ++ (F x ++ (l.drop (j + 1)).flatMap F) := by
  rw [← List.append_assoc, ← flat_take h F, ← List.flatMap_append, List.take_append_drop]
theorem runs_flat_err {α σ : Type} {step : σ → ByteArray × Nat × Tree → σ × Option Nat} {l : List α} {j : Nat} {x : α} (h : l[j]? = some x) {F : α → List (ByteArray × Nat × Tree)} {s s' s2 : σ} {e : Nat}
    (h1 : runs step s ((l.take j).flatMap F) = (s', none)) (h2 : runs step s' (F x) = (s2, some e)) : runs step s (l.flatMap F) = (s2, some e) := by
  rw [flat_split h F, runs_append _ _ _ (by rw [h1]), h1]
  show runs step s' _ = _
  rw [runs_append_err _ _ _ (by rw [h2]), h2]
theorem runs_flat_next {α σ : Type} {step : σ → ByteArray × Nat × Tree → σ × Option Nat} {l : List α} {j : Nat} {x : α} (h : l[j]? = some x) {F : α → List (ByteArray × Nat × Tree)} {s s' s2 : σ}
    (h1 : runs step s ((l.take j).flatMap F) = (s', none)) (h2 : runs step s' (F x) = (s2, none)) : runs step s ((l.take (j + 1)).flatMap F) = (s2, none) := by
  rw [flat_take h F, runs_append _ _ _ (by rw [h1]), h1]
  exact h2

/-! ### The same two -/
def headSame (s t : Tree) : Bool := (s.kind.toList == t.kind.toList) && (s.data.toList == t.data.toList) && (s.exec == t.exec) && (s.kids.length == t.kids.length)
def sameB : Nat → Tree → Tree → Bool
  | 0, _, _ => false
  | d + 1, s, t => headSame s t && (List.range s.kids.length).all fun i => match s.kids[i]?, t.kids[i]? with
    | some x, some y => (x.1.toList == y.1.toList) && sameB d x.2 y.2
    | _, _ => false
def sameTo (d : Nat) (s t : Tree) (k : Nat) : Bool := (List.range k).all fun i => match s.kids[i]?, t.kids[i]? with
  | some x, some y => (x.1.toList == y.1.toList) && sameB d x.2 y.2
  | _, _ => false
theorem sameB_succ (d : Nat) (s t : Tree) : sameB (d + 1) s t = (headSame s t && sameTo d s t s.kids.length) := rfl
theorem sameTo_succ {d : Nat} {s t : Tree} {k : Nat} {x y : ByteArray × Tree} (hx : s.kids[k]? = some x) (hy : t.kids[k]? = some y) : sameTo d s t (k + 1) = (sameTo d s t k && ((x.1.toList == y.1.toList) && sameB d x.2 y.2)) := by
  unfold sameTo
  rw [List.range_succ, List.all_append]
  simp [hx, hy]
theorem sameTo_mono {d : Nat} {s t : Tree} {k n : Nat} (h : k ≤ n) (hf : sameTo d s t k = false) : sameTo d s t n = false := by
  unfold sameTo at *
  rw [List.all_eq_false] at *
  obtain ⟨j, hj, hp⟩ := hf
  exact ⟨j, List.mem_range.2 (by have := List.mem_range.1 hj; omega), hp⟩

/-! ### Kids in memory, in blocks of a kind -/
def LiesQ (w : World) (Q : Nat → Prop) : Nat → List (ByteArray × Tree) → Value → Prop
  | 0, _, _ => False
  | d + 1, l, v => ∃ ad cap, v = .slice ad l.length cap ∧ l.length ≤ 1759218604390 ∧ ∀ i x, l[i]? = some x → ∃ b off u, ad = some ⟨b, off, none⟩ ∧ Q b ∧ x.1.size ≤ 140737488355328 ∧
      w.cell? ⟨b, off + i * 5, none⟩ = some (.string x.1) ∧ w.cell? ⟨b, off + i * 5 + 1, none⟩ = some (.string x.2.kind) ∧ w.cell? ⟨b, off + i * 5 + 2, none⟩ = some (.string x.2.data) ∧
      w.cell? ⟨b, off + i * 5 + 3, none⟩ = some (.bool x.2.exec) ∧ w.cell? ⟨b, off + i * 5 + 4, none⟩ = some u ∧ LiesQ w Q d x.2.kids u
theorem LiesQ.kept {w w' : World} {Q Q' : Nat → Prop} (hb : ∀ k, Q k → w'.heap[k]? = w.heap[k]?) (hq : ∀ k, Q k → Q' k) : ∀ {d : Nat} {l : List (ByteArray × Tree)} {v : Value}, LiesQ w Q d l v → LiesQ w' Q' d l v
  | 0, _, _, h => h
  | d + 1, l, v, ⟨ad, cap, e, hlen, hk⟩ => ⟨ad, cap, e, hlen, fun i x hx => by
    obtain ⟨b, off, u, e, h1, h2, h3, h4, h5, h6, h7, h8⟩ := hk i x hx
    have hc : ∀ o, w'.cell? ⟨b, o, none⟩ = w.cell? ⟨b, o, none⟩ := fun o => World.cell?_of_block (hb b h1)
    exact ⟨b, off, u, e, hq b h1, h2, by rw [hc]; exact h3, by rw [hc]; exact h4, by rw [hc]; exact h5, by rw [hc]; exact h6, by rw [hc]; exact h7, LiesQ.kept hb hq h8⟩⟩
theorem LiesQ.lies {w : World} {Q : Nat → Prop} {B : Nat} (hq : ∀ k, Q k → k < B) : ∀ {d : Nat} {l : List (ByteArray × Tree)} {v : Value}, LiesQ w Q d l v → Lies w B d l v
  | 0, _, _, h => h
  | d + 1, l, v, ⟨ad, cap, e, hlen, hk⟩ => ⟨ad, cap, e, hlen, fun i x hx => by
    obtain ⟨b, off, u, e, h1, h2, h3, h4, h5, h6, h7, h8⟩ := hk i x hx
    exact ⟨b, off, u, e, hq b h1, h2, h3, h4, h5, h6, h7, LiesQ.lies hq h8⟩⟩
theorem LiesQ.form {w : World} {Q : Nat → Prop} : ∀ {d : Nat} {l : List (ByteArray × Tree)} {v : Value}, LiesQ w Q d l v → ∃ ad cap, v = .slice ad l.length cap
  | 0, _, _, h => absurd h (by simp [LiesQ])
  | _ + 1, _, _, ⟨ad, cap, e, _⟩ => ⟨ad, cap, e⟩

/-- The cells of kids, each with its own kids' slice. -/
def kidCells : List (ByteArray × Tree) → List Value → List Value
  | x :: l, u :: us => .string x.1 :: .string x.2.kind :: .string x.2.data :: .bool x.2.exec :: u :: kidCells l us
  | _, _ => []
theorem kidCells_snoc : ∀ (l : List (ByteArray × Tree)) (us : List Value) (x : ByteArray × Tree) (u : Value), l.length = us.length → kidCells (l ++ [x]) (us ++ [u]) = kidCells l us ++ [.string x.1, .string x.2.kind, .string x.2.data, .bool x.2.exec, u]
  | [], [], x, u, _ => rfl
  | y :: l, v :: us, x, u, h => by simp only [List.cons_append, kidCells]; rw [kidCells_snoc l us x u (by simpa using h)]
  | [], _ :: _, _, _, h => by simp at h
  | _ :: _, [], _, _, h => by simp at h
theorem kidCells_at : ∀ {l : List (ByteArray × Tree)} {us : List Value} {i : Nat} {x : ByteArray × Tree} {u : Value}, l[i]? = some x → us[i]? = some u →
    (kidCells l us)[i * 5]? = some (.string x.1) ∧ (kidCells l us)[i * 5 + 1]? = some (.string x.2.kind) ∧ (kidCells l us)[i * 5 + 2]? = some (.string x.2.data) ∧ (kidCells l us)[i * 5 + 3]? = some (.bool x.2.exec) ∧ (kidCells l us)[i * 5 + 4]? = some u
  | [], _, i, x, u, h, _ => by simp at h
  | _ :: _, [], i, x, u, _, h => by simp at h
  | y :: l, v :: us, 0, x, u, h, h' => by
    simp only [List.getElem?_cons_zero, Option.some.injEq] at h h'
    subst h; subst h'
    exact ⟨rfl, rfl, rfl, rfl, rfl⟩
  | y :: l, v :: us, i + 1, x, u, h, h' => by
    simp only [List.getElem?_cons_succ] at h h'
    have := kidCells_at h h'
    have e : ∀ k, (i + 1) * 5 + k = (i * 5 + k) + 1 + 1 + 1 + 1 + 1 := fun k => by omega
    simp only [kidCells]
    refine ⟨?_, ?_, ?_, ?_, ?_⟩
    · rw [show (i + 1) * 5 = (i * 5) + 1 + 1 + 1 + 1 + 1 from by omega]; simpa using this.1
    · rw [e]; simpa using this.2.1
    · rw [e]; simpa using this.2.2.1
    · rw [e]; simpa using this.2.2.2.1
    · rw [e]; simpa using this.2.2.2.2
/-- Kids out of an owned row. -/
theorem LiesQ.made {w : World} {Q : Nat → Prop} {d base : Nat} {e : TypeId} {l : List (ByteArray × Tree)} {us : List Value} {v : Value} (hown : w.ownsRow base e 5 v l.length (kidCells l us)) (hlen : l.length ≤ 1759218604390) (hu : us.length = l.length) (hv : ∀ g, v.ownBlock = some g → Q g)
    (hs : ∀ x ∈ l, x.1.size ≤ 140737488355328) (hk : ∀ (i : Nat) (x : ByteArray × Tree) (u : Value), l[i]? = some x → us[i]? = some u → LiesQ w Q d x.2.kids u) : LiesQ w Q (d + 1) l v := by
  have hform : ∃ ad cap, v = .slice ad l.length cap := by
    rcases hown.2 with ⟨h, h'⟩ | ⟨g, cap, cur, h, _⟩
    · exact ⟨none, 0, by rw [h, h']⟩
    · exact ⟨_, _, h⟩
  obtain ⟨ad, cap, hvf⟩ := hform
  refine ⟨ad, cap, hvf, hlen, fun i x hx => ?_⟩
  have hi : i < l.length := (List.getElem?_eq_some_iff.1 hx).1
  obtain ⟨u, hui⟩ : ∃ u, us[i]? = some u := ⟨us[i]'(by omega), List.getElem?_eq_getElem (by omega)⟩
  rcases hown.2 with ⟨_, h'⟩ | ⟨g, cap', cur, h, _, hg, _⟩
  · omega
  · rw [hvf] at h
    simp only [Value.slice.injEq] at h
    obtain ⟨rfl, _⟩ := h
    have hc := hown.cells (g := g) (by rw [hvf]; rfl)
    have hadd : ∀ j, (⟨g, 0, none⟩ : Addr).add j = ⟨g, j, none⟩ := fun j => by unfold Addr.add; split <;> simp_all
    obtain ⟨h0, h1, h2, h3, h4⟩ := kidCells_at hx hui
    have c0 := hc _ _ h0
    have c1 := hc _ _ h1
    have c2 := hc _ _ h2
    have c3 := hc _ _ h3
    have c4 := hc _ _ h4
    rw [hadd] at c0 c1 c2 c3 c4
    exact ⟨g, 0, u, rfl, hv g (by rw [hvf]; rfl), hs x (List.mem_of_getElem? hx), by rw [Nat.zero_add]; exact c0, by rw [Nat.zero_add]; exact c1, by rw [Nat.zero_add]; exact c2, by rw [Nat.zero_add]; exact c3, by rw [Nat.zero_add]; exact c4, hk i x u hx hui⟩
end Go.Proofs.YtpjjpmikhjlgnaaGreatDoor
