/-
  Trees as plain mathematics: what a name is, what a node's error is, a tree's nodes in the order of the walk, and what is told of them. No program stands here.
  The eight sentinels that package tree and package pack hand back, as they lie in memory.
  The contracts of plain.Code: at nil, at an error of errors.New's make (the number of the sentinel that it is, or -1), at an *api.Fault that holds a sentinel (its number, and its place).
  Conditions: those that each states.
-/
import Derived.Below
import Derived.Laws.AppendOwn
import Derived.Test.YtpjjpmikhjlgnaaGreatDoorD01
import Derived.Outline
namespace Go.Proofs.YtpjjpmikhjlgnaaGreatDoor
open Go.RowKit

/-- A node: its kind, its data, whether it may be run, its kids with their names. -/
structure Tree where
  kind : ByteArray
  data : ByteArray
  exec : Bool
  kids : List (ByteArray × Tree)

/-- A byte of a name. -/
def nb (c : Int) : Bool := decide ((97 ≤ c ∧ c ≤ 122) ∨ (48 ≤ c ∧ c ≤ 57) ∨ c = 46 ∨ c = 45)
/-- Is a text a name? -/
def nameB (s : ByteArray) : Bool := decide (1 ≤ s.size ∧ s.size ≤ 12) && !(s.toList == [46]) && !(s.toList == [46, 46]) && s.data.toList.all fun c => nb (c.toNat : Int)
theorem nameB_no {s : ByteArray} (h : ¬ ((1 ≤ s.size ∧ s.size ≤ 12) ∧ (s.toList == [46]) = false ∧ (s.toList == [46, 46]) = false)) : nameB s = false := by
  unfold nameB
  cases h1 : s.toList == [46] <;> cases h2 : s.toList == [46, 46] <;> simp_all
  intro a b; have := h a; omega
theorem nameB_yes {s : ByteArray} (h1 : 1 ≤ s.size) (h2 : s.size ≤ 12) (h3 : (s.toList == [46]) = false) (h4 : (s.toList == [46, 46]) = false) : nameB s = s.data.toList.all fun c => nb (c.toNat : Int) := by
  unfold nameB
  simp [h1, h2, h3, h4]
theorem take_snoc (s : ByteArray) (k : Nat) (h : k < s.size) : s.data.toList.take (k + 1) = s.data.toList.take k ++ [s[k]] := by
  rw [List.take_succ_eq_append_getElem (by simpa using h)]; rfl
theorem all_snoc {p : UInt8 → Bool} (s : ByteArray) (k : Nat) (h : k < s.size) : (s.data.toList.take (k + 1)).all p = ((s.data.toList.take k).all p && p s[k]) := by
  rw [take_snoc s k h]; simp
theorem all_whole {p : UInt8 → Bool} (s : ByteArray) : (s.data.toList.take s.size).all p = s.data.toList.all p := by
  rw [List.take_of_length_le (by simp)]
theorem all_miss {p : UInt8 → Bool} (s : ByteArray) (k : Nat) (h : k < s.size) (hp : p s[k] = false) : s.data.toList.all p = false := by
  rw [List.all_eq_false]
  exact ⟨s[k], by rw [Array.mem_toList_iff]; exact Array.getElem_mem _, by simp [hp]⟩

/-! ### The error of a node by itself: the number of a sentinel (0 text, 1 bound, 2 shape, 3 kind, 4 name, 9 order) -/
def isFile (t : Tree) : Bool := t.kind.toList == [102, 105, 108, 101]
def isDir (t : Tree) : Bool := t.kind.toList == [100, 105, 114]
def isLink (t : Tree) : Bool := t.kind.toList == [108, 105, 110, 107]
def fileErr (t : Tree) : Option Nat := if 0 < t.kids.length then some 2 else if 2000 < t.data.size then some 1 else none
def seen (c : UInt8) : Bool := decide (33 ≤ (c.toNat : Int) ∧ (c.toNat : Int) ≤ 126)
def linkErr (t : Tree) : Option Nat :=
  if t.exec = true ∨ 0 < t.kids.length then some 2 else if t.data.size < 1 ∨ 40 < t.data.size then some 1 else if t.data.data.toList.all seen = true then none else some 0
/-- Names rise up to a place. -/
def risesTo (l : List (ByteArray × Tree)) (k : Nat) : Bool := (List.range k).all fun j => j == 0 || Op.bytesLess ((l[j - 1]?.map (·.1)).getD ByteArray.empty).toList ((l[j]?.map (·.1)).getD ByteArray.empty).toList
def dirErr (t : Tree) : Option Nat :=
  if t.data.toList.isEmpty = false ∨ t.exec = true then some 2 else if (t.kids.all fun x => nameB x.1) = true then (if risesTo t.kids t.kids.length = true then none else some 9) else some 4
def nodeErr (t : Tree) : Option Nat := if isFile t = true then fileErr t else if isDir t = true then dirErr t else if isLink t = true then linkErr t else some 3

/-! ### Memory -/
/-- Kids lie in memory below block B: so deep at most. -/
def Lies (w : World) (B : Nat) : Nat → List (ByteArray × Tree) → Value → Prop
  | 0, _, _ => False
  | d + 1, l, v => ∃ ad cap, v = .slice ad l.length cap ∧ l.length ≤ 1759218604390 ∧ ∀ i x, l[i]? = some x → ∃ b off u, ad = some ⟨b, off, none⟩ ∧ b < B ∧ x.1.size ≤ 140737488355328 ∧
      w.cell? ⟨b, off + i * 5, none⟩ = some (.string x.1) ∧ w.cell? ⟨b, off + i * 5 + 1, none⟩ = some (.string x.2.kind) ∧ w.cell? ⟨b, off + i * 5 + 2, none⟩ = some (.string x.2.data) ∧
      w.cell? ⟨b, off + i * 5 + 3, none⟩ = some (.bool x.2.exec) ∧ w.cell? ⟨b, off + i * 5 + 4, none⟩ = some u ∧ Lies w B d x.2.kids u

/-- One kid in memory. -/
structure KidAt (w : World) (B d b off i : Nat) (x : ByteArray × Tree) (u : Value) : Prop where
  lt : b < B
  size : x.1.size ≤ 140737488355328
  name : w.cell? ⟨b, off + i * 5, none⟩ = some (.string x.1)
  kind : w.cell? ⟨b, off + i * 5 + 1, none⟩ = some (.string x.2.kind)
  data : w.cell? ⟨b, off + i * 5 + 2, none⟩ = some (.string x.2.data)
  exec : w.cell? ⟨b, off + i * 5 + 3, none⟩ = some (.bool x.2.exec)
  kids : w.cell? ⟨b, off + i * 5 + 4, none⟩ = some u
  lies : Lies w B d x.2.kids u

/-- What a walk wants of kids: none, or an address and each kid there. -/
theorem Lies.open {w : World} {B d : Nat} {l : List (ByteArray × Tree)} {v : Value} (h : Lies w B (d + 1) l v) :
    l.length ≤ 1759218604390 ∧ ((l = [] ∧ ∃ ad cap, v = .slice ad 0 cap) ∨ ∃ b off cap, v = .slice (some ⟨b, off, none⟩) l.length cap ∧ b < B ∧ ∀ i x, l[i]? = some x → ∃ u, KidAt w B d b off i x u) := by
  obtain ⟨ad, cap, rfl, hlen, hk⟩ := h
  refine ⟨hlen, ?_⟩
  cases l with
  | nil => exact .inl ⟨rfl, ad, cap, rfl⟩
  | cons x0 r =>
    obtain ⟨b, off, _, rfl, hb, _⟩ := hk 0 x0 rfl
    refine .inr ⟨b, off, cap, rfl, hb, fun i x hx => ?_⟩
    obtain ⟨b', off', u, e, h1, h2, h3, h4, h5, h6, h7, h8⟩ := hk i x hx
    simp only [Option.some.injEq, Addr.mk.injEq] at e
    obtain ⟨rfl, rfl, _⟩ := e
    exact ⟨u, h1, h2, h3, h4, h5, h6, h7, h8⟩

/-- Memory below B has not turned: what lies there lies there still. -/
theorem Lies.kept {w w' : World} {B : Nat} (hb : ∀ k, k < B → w'.heap[k]? = w.heap[k]?) : ∀ {d : Nat} {l : List (ByteArray × Tree)} {v : Value}, Lies w B d l v → Lies w' B d l v
  | 0, _, _, h => h
  | d + 1, l, v, ⟨ad, cap, e, hlen, hk⟩ => ⟨ad, cap, e, hlen, fun i x hx => by
    obtain ⟨b, off, u, e, h1, h2, h3, h4, h5, h6, h7, h8⟩ := hk i x hx
    have hc : ∀ o, w'.cell? ⟨b, o, none⟩ = w.cell? ⟨b, o, none⟩ := fun o => World.cell?_of_block (hb b h1)
    exact ⟨b, off, u, e, h1, h2, by rw [hc]; exact h3, by rw [hc]; exact h4, by rw [hc]; exact h5, by rw [hc]; exact h6, by rw [hc]; exact h7, Lies.kept hb h8⟩⟩
theorem Lies.below {w w' : World} {B d : Nat} {l : List (ByteArray × Tree)} {v : Value} (h : Lies w B d l v) {C : Nat} (hb : Below C w w') (hC : B ≤ C) : Lies w' B d l v :=
  h.kept fun k hk => hb.block k (by omega)
/-- Deeper reading, higher bound. -/
theorem Lies.up {w : World} {B B' : Nat} (hB : B ≤ B') : ∀ {d d' : Nat} {l : List (ByteArray × Tree)} {v : Value}, d ≤ d' → Lies w B d l v → Lies w B' d' l v
  | 0, _, _, _, _, h => absurd h (by simp [Lies])
  | d + 1, 0, _, _, hd, _ => by omega
  | d + 1, d' + 1, l, v, hd, ⟨ad, cap, e, hlen, hk⟩ => ⟨ad, cap, e, hlen, fun i x hx => by
    obtain ⟨b, off, u, e, h1, h2, h3, h4, h5, h6, h7, h8⟩ := hk i x hx
    exact ⟨b, off, u, e, by omega, h2, h3, h4, h5, h6, h7, Lies.up hB (by omega) h8⟩⟩

theorem KidAt.below {w w' : World} {B d b off i : Nat} {x : ByteArray × Tree} {u : Value} (h : KidAt w B d b off i x u) {C : Nat} (hb : Below C w w') (hC : B ≤ C) : KidAt w' B d b off i x u := by
  have hc : ∀ o, w'.cell? ⟨b, o, none⟩ = w.cell? ⟨b, o, none⟩ := fun o => hb.cell (p := ⟨b, o, none⟩) (Nat.lt_of_lt_of_le h.lt hC)
  exact ⟨h.lt, h.size, by rw [hc]; exact h.name, by rw [hc]; exact h.kind, by rw [hc]; exact h.data, by rw [hc]; exact h.exec, by rw [hc]; exact h.kids, h.lies.below hb hC⟩

/-! ### Lists of kids, place by place -/
theorem kids_snoc {p : ByteArray × Tree → Bool} {l : List (ByteArray × Tree)} {k : Nat} {x : ByteArray × Tree} (h : l[k]? = some x) : (l.take (k + 1)).all p = ((l.take k).all p && p x) := by
  have hk : k < l.length := (List.getElem?_eq_some_iff.1 h).1
  have e : l[k] = x := (List.getElem?_eq_some_iff.1 h).2
  rw [List.take_succ_eq_append_getElem hk, e]; simp
theorem kids_miss {p : ByteArray × Tree → Bool} {l : List (ByteArray × Tree)} {k : Nat} {x : ByteArray × Tree} (h : l[k]? = some x) (hp : p x = false) : l.all p = false := by
  rw [List.all_eq_false]
  exact ⟨x, List.mem_of_getElem? h, by simp [hp]⟩
theorem risesTo_succ {l : List (ByteArray × Tree)} {k : Nat} {x y : ByteArray × Tree} (hx : l[k]? = some x) (hy : l[k + 1]? = some y) : risesTo l (k + 1 + 1) = (risesTo l (k + 1) && Op.bytesLess x.1.toList y.1.toList) := by
  unfold risesTo
  rw [List.range_succ (n := k + 1), List.all_append]
  simp [hx, hy]
theorem risesTo_mono {l : List (ByteArray × Tree)} {k n : Nat} (h : k ≤ n) (hf : risesTo l k = false) : risesTo l n = false := by
  unfold risesTo at *
  rw [List.all_eq_false] at *
  obtain ⟨j, hj, hp⟩ := hf
  exact ⟨j, List.mem_range.2 (by have := List.mem_range.1 hj; omega), hp⟩
theorem risesTo_one (l : List (ByteArray × Tree)) : risesTo l 1 = true := by simp [risesTo]
theorem Lies.form {w : World} {B : Nat} : ∀ {d : Nat} {l : List (ByteArray × Tree)} {v : Value}, Lies w B d l v → ∃ ad cap, v = .slice ad l.length cap
  | 0, _, _, h => absurd h (by simp [Lies])
  | _ + 1, _, _, ⟨ad, cap, e, _⟩ => ⟨ad, cap, e⟩

/-! ### The walk: nodes with their paths and depths, in their order -/
def slash : ByteArray := { data := #[47] }
def pre : Nat → ByteArray → Nat → Tree → List (ByteArray × Nat × Tree)
  | 0, _, _, _ => []
  | d + 1, p, k, t => (p, k, t) :: t.kids.flatMap fun x => pre d (p ++ slash ++ x.1) (k + 1) x.2
/-- A state that goes through items, and ends at the first error. -/
def runs {σ : Type} (step : σ → ByteArray × Nat × Tree → σ × Option Nat) : σ → List (ByteArray × Nat × Tree) → σ × Option Nat
  | s, [] => (s, none)
  | s, x :: r => match step s x with
    | (s', none) => runs step s' r
    | (s', some e) => (s', some e)
theorem runs_append {σ : Type} {step : σ → ByteArray × Nat × Tree → σ × Option Nat} : ∀ (l1 l2 : List (ByteArray × Nat × Tree)) (s : σ), (runs step s l1).2 = none → runs step s (l1 ++ l2) = runs step (runs step s l1).1 l2
  | [], _, _, _ => rfl
  | x :: r, l2, s, h => by
    simp only [List.cons_append, runs] at h ⊢
    cases hx : step s x with
    | mk s' e =>
      rw [hx] at h
      cases e with
      | none => exact runs_append r l2 s' h
      | some e => simp at h
theorem runs_append_err {σ : Type} {step : σ → ByteArray × Nat × Tree → σ × Option Nat} : ∀ (l1 l2 : List (ByteArray × Nat × Tree)) (s : σ) {e : Nat}, (runs step s l1).2 = some e → runs step s (l1 ++ l2) = runs step s l1
  | [], _, _, _, h => by simp [runs] at h
  | x :: r, l2, s, e, h => by
    simp only [List.cons_append, runs] at h ⊢
    cases hx : step s x with
    | mk s' e' =>
      rw [hx] at h
      cases e' with
      | none => exact runs_append_err r l2 s' h
      | some e' => rfl
/-- What every step on the way may ask. -/
def Alive {σ : Type} (step : σ → ByteArray × Nat × Tree → σ × Option Nat) (ok : σ → ByteArray × Nat × Tree → Prop) : σ → List (ByteArray × Nat × Tree) → Prop
  | _, [] => True
  | s, x :: r => ok s x ∧ ((step s x).2 = none → Alive step ok (step s x).1 r)
theorem Alive.append {σ : Type} {step : σ → ByteArray × Nat × Tree → σ × Option Nat} {ok : σ → ByteArray × Nat × Tree → Prop} : ∀ {l1 l2 : List (ByteArray × Nat × Tree)} {s : σ}, Alive step ok s (l1 ++ l2) → Alive step ok s l1 ∧ ((runs step s l1).2 = none → Alive step ok (runs step s l1).1 l2)
  | [], _, _, h => ⟨trivial, fun _ => h⟩
  | x :: r, l2, s, ⟨h1, h2⟩ => by
    cases hx : step s x with
    | mk s' e =>
      rw [hx] at h2
      cases e with
      | none =>
        have h3 := Alive.append (h2 rfl)
        refine ⟨⟨h1, fun _ => by rw [hx]; exact h3.1⟩, fun h => ?_⟩
        simp only [runs, hx] at h ⊢
        exact h3.2 h
      | some e => exact ⟨⟨h1, fun h => by rw [hx] at h; cases h⟩, fun h => by simp [runs, hx] at h⟩

/-- All memory but the blocks of C is as it was. -/
structure Kept (C : Nat → Prop) (w w' : World) : Prop where
  os : w'.os = w.os
  tape : w'.tape = w.tape
  output : w'.output = w.output
  size : w.heap.size ≤ w'.heap.size
  block : ∀ k, k < w.heap.size → ¬ C k → w'.heap[k]? = w.heap[k]?
theorem Kept.of_below {C : Nat → Prop} {w w' : World} (h : Below w.heap.size w w') : Kept C w w' := ⟨h.os, h.tape, h.output, h.size, fun k hk _ => h.block k hk⟩
theorem Kept.below {C : Nat → Prop} {w w' : World} {B : Nat} (h : Kept C w w') (hC : ∀ k, C k → B ≤ k) (hB : B ≤ w.heap.size) : Below B w w' :=
  ⟨h.os, h.tape, h.output, h.size, fun k hk => h.block k (by omega) fun hc => by have := hC k hc; omega⟩
theorem Kept.trans {C C' : Nat → Prop} {w w1 w2 : World} (h : Kept C w w1) (h' : Kept C' w1 w2) (hC : ∀ k, C' k → C k ∨ w.heap.size ≤ k) : Kept C w w2 :=
  ⟨h'.os.trans h.os, h'.tape.trans h.tape, h'.output.trans h.output, Nat.le_trans h.size h'.size, fun k hk hc => by
    rw [h'.block k (Nat.lt_of_lt_of_le hk h.size) fun hc' => by rcases hC k hc' with h1 | h1; exact hc h1; omega]
    exact h.block k hk hc⟩
theorem flat_take {α β : Type} {l : List α} {j : Nat} {x : α} (h : l[j]? = some x) (F : α → List β) : (l.take (j + 1)).flatMap F = (l.take j).flatMap F ++ F x := by
  have hk : j < l.length := (List.getElem?_eq_some_iff.1 h).1
  have e : l[j] = x := (List.getElem?_eq_some_iff.1 h).2
  rw [List.take_succ_eq_append_getElem hk, e]; simp
theorem flat_split {α β : Type} {l : List α} {j : Nat} {x : α} (h : l[j]? = some x) (F : α → List β) : l.flatMap F = (l.take j).flatMap F ++ (F x ++ (l.drop (j + 1)).flatMap F) := by
  rw [← List.append_assoc, ← flat_take h F, ← List.flatMap_append, List.take_append_drop]
theorem runs_flat_err {α σ : Type} {step : σ → ByteArray × Nat × Tree → σ × Option Nat} {l : List α} {j : Nat} {x : α} (h : l[j]? = some x) {F : α → List (ByteArray × Nat × Tree)} {s s' s2 : σ} {e : Nat}
    (h1 : runs step s ((l.take j).flatMap F) = (s', none)) (h2 : runs step s' (F x) = (s2, some e)) : runs step s (l.flatMap F) = (s2, some e) := by
  rw [flat_split h F, runs_append _ _ _ (by rw [h1]), h1]
  show runs step s' _ = _
  rw [runs_append_err _ _ _ (by rw [h2]), h2]
theorem runs_flat_next {α σ : Type} {step : σ → ByteArray × Nat × Tree → σ × Option Nat} {l : List α} {j : Nat} {x : α} (h : l[j]? = some x) {F : α → List (ByteArray × Nat × Tree)} {s s' s2 : σ}
    (h1 : runs step s ((l.take j).flatMap F) = (s', none)) (h2 : runs step s' (F x) = (s2, none)) : runs step s ((l.take (j + 1)).flatMap F) = (s2, none) := by
  rw [flat_take h F, runs_append _ _ _ (by rw [h1]), h1]
  exact h2

/-! ### The same two -/
def headSame (s t : Tree) : Bool := (s.kind.toList == t.kind.toList) && (s.data.toList == t.data.toList) && (s.exec == t.exec) && (s.kids.length == t.kids.length)
def sameB : Nat → Tree → Tree → Bool
  | 0, _, _ => false
  | d + 1, s, t => headSame s t && (List.range s.kids.length).all fun i => match s.kids[i]?, t.kids[i]? with
    | some x, some y => (x.1.toList == y.1.toList) && sameB d x.2 y.2
    | _, _ => false
def sameTo (d : Nat) (s t : Tree) (k : Nat) : Bool := (List.range k).all fun i => match s.kids[i]?, t.kids[i]? with
  | some x, some y => (x.1.toList == y.1.toList) && sameB d x.2 y.2
  | _, _ => false
theorem sameB_succ (d : Nat) (s t : Tree) : sameB (d + 1) s t = (headSame s t && sameTo d s t s.kids.length) := rfl
theorem sameTo_succ {d : Nat} {s t : Tree} {k : Nat} {x y : ByteArray × Tree} (hx : s.kids[k]? = some x) (hy : t.kids[k]? = some y) : sameTo d s t (k + 1) = (sameTo d s t k && ((x.1.toList == y.1.toList) && sameB d x.2 y.2)) := by
  unfold sameTo
  rw [List.range_succ, List.all_append]
  simp [hx, hy]
theorem sameTo_mono {d : Nat} {s t : Tree} {k n : Nat} (h : k ≤ n) (hf : sameTo d s t k = false) : sameTo d s t n = false := by
  unfold sameTo at *
  rw [List.all_eq_false] at *
  obtain ⟨j, hj, hp⟩ := hf
  exact ⟨j, List.mem_range.2 (by have := List.mem_range.1 hj; omega), hp⟩

/-! ### Kids in memory, in blocks of a kind -/
def LiesQ (w : World) (Q : Nat → Prop) : Nat → List (ByteArray × Tree) → Value → Prop
  | 0, _, _ => False
  | d + 1, l, v => ∃ ad cap, v = .slice ad l.length cap ∧ l.length ≤ 1759218604390 ∧ ∀ i x, l[i]? = some x → ∃ b off u, ad = some ⟨b, off, none⟩ ∧ Q b ∧ x.1.size ≤ 140737488355328 ∧
      w.cell? ⟨b, off + i * 5, none⟩ = some (.string x.1) ∧ w.cell? ⟨b, off + i * 5 + 1, none⟩ = some (.string x.2.kind) ∧ w.cell? ⟨b, off + i * 5 + 2, none⟩ = some (.string x.2.data) ∧
      w.cell? ⟨b, off + i * 5 + 3, none⟩ = some (.bool x.2.exec) ∧ w.cell? ⟨b, off + i * 5 + 4, none⟩ = some u ∧ LiesQ w Q d x.2.kids u
theorem LiesQ.kept {w w' : World} {Q Q' : Nat → Prop} (hb : ∀ k, Q k → w'.heap[k]? = w.heap[k]?) (hq : ∀ k, Q k → Q' k) : ∀ {d : Nat} {l : List (ByteArray × Tree)} {v : Value}, LiesQ w Q d l v → LiesQ w' Q' d l v
  | 0, _, _, h => h
  | d + 1, l, v, ⟨ad, cap, e, hlen, hk⟩ => ⟨ad, cap, e, hlen, fun i x hx => by
    obtain ⟨b, off, u, e, h1, h2, h3, h4, h5, h6, h7, h8⟩ := hk i x hx
    have hc : ∀ o, w'.cell? ⟨b, o, none⟩ = w.cell? ⟨b, o, none⟩ := fun o => World.cell?_of_block (hb b h1)
    exact ⟨b, off, u, e, hq b h1, h2, by rw [hc]; exact h3, by rw [hc]; exact h4, by rw [hc]; exact h5, by rw [hc]; exact h6, by rw [hc]; exact h7, LiesQ.kept hb hq h8⟩⟩
theorem LiesQ.lies {w : World} {Q : Nat → Prop} {B : Nat} (hq : ∀ k, Q k → k < B) : ∀ {d : Nat} {l : List (ByteArray × Tree)} {v : Value}, LiesQ w Q d l v → Lies w B d l v
  | 0, _, _, h => h
  | d + 1, l, v, ⟨ad, cap, e, hlen, hk⟩ => ⟨ad, cap, e, hlen, fun i x hx => by
    obtain ⟨b, off, u, e, h1, h2, h3, h4, h5, h6, h7, h8⟩ := hk i x hx
    exact ⟨b, off, u, e, hq b h1, h2, h3, h4, h5, h6, h7, LiesQ.lies hq h8⟩⟩
theorem LiesQ.form {w : World} {Q : Nat → Prop} : ∀ {d : Nat} {l : List (ByteArray × Tree)} {v : Value}, LiesQ w Q d l v → ∃ ad cap, v = .slice ad l.length cap
  | 0, _, _, h => absurd h (by simp [LiesQ])
  | _ + 1, _, _, ⟨ad, cap, e, _⟩ => ⟨ad, cap, e⟩

/-- The cells of kids, each with its own kids' slice. -/
def kidCells : List (ByteArray × Tree) → List Value → List Value
  | x :: l, u :: us => .string x.1 :: .string x.2.kind :: .string x.2.data :: .bool x.2.exec :: u :: kidCells l us
  | _, _ => []
theorem kidCells_snoc : ∀ (l : List (ByteArray × Tree)) (us : List Value) (x : ByteArray × Tree) (u : Value), l.length = us.length → kidCells (l ++ [x]) (us ++ [u]) = kidCells l us ++ [.string x.1, .string x.2.kind, .string x.2.data, .bool x.2.exec, u]
  | [], [], x, u, _ => rfl
  | y :: l, v :: us, x, u, h => by simp only [List.cons_append, kidCells]; rw [kidCells_snoc l us x u (by simpa using h)]
  | [], _ :: _, _, _, h => by simp at h
  | _ :: _, [], _, _, h => by simp at h
theorem kidCells_at : ∀ {l : List (ByteArray × Tree)} {us : List Value} {i : Nat} {x : ByteArray × Tree} {u : Value}, l[i]? = some x → us[i]? = some u →
    (kidCells l us)[i * 5]? = some (.string x.1) ∧ (kidCells l us)[i * 5 + 1]? = some (.string x.2.kind) ∧ (kidCells l us)[i * 5 + 2]? = some (.string x.2.data) ∧ (kidCells l us)[i * 5 + 3]? = some (.bool x.2.exec) ∧ (kidCells l us)[i * 5 + 4]? = some u
  | [], _, i, x, u, h, _ => by simp at h
  | _ :: _, [], i, x, u, _, h => by simp at h
  | y :: l, v :: us, 0, x, u, h, h' => by
    simp only [List.getElem?_cons_zero, Option.some.injEq] at h h'
    subst h; subst h'
    exact ⟨rfl, rfl, rfl, rfl, rfl⟩
  | y :: l, v :: us, i + 1, x, u, h, h' => by
    simp only [List.getElem?_cons_succ] at h h'
    have := kidCells_at h h'
    have e : ∀ k, (i + 1) * 5 + k = (i * 5 + k) + 1 + 1 + 1 + 1 + 1 := fun k => by omega
    simp only [kidCells]
    refine ⟨?_, ?_, ?_, ?_, ?_⟩
    · rw [show (i + 1) * 5 = (i * 5) + 1 + 1 + 1 + 1 + 1 from by omega]; simpa using this.1
    · rw [e]; simpa using this.2.1
    · rw [e]; simpa using this.2.2.1
    · rw [e]; simpa using this.2.2.2.1
    · rw [e]; simpa using this.2.2.2.2
/-- Kids out of an owned row. -/
theorem LiesQ.made {w : World} {Q : Nat → Prop} {d base : Nat} {e : TypeId} {l : List (ByteArray × Tree)} {us : List Value} {v : Value} (hown : w.ownsRow base e 5 v l.length (kidCells l us)) (hlen : l.length ≤ 1759218604390) (hu : us.length = l.length) (hv : ∀ g, v.ownBlock = some g → Q g)
    (hs : ∀ x ∈ l, x.1.size ≤ 140737488355328) (hk : ∀ (i : Nat) (x : ByteArray × Tree) (u : Value), l[i]? = some x → us[i]? = some u → LiesQ w Q d x.2.kids u) : LiesQ w Q (d + 1) l v := by
  have hform : ∃ ad cap, v = .slice ad l.length cap := by
    rcases hown.2 with ⟨h, h'⟩ | ⟨g, cap, cur, h, _⟩
    · exact ⟨none, 0, by rw [h, h']⟩
    · exact ⟨_, _, h⟩
  obtain ⟨ad, cap, hvf⟩ := hform
  refine ⟨ad, cap, hvf, hlen, fun i x hx => ?_⟩
  have hi : i < l.length := (List.getElem?_eq_some_iff.1 hx).1
  obtain ⟨u, hui⟩ : ∃ u, us[i]? = some u := ⟨us[i]'(by omega), List.getElem?_eq_getElem (by omega)⟩
  rcases hown.2 with ⟨_, h'⟩ | ⟨g, cap', cur, h, _, hg, _⟩
  · omega
  · rw [hvf] at h
    simp only [Value.slice.injEq] at h
    obtain ⟨rfl, _⟩ := h
    have hc := hown.cells (g := g) (by rw [hvf]; rfl)
    have hadd : ∀ j, (⟨g, 0, none⟩ : Addr).add j = ⟨g, j, none⟩ := fun j => by unfold Addr.add; split <;> simp_all
    obtain ⟨h0, h1, h2, h3, h4⟩ := kidCells_at hx hui
    have c0 := hc _ _ h0
    have c1 := hc _ _ h1
    have c2 := hc _ _ h2
    have c3 := hc _ _ h3
    have c4 := hc _ _ h4
    rw [hadd] at c0 c1 c2 c3 c4
    exact ⟨g, 0, u, rfl, hv g (by rw [hvf]; rfl), hs x (List.mem_of_getElem? hx), by rw [Nat.zero_add]; exact c0, by rw [Nat.zero_add]; exact c1, by rw [Nat.zero_add]; exact c2, by rw [Nat.zero_add]; exact c3, by rw [Nat.zero_add]; exact c4, hk i x u hx hui⟩
end Go.Proofs.YtpjjpmikhjlgnaaGreatDoor
namespace Go.Proofs.YtpjjpmikhjlgnaaGreatDoor
open Go.RowKit

theorem lt_of_cell {w : World} {p : Addr} {v : Value} (h : w.cell? p = some v) : p.block < w.heap.size := by
  rcases Nat.lt_or_ge p.block w.heap.size with h' | h'
  · exact h'
  · simp [World.cell?, Array.getElem?_eq_none h'] at h
theorem lt_of_row {w : World} {b : Nat} {o : Obj} (h : w.heap[b]? = some o) : b < w.heap.size := by
  rcases Nat.lt_or_ge b w.heap.size with h' | h'
  · exact h'
  · simp [Array.getElem?_eq_none h'] at h

/-- Eight sentinels, each in its variable, behind a pointer. -/
structure Sen (a : Nat → Addr) (w : World) : Prop where
  text : w.cell? ⟨3, 0, none⟩ = some (.iface 181 (.pointer (some (a 0))))
  bound : w.cell? ⟨4, 0, none⟩ = some (.iface 181 (.pointer (some (a 1))))
  shape : w.cell? ⟨2, 0, none⟩ = some (.iface 181 (.pointer (some (a 2))))
  kind : w.cell? ⟨5, 0, none⟩ = some (.iface 181 (.pointer (some (a 3))))
  name : w.cell? ⟨0, 0, none⟩ = some (.iface 181 (.pointer (some (a 4))))
  full : w.cell? ⟨7, 0, none⟩ = some (.iface 181 (.pointer (some (a 7))))
  deep : w.cell? ⟨8, 0, none⟩ = some (.iface 181 (.pointer (some (a 8))))
  order : w.cell? ⟨9, 0, none⟩ = some (.iface 181 (.pointer (some (a 9))))
theorem Sen.ext {a : Nat → Addr} {w w' : World} (S : Sen a w) (h : ∀ g v, w.cell? ⟨g, 0, none⟩ = some v → g ∈ [3, 4, 2, 5, 0, 7, 8, 9] → w'.cell? ⟨g, 0, none⟩ = w.cell? ⟨g, 0, none⟩) : Sen a w' where
  text := by rw [h _ _ S.text (by decide)]; exact S.text
  bound := by rw [h _ _ S.bound (by decide)]; exact S.bound
  shape := by rw [h _ _ S.shape (by decide)]; exact S.shape
  kind := by rw [h _ _ S.kind (by decide)]; exact S.kind
  name := by rw [h _ _ S.name (by decide)]; exact S.name
  full := by rw [h _ _ S.full (by decide)]; exact S.full
  deep := by rw [h _ _ S.deep (by decide)]; exact S.deep
  order := by rw [h _ _ S.order (by decide)]; exact S.order
theorem Sen.below {a : Nat → Addr} {w w' : World} (S : Sen a w) (hb : Below w.heap.size w w') : Sen a w' := S.ext fun g _ hv _ => hb.cell (p := ⟨g, 0, none⟩) (lt_of_cell hv)
/-- The sentinels' variables lie below block B. -/
structure SentsB (a : Nat → Addr) (B : Nat) (w : World) : Prop where
  is : Sen a w
  low : ∀ g ∈ [3, 4, 2, 5, 0, 7, 8, 9], g < B
theorem SentsB.below {a : Nat → Addr} {B C : Nat} {w w' : World} (S : SentsB a B w) (hb : Below C w w') (hC : B ≤ C) : SentsB a B w' where
  is := S.is.ext fun g _ _ hg => hb.cell (p := ⟨g, 0, none⟩) (show g < C by have := S.low g hg; omega)
  low := S.low
theorem Sen.atB {a : Nat → Addr} {w : World} (S : Sen a w) : SentsB a w.heap.size w where
  is := S
  low g hg := by
    simp only [List.mem_cons, List.not_mem_nil, or_false] at hg
    rcases hg with rfl | rfl | rfl | rfl | rfl | rfl | rfl | rfl
    · exact lt_of_cell S.text
    · exact lt_of_cell S.bound
    · exact lt_of_cell S.shape
    · exact lt_of_cell S.kind
    · exact lt_of_cell S.name
    · exact lt_of_cell S.full
    · exact lt_of_cell S.deep
    · exact lt_of_cell S.order
theorem SentsB.up {a : Nat → Addr} {B C : Nat} {w : World} (S : SentsB a B w) (h : B ≤ C) : SentsB a C w := ⟨S.is, fun g hg => Nat.lt_of_lt_of_le (S.low g hg) h⟩
end Go.Proofs.YtpjjpmikhjlgnaaGreatDoor
namespace Go.Proofs.YtpjjpmikhjlgnaaGreatDoor
set_option maxHeartbeats 1000000
open Go.RowKit Go.Extern.Stop Go.Stop Go.Extern

def gvs:List Nat:=[3,4,2,5,0,1,6,7,8,9,10,11,12]
def gv (i:Nat):Nat:=gvs.getD i 0
structure Sents (a:Nat->Addr) (w:World):Prop where
 cell:∀i,i<13->w.cell? ⟨gv i,0,none⟩=some (.iface 181 (.pointer (some (a i))))
 row:∀i,i<13->∃ca ta,w.heap[(a i).block]? = some (.cells ca ta (0,0))
 ne:∀i j,i<13->j<13->i≠j->a i≠a j
 et:w.cell? ⟨13,0,none⟩=some (.iface 157 (.agg #[.pointer (some ⟨17,30,none⟩)]))

theorem Sents.c0 {a:Nat->Addr} {w:World} (S:Sents a w):w.cell? ⟨3,0,none⟩=some (.iface 181 (.pointer (some (a 0)))):=S.cell 0 (by decide)
theorem Sents.c1 {a:Nat->Addr} {w:World} (S:Sents a w):w.cell? ⟨4,0,none⟩=some (.iface 181 (.pointer (some (a 1)))):=S.cell 1 (by decide)
theorem Sents.c2 {a:Nat->Addr} {w:World} (S:Sents a w):w.cell? ⟨2,0,none⟩=some (.iface 181 (.pointer (some (a 2)))):=S.cell 2 (by decide)
theorem Sents.c3 {a:Nat->Addr} {w:World} (S:Sents a w):w.cell? ⟨5,0,none⟩=some (.iface 181 (.pointer (some (a 3)))):=S.cell 3 (by decide)
theorem Sents.c4 {a:Nat->Addr} {w:World} (S:Sents a w):w.cell? ⟨0,0,none⟩=some (.iface 181 (.pointer (some (a 4)))):=S.cell 4 (by decide)
theorem Sents.c5 {a:Nat->Addr} {w:World} (S:Sents a w):w.cell? ⟨1,0,none⟩=some (.iface 181 (.pointer (some (a 5)))):=S.cell 5 (by decide)
theorem Sents.c6 {a:Nat->Addr} {w:World} (S:Sents a w):w.cell? ⟨6,0,none⟩=some (.iface 181 (.pointer (some (a 6)))):=S.cell 6 (by decide)
theorem Sents.c7 {a:Nat->Addr} {w:World} (S:Sents a w):w.cell? ⟨7,0,none⟩=some (.iface 181 (.pointer (some (a 7)))):=S.cell 7 (by decide)
theorem Sents.c8 {a:Nat->Addr} {w:World} (S:Sents a w):w.cell? ⟨8,0,none⟩=some (.iface 181 (.pointer (some (a 8)))):=S.cell 8 (by decide)
theorem Sents.c9 {a:Nat->Addr} {w:World} (S:Sents a w):w.cell? ⟨9,0,none⟩=some (.iface 181 (.pointer (some (a 9)))):=S.cell 9 (by decide)
theorem Sents.c10 {a:Nat->Addr} {w:World} (S:Sents a w):w.cell? ⟨10,0,none⟩=some (.iface 181 (.pointer (some (a 10)))):=S.cell 10 (by decide)
theorem Sents.c11 {a:Nat->Addr} {w:World} (S:Sents a w):w.cell? ⟨11,0,none⟩=some (.iface 181 (.pointer (some (a 11)))):=S.cell 11 (by decide)
theorem Sents.c12 {a:Nat->Addr} {w:World} (S:Sents a w):w.cell? ⟨12,0,none⟩=some (.iface 181 (.pointer (some (a 12)))):=S.cell 12 (by decide)
theorem Sents.below {a:Nat->Addr} {w w':World} (S:Sents a w) (hb:Below w.heap.size w w'):Sents a w' where
 cell i hi:=by rw [hb.cell (lt_of_cell (S.cell i hi))];exact S.cell i hi
 row i hi:=by
  obtain ⟨ca,ta,h⟩:=S.row i hi
  exact ⟨ca,ta,by rw [hb.block _ (lt_of_row h)];exact h⟩
 ne:=S.ne
 et:=by rw [hb.cell (lt_of_cell S.et)];exact S.et

theorem Sents.sen {a:Nat->Addr} {w:World} (S:Sents a w):Sen a w where
 text:=S.cell 0 (by decide)
 bound:=S.cell 1 (by decide)
 shape:=S.cell 2 (by decide)
 kind:=S.cell 3 (by decide)
 name:=S.cell 4 (by decide)
 full:=S.cell 7 (by decide)
 deep:=S.cell 8 (by decide)
 order:=S.cell 9 (by decide)
theorem Sents.atB {a:Nat->Addr} {w:World} (S:Sents a w):SentsB a w.heap.size w:=S.sen.atB

theorem as_plain' (e t:Addr) (w:World) (hg:w.cell? ⟨13,0,none⟩=some (.iface 157 (.agg #[.pointer (some ⟨17,30,none⟩)]))) :
  Calls Tryz.prog 61 #[.iface 181 (.pointer (some e)),.iface 110 (.pointer (some t))] w fun ev w'=>ev = .returned (.bool false)/\Below w.heap.size w w':=by
 refine (as_plain e t w hg).mono ?_
 rintro ev w' ⟨rfl,rfl⟩
 exact ⟨rfl,by go_grown⟩
theorem as_fault' (e t:Addr) (old:Value) (w:World) (hg:w.cell? ⟨13,0,none⟩=some (.iface 157 (.agg #[.pointer (some ⟨17,30,none⟩)]))) (ht0:w.cell? t=some old) (hf0:w.frozen? t=false) :
  Calls Tryz.prog 61 #[.iface 101 (.pointer (some e)),.iface 110 (.pointer (some t))] w fun ev w'=>ev = .returned (.bool true)/\∃w1,Below w.heap.size w w1/\w'=w1.setCell t (.pointer (some e)):=by
 refine (as_fault e t old w hg ht0 hf0).mono ?_
 rintro ev w' ⟨rfl,rfl⟩
 exact ⟨rfl,_,by go_grown,rfl⟩

theorem code_nil (w:World):Calls Tryz.prog 36 #[.nilIface] w fun e w'=>e = .returned (.tuple #[.int .i64 0,.int .i64 (-1)])/\w'=w:=by
 go_enter Tryz.func36,Tryz.ntmps36
 go_wp2
 go_ret2
 exact ⟨rfl,rfl⟩

theorem thirteen (a:Nat->Addr) (w1:World) (k:Nat) (hk:k<13) :
  (w1.alloc (.cells #[.iface 181 (.pointer (some (a 0))),.iface 181 (.pointer (some (a 1))),.iface 181 (.pointer (some (a 2))),.iface 181 (.pointer (some (a 3))),.iface 181 (.pointer (some (a 4))),.iface 181 (.pointer (some (a 5))),.iface 181 (.pointer (some (a 6))),.iface 181 (.pointer (some (a 7))),.iface 181 (.pointer (some (a 8))),.iface 181 (.pointer (some (a 9))),.iface 181 (.pointer (some (a 10))),.iface 181 (.pointer (some (a 11))),.iface 181 (.pointer (some (a 12)))] 30)).cell? ⟨w1.heap.size,k,none⟩=some (.iface 181 (.pointer (some (a k)))):=by
 rw [World.cell?_alloc_at _ _ _ _ rfl]
 have h:k=0∨k=1∨k=2∨k=3∨k=4∨k=5∨k=6∨k=7∨k=8∨k=9∨k=10∨k=11∨k=12:=by omega
 rcases h with h|h|h|h|h|h|h|h|h|h|h|h|h <;> subst h <;> rfl

theorem code_plain (a:Nat->Addr) (p:Addr) (n:Nat) (w:World) (S:Sents a w) (hn:n<=13) (hlt:∀k,k<n->p≠a k) (hat:n<13->p=a n) (hrow:∃ca ta,w.heap[p.block]? = some (.cells ca ta (0,0))) :
  Calls Tryz.prog 36 #[.iface 181 (.pointer (some p))] w fun e w'=>e = .returned (.tuple #[.int .i64 (if n<13 then (n:Int)+1 else -1),.int .i64 (-1)])/\Below w.heap.size w w':=by
 have hg:(w.alloc (.cells #[.pointer none] 101)).cell? ⟨13,0,none⟩=some (.iface 157 (.agg #[.pointer (some ⟨17,30,none⟩)])):=by
  rw [World.cell?_alloc_lt _ _ _ (lt_of_cell S.et)];exact S.et
 go_enter Tryz.func36,Tryz.ntmps36
 go_wp2_with fail
 refine (as_plain' p ⟨w.heap.size,0,none⟩ _ hg).mono ?_
 rintro e w1 ⟨rfl,hb⟩
 have hb0:Below w.heap.size w w1:=((Below.refl _ _).alloc (Nat.le_refl _) _).trans (hb.mono (by simp))
 have S1:=S.below hb0
 have c0:=S1.c0
 have c1:=S1.c1
 have c2:=S1.c2
 have c3:=S1.c3
 have c4:=S1.c4
 have c5:=S1.c5
 have c6:=S1.c6
 have c7:=S1.c7
 have c8:=S1.c8
 have c9:=S1.c9
 have c10:=S1.c10
 have c11:=S1.c11
 have c12:=S1.c12
 clear hg hb
 go_wp2_with fail
 have hb2:Below w.heap.size w (w1.alloc (.cells #[.iface 181 (.pointer (some (a 0))),.iface 181 (.pointer (some (a 1))),.iface 181 (.pointer (some (a 2))),.iface 181 (.pointer (some (a 3))),.iface 181 (.pointer (some (a 4))),.iface 181 (.pointer (some (a 5))),.iface 181 (.pointer (some (a 6))),.iface 181 (.pointer (some (a 7))),.iface 181 (.pointer (some (a 8))),.iface 181 (.pointer (some (a 9))),.iface 181 (.pointer (some (a 10))),.iface 181 (.pointer (some (a 11))),.iface 181 (.pointer (some (a 12)))] 30)):=hb0.alloc hb0.size _
 have S2:=S.below hb2
 have hc:=thirteen a w1
 obtain ⟨cp,tp,hp⟩:=hrow
 have hp2:(w1.alloc (.cells #[.iface 181 (.pointer (some (a 0))),.iface 181 (.pointer (some (a 1))),.iface 181 (.pointer (some (a 2))),.iface 181 (.pointer (some (a 3))),.iface 181 (.pointer (some (a 4))),.iface 181 (.pointer (some (a 5))),.iface 181 (.pointer (some (a 6))),.iface 181 (.pointer (some (a 7))),.iface 181 (.pointer (some (a 8))),.iface 181 (.pointer (some (a 9))),.iface 181 (.pointer (some (a 10))),.iface 181 (.pointer (some (a 11))),.iface 181 (.pointer (some (a 12)))] 30)).heap[p.block]? = some (.cells cp tp (0,0)):=by rw [hb2.block _ (lt_of_row hp)];exact hp
 generalize w1.alloc (.cells #[.iface 181 (.pointer (some (a 0))),.iface 181 (.pointer (some (a 1))),.iface 181 (.pointer (some (a 2))),.iface 181 (.pointer (some (a 3))),.iface 181 (.pointer (some (a 4))),.iface 181 (.pointer (some (a 5))),.iface 181 (.pointer (some (a 6))),.iface 181 (.pointer (some (a 7))),.iface 181 (.pointer (some (a 8))),.iface 181 (.pointer (some (a 9))),.iface 181 (.pointer (some (a 10))),.iface 181 (.pointer (some (a 11))),.iface 181 (.pointer (some (a 12)))] 30)=W2 at *
 clear S1 c0 c1 c2 c3 c4 c5 c6 c7 c8 c9 c10 c11 c12 hb0 S hp
 go_loop [3,31] (fun v i=>v = .int .i64 (-1)/\∃k:Nat,k<=n/\i = .int .i64 k) (fun _ i=>13-(intOf i).toNat)
 case atStart=>exact ⟨rfl,0,Nat.zero_le _,rfl⟩
 case round =>
  obtain ⟨rfl,k,hk,rfl⟩:=hrel
  by_cases h13:k<13
  ·have hck:=hc k h13
   by_cases hkn:k<n
   ·have hne:=hlt k hkn
    obtain ⟨ck,tk,hrk⟩:=S2.row k h13
    have H:Hid (p≠a k):=hne
    clear hne hc hlt hat
    go_wp2_with fail
    refine (is_other p (a k) cp ck tp tk _ H.out hp2 hrk).mono ?_
    rintro e w' ⟨rfl,rfl⟩
    go_wp2_with fail
    go_round
    case rel=>exact ⟨rfl,k+1,by omega,by go_num⟩
    case measure=>simp [intOf];omega
   ·have ekn:k=n:=by omega
    subst ekn
    have ep:=hat h13
    subst ep
    clear hc hlt hat
    go_wp2_with fail
    refine (is_same (a k) _).mono ?_
    rintro e w' ⟨rfl,rfl⟩
    go_wp2_with fail
    go_ret2
    exact ⟨rfl,hb2⟩
  ·clear hc hlt hat
   go_wp2_with fail
   go_ret2
   exact ⟨rfl,hb2⟩

theorem code_fault (a:Nat->Addr) (pb po:Nat) (m:Int) (n:Nat) (w:World) (S:Sents a w) (hn:n<13) (h0:w.cell? ⟨pb,po,none⟩=some (.int .i64 m)) (h1:w.cell? ⟨pb,po+1,none⟩=some (.iface 181 (.pointer (some (a n))))) :
  Calls Tryz.prog 36 #[.iface 101 (.pointer (some ⟨pb,po,none⟩))] w fun e w'=>e = .returned (.tuple #[.int .i64 ((n:Int)+1),.int .i64 m])/\Below w.heap.size w w':=by
 have hg:(w.alloc (.cells #[.pointer none] 101)).cell? ⟨13,0,none⟩=some (.iface 157 (.agg #[.pointer (some ⟨17,30,none⟩)])):=by
  rw [World.cell?_alloc_lt _ _ _ (lt_of_cell S.et)];exact S.et
 have hpl:pb<w.heap.size:=lt_of_cell h0
 go_enter Tryz.func36,Tryz.ntmps36
 go_wp2_with fail
 refine (as_fault' ⟨pb,po,none⟩ ⟨w.heap.size,0,none⟩ (.pointer none) _ hg (by simp) (by simp)).mono ?_
 rintro e wx ⟨rfl,w0,hb,rfl⟩
 have hsz:w.heap.size<w0.heap.size:=by have:=hb.size;simp at this;omega
 have hc0:w0.cell? ⟨w.heap.size,0,none⟩=some (.pointer none):=by rw [hb.cell (by simp)];simp
 have hcf:(w0.setCell ⟨w.heap.size,0,none⟩ (.pointer (some ⟨pb,po,none⟩))).cell? ⟨w.heap.size,0,none⟩=some (.pointer (some ⟨pb,po,none⟩)):=World.cell?_setCell_same _ _ _ hc0
 have hb0:Below w.heap.size w (w0.setCell ⟨w.heap.size,0,none⟩ (.pointer (some ⟨pb,po,none⟩))):=(((Below.refl _ _).alloc (Nat.le_refl _) _).trans (hb.mono (by simp))).setCell (Nat.le_refl _) _
 generalize w0.setCell ⟨w.heap.size,0,none⟩ (.pointer (some ⟨pb,po,none⟩))=w1 at *
 have S1:=S.below hb0
 have g0:w1.cell? ⟨pb,po,none⟩=some (.int .i64 m):=by rw [hb0.cell hpl];exact h0
 have c0:=S1.c0
 have c1:=S1.c1
 have c2:=S1.c2
 have c3:=S1.c3
 have c4:=S1.c4
 have c5:=S1.c5
 have c6:=S1.c6
 have c7:=S1.c7
 have c8:=S1.c8
 have c9:=S1.c9
 have c10:=S1.c10
 have c11:=S1.c11
 have c12:=S1.c12
 clear hg hb hc0
 go_wp2_with fail
 have hb2:Below w.heap.size w (w1.alloc (.cells #[.iface 181 (.pointer (some (a 0))),.iface 181 (.pointer (some (a 1))),.iface 181 (.pointer (some (a 2))),.iface 181 (.pointer (some (a 3))),.iface 181 (.pointer (some (a 4))),.iface 181 (.pointer (some (a 5))),.iface 181 (.pointer (some (a 6))),.iface 181 (.pointer (some (a 7))),.iface 181 (.pointer (some (a 8))),.iface 181 (.pointer (some (a 9))),.iface 181 (.pointer (some (a 10))),.iface 181 (.pointer (some (a 11))),.iface 181 (.pointer (some (a 12)))] 30)):=hb0.alloc hb0.size _
 have S2:=S.below hb2
 have hc:=thirteen a w1
 have g1:(w1.alloc (.cells #[.iface 181 (.pointer (some (a 0))),.iface 181 (.pointer (some (a 1))),.iface 181 (.pointer (some (a 2))),.iface 181 (.pointer (some (a 3))),.iface 181 (.pointer (some (a 4))),.iface 181 (.pointer (some (a 5))),.iface 181 (.pointer (some (a 6))),.iface 181 (.pointer (some (a 7))),.iface 181 (.pointer (some (a 8))),.iface 181 (.pointer (some (a 9))),.iface 181 (.pointer (some (a 10))),.iface 181 (.pointer (some (a 11))),.iface 181 (.pointer (some (a 12)))] 30)).cell? ⟨pb,po+1,none⟩=some (.iface 181 (.pointer (some (a n)))):=by rw [hb2.cell hpl];exact h1
 obtain ⟨cp,tp,hp⟩:=S2.row n hn
 generalize w1.alloc (.cells #[.iface 181 (.pointer (some (a 0))),.iface 181 (.pointer (some (a 1))),.iface 181 (.pointer (some (a 2))),.iface 181 (.pointer (some (a 3))),.iface 181 (.pointer (some (a 4))),.iface 181 (.pointer (some (a 5))),.iface 181 (.pointer (some (a 6))),.iface 181 (.pointer (some (a 7))),.iface 181 (.pointer (some (a 8))),.iface 181 (.pointer (some (a 9))),.iface 181 (.pointer (some (a 10))),.iface 181 (.pointer (some (a 11))),.iface 181 (.pointer (some (a 12)))] 30)=W2 at *
 clear S1 c0 c1 c2 c3 c4 c5 c6 c7 c8 c9 c10 c11 c12 hb0 S g0
 go_loop [3,31] (fun v i=>v = .int .i64 m/\∃k:Nat,k<=n/\i = .int .i64 k) (fun _ i=>13-(intOf i).toNat)
 case atStart=>exact ⟨rfl,0,Nat.zero_le _,rfl⟩
 case round =>
  obtain ⟨rfl,k,hk,rfl⟩:=hrel
  have h13:k<13:=by omega
  have hck:=hc k h13
  by_cases hkn:k<n
  ·obtain ⟨ck,tk,hrk⟩:=S2.row k h13
   have H:Hid (a n≠a k):=S2.ne n k hn h13 (by omega)
   clear hc
   go_wp2_with fail
   refine (is_fault_other pb po (a k) (a n) cp ck tp tk _ g1 H.out hp hrk).mono ?_
   rintro e w' ⟨rfl,rfl⟩
   go_wp2_with fail
   go_round
   case rel=>exact ⟨rfl,k+1,by omega,by go_num⟩
   case measure=>simp [intOf];omega
  ·have ekn:k=n:=by omega
   subst ekn
   clear hc
   go_wp2_with fail
   refine (is_fault_same pb po (a k) _ g1).mono ?_
   rintro e w' ⟨rfl,rfl⟩
   go_wp2_with fail
   go_ret2
   exact ⟨rfl,hb2⟩

theorem coded_nil (c:Int) (w:World):Calls Tryz.prog 10 #[.nilIface,.int .i64 c] w fun e w'=>e = .returned (.bool (decide (c=0)))/\w'=w:=by
 by_cases hc:c=0
 ·subst hc
  go_enter Tryz.func10,Tryz.ntmps10
  go_wp2_with (go_at_call 36;refine (code_nil _).mono ?_;rintro e w' ⟨rfl,rfl⟩)
  go_ret
  exact ⟨rfl,rfl⟩
 ·have h:((0:Int)==c)=false:=by simp;omega
  have hd:Hid (decide (c=0)=false):=show _=_ by simp [hc]
  clear hc
  go_enter Tryz.func10,Tryz.ntmps10
  go_wp2_with (go_at_call 36;refine (code_nil _).mono ?_;rintro e w' ⟨rfl,rfl⟩)
  go_ret
  exact ⟨by rw [hd.out];rfl,rfl⟩
theorem coded_sent (a:Nat->Addr) (n:Nat) (c:Int) (w:World) (S:Sents a w) (hn:n<13) :
  Calls Tryz.prog 10 #[.iface 181 (.pointer (some (a n))),.int .i64 c] w fun e w'=>e = .returned (.bool (decide (c=(n:Int)+1)))/\Below w.heap.size w w':=by
 have hcode:=code_plain a (a n) n w S (Nat.le_of_lt hn) (fun k hk=>S.ne n k hn (by omega) (by omega)) (fun _=>rfl) (S.row n hn)
 rw [if_pos hn] at hcode
 have HC:Hid _:=hcode
 clear hcode
 by_cases hc:c=(n:Int)+1
 ·subst hc
  go_enter Tryz.func10,Tryz.ntmps10
  go_wp2_with fail
  refine Calls.mono HC.out ?_
  rintro e w' ⟨rfl,hb⟩
  go_wp2
  go_ret
  exact ⟨by simp,hb⟩
 ·have h:(((n:Int)+1)==c)=false:=by simp;omega
  have hd:Hid (decide (c=(n:Int)+1)=false):=show _=_ by simp [hc]
  clear hc
  go_enter Tryz.func10,Tryz.ntmps10
  go_wp2_with fail
  refine Calls.mono HC.out ?_
  rintro e w' ⟨rfl,hb⟩
  go_wp2
  go_ret
  exact ⟨by rw [hd.out];rfl,hb⟩
end Go.Proofs.YtpjjpmikhjlgnaaGreatDoor
