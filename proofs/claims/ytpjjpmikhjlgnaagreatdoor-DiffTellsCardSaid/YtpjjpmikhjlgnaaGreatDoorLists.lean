/-
  Lists of a tree's nodes, as the document's answer makes them: each node's kids right behind it, one node after the other. No program stands here.
  Conditions: none.
-/
import Derived.Test.YtpjjpmikhjlgnaaGreatDoorTrees
namespace Go.Proofs.YtpjjpmikhjlgnaaGreatDoor
open Go.RowKit

def kidsOf (most : Nat) (x : ByteArray × Nat × Tree) : List (ByteArray × Nat × Tree) := (x.2.2.kids.take (most + 1)).map fun y => (x.1 ++ slash ++ y.1, x.2.1 + 1, y.2)
def grow (most deep : Nat) (l : List (ByteArray × Nat × Tree)) (i : Nat) : List (ByteArray × Nat × Tree) :=
  match l[i]? with
  | none => l
  | some x => if deep < x.2.1 then l else l.take (i + 1) ++ kidsOf most x ++ l.drop (i + 1)
def listTo (most deep : Nat) (l : List (ByteArray × Nat × Tree)) : Nat → List (ByteArray × Nat × Tree)
  | 0 => l
  | i + 1 => grow most deep (listTo most deep l i) i
def listOf (most deep : Nat) (t : Tree) : List (ByteArray × Nat × Tree) := listTo most deep [(ByteArray.empty, 0, t)] (most + 1)

theorem listTo_done {most deep : Nat} {l : List (ByteArray × Nat × Tree)} {i : Nat} (h : (listTo most deep l i).length ≤ i) : ∀ n, i ≤ n → listTo most deep l n = listTo most deep l i := by
  intro n hn
  induction n with
  | zero => have : i = 0 := by omega
            subst this; rfl
  | succ n ih =>
    rcases Nat.lt_or_ge n i with hlt | hge
    · have : i = n + 1 := by omega
      subst this; rfl
    · have e := ih hge
      show grow most deep (listTo most deep l n) n = _
      rw [e]
      unfold grow
      rw [List.getElem?_eq_none (by omega)]
theorem listTo_len {most deep : Nat} {l : List (ByteArray × Nat × Tree)} : ∀ i, (listTo most deep l i).length ≤ l.length + i * (most + 1)
  | 0 => by simp [listTo]
  | i + 1 => by
    have ih := listTo_len (most := most) (deep := deep) (l := l) i
    have e : (i + 1) * (most + 1) = i * (most + 1) + (most + 1) := by rw [Nat.add_mul]; omega
    show (grow most deep (listTo most deep l i) i).length ≤ _
    unfold grow
    split
    · omega
    · rename_i x hx
      split
      · omega
      · have hi : i < (listTo most deep l i).length := (List.getElem?_eq_some_iff.1 hx).1
        have hk : (kidsOf most x).length ≤ most + 1 := by unfold kidsOf; simp; omega
        simp only [List.length_append, List.length_take, List.length_drop]
        omega

/-- An item in memory: its cells, with its kids' slice. -/
def itCells : List ((ByteArray × Nat × Tree) × Value) → List Value
  | [] => []
  | x :: l => .string x.1.1 :: .int .i64 (x.1.2.1 : Int) :: .string x.1.2.2.kind :: .string x.1.2.2.data :: .bool x.1.2.2.exec :: x.2 :: itCells l
theorem itCells_append : ∀ (a b : List ((ByteArray × Nat × Tree) × Value)), itCells (a ++ b) = itCells a ++ itCells b
  | [], b => rfl
  | x :: a, b => by simp only [List.cons_append, itCells]; rw [itCells_append a b]
theorem itCells_length : ∀ (a : List ((ByteArray × Nat × Tree) × Value)), (itCells a).length = a.length * 6
  | [] => rfl
  | x :: a => by simp only [itCells, List.length_cons, itCells_length a]; omega
theorem itCells_at : ∀ {l : List ((ByteArray × Nat × Tree) × Value)} {i : Nat} {x : (ByteArray × Nat × Tree) × Value}, l[i]? = some x →
    (itCells l)[i * 6]? = some (.string x.1.1) ∧ (itCells l)[i * 6 + 1]? = some (.int .i64 (x.1.2.1 : Int)) ∧ (itCells l)[i * 6 + 2]? = some (.string x.1.2.2.kind) ∧ (itCells l)[i * 6 + 3]? = some (.string x.1.2.2.data) ∧ (itCells l)[i * 6 + 4]? = some (.bool x.1.2.2.exec) ∧ (itCells l)[i * 6 + 5]? = some x.2
  | [], i, x, h => by simp at h
  | y :: l, 0, x, h => by
    simp only [List.getElem?_cons_zero, Option.some.injEq] at h
    subst h
    exact ⟨rfl, rfl, rfl, rfl, rfl, rfl⟩
  | y :: l, i + 1, x, h => by
    simp only [List.getElem?_cons_succ] at h
    have := itCells_at h
    have e : ∀ k, (i + 1) * 6 + k = (i * 6 + k) + 1 + 1 + 1 + 1 + 1 + 1 := fun k => by omega
    simp only [itCells]
    refine ⟨?_, ?_, ?_, ?_, ?_, ?_⟩
    · rw [show (i + 1) * 6 = (i * 6) + 1 + 1 + 1 + 1 + 1 + 1 from by omega]; simpa using this.1
    · rw [e]; simpa using this.2.1
    · rw [e]; simpa using this.2.2.1
    · rw [e]; simpa using this.2.2.2.1
    · rw [e]; simpa using this.2.2.2.2.1
    · rw [e]; simpa using this.2.2.2.2.2
theorem itCells_oneCell {l : List ((ByteArray × Nat × Tree) × Value)} (h : ∀ x ∈ l, ∃ ad n c, x.2 = .slice ad n c) : ∀ u ∈ itCells l, u.oneCell' = true := by
  induction l with
  | nil => intro u hu; simp [itCells] at hu
  | cons x l ih =>
    intro u hu
    obtain ⟨ad, n, c, e⟩ := h x List.mem_cons_self
    simp only [itCells, List.mem_cons] at hu
    rcases hu with rfl | rfl | rfl | rfl | rfl | rfl | hu
    · rfl
    · rfl
    · rfl
    · rfl
    · rfl
    · rw [e]; rfl
    · exact ih (fun y hy => h y (List.mem_cons_of_mem _ hy)) u hu
theorem itCells_take {l : List ((ByteArray × Nat × Tree) × Value)} (k : Nat) : itCells (l.take k) = (itCells l).take (k * 6) := by
  induction l generalizing k with
  | nil => simp [itCells]
  | cons x l ih =>
    cases k with
    | zero => simp [itCells]
    | succ k =>
      simp only [List.take_succ_cons, itCells, ih]
      rw [show (k + 1) * 6 = k * 6 + 1 + 1 + 1 + 1 + 1 + 1 from by omega]
      simp only [List.take_succ_cons]
theorem itCells_drop {l : List ((ByteArray × Nat × Tree) × Value)} (k : Nat) : itCells (l.drop k) = (itCells l).drop (k * 6) := by
  induction l generalizing k with
  | nil => simp [itCells]
  | cons x l ih =>
    cases k with
    | zero => simp [itCells]
    | succ k =>
      simp only [List.drop_succ_cons, itCells, ih]
      rw [show (k + 1) * 6 = k * 6 + 1 + 1 + 1 + 1 + 1 + 1 from by omega]
      simp only [List.drop_succ_cons]
theorem ownsRow_lower {w : World} {base base' : Nat} {e : TypeId} {size : Nat} {v : Value} {n : Nat} {xs : List Value} (h : w.ownsRow base e size v n xs) (hb : base' ≤ base) : w.ownsRow base' e size v n xs := by
  obtain ⟨h1, h2⟩ := h
  refine ⟨h1, ?_⟩
  rcases h2 with h2 | ⟨g, cap, cur, hv, hg, hh, r⟩
  · exact .inl h2
  · exact .inr ⟨g, cap, cur, hv, by omega, hh, r⟩
theorem ownsRow_single (w : World) (base : Nat) (e : TypeId) (size : Nat) (cs : Array Value) (hb : base ≤ w.heap.size) (hs : cs.size = size) : (w.alloc (.cells cs e)).ownsRow base e size (.slice (some ⟨w.heap.size, 0, none⟩) 1 1) 1 cs.toList := by
  refine ⟨by simp [hs], .inr ⟨w.heap.size, 1, cs, rfl, hb, heap_alloc_new w _, Nat.le_refl _, by unfold maxLen; omega, by omega, ?_⟩⟩
  rw [List.take_of_length_le (by simp; omega)]
end Go.Proofs.YtpjjpmikhjlgnaaGreatDoor
