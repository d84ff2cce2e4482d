/-
  A space of blocks: what is free, taken and given back, as functions on lists; a space in memory.
  Conditions: none.
-/
import Derived.Below
import Derived.Laws.AppendOwn
import Derived.Deep.WholeRow
namespace Go.Proofs.YtnmknngpihjhnaaGreatDoor
open Go.RowKit

/-- The blocks below n that are wanted by what is used. -/
def whereR (p : Bool → Bool) (u : List Bool) (n : Nat) : List Nat := (List.range n).filter fun k => p (u[k]?.getD false)
def freeR (u : List Bool) : List Nat := whereR (fun b => !b) u u.length
def usedR (u : List Bool) : List Nat := whereR id u u.length
def markR (u : List Bool) (b : Bool) : List Nat → List Bool
  | [] => u
  | k :: l => markR (u.set k b) b l
/-- Can these be given back, one by one? -/
def giveR (u : List Bool) : List Nat → Bool
  | [] => true
  | k :: l => u[k]?.getD false && giveR (u.set k false) l
theorem whereR_next (p : Bool → Bool) (u : List Bool) (n : Nat) : whereR p u (n + 1) = if p (u[n]?.getD false) then whereR p u n ++ [n] else whereR p u n := by
  unfold whereR
  rw [List.range_succ, List.filter_append]
  by_cases h : p (u[n]?.getD false) = true <;> simp [h]
theorem whereR_lt {p : Bool → Bool} {u : List Bool} {n k : Nat} (h : k ∈ whereR p u n) : k < n := by
  unfold whereR at h
  simpa using (List.mem_filter.1 h).1
theorem whereR_len (p : Bool → Bool) (u : List Bool) (n : Nat) : (whereR p u n).length ≤ n := by
  unfold whereR
  exact Nat.le_trans (List.length_filter_le _ _) (by simp)
theorem whereR_nodup (p : Bool → Bool) (u : List Bool) (n : Nat) : (whereR p u n).Nodup := List.Pairwise.filter _ List.nodup_range
theorem mem_free {u : List Bool} {k : Nat} : k ∈ freeR u ↔ u[k]? = some false := by
  unfold freeR whereR
  simp only [List.mem_filter, List.mem_range, Bool.not_eq_true']
  constructor
  · rintro ⟨h1, h2⟩
    rw [List.getElem?_eq_getElem h1] at h2 ⊢
    simpa using h2
  · intro h
    exact ⟨(List.getElem?_eq_some_iff.1 h).1, by rw [h]; rfl⟩
theorem mem_used {u : List Bool} {k : Nat} : k ∈ usedR u ↔ u[k]? = some true := by
  unfold usedR whereR
  simp only [List.mem_filter, List.mem_range, id]
  constructor
  · rintro ⟨h1, h2⟩
    rw [List.getElem?_eq_getElem h1] at h2 ⊢
    simpa using h2
  · intro h
    exact ⟨(List.getElem?_eq_some_iff.1 h).1, by rw [h]; rfl⟩
theorem free_used_len (u : List Bool) : (freeR u).length + (usedR u).length = u.length := by
  have : ∀ n, (whereR (fun b => !b) u n).length + (whereR id u n).length = n := by
    intro n
    induction n with
    | zero => simp [whereR]
    | succ n ih =>
      rw [whereR_next, whereR_next]
      cases u[n]?.getD false <;> simp <;> omega
  exact this u.length
theorem markR_len (b : Bool) : ∀ (l : List Nat) (u : List Bool), (markR u b l).length = u.length
  | [], _ => rfl
  | k :: l, u => by rw [markR, markR_len b l]; simp
theorem markR_not {b : Bool} : ∀ {l : List Nat} {u : List Bool} {k : Nat}, k ∉ l → (markR u b l)[k]? = u[k]?
  | [], _, _, _ => rfl
  | j :: l, u, k, h => by
    have hne : j ≠ k := fun e => h (by rw [e]; exact List.mem_cons_self)
    rw [markR, markR_not (fun hk => h (List.mem_cons_of_mem _ hk)), List.getElem?_set_ne hne]
theorem markR_in {b : Bool} : ∀ {l : List Nat} {u : List Bool} {k : Nat}, k ∈ l → k < u.length → (markR u b l)[k]? = some b
  | j :: l, u, k, h, hk => by
    rw [markR]
    by_cases hl : k ∈ l
    · exact markR_in hl (by simpa using hk)
    · rw [markR_not hl]
      rcases List.mem_cons.1 h with rfl | h
      · rw [List.getElem?_set_self hk]
      · exact absurd h hl
theorem markR_snoc (b : Bool) : ∀ (l : List Nat) (u : List Bool) (k : Nat), markR u b (l ++ [k]) = (markR u b l).set k b
  | [], _, _ => rfl
  | j :: l, u, k => by rw [List.cons_append, markR, markR, markR_snoc b l]
theorem giveR_snoc : ∀ (l : List Nat) (u : List Bool) (k : Nat), giveR u (l ++ [k]) = (giveR u l && (markR u false l)[k]?.getD false)
  | [], u, k => by simp [giveR, markR]
  | j :: l, u, k => by rw [List.cons_append, giveR, giveR, giveR_snoc l, markR, Bool.and_assoc]
theorem giveR_iff : ∀ (l : List Nat) (u : List Bool), giveR u l = true ↔ l.Nodup ∧ ∀ k ∈ l, u[k]? = some true
  | [], u => by simp [giveR]
  | j :: l, u => by
    rw [giveR, Bool.and_eq_true, giveR_iff l, List.nodup_cons]
    constructor
    · rintro ⟨h1, h2, h3⟩
      have hj : u[j]? = some true := by
        cases h : u[j]? with
        | none => rw [h] at h1; cases h1
        | some b => rw [h] at h1; simpa using h1
      have hjl := (List.getElem?_eq_some_iff.1 hj).1
      have hn : j ∉ l := fun hm => by
        have := h3 j hm
        rw [List.getElem?_set_self hjl] at this
        cases this
      refine ⟨⟨hn, h2⟩, fun k hk => ?_⟩
      rcases List.mem_cons.1 hk with rfl | hk
      · exact hj
      · have := h3 k hk
        have hne : j ≠ k := fun e => hn (by rw [e]; exact hk)
        rwa [List.getElem?_set_ne hne] at this
    · rintro ⟨⟨h1, h2⟩, h3⟩
      refine ⟨by rw [h3 j List.mem_cons_self]; rfl, h2, fun k hk => ?_⟩
      have hne : j ≠ k := fun e => h1 (by rw [e]; exact hk)
      rw [List.getElem?_set_ne hne]
      exact h3 k (List.mem_cons_of_mem _ hk)

/-- Marks in a row of their own. -/
def RowB (w : World) (b cap : Nat) (u : List Bool) : Prop := w.ownsRow 0 4 1 (.slice (some ⟨b, 0, none⟩) u.length cap) u.length (u.map Value.bool)
namespace RowB
variable {w w' : World} {b cap : Nat} {u : List Bool}
theorem of_owns {B : Nat} (h : w.ownsRow B 4 1 (.slice (some ⟨b, 0, none⟩) u.length cap) u.length (u.map Value.bool)) : RowB w b cap u := by
  refine ⟨h.1, ?_⟩
  rcases h.2 with ⟨h, _⟩ | ⟨g, c, cur, e, _, h1⟩
  · simp at h
  · exact .inr ⟨g, c, cur, e, Nat.zero_le _, h1⟩
theorem row (S : RowB w b cap u) : ∃ cur, w.heap[b]? = some (.cells cur 4 (0, 0)) ∧ u.length ≤ cap ∧ cap ≤ maxLen ∧ cur.size = cap ∧ cur.toList.take u.length = u.map Value.bool := by
  rcases S.2 with ⟨h, _⟩ | ⟨g, c, cur, e, _, h1, h2, h3, h4, h5⟩
  · simp at h
  · simp only [Value.slice.injEq, Option.some.injEq, Addr.mk.injEq, true_and, and_true] at e
    obtain ⟨rfl, rfl⟩ := e
    exact ⟨cur, h1, h2, h3, by rw [h4, Nat.mul_one], by rw [← h5, Nat.mul_one]⟩
theorem mark (S : RowB w b cap u) {k : Nat} {x : Bool} (h : u[k]? = some x) : w.cell? ⟨b, k, none⟩ = some (.bool x) := by
  obtain ⟨cur, h1, _, _, _, h5⟩ := S.row
  have hk := (List.getElem?_eq_some_iff.1 h).1
  rw [cell_of_row _ _ _ _ _ _ h1, ← Array.getElem?_toList]
  have : cur.toList[k]? = (cur.toList.take u.length)[k]? := by rw [List.getElem?_take_of_lt hk]
  rw [this, h5, List.getElem?_map, h]; rfl
theorem frozen (S : RowB w b cap u) (k : Nat) : w.frozen? ⟨b, k, none⟩ = false := by
  obtain ⟨cur, h1, _⟩ := S.row
  simp [World.frozen?, h1]
theorem lt (S : RowB w b cap u) : b < w.heap.size := by
  obtain ⟨cur, h1, _⟩ := S.row
  exact (Array.getElem?_eq_some_iff.1 h1).1
theorem keep (S : RowB w b cap u) (hb : w'.heap[b]? = w.heap[b]?) : RowB w' b cap u := by
  refine ⟨S.1, ?_⟩
  rcases S.2 with ⟨h, _⟩ | ⟨g, c, cur, e, h0, h1, h2⟩
  · simp at h
  · simp only [Value.slice.injEq, Option.some.injEq, Addr.mk.injEq, true_and, and_true] at e
    obtain ⟨rfl, rfl⟩ := e
    exact .inr ⟨b, cap, cur, rfl, h0, by rw [hb]; exact h1, h2⟩
theorem below (S : RowB w b cap u) (hb : Below w.heap.size w w') : RowB w' b cap u := S.keep (hb.block _ S.lt)
theorem ne (S : RowB w b cap u) {k : Nat} {cur : Array Value} {t : TypeId} {f : Nat × Nat} (h : w.heap[k]? = some (.cells cur t f)) (ht : t ≠ 4) : k ≠ b := fun e => by
  obtain ⟨cur', h1, _⟩ := S.row
  rw [e, h1] at h
  simp only [Option.some.injEq, Obj.cells.injEq] at h
  exact ht h.2.1.symm
theorem set (S : RowB w b cap u) (k : Nat) (x : Bool) : RowB (w.setCell ⟨b, k, none⟩ (.bool x)) b cap (u.set k x) := by
  obtain ⟨cur, h1, h2, h3, h4, h5⟩ := S.row
  have hr : (w.setCell ⟨b, k, none⟩ (.bool x)).heap[b]? = some (.cells (cur.toList.set k (.bool x)).toArray 4 (0, 0)) := by
    simp [World.setCell, Array.getElem?_modify, h1]
    apply Array.ext'; simp
  refine ⟨by simp, .inr ⟨b, cap, _, by simp, Nat.zero_le _, hr, by simpa using h2, h3, by simpa using h4, ?_⟩⟩
  simp only [List.length_set, Nat.mul_one, List.take_set]
  rw [h5, List.map_set]
end RowB
/-- A space in memory: itself in block p, its marks in block b. -/
structure SpAt (w : World) (p b cap : Nat) (u : List Bool) : Prop where
  box : w.heap[p]? = some (.cells #[.slice (some ⟨b, 0, none⟩) u.length cap] 110 (0, 0))
  own : RowB w b cap u
namespace SpAt
variable {w w' : World} {p b cap : Nat} {u : List Bool}
theorem row (S : SpAt w p b cap u) : ∃ cur, w.heap[b]? = some (.cells cur 4 (0, 0)) ∧ u.length ≤ cap ∧ cap ≤ maxLen ∧ cur.size = cap ∧ cur.toList.take u.length = u.map Value.bool := S.own.row
theorem cell (S : SpAt w p b cap u) : w.cell? ⟨p, 0, none⟩ = some (.slice (some ⟨b, 0, none⟩) u.length cap) := by rw [cell_of_row _ _ _ _ _ _ S.box]; rfl
theorem mark (S : SpAt w p b cap u) {k : Nat} {x : Bool} (h : u[k]? = some x) : w.cell? ⟨b, k, none⟩ = some (.bool x) := S.own.mark h
theorem frozen (S : SpAt w p b cap u) (k : Nat) : w.frozen? ⟨b, k, none⟩ = false := S.own.frozen k
theorem lt (S : SpAt w p b cap u) : p < w.heap.size ∧ b < w.heap.size := ⟨(Array.getElem?_eq_some_iff.1 S.box).1, S.own.lt⟩
theorem keep (S : SpAt w p b cap u) (hp : w'.heap[p]? = w.heap[p]?) (hb : w'.heap[b]? = w.heap[b]?) : SpAt w' p b cap u := ⟨by rw [hp]; exact S.box, S.own.keep hb⟩
theorem below (S : SpAt w p b cap u) (hb : Below w.heap.size w w') : SpAt w' p b cap u := S.keep (hb.block _ S.lt.1) (hb.block _ S.lt.2)
theorem ne (S : SpAt w p b cap u) : p ≠ b := S.own.ne S.box (by decide)
theorem set (S : SpAt w p b cap u) (k : Nat) (x : Bool) : SpAt (w.setCell ⟨b, k, none⟩ (.bool x)) p b cap (u.set k x) :=
  ⟨by rw [Below.heap_setCell _ _ _ _ S.ne, List.length_set]; exact S.box, S.own.set k x⟩
end SpAt
end Go.Proofs.YtnmknngpihjhnaaGreatDoor
