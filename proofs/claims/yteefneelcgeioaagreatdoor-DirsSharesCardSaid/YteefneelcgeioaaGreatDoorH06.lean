/-
  A disk in memory: blocks that are there to stay, and writes that wait, as rows of cells in parts.
  The contracts of package disk's New, Len, has, Waits and turn.
  Loads and stores of many cells as steps of a walk; rows that no walk of an iterator turns.
  Conditions: those that each states.
-/
import Derived.Below
import Derived.Laws.AppendOwn
import Derived.Deep.MidRow
import Derived.Lib.LazyBuf
import Derived.Test.YteefneelcgeioaaGreatDoorProg
import Derived.WalkKit
import Derived.Laws.BitsAllLaws
import Derived.Laws.MakeOwn
import Derived.Deep.WholeRow
import Derived.LoopN
import Derived.BigQuiet
import Derived.KernelRfl
import Derived.Handy
import Derived.RangeFuncNested
import Derived.RangeFuncBound
import Derived.RangeFuncCalls
import Derived.RangeFuncLeaves
import Derived.Shelf.Abstract
import Derived.OwnWalkIn
import Derived.TacticsInMore
import Derived.LoopNIn
import Derived.LoopIn
namespace Go.Proofs.YteefneelcgeioaaGreatDoor
open Go.RowKit

/-! ### Rows in parts -/
theorem flat_len {α β : Type} {f : α → List β} {m : Nat} : ∀ {l : List α}, (∀ x ∈ l, (f x).length = m) → (l.flatMap f).length = l.length * m
  | [], _ => by simp
  | a :: l, h => by
    rw [List.flatMap_cons, List.length_append, flat_len (fun x hx => h x (List.mem_cons_of_mem _ hx)), h a List.mem_cons_self, List.length_cons, Nat.succ_mul]; omega
theorem flat_at {α β : Type} {f : α → List β} {l : List α} {k : Nat} {x : α} (hx : l[k]? = some x) : l.flatMap f = (l.take k).flatMap f ++ (f x ++ (l.drop (k + 1)).flatMap f) := by
  obtain ⟨hk, he⟩ := List.getElem?_eq_some_iff.1 hx
  conv => lhs; rw [← List.take_append_drop k l, List.drop_eq_getElem_cons hk, he]
  simp
theorem flat_set {α β : Type} {f : α → List β} {l : List α} {k : Nat} (hk : k < l.length) (y : α) : (l.set k y).flatMap f = (l.take k).flatMap f ++ (f y ++ (l.drop (k + 1)).flatMap f) := by
  rw [List.set_eq_take_append_cons_drop, if_pos hk]
  simp
theorem flat_pre {α β : Type} {f : α → List β} {m : Nat} {l : List α} (h : ∀ x ∈ l, (f x).length = m) {k : Nat} (hk : k < l.length) : ((l.take k).flatMap f).length = k * m := by
  rw [flat_len (fun x hx => h x (List.mem_of_mem_take hx)), List.length_take, Nat.min_eq_left (Nat.le_of_lt hk)]
theorem flat_get {α β : Type} {f : α → List β} {m : Nat} {l : List α} (h : ∀ x ∈ l, (f x).length = m) {k : Nat} {x : α} (hx : l[k]? = some x) {j : Nat} (hj : j < m) : (l.flatMap f)[k * m + j]? = (f x)[j]? := by
  have hk := (List.getElem?_eq_some_iff.1 hx).1
  have hm := h x (List.mem_of_getElem? hx)
  rw [flat_at hx, List.getElem?_append_right (by rw [flat_pre h hk]; omega), flat_pre h hk, Nat.add_sub_cancel_left, List.getElem?_append_left (by omega)]
/-- Cells over others. -/
def over {β : Type} (l : List β) (o : Nat) (vs : List β) : List β := l.take o ++ (vs ++ l.drop (o + vs.length))
theorem over_flat {α β : Type} {f : α → List β} {m : Nat} {l : List α} (h : ∀ x ∈ l, (f x).length = m) {k : Nat} {x y : α} (hx : l[k]? = some x) (hy : (f y).length = m) : over (l.flatMap f) (k * m) (f y) = (l.set k y).flatMap f := by
  have hk := (List.getElem?_eq_some_iff.1 hx).1
  have hm := h x (List.mem_of_getElem? hx)
  have hp := flat_pre h hk
  rw [flat_set hk, over, flat_at hx, List.take_left' hp, ← List.append_assoc ((l.take k).flatMap f) (f x), List.drop_left' (by rw [List.length_append, hp, hm, hy])]
theorem set_flat {α β : Type} {f : α → List β} {m : Nat} {l : List α} (h : ∀ x ∈ l, (f x).length = m) {k : Nat} {x y : α} (hx : l[k]? = some x) {j : Nat} (hj : j < m) {v : β} (hy : f y = (f x).set j v) : (l.flatMap f).set (k * m + j) v = (l.set k y).flatMap f := by
  have hk := (List.getElem?_eq_some_iff.1 hx).1
  have hm := h x (List.mem_of_getElem? hx)
  have hp := flat_pre h hk
  rw [flat_set hk, flat_at hx, List.set_append_right _ _ (by rw [hp]; omega), hp, Nat.add_sub_cancel_left, List.set_append_left _ _ (by omega), hy]
theorem take_set_next {β : Type} {l : List β} {o : Nat} {v : β} (h : o < l.length) : (l.set o v).take (o + 1) = l.take o ++ [v] := by
  rw [List.take_succ_eq_append_getElem (by simpa using h), List.take_set_of_le (Nat.le_refl _)]; simp
theorem over_cons {β : Type} (l : List β) (o : Nat) (v : β) (r : List β) (h : o < l.length) : over (l.set o v) (o + 1) r = over l o (v :: r) := by
  unfold over
  rw [take_set_next h]
  have e : (l.set o v).drop (o + 1 + r.length) = l.drop (o + (v :: r).length) := by
    rw [List.drop_set_of_lt (by omega)]; congr 1; simp; omega
  rw [e]; simp

theorem row_setCell {w : World} {b i : Nat} {cur : Array Value} {t : TypeId} {fr : Nat × Nat} (h : w.heap[b]? = some (.cells cur t fr)) (v : Value) : (w.setCell ⟨b, i, none⟩ v).heap[b]? = some (.cells (cur.toList.set i v).toArray t fr) := by
  simp [World.setCell, Array.getElem?_modify, h]
  apply Array.ext'; simp
theorem row_setCells {b : Nat} {t : TypeId} {fr : Nat × Nat} : ∀ (vs : List Value) (o : Nat) (w : World) (cur : Array Value), w.heap[b]? = some (.cells cur t fr) → o + vs.length ≤ cur.size → (w.setCells b o vs).heap[b]? = some (.cells (over cur.toList o vs).toArray t fr)
  | [], o, w, cur, h, _ => by rw [World.setCells, over]; simpa using h
  | v :: r, o, w, cur, h, hl => by
    simp only [List.length_cons] at hl
    rw [World.setCells, row_setCells r (o + 1) _ _ (row_setCell h v) (by simp; omega), over_cons _ _ _ _ (by simp; omega)]
theorem block_setCells {b k : Nat} (hk : k ≠ b) : ∀ (vs : List Value) (o : Nat) (w : World), (w.setCells b o vs).heap[k]? = w.heap[k]?
  | [], _, _ => rfl
  | v :: r, o, w => by rw [World.setCells, block_setCells hk r (o + 1)]; exact Below.heap_setCell _ _ _ _ hk
theorem size_setCells {b : Nat} : ∀ (vs : List Value) (o : Nat) (w : World), (w.setCells b o vs).heap.size = w.heap.size
  | [], _, _ => rfl
  | v :: r, o, w => by rw [World.setCells, size_setCells r (o + 1)]; simp [World.setCell]
theorem rest_setCells {b : Nat} : ∀ (vs : List Value) (o : Nat) (w : World), (w.setCells b o vs).os = w.os ∧ (w.setCells b o vs).tape = w.tape ∧ (w.setCells b o vs).output = w.output
  | [], _, _ => ⟨rfl, rfl, rfl⟩
  | v :: r, o, w => by rw [World.setCells]; exact rest_setCells r (o + 1) _

/-! ### A disk -/
/-- Bytes as cells. -/
def bc (l : List UInt8) : List Value := l.map fun x => .int .u8 (x.toNat : Int)
/-- A write that waits, as cells. -/
def wc (x : Nat × List UInt8) : List Value := .int .i64 (x.1 : Int) :: bc x.2
theorem bc_len (l : List UInt8) : (bc l).length = l.length := by simp [bc]
theorem wc_len (x : Nat × List UInt8) : (wc x).length = x.2.length + 1 := by simp [wc, bc]
theorem bc_one (l : List UInt8) : ∀ v ∈ bc l, v.oneCell' = true := fun v hv => by
  obtain ⟨x, _, rfl⟩ := List.mem_map.1 hv
  rfl
theorem wc_one (x : Nat × List UInt8) : ∀ v ∈ wc x, v.oneCell' = true := fun v hv => by
  rcases List.mem_cons.1 hv with rfl | h
  · rfl
  · exact bc_one _ v h
theorem bc_set (l : List UInt8) (j : Nat) (x : UInt8) : bc (l.set j x) = (bc l).set j (.int .u8 (x.toNat : Int)) := by simp [bc, List.map_set]
theorem wc_set (a : Nat) (l : List UInt8) (j : Nat) (x : UInt8) : wc (a, l.set j x) = (wc (a, l)).set (j + 1) (.int .u8 (x.toNat : Int)) := by simp [wc, bc_set]

/-- A disk whose blocks lie in block bb, itself in the next one; what waits lies behind them. -/
structure DkAt (w : World) (bb : Nat) (va : Option Addr) (vc : Nat) (bl : List (List UInt8)) (wt : List (Nat × List UInt8)) : Prop where
  disk : w.heap[bb + 1]? = some (.cells #[.slice (some ⟨bb, 0, none⟩) bl.length bl.length, .slice va wt.length vc] 159 (0, 0))
  blocks : w.heap[bb]? = some (.cells (bl.flatMap bc).toArray 179 (0, 0))
  waits : w.ownsRow (bb + 2) 210 17 (.slice va wt.length vc) wt.length (wt.flatMap wc)
  bl16 : ∀ b ∈ bl, b.length = 16
  wt16 : ∀ x ∈ wt, x.1 < bl.length ∧ x.2.length = 16
/-- What was there is as it was, but for the disk. -/
structure DkBut (bb : Nat) (va : Option Addr) (w w' : World) : Prop where
  os : w'.os = w.os
  tape : w'.tape = w.tape
  output : w'.output = w.output
  size : w.heap.size ≤ w'.heap.size
  block : ∀ k, k < w.heap.size → k ≠ bb → k ≠ bb + 1 → (∀ a, va = some a → k ≠ a.block) → w'.heap[k]? = w.heap[k]?
theorem DkBut.of_below {bb : Nat} {va : Option Addr} {w w' : World} (h : Below w.heap.size w w') : DkBut bb va w w' := ⟨h.os, h.tape, h.output, h.size, fun k hk _ _ _ => h.block k hk⟩
theorem DkBut.trans {bb : Nat} {va : Option Addr} {w w' w'' : World} (h : DkBut bb va w w') (h' : DkBut bb va w' w'') : DkBut bb va w w'' :=
  ⟨h'.os.trans h.os, h'.tape.trans h.tape, h'.output.trans h.output, Nat.le_trans h.size h'.size, fun k hk a b c => (h'.block k (Nat.lt_of_lt_of_le hk h.size) a b c).trans (h.block k hk a b c)⟩

namespace DkAt
variable {w w' : World} {bb : Nat} {va : Option Addr} {vc : Nat} {bl : List (List UInt8)} {wt : List (Nat × List UInt8)}
theorem c16 (D : DkAt w bb va vc bl wt) : ∀ b ∈ bl, (bc b).length = 16 := fun b hb => by rw [bc_len, D.bl16 b hb]
theorem c17 (D : DkAt w bb va vc bl wt) : ∀ x ∈ wt, (wc x).length = 17 := fun x hx => by rw [wc_len, (D.wt16 x hx).2]
theorem lt (D : DkAt w bb va vc bl wt) : bb + 1 < w.heap.size := (Array.getElem?_eq_some_iff.1 D.disk).1
theorem low (D : DkAt w bb va vc bl wt) : ∀ a, va = some a → bb + 2 ≤ a.block ∧ a.block < w.heap.size ∧ a = ⟨a.block, 0, none⟩ := fun a ha => by
  rcases D.waits.2 with ⟨e, _⟩ | ⟨g, cap, cur, e, h1, h2, _⟩
  · cases ha; simp at e
  · cases ha
    simp only [Value.slice.injEq, Option.some.injEq] at e
    rw [e.1]
    exact ⟨h1, (Array.getElem?_eq_some_iff.1 h2).1, rfl⟩
theorem ext (D : DkAt w bb va vc bl wt) (h : ∀ k, k = bb ∨ k = bb + 1 ∨ (∃ a, va = some a ∧ k = a.block) → w'.heap[k]? = w.heap[k]?) : DkAt w' bb va vc bl wt := by
  refine ⟨(h _ (.inr (.inl rfl))).trans D.disk, (h _ (.inl rfl)).trans D.blocks, ⟨D.waits.1, ?_⟩, D.bl16, D.wt16⟩
  rcases D.waits.2 with ⟨e, e0⟩ | ⟨g, cap, cur, e, h1, h2, h3⟩
  · exact .inl ⟨e, e0⟩
  · refine .inr ⟨g, cap, cur, e, h1, (h g (.inr (.inr ⟨⟨g, 0, none⟩, ?_, rfl⟩))).trans h2, h3⟩
    simp only [Value.slice.injEq] at e
    exact e.1
theorem below (D : DkAt w bb va vc bl wt) {B : Nat} (hB : w.heap.size ≤ B) (hb : Below B w w') : DkAt w' bb va vc bl wt := D.ext fun k hk => hb.block k (by
  have := D.lt
  rcases hk with rfl | rfl | ⟨a, ha, rfl⟩
  · omega
  · omega
  · have := (D.low a ha).2.1; omega)
theorem up (D : DkAt w bb va vc bl wt) {B : Nat} {w0 : World} (hB : B ≤ bb) (h0 : Below B w0 w) (h : DkBut bb va w w') : Below B w0 w' :=
  ⟨h.os.trans h0.os, h.tape.trans h0.tape, h.output.trans h0.output, Nat.le_trans h0.size h.size, fun k hk => by
    have := D.lt
    exact (h.block k (by omega) (by omega) (by omega) (fun a ha => by have := (D.low a ha).1; omega)).trans (h0.block k hk)⟩
theorem cells (D : DkAt w bb va vc bl wt) : w.cell? ⟨bb + 1, 0, none⟩ = some (.slice (some ⟨bb, 0, none⟩) bl.length bl.length) ∧ w.cell? ⟨bb + 1, 1, none⟩ = some (.slice va wt.length vc) ∧ w.frozen? ⟨bb + 1, 1, none⟩ = false := by
  refine ⟨?_, ?_, ?_⟩
  · rw [cell_of_row w _ _ _ _ _ D.disk]; rfl
  · rw [cell_of_row w _ _ _ _ _ D.disk]; rfl
  · simp [World.frozen?, D.disk]
theorem block_range (D : DkAt w bb va vc bl wt) {k : Nat} {b : List UInt8} (hk : bl[k]? = some b) : w.rangeAt bb (k * 16) (bc b) := fun j v hj => by
  have hj' : j < 16 := by have := (List.getElem?_eq_some_iff.1 hj).1; rw [D.c16 b (List.mem_of_getElem? hk)] at this; exact this
  rw [cell_of_row w _ _ _ _ _ D.blocks]
  simp only [List.getElem?_toArray]
  rw [flat_get D.c16 hk hj']; exact hj
theorem block_there (D : DkAt w bb va vc bl wt) {k : Nat} {b : List UInt8} (hk : bl[k]? = some b) : w.there bb (k * 16) 16 := fun j hj =>
  ⟨by
    have hl : j < (bc b).length := by rw [D.c16 b (List.mem_of_getElem? hk)]; exact hj
    rw [D.block_range hk j _ (List.getElem?_eq_getElem hl)]; rfl, by simp [World.frozen?, D.blocks]⟩
theorem write_range (D : DkAt w bb va vc bl wt) {i : Nat} {x : Nat × List UInt8} (hi : wt[i]? = some x) : ∃ g, va = some ⟨g, 0, none⟩ ∧ w.rangeAt g (i * 17) (wc x) ∧ w.there g (i * 17) 17 := by
  have hlt := (List.getElem?_eq_some_iff.1 hi).1
  rcases D.waits.2 with ⟨_, e⟩ | ⟨g, cap, cur, e, h1, h2, h3, h4, h5, h6⟩
  · omega
  · simp only [Value.slice.injEq] at e
    have hr : w.rangeAt g (i * 17) (wc x) := fun j v hj => by
      have hj' : j < 17 := by have := (List.getElem?_eq_some_iff.1 hj).1; rw [D.c17 x (List.mem_of_getElem? hi)] at this; exact this
      rw [cell_of_row w _ _ _ _ _ h2, ← Array.getElem?_toList]
      have : cur.toList[i * 17 + j]? = (cur.toList.take (wt.length * 17))[i * 17 + j]? := by rw [List.getElem?_take_of_lt (by omega)]
      rw [this, h6, flat_get D.c17 hi hj']; exact hj
    refine ⟨g, e.1, hr, fun j hj => ⟨?_, by simp [World.frozen?, h2]⟩⟩
    have hl : j < (wc x).length := by rw [D.c17 x (List.mem_of_getElem? hi)]; exact hj
    rw [hr j _ (List.getElem?_eq_getElem hl)]; rfl
/-- A block is set. -/
theorem set_block (D : DkAt w bb va vc bl wt) {k : Nat} {b y : List UInt8} (hk : bl[k]? = some b) (hy : y.length = 16) : DkAt (w.setCells bb (k * 16) (bc y)) bb va vc (bl.set k y) wt := by
  have hk' := (List.getElem?_eq_some_iff.1 hk).1
  have hl : (bl.flatMap bc).length = bl.length * 16 := flat_len D.c16
  have D' := D.disk
  refine ⟨?_, ?_, ?_, ?_, ?_⟩
  · rw [block_setCells (by omega), List.length_set]; exact D.disk
  · rw [row_setCells _ _ _ _ D.blocks (by simp only [List.size_toArray]; rw [hl, bc_len, hy]; omega)]
    simp only
    rw [over_flat D.c16 hk (by rw [bc_len, hy])]
  · refine ⟨D.waits.1, ?_⟩
    rcases D.waits.2 with ⟨e, e0⟩ | ⟨g, cap, cur, e, h1, h2, h3⟩
    · exact .inl ⟨e, e0⟩
    · exact .inr ⟨g, cap, cur, e, h1, by rw [block_setCells (by omega)]; exact h2, h3⟩
  · intro z hz
    rcases List.mem_or_eq_of_mem_set hz with h | rfl
    · exact D.bl16 z h
    · exact hy
  · rw [List.length_set]; exact D.wt16
theorem but_block (k : Nat) (vs : List Value) : DkBut bb va w (w.setCells bb k vs) :=
  ⟨(rest_setCells vs k w).1, (rest_setCells vs k w).2.1, (rest_setCells vs k w).2.2, by rw [size_setCells]; exact Nat.le_refl _, fun j _ hj _ _ => block_setCells hj vs k w⟩
/-- A byte of a block is set. -/
theorem set_byte (D : DkAt w bb va vc bl wt) {k j : Nat} {b : List UInt8} (hk : bl[k]? = some b) (hj : j < 16) (x : UInt8) : DkAt (w.setCell ⟨bb, k * 16 + j, none⟩ (.int .u8 (x.toNat : Int))) bb va vc (bl.set k (b.set j x)) wt := by
  refine ⟨?_, ?_, ?_, ?_, ?_⟩
  · rw [Below.heap_setCell _ _ _ _ (show bb + 1 ≠ bb by omega), List.length_set]; exact D.disk
  · rw [row_setCell D.blocks]
    simp only
    rw [set_flat D.c16 hk hj (bc_set b j x)]
  · refine ⟨D.waits.1, ?_⟩
    rcases D.waits.2 with ⟨e, e0⟩ | ⟨g, cap, cur, e, h1, h2, h3⟩
    · exact .inl ⟨e, e0⟩
    · exact .inr ⟨g, cap, cur, e, h1, by rw [Below.heap_setCell _ _ _ _ (show g ≠ bb by omega)]; exact h2, h3⟩
  · intro z hz
    rcases List.mem_or_eq_of_mem_set hz with h | rfl
    · exact D.bl16 z h
    · rw [List.length_set]; exact D.bl16 b (List.mem_of_getElem? hk)
  · rw [List.length_set]; exact D.wt16
theorem but_byte (k : Nat) (v : Value) : DkBut bb va w (w.setCell ⟨bb, k, none⟩ v) :=
  ⟨rfl, rfl, rfl, by simp [World.setCell], fun j _ hj _ _ => Below.heap_setCell _ _ _ _ hj⟩
/-- A byte of a write that waits is set. -/
theorem set_wait (D : DkAt w bb va vc bl wt) {i j g : Nat} {a : Nat} {l : List UInt8} (hi : wt[i]? = some (a, l)) (hg : va = some ⟨g, 0, none⟩) (hj : j < 16) (x : UInt8) : DkAt (w.setCell ⟨g, i * 17 + 1 + j, none⟩ (.int .u8 (x.toNat : Int))) bb va vc bl (wt.set i (a, l.set j x)) := by
  have hlt := (List.getElem?_eq_some_iff.1 hi).1
  have hlow := D.low _ hg
  simp only at hlow
  refine ⟨?_, ?_, ?_, D.bl16, ?_⟩
  · rw [Below.heap_setCell _ _ _ _ (show bb + 1 ≠ g by omega), List.length_set]; exact D.disk
  · rw [Below.heap_setCell _ _ _ _ (show bb ≠ g by omega)]; exact D.blocks
  · have h17 : ∀ z ∈ wt.set i (a, l.set j x), (wc z).length = 17 := by
      intro z hz
      rcases List.mem_or_eq_of_mem_set hz with h | rfl
      · exact D.c17 z h
      · rw [wc_len]; simp; exact (D.wt16 _ (List.mem_of_getElem? hi)).2
    refine ⟨flat_len h17, ?_⟩
    rcases D.waits.2 with ⟨_, e⟩ | ⟨g', cap, cur, e, h1, h2, h3, h4, h5, h6⟩
    · omega
    · simp only [Value.slice.injEq] at e
      obtain rfl : g' = g := by have := e.1.symm.trans hg; simpa using this
      refine .inr ⟨g', cap, (cur.toList.set (i * 17 + 1 + j) (.int .u8 (x.toNat : Int))).toArray, ?_, h1, row_setCell h2 _, by rw [List.length_set]; exact h3, h4, by simp; exact h5, ?_⟩
      · rw [List.length_set, hg, e.2.2]
      · simp only [List.length_set]
        rw [List.take_set, h6, Nat.add_assoc, set_flat D.c17 hi (show 1 + j < 17 by omega) (y := (a, l.set j x)) (by rw [wc_set, Nat.add_comm])]
  · intro z hz
    rcases List.mem_or_eq_of_mem_set hz with h | rfl
    · exact D.wt16 z h
    · have := D.wt16 _ (List.mem_of_getElem? hi)
      exact ⟨this.1, by simp only [List.length_set]; exact this.2⟩
theorem but_wait {g : Nat} (hg : va = some ⟨g, 0, none⟩) (k : Nat) (v : Value) : DkBut bb va w (w.setCell ⟨g, k, none⟩ v) :=
  ⟨rfl, rfl, rfl, by simp [World.setCell], fun j _ _ _ hj => Below.heap_setCell _ _ _ _ (show j ≠ g from hj _ hg)⟩
/-- What waits is forgotten. -/
theorem forget (D : DkAt w bb va vc bl wt) : DkAt (w.setCell ⟨bb + 1, 1, none⟩ (.slice none 0 0)) bb none 0 bl [] := by
  refine ⟨?_, ?_, ⟨rfl, .inl ⟨rfl, rfl⟩⟩, D.bl16, fun x hx => by cases hx⟩
  · rw [row_setCell D.disk]; rfl
  · rw [Below.heap_setCell _ _ _ _ (show bb ≠ bb + 1 by omega)]; exact D.blocks
theorem but_forget (v : Value) : DkBut bb va w (w.setCell ⟨bb + 1, 1, none⟩ v) :=
  ⟨rfl, rfl, rfl, by simp [World.setCell], fun j _ _ hj _ => Below.heap_setCell _ _ _ _ hj⟩
end DkAt
end Go.Proofs.YteefneelcgeioaaGreatDoor
namespace Go.Proofs.YteefneelcgeioaaGreatDoor
open Go.RowKit

theorem infoBk : (Tryz.prog.info? 179).map (fun i => (i.zero, i.size, i.bytes)) = some (some (.agg (Array.replicate 16 (.int .u8 0))), 16, 16) := by kernel_rfl
theorem infoWr : (Tryz.prog.info? 210).map (fun i => (i.zero, i.size, i.bytes)) = some (some (.agg (#[.int .i64 0] ++ Array.replicate 16 (.int .u8 0))), 17, 24) := by kernel_rfl

set_option maxRecDepth 100000 in
set_option maxHeartbeats 1000000 in
theorem len_any {bb : Nat} {va : Option Addr} {vc : Nat} {bl : List (List UInt8)} {wt : List (Nat × List UInt8)} (w : World) (D : DkAt w bb va vc bl wt) :
    Calls Tryz.prog 85 #[.pointer (some ⟨bb + 1, 0, none⟩)] w fun e w' => e = .returned (.int .i64 (bl.length : Int)) ∧ w' = w := by
  obtain ⟨h1, h2, _⟩ := D.cells
  clear D
  go_enter Tryz.func85, Tryz.ntmps85
  go_wp2_with fail
  go_ret
  exact ⟨rfl, rfl⟩
/-- Is it a block's number? -/
def hasB (n : Nat) (k : Int) : Bool := decide (0 ≤ k ∧ k < (n : Int))
theorem hasB_yes {n : Nat} {k : Int} (h0 : 0 ≤ k) (h1 : k < (n : Int)) : hasB n k = true := decide_eq_true ⟨h0, h1⟩
theorem hasB_no {n : Nat} {k : Int} (h : ¬ (0 ≤ k ∧ k < (n : Int))) : hasB n k = false := decide_eq_false h
set_option maxRecDepth 100000 in
set_option maxHeartbeats 1000000 in
theorem has_any {bb : Nat} {va : Option Addr} {vc : Nat} {bl : List (List UInt8)} {wt : List (Nat × List UInt8)} (k : Int) (w : World) (D : DkAt w bb va vc bl wt) :
    Calls Tryz.prog 102 #[.pointer (some ⟨bb + 1, 0, none⟩), .int .i64 k] w fun e w' => e = .returned (.bool (hasB bl.length k)) ∧ w' = w := by
  have HL := len_any w D
  clear D
  by_cases h0 : 0 ≤ k
  · by_cases h1 : k < (bl.length : Int)
    · go_enter Tryz.func102, Tryz.ntmps102
      go_wp2_with (go_at_call 85; refine HL.mono ?_; rintro e w' ⟨rfl, rfl⟩)
      go_ret
      exact ⟨by rw [hasB_yes h0 h1]; rfl, rfl⟩
    · go_enter Tryz.func102, Tryz.ntmps102
      go_wp2_with (go_at_call 85; refine HL.mono ?_; rintro e w' ⟨rfl, rfl⟩)
      go_ret
      exact ⟨by rw [hasB_no (by omega)]; show Ending.returned (Value.bool (decide (k < (bl.length : Int)))) = _; rw [decide_eq_false (p := k < (bl.length : Int)) (by omega)], rfl⟩
  · go_enter Tryz.func102, Tryz.ntmps102
    go_wp2_with (go_at_call 85; refine HL.mono ?_; rintro e w' ⟨rfl, rfl⟩)
    go_ret
    exact ⟨by rw [hasB_no (by omega)]; rfl, rfl⟩

/-- A block of zeros. -/
def zb : List UInt8 := List.replicate 16 0
theorem flat_zero : ∀ n, (List.replicate n zb).flatMap bc = List.replicate (n * 16) (.int .u8 0)
  | 0 => by simp
  | n + 1 => by
    rw [List.replicate_succ, List.flatMap_cons, flat_zero n, Nat.succ_mul, Nat.add_comm (n * 16), ← List.replicate_append_replicate]
    rfl
theorem made_zero (n : Nat) : madeCells (Value.agg (Array.replicate 16 (.int .u8 0))).cells (n * 16) = ((List.replicate n zb).flatMap bc).toArray := by
  rw [flat_zero]
  apply Array.ext
  · simp [size_madeCells]
  · intro i h1 h2
    have hm : i % 16 < 16 := Nat.mod_lt _ (by decide)
    simp [madeCells, Value.cells, hm]
set_option maxRecDepth 100000 in
set_option maxHeartbeats 1000000 in
theorem new_any (n : Nat) (h1 : 1 ≤ n) (h2 : n ≤ 512) (w : World) :
    Calls Tryz.prog 55 #[.int .i64 (n : Int)] w fun e w' => e = .returned (.tuple #[.pointer (some ⟨w.heap.size + 1, 0, none⟩), .nilIface]) ∧ DkAt w' w.heap.size none 0 (List.replicate n zb) [] ∧ Below w.heap.size w w' := by
  obtain ⟨i0, hi0, hz0, hz1, hz2⟩ := info_parts infoBk
  have HM : (Instr.makeSlice 156 (.int .i64 (n : Int)) (.int .i64 (n : Int))).run Tryz.prog w = .ok (.slice (some ⟨w.heap.size, 0, none⟩) n n) (w.alloc (.cells ((List.replicate n zb).flatMap bc).toArray 179)) := by
    have := run_make (P := Tryz.prog) w 156 179 i0 _ Tryz.underlying156 hi0 hz0 .i64 .i64 n n (by omega) (Int.le_refl _) (by rw [hz2]; omega) (by omega)
    simp only [Int.toNat_natCast] at this
    rw [this, hz1, made_zero]
  obtain ⟨C, hC⟩ : ∃ C, C = ((List.replicate n zb).flatMap bc).toArray := ⟨_, rfl⟩
  rw [← hC] at HM
  have HC : Hid (C = ((List.replicate n zb).flatMap bc).toArray) := hC
  clear hC
  go_enter Tryz.func55, Tryz.ntmps55
  go_wp2_with fail
  go_ret2
  have hs1 : (w.alloc (.cells C 179)).heap.size = w.heap.size + 1 := by simp
  refine ⟨rfl, ⟨?_, ?_, ⟨rfl, .inl ⟨rfl, rfl⟩⟩, fun b hb => ?_, fun x hx => by cases hx⟩, ((Below.refl _ w).alloc (Nat.le_refl _) _).alloc (by simp) _⟩
  · rw [← hs1, heap_alloc_last, List.length_replicate]; rfl
  · rw [Below.heap_alloc _ _ _ (by simp), heap_alloc_last, HC.out]
  · rw [(List.mem_replicate.1 hb).2]; rfl

/-- A byte with a bit turned. -/
def turnB (x : UInt8) (k : Nat) : UInt8 := x ^^^ UInt8.ofNat (2 ^ (k % 8))
theorem turnB_twice (x : UInt8) (k : Nat) : turnB (turnB x k) k = x := by
  unfold turnB
  rw [UInt8.xor_assoc, UInt8.xor_self, UInt8.xor_zero]
/-- A block with a bit turned. -/
def turnL (l : List UInt8) (k : Nat) : List UInt8 := l.set (k / 8) (turnB (l[k / 8]?.getD 0) k)

end Go.Proofs.YteefneelcgeioaaGreatDoor
namespace Go.Proofs.YteefneelcgeioaaGreatDoor
open Go.RowKit

theorem setCell_new (w : World) (C : Array Value) (t : TypeId) (o : Nat) (v : Value) : (w.alloc (.cells C t)).setCell ⟨w.heap.size, o, none⟩ v = w.alloc (.cells (C.toList.set o v).toArray t) := by
  simp only [World.setCell, World.alloc]
  congr 1
  apply Array.ext_getElem?
  intro i
  rw [Array.getElem?_modify]
  by_cases h : w.heap.size = i
  · subst h
    simp
    apply Array.ext'; simp
  · have h' : ¬ i = w.heap.size := fun e => h e.symm
    simp [h, h', Array.getElem?_push]
theorem setCells_new (w : World) (t : TypeId) : ∀ (vs : List Value) (o : Nat) (C : Array Value), o + vs.length ≤ C.size → (w.alloc (.cells C t)).setCells w.heap.size o vs = w.alloc (.cells (over C.toList o vs).toArray t)
  | [], o, C, _ => by rw [World.setCells, over]; simp
  | v :: r, o, C, h => by
    simp only [List.length_cons] at h
    rw [World.setCells, setCell_new, setCells_new w t r (o + 1) _ (by simp; omega), over_cons _ _ _ _ (by simp; omega)]
theorem frz {w : World} {b : Nat} {cur : Array Value} {t : TypeId} (h : w.heap[b]? = some (.cells cur t (0, 0))) (i : Nat) : w.frozen? ⟨b, i, none⟩ = false := by simp [World.frozen?, h]
theorem there_row {w : World} {b : Nat} {cur : Array Value} {t : TypeId} (h : w.heap[b]? = some (.cells cur t (0, 0))) {o n : Nat} (hn : o + n ≤ cur.size) : w.there b o n := fun j hj =>
  ⟨by rw [cell_of_row _ _ _ _ _ _ h]; simp; omega, frz h _⟩
theorem over_whole {β : Type} (l vs : List β) (h : l.length = vs.length) : over l 0 vs = vs := by
  unfold over
  rw [List.drop_of_length_le (by omega)]; simp

/-- A store of all cells into the block that was made last. -/
theorem wpList_store_new {P : Program} {ops : Array Oper} {rest : List Oper} {op : Oper} {a : Act} {w : World} {Q : Exit → Act → World → Prop} (hgd : op.guard = none) (ty t : TypeId) (x y : Operand) (ho : op.op = .store ty x y)
    (C : Array Value) (cs : List Value) (hx : a.eval x = .pointer (some ⟨w.heap.size, 0, none⟩)) (hy : a.eval y = .agg cs.toArray)
    (hC : C.size = cs.length) (hi : (P.info? ty).map (·.size) = some cs.length) (h1 : ∀ v ∈ cs, v.oneCell' = true)
    (h : wpList P ops Q rest (a.put op.dst undef) (w.alloc (.cells cs.toArray t))) : wpList P ops Q (op :: rest) a (w.alloc (.cells C t)) := by
  refine wpList_store_mid hgd ty x y ho w.heap.size 0 cs.toArray hx hy (there_row (heap_alloc_last w _) (by simp; omega)) (by simpa using hi) (all_oneCell_toArray h1) ?_
  rw [setCells_new w t _ 0 C (by simp; omega), over_whole _ _ (by simp; omega)]
  simpa using h

section
variable {F : Fence} {n : Nat} {P : Program} {ops : Array Oper} {rest : List Oper} {op : Oper} {a : Act} {w : World} {Q : Exit → Act → World → Prop}
theorem wpListIn_load_mid (hgd : op.guard = none) (ty : TypeId) (x : Operand) (ho : op.op = .load ty x)
    (b o : Nat) (hx : a.eval x = .pointer (some ⟨b, o, none⟩)) (cs : List Value) (d : TypeDesc) (hc : w.rangeAt b o cs)
    (hu : P.underlying ty = some d) (hd : d.isRow = true) (hi : (P.info? ty).map (·.size) = some cs.length)
    (h : wpListIn F n P ops Q rest (a.put op.dst (.agg cs.toArray)) w) : wpListIn F n P ops Q (op :: rest) a w := by
  refine wpListIn_plain hgd fun K hK => ?_
  unfold Oper.wpIn
  refine ⟨?_, ?_⟩
  · simp [Oper.about, ho]
  · rw [Oper.semAt_plain F _ _ (by rw [ho]; intro c hc'; cases hc')]
    unfold execOp
    simp only [ho, hx, Instr.loadAt, Instr.sureAddr, Sem.run_bind, Sem.run_pure, Result.andThen_ok, run_loadVar_mid w b o ty cs d hc hu hd hi]
    exact hK _ _ h
theorem wpListIn_store_mid (hgd : op.guard = none) (ty : TypeId) (x y : Operand) (ho : op.op = .store ty x y)
    (b o : Nat) (cells : Array Value) (hx : a.eval x = .pointer (some ⟨b, o, none⟩)) (hy : a.eval y = .agg cells)
    (ht : w.there b o cells.size) (hi : (P.info? ty).map (·.size) = some cells.size) (h1 : cells.all (·.oneCell') = true)
    (h : wpListIn F n P ops Q rest (a.put op.dst undef) (w.setCells b o cells.toList)) : wpListIn F n P ops Q (op :: rest) a w := by
  refine wpListIn_plain hgd fun K hK => ?_
  unfold Oper.wpIn
  refine ⟨?_, ?_⟩
  · simp [Oper.about, ho]
  · rw [Oper.semAt_plain F _ _ (by rw [ho]; intro c hc'; cases hc')]
    unfold execOp
    simp only [ho, hx, hy, Instr.storeAt, Instr.sureAddr, Sem.run_bind, Sem.run_pure, Result.andThen_ok, run_storeVar_mid w b o ty cells ht hi h1]
    exact hK _ _ h
theorem wpListIn_store_new (hgd : op.guard = none) (ty t : TypeId) (x y : Operand) (ho : op.op = .store ty x y)
    (C : Array Value) (cs : List Value) (hx : a.eval x = .pointer (some ⟨w.heap.size, 0, none⟩)) (hy : a.eval y = .agg cs.toArray)
    (hC : C.size = cs.length) (hi : (P.info? ty).map (·.size) = some cs.length) (h1 : ∀ v ∈ cs, v.oneCell' = true)
    (h : wpListIn F n P ops Q rest (a.put op.dst undef) (w.alloc (.cells cs.toArray t))) : wpListIn F n P ops Q (op :: rest) a (w.alloc (.cells C t)) := by
  refine wpListIn_store_mid hgd ty x y ho w.heap.size 0 cs.toArray hx hy (there_row (heap_alloc_last w _) (by simp; omega)) (by simpa using hi) (all_oneCell_toArray h1) ?_
  rw [setCells_new w t _ 0 C (by simp; omega), over_whole _ _ (by simp; omega)]
  simpa using h
end

theorem keeps_setCells (b : Nat) : ∀ (vs : List Value) (o : Nat) (W : World), KeepsOthers W (W.setCells b o vs)
  | [], _, _ => KeepsOthers.refl _
  | v :: r, o, W => by rw [World.setCells]; exact (KeepsOthers.setCell W ⟨b, o, none⟩ v).trans (keeps_setCells b r (o + 1) _)
theorem step_store_mid {P : Program} {ops : Array Oper} {op : Oper} {a : Act} {w : World} {K : Act → World → Prop} {Q : Exit → Act → World → Prop} {E : Prop} (hgd : op.guard = none) (ty : TypeId) (x y : Operand) (ho : op.op = .store ty x y)
    (b o : Nat) (cells : Array Value) (hx : a.eval x = .pointer (some ⟨b, o, none⟩)) (hy : a.eval y = .agg cells)
    (ht : w.there b o cells.size) (hi : (P.info? ty).map (·.size) = some cells.size) (h1 : cells.all (·.oneCell') = true)
    (h : K (a.put op.dst undef) (w.setCells b o cells.toList)) : if Region.wanted op (yielded ops a.tmps) = true then Oper.wp P op a w K Q else E := by
  have hw : Region.wanted op (yielded ops a.tmps) = true := by simp [Region.wanted, hgd]
  rw [if_pos hw]
  exact wp_store_mid ty x y ho b o cells hx hy ht hi h1 h

/-- A row of cells is turned by nothing that turns no cells. -/
theorem rows_own {β : Type} (B : Nat) (t : TypeId) (f : β → Array Value) : Own (fun s W => W.heap[B]? = some (.cells (f s) t (0, 0))) := fun s X Y row hs hg hrow =>
  (hg.block B (Array.getElem?_eq_some_iff.1 hs).1 (fun e => by
    obtain ⟨o, ho, hc⟩ := hrow B e.symm
    rw [hs] at ho; cases ho; cases hc)).trans hs
end Go.Proofs.YteefneelcgeioaaGreatDoor
