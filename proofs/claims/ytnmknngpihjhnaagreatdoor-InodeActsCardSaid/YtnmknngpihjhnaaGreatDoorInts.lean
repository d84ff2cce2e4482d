/-
  Numbers in memory: as cells, and in a row of their own; the contract of the law's own copy of numbers.
  Conditions: the numbers lie in memory.
-/
import Derived.Test.YtnmknngpihjhnaaGreatDoorProg
import Derived.Below
import Derived.WalkKit
import Derived.Laws.AppendOwn
import Derived.Deep.WholeRow
import Derived.Deep.MidRow
import Derived.LoopN
import Derived.BigQuiet
import Derived.KernelRfl
import Derived.Handy
namespace Go.Proofs.YtnmknngpihjhnaaGreatDoor
open Go.RowKit

/-- Numbers in memory. -/
def IntsAt (w : World) (v : Value) (l : List Int) : Prop := ∃ ad cap, v = .slice ad l.length cap ∧ ∀ i x, l[i]? = some x → ∃ b off, ad = some ⟨b, off, none⟩ ∧ w.cell? ⟨b, off + i, none⟩ = some (.int .i64 x)
theorem IntsAt.nil (w : World) : IntsAt w (.slice none 0 0) [] := ⟨none, 0, rfl, fun i x h => by simp at h⟩
theorem IntsAt.below {w w' : World} {v : Value} {l : List Int} (h : IntsAt w v l) (hb : Below w.heap.size w w') : IntsAt w' v l := by
  obtain ⟨ad, cap, e, hc⟩ := h
  refine ⟨ad, cap, e, fun i x hx => ?_⟩
  obtain ⟨b, off, e2, h2⟩ := hc i x hx
  exact ⟨b, off, e2, by rw [hb.cell (p := ⟨b, off + i, none⟩) (World.block_lt_of_cell? w _ h2)]; exact h2⟩
/-- Numbers in a row of their own. -/
def IntsT (w : World) (v : Value) (l : List Int) : Prop := ∃ ad cap, v = .slice ad l.length cap ∧ (l ≠ [] → ∃ b off cur, ad = some ⟨b, off, none⟩ ∧ w.heap[b]? = some (.cells cur 3 (0, 0)) ∧ ∀ i x, l[i]? = some x → cur[off + i]? = some (.int .i64 x))
def ints (l : List Nat) : List Int := l.map Int.ofNat
theorem IntsT.nil (w : World) (ad : Option Addr) (c : Nat) : IntsT w (.slice ad 0 c) [] := ⟨ad, c, rfl, fun h => absurd rfl h⟩
theorem IntsT.keep {w w' : World} {v : Value} {l : List Int} (h : IntsT w v l) (hb : ∀ (b : Nat) (cur : Array Value), w.heap[b]? = some (Obj.cells cur 3 (0, 0)) → w'.heap[b]? = w.heap[b]?) : IntsT w' v l := by
  obtain ⟨ad, cap, e, h1⟩ := h
  refine ⟨ad, cap, e, fun hl => ?_⟩
  obtain ⟨b, off, cur, e2, e3, e4⟩ := h1 hl
  exact ⟨b, off, cur, e2, by rw [hb b cur e3]; exact e3, e4⟩
theorem IntsT.below {w w' : World} {v : Value} {l : List Int} (h : IntsT w v l) (hb : Below w.heap.size w w') : IntsT w' v l :=
  h.keep fun b _ e => hb.block b (Array.getElem?_eq_some_iff.1 e).1
theorem IntsT.of_owns {w : World} {base : Nat} {v : Value} {l : List Int} (h : w.ownsRow base 3 1 v l.length (l.map (Value.int .i64))) : IntsT w v l := by
  rcases h.2 with ⟨rfl, hn⟩ | ⟨g, cap, cur, rfl, _, hg, _, _, _, ht⟩
  · have : l = [] := List.eq_nil_of_length_eq_zero hn
    subst this
    exact IntsT.nil _ _ _
  · refine ⟨some ⟨g, 0, none⟩, cap, rfl, fun _ => ⟨g, 0, cur, rfl, hg, fun i x hx => ?_⟩⟩
    have hi := (List.getElem?_eq_some_iff.1 hx).1
    have : cur.toList[i]? = (cur.toList.take (l.length * 1))[i]? := by rw [List.getElem?_take_of_lt (by omega)]
    rw [Nat.zero_add, ← Array.getElem?_toList, this, ht, List.getElem?_map, hx]; rfl
theorem IntsT.at {w : World} {v : Value} {l : List Int} (h : IntsT w v l) : IntsAt w v l := by
  obtain ⟨ad, cap, e, h1⟩ := h
  refine ⟨ad, cap, e, fun i x hx => ?_⟩
  obtain ⟨b, off, cur, e2, e3, e4⟩ := h1 (fun hl => by rw [hl] at hx; simp at hx)
  exact ⟨b, off, e2, by rw [cell_of_row _ _ _ _ _ _ e3]; exact e4 i x hx⟩
/-- Numbers in a row of one's own. -/
def OwnI (w : World) (B : Nat) (v : Value) (l : List Nat) : Prop := w.ownsRow B 3 1 v l.length ((ints l).map (Value.int .i64))
theorem OwnI.nil (w : World) (B : Nat) : OwnI w B (.slice none 0 0) [] := World.ownsRow_nil _ _ _ _
theorem OwnI.alloc {w : World} {B : Nat} {v : Value} {l : List Nat} (h : OwnI w B v l) (o : Obj) : OwnI (w.alloc o) B v l := World.ownsRow.alloc h o
theorem OwnI.t {w : World} {B : Nat} {v : Value} {l : List Nat} (h : OwnI w B v l) : IntsT w v (ints l) := by
  refine IntsT.of_owns (base := B) ?_
  rw [show (ints l).length = l.length by simp [ints]]
  exact h
theorem OwnI.keep {w w' : World} {B : Nat} {v : Value} {l : List Nat} (h : OwnI w B v l) (hb : ∀ (b : Nat) (cur : Array Value), w.heap[b]? = some (Obj.cells cur 3 (0, 0)) → w'.heap[b]? = w.heap[b]?) : OwnI w' B v l := by
  refine ⟨h.1, ?_⟩
  rcases h.2 with h2 | ⟨g, cap, cur, e, e1, e2, e3⟩
  · exact .inl h2
  · exact .inr ⟨g, cap, cur, e, e1, by rw [hb g cur e2]; exact e2, e3⟩
theorem infoBo : (Tryz.prog.info? 4).map (fun i => (i.zero, i.size, i.bytes)) = some (some (.bool false), 1, 1) := by kernel_rfl
theorem infoSt : (Tryz.prog.info? 9).map (fun i => (i.zero, i.size, i.bytes)) = some (some (.string { data := #[] }), 1, 16) := by kernel_rfl
theorem infoIn : (Tryz.prog.info? 3).map (fun i => (i.zero, i.size, i.bytes)) = some (some (.int .i64 0), 1, 8) := by kernel_rfl

end Go.Proofs.YtnmknngpihjhnaaGreatDoor
