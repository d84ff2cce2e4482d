/-
  The eight sentinels that package tree and package pack hand back, as they lie in memory.
  Conditions: none.
-/
import Derived.Test.YtpjjpmikhjlgnaaGreatDoorTrees
namespace Go.Proofs.YtpjjpmikhjlgnaaGreatDoor
open Go.RowKit

theorem lt_of_cell {w : World} {p : Addr} {v : Value} (h : w.cell? p = some v) : p.block < w.heap.size := by
  rcases Nat.lt_or_ge p.block w.heap.size with h' | h'
  · exact h'
  · simp [World.cell?, Array.getElem?_eq_none h'] at h
theorem lt_of_row {w : World} {b : Nat} {o : Obj} (h : w.heap[b]? = some o) : b < w.heap.size := by
  rcases Nat.lt_or_ge b w.heap.size with h' | h'
  · exact h'
  · simp [Array.getElem?_eq_none h'] at h

/-- Eight sentinels, each in its variable, behind a pointer. -/
structure Sen (a : Nat → Addr) (w : World) : Prop where
  text : w.cell? ⟨3, 0, none⟩ = some (.iface 181 (.pointer (some (a 0))))
  bound : w.cell? ⟨4, 0, none⟩ = some (.iface 181 (.pointer (some (a 1))))
  shape : w.cell? ⟨2, 0, none⟩ = some (.iface 181 (.pointer (some (a 2))))
  kind : w.cell? ⟨5, 0, none⟩ = some (.iface 181 (.pointer (some (a 3))))
  name : w.cell? ⟨0, 0, none⟩ = some (.iface 181 (.pointer (some (a 4))))
  full : w.cell? ⟨7, 0, none⟩ = some (.iface 181 (.pointer (some (a 7))))
  deep : w.cell? ⟨8, 0, none⟩ = some (.iface 181 (.pointer (some (a 8))))
  order : w.cell? ⟨9, 0, none⟩ = some (.iface 181 (.pointer (some (a 9))))
theorem Sen.ext {a : Nat → Addr} {w w' : World} (S : Sen a w) (h : ∀ g v, w.cell? ⟨g, 0, none⟩ = some v → g ∈ [3, 4, 2, 5, 0, 7, 8, 9] → w'.cell? ⟨g, 0, none⟩ = w.cell? ⟨g, 0, none⟩) : Sen a w' where
  text := by rw [h _ _ S.text (by decide)]; exact S.text
  bound := by rw [h _ _ S.bound (by decide)]; exact S.bound
  shape := by rw [h _ _ S.shape (by decide)]; exact S.shape
  kind := by rw [h _ _ S.kind (by decide)]; exact S.kind
  name := by rw [h _ _ S.name (by decide)]; exact S.name
  full := by rw [h _ _ S.full (by decide)]; exact S.full
  deep := by rw [h _ _ S.deep (by decide)]; exact S.deep
  order := by rw [h _ _ S.order (by decide)]; exact S.order
theorem Sen.below {a : Nat → Addr} {w w' : World} (S : Sen a w) (hb : Below w.heap.size w w') : Sen a w' := S.ext fun g _ hv _ => hb.cell (p := ⟨g, 0, none⟩) (lt_of_cell hv)
/-- The sentinels' variables lie below block B. -/
structure SentsB (a : Nat → Addr) (B : Nat) (w : World) : Prop where
  is : Sen a w
  low : ∀ g ∈ [3, 4, 2, 5, 0, 7, 8, 9], g < B
theorem SentsB.below {a : Nat → Addr} {B C : Nat} {w w' : World} (S : SentsB a B w) (hb : Below C w w') (hC : B ≤ C) : SentsB a B w' where
  is := S.is.ext fun g _ _ hg => hb.cell (p := ⟨g, 0, none⟩) (show g < C by have := S.low g hg; omega)
  low := S.low
theorem Sen.atB {a : Nat → Addr} {w : World} (S : Sen a w) : SentsB a w.heap.size w where
  is := S
  low g hg := by
    simp only [List.mem_cons, List.not_mem_nil, or_false] at hg
    rcases hg with rfl | rfl | rfl | rfl | rfl | rfl | rfl | rfl
    · exact lt_of_cell S.text
    · exact lt_of_cell S.bound
    · exact lt_of_cell S.shape
    · exact lt_of_cell S.kind
    · exact lt_of_cell S.name
    · exact lt_of_cell S.full
    · exact lt_of_cell S.deep
    · exact lt_of_cell S.order
theorem SentsB.up {a : Nat → Addr} {B C : Nat} {w : World} (S : SentsB a B w) (h : B ≤ C) : SentsB a C w := ⟨S.is, fun g hg => Nat.lt_of_lt_of_le (S.low g hg) h⟩
end Go.Proofs.YtpjjpmikhjlgnaaGreatDoor
