/-
  A row of texts in memory.
  Conditions: none.
-/
import Derived.Test.YtpjjpmikhjlgnaaGreatDoorSen
namespace Go.Proofs.YtpjjpmikhjlgnaaGreatDoor
open Go.RowKit

def Texts (w : World) (v : Value) (l : List ByteArray) : Prop := ∃ ad cap, v = .slice ad l.length cap ∧ ∀ i x, l[i]? = some x → ∃ b off, ad = some ⟨b, off, none⟩ ∧ w.cell? ⟨b, off + i, none⟩ = some (.string x)
theorem Texts.of_own {w : World} {base : Nat} {v : Value} {l : List ByteArray} (h : w.ownsRow base 9 1 v l.length (l.map Value.string)) : Texts w v l := by
  rcases h.2 with ⟨hv, hn⟩ | ⟨g, cap, cur, hv, _⟩
  · exact ⟨none, 0, by rw [hv, hn], fun i x hx => by have := (List.getElem?_eq_some_iff.1 hx).1; omega⟩
  · refine ⟨some ⟨g, 0, none⟩, cap, hv, fun i x hx => ⟨g, 0, rfl, ?_⟩⟩
    have hc := h.cells (g := g) (by rw [hv]; rfl) i (.string x) (by rw [List.getElem?_map, hx]; rfl)
    have hadd : (⟨g, 0, none⟩ : Addr).add i = ⟨g, 0 + i, none⟩ := by unfold Addr.add; split <;> simp_all
    rw [hadd] at hc
    exact hc
def eqTo (a b : List ByteArray) (k : Nat) : Bool := (List.range k).all fun i => (a[i]?.getD ByteArray.empty).toList == (b[i]?.getD ByteArray.empty).toList
def textsEq (a b : List ByteArray) : Bool := decide (a.length = b.length) && eqTo a b a.length
theorem Texts.below {w w' : World} {v : Value} {l : List ByteArray} (h : Texts w v l) (hb : Below w.heap.size w w') : Texts w' v l := by
  obtain ⟨ad, cap, e, hc⟩ := h
  refine ⟨ad, cap, e, fun i x hx => ?_⟩
  obtain ⟨b, off, e2, h2⟩ := hc i x hx
  exact ⟨b, off, e2, by rw [hb.cell (p := ⟨b, off + i, none⟩) (lt_of_cell h2)]; exact h2⟩
end Go.Proofs.YtpjjpmikhjlgnaaGreatDoor
