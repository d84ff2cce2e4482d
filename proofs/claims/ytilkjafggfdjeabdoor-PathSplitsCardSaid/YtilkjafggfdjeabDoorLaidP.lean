/-
  What the rows' condition on the listed variables gives the laws of package path: nine sentinels.
  Conditions: none beside the row's own 'laid'.
-/
import Derived.Test.YtilkjafggfdjeabDoorRows
import Derived.Test.YtilkjafggfdjeabDoorLaidA
import Derived.Test.YtilkjafggfdjeabDoorShaped
import Derived.Test.YtilkjafggfdjeabDoorPSplit
namespace Go.Proofs.YtilkjafggfdjeabDoor
open Go.ChangeShapes Go.WideShapes Go.RowKit

def nineGs : List Nat := [5, 6, 1, 7, 2, 0, 4, 3, 9]
/-- The nine, off the row's own list. -/
def nineTexts : List (String × Nat × List UInt8) := (((Rows.pathSplitsRow.laid.drop 1).take 9).zip nineGs).map fun x => (x.1.1, x.2, textIn x.1.2)
theorem nine_parts (W : World) : laidMetH Tryd.prog Rows.pathSplitsRow.laid W =
    laidMet Tryd.prog (("unicode/utf8.acceptRanges", Rows.laid_unicode_utf8_acceptRanges) :: ((nineTexts.map fun x => (x.1, .iface "*errors.errorString" (.ptr (.agg [.lit (.string x.2.2)])))) ++ [("unicode/utf8.first", Rows.laid_unicode_utf8_first)])) W := by kernel_rfl
theorem nine_globals : (nineTexts.all fun x => decide (Tryd.prog.globalNamed x.1 = some x.2.1) && decide ((Tryd.prog.globals[x.2.1]?).map (·.type) = some 29)) = true := by kernel_rfl
theorem nine_places : nineTexts.map (·.2.1) = nineGs := by kernel_rfl
theorem psen_of_laid {W : World} (h : laidMetH Tryd.prog Rows.pathSplitsRow.laid W) (hsh : W.ShapedOpen Tryd.prog) : ∃ a, PSen a W := by
  rw [nine_parts] at h
  obtain ⟨ps, hv, hnd, hrows⟩ := laidMet_init h.tail
  have hx : ∀ x ∈ nineTexts, Tryd.prog.globalNamed x.1 = some x.2.1 ∧ (Tryd.prog.globals[x.2.1]?).map (·.type) = some 29 := fun x hx => by
    have := List.all_eq_true.1 nine_globals x hx
    simpa using this
  obtain ⟨la, h1, _⟩ := laid_list Tryd.underlying29 rowS Tryd.underlying153 Tryd.underlying172 rfl rfl Tryd.underlying9 cellsES cellsStr nineTexts hv hx hrows
  rw [nine_places] at h1
  obtain ⟨a0, _, c0, _⟩ := h1.at (i := 0) (g := 5) rfl
  obtain ⟨a1, _, c1, _⟩ := h1.at (i := 1) (g := 6) rfl
  obtain ⟨a2, _, c2, _⟩ := h1.at (i := 2) (g := 1) rfl
  obtain ⟨a3, _, c3, _⟩ := h1.at (i := 3) (g := 7) rfl
  obtain ⟨a4, _, c4, _⟩ := h1.at (i := 4) (g := 2) rfl
  obtain ⟨a5, _, c5, _⟩ := h1.at (i := 5) (g := 0) rfl
  obtain ⟨a7, _, c7, _⟩ := h1.at (i := 6) (g := 4) rfl
  obtain ⟨a8, _, c8, _⟩ := h1.at (i := 7) (g := 3) rfl
  obtain ⟨a9, _, c9, _⟩ := h1.at (i := 8) (g := 9) rfl
  exact ⟨fun | 0 => a0 | 1 => a1 | 2 => a2 | 3 => a3 | 4 => a4 | 5 => a5 | 7 => a7 | 8 => a8 | _ => a9, ⟨⟨c0, c1, c2, c3, c4, c7, c8, c9⟩, c5, max_of_shaped hsh⟩⟩
end Go.Proofs.YtilkjafggfdjeabDoor
