/-
  What the row's condition on the listed variables gives the law ScanTurns: two sentinels.
  Conditions: none beside the row's own 'laid'.
-/
import Derived.Test.YtiemoipafeinoaaDoorRows
import Derived.Test.YtiemoipafeinoaaDoorLaidA
import Derived.Test.YtiemoipafeinoaaDoorNe
namespace Go.Proofs.YtiemoipafeinoaaDoor
open Go.ChangeShapes Go.WideShapes Go.RowKit

def twoGs : List Nat := [1, 0]
/-- The two, off the row's own list. -/
def twoTexts : List (String × Nat × List UInt8) := (Rows.scanTurnsRow.laid.zip twoGs).map fun x => (x.1.1, x.2, textIn x.1.2)
theorem two_parts (W : World) : laidMetH Tryd.prog Rows.scanTurnsRow.laid W =
    laidMet Tryd.prog (twoTexts.map fun x => (x.1, .iface "*errors.errorString" (.ptr (.agg [.lit (.string x.2.2)])))) W := by kernel_rfl
theorem two_globals : (twoTexts.all fun x => decide (Tryd.prog.globalNamed x.1 = some x.2.1) && decide ((Tryd.prog.globals[x.2.1]?).map (·.type) = some 34)) = true := by kernel_rfl
theorem two_places : twoTexts.map (·.2.1) = twoGs := by kernel_rfl
theorem snt_of_laid {W : World} (h : laidMetH Tryd.prog Rows.scanTurnsRow.laid W) : SnT W := by
  rw [two_parts] at h
  obtain ⟨ps, hv, hnd, hrows⟩ := h
  have hx : ∀ x ∈ twoTexts, Tryd.prog.globalNamed x.1 = some x.2.1 ∧ (Tryd.prog.globals[x.2.1]?).map (·.type) = some 34 := fun x hx => by
    have := List.all_eq_true.1 two_globals x hx
    simpa using this
  obtain ⟨la, h1, _⟩ := laid_list Tryd.underlying34 rowS Tryd.underlying140 Tryd.underlying158 rfl rfl Tryd.underlying9 cellsES cellsStr twoTexts hv hx hrows
  rw [two_places] at h1
  obtain ⟨a0, _, c0, _⟩ := h1.at (i := 0) (g := 1) rfl
  obtain ⟨a1, _, c1, _⟩ := h1.at (i := 1) (g := 0) rfl
  exact ⟨a1, a0, c1, c0⟩
end Go.Proofs.YtiemoipafeinoaaDoor
