/-
  What the row's condition on the listed variables gives a walk: eight sentinels, and the table of powers of ten.
  Conditions: none beside the row's own 'laid'.
-/
import Derived.Test.YtilkjafggfdjeaaDoorLaidA
import Derived.Test.YtilkjafggfdjeaaDoorSen
import Derived.Lib.LaidTab
import Derived.Lib.ItoaMem
namespace Go.Proofs.YtilkjafggfdjeaaDoor
open Go.ChangeShapes Go.WideShapes Go.RowKit

def firstGs : List Nat := [3, 4, 5, 6, 7, 1, 0, 9]
/-- The eight, off the row's own list. -/
def firstTexts : List (String × Nat × List UInt8) := ((Rows.packFirstsRow.laid.drop 3).zip firstGs).map fun x => (x.1.1, x.2, textIn x.1.2)
theorem first_parts (W : World) : laidMetH Tryd.prog Rows.packFirstsRow.laid W =
    laidMet Tryd.prog (("math/bits.deBruijn32tab", Rows.laid_math_bits_deBruijn32tab) :: ("math/bits.deBruijn64tab", Rows.laid_math_bits_deBruijn64tab) :: ("internal/strconv.uint64pow10", Lib.tabData .u64 Lib.pow10Tab) :: firstTexts.map fun x => (x.1, .iface "*errors.errorString" (.ptr (.agg [.lit (.string x.2.2)])))) W := by kernel_rfl
theorem first_globals : (firstTexts.all fun x => decide (Tryd.prog.globalNamed x.1 = some x.2.1) && decide ((Tryd.prog.globals[x.2.1]?).map (·.type) = some 32)) = true := by kernel_rfl
theorem first_places : firstTexts.map (·.2.1) = firstGs := by kernel_rfl
theorem sen_of_firsts {W : World} (h : laidMetH Tryd.prog Rows.packFirstsRow.laid W) : (∃ a, Sen a W) ∧ Lib.TabIs Tryd.prog W "internal/strconv.uint64pow10" .u64 Lib.pow10Tab := by
  rw [first_parts] at h
  have h2 := h.tail.tail
  refine ⟨?_, Lib.tabIs_of_head (g := 15) (t := 162) (e := 155) (n := 20) (by kernel_rfl) (by kernel_rfl) Tryd.underlying162 Tryd.underlying155 (by kernel_rfl) (by kernel_rfl) h2⟩
  obtain ⟨ps, hv, hnd, hrows⟩ := h2.tail
  have hx : ∀ x ∈ firstTexts, Tryd.prog.globalNamed x.1 = some x.2.1 ∧ (Tryd.prog.globals[x.2.1]?).map (·.type) = some 32 := fun x hx => by
    have := List.all_eq_true.1 first_globals x hx
    simpa using this
  obtain ⟨la, h1, _⟩ := laid_list Tryd.underlying32 rowS Tryd.underlying176 Tryd.underlying195 rfl rfl Tryd.underlying9 cellsES cellsStr firstTexts hv hx hrows
  rw [first_places] at h1
  obtain ⟨a0, _, c0, _⟩ := h1.at (i := 0) (g := 3) rfl
  obtain ⟨a1, _, c1, _⟩ := h1.at (i := 1) (g := 4) rfl
  obtain ⟨a2, _, c2, _⟩ := h1.at (i := 2) (g := 5) rfl
  obtain ⟨a3, _, c3, _⟩ := h1.at (i := 3) (g := 6) rfl
  obtain ⟨a4, _, c4, _⟩ := h1.at (i := 4) (g := 7) rfl
  obtain ⟨a7, _, c7, _⟩ := h1.at (i := 5) (g := 1) rfl
  obtain ⟨a8, _, c8, _⟩ := h1.at (i := 6) (g := 0) rfl
  obtain ⟨a9, _, c9, _⟩ := h1.at (i := 7) (g := 9) rfl
  exact ⟨fun | 0 => a0 | 1 => a1 | 2 => a2 | 3 => a3 | 4 => a4 | 7 => a7 | 8 => a8 | _ => a9, ⟨c0, c1, c2, c3, c4, c7, c8, c9⟩⟩
end Go.Proofs.YtilkjafggfdjeaaDoor
