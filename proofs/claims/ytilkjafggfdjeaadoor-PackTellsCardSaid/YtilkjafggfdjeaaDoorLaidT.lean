/-
  What PackTells' condition on the listed variables gives a walk: thirteen sentinels, and the table of powers of ten.
  Conditions: none beside the row's own 'laid'.
-/
import Derived.Test.YtilkjafggfdjeaaDoorLaid
import Derived.Lib.LaidTab
import Derived.Lib.ItoaMem
namespace Go.Proofs.YtilkjafggfdjeaaDoor
open Go.ChangeShapes Go.WideShapes Go.RowKit

theorem tellP_parts (W : World) : laidMetH Tryd.prog Rows.packTellsRow.laid W =
    (laidMet Tryd.prog (("math/bits.deBruijn32tab", Rows.laid_math_bits_deBruijn32tab) :: ("math/bits.deBruijn64tab", Rows.laid_math_bits_deBruijn64tab) :: ("internal/strconv.uint64pow10", Lib.tabData .u64 Lib.pow10Tab) :: sentTexts.map fun x => (x.1, .iface "*errors.errorString" (.ptr (.agg [.lit (.string x.2.2)])))) W ∧ handlesMet Tryd.prog (Rows.treeSumsRow.laid.take 1) W) := by kernel_rfl
theorem sents_of_tellP {W : World} (h : laidMetH Tryd.prog Rows.packTellsRow.laid W) : (∃ a, Sents a W) ∧ Lib.TabIs Tryd.prog W "internal/strconv.uint64pow10" .u64 Lib.pow10Tab := by
  rw [tellP_parts] at h
  obtain ⟨h1, hh⟩ := h
  have h2 := h1.tail.tail
  refine ⟨sents_of_laid (by rw [laid_parts]; exact ⟨h2.tail, hh⟩), Lib.tabIs_of_head (g := 15) (t := 162) (e := 155) (n := 20) (by kernel_rfl) (by kernel_rfl) Tryd.underlying162 Tryd.underlying155 (by kernel_rfl) (by kernel_rfl) h2⟩
end Go.Proofs.YtilkjafggfdjeaaDoor
