/-
  What the rows' condition on the listed variables gives the laws of tapes: three sentinels, the library's two, and the table of powers of ten.
  Conditions: none beside the rows' own 'laid', and the world's shape.
-/
import Derived.Test.YthelggcaggobaaaDoorLaidA
import Derived.Test.YthelggcaggobaaaDoorVd
import Derived.Test.YthelggcaggobaaaDoorShaped
import Derived.Lib.LaidTab
import Derived.Lib.ItoaMem
namespace Go.Proofs.YthelggcaggobaaaDoor
open Go.ChangeShapes Go.WideShapes Go.RowKit

def tpGs : List Nat := [0, 2, 3, 1, 17, 16]
/-- The six, off the row's own list. -/
def tpTexts : List (String × Nat × List UInt8) := ((Rows.tapeCutsRow.laid.drop 3).zip tpGs).map fun x => (x.1.1, x.2, textIn x.1.2)
theorem tp_parts (W : World) : laidMetH Tryd.prog Rows.tapeCutsRow.laid W =
    laidMet Tryd.prog (("math/bits.deBruijn32tab", Rows.laid_math_bits_deBruijn32tab) :: ("math/bits.deBruijn64tab", Rows.laid_math_bits_deBruijn64tab) :: ("internal/strconv.uint64pow10", Lib.tabData .u64 Lib.pow10Tab) :: tpTexts.map fun x => (x.1, .iface "*errors.errorString" (.ptr (.agg [.lit (.string x.2.2)])))) W := by kernel_rfl
theorem tp_globals : (tpTexts.all fun x => decide (Tryd.prog.globalNamed x.1 = some x.2.1) && decide ((Tryd.prog.globals[x.2.1]?).map (·.type) = some 26)) = true := by kernel_rfl
theorem tp_places : tpTexts.map (·.2.1) = tpGs := by kernel_rfl
theorem lt_cellV {W : World} {g : Nat} {v : Value} (h : W.cell? ⟨g, 0, none⟩ = some v) : g < W.heap.size := World.block_lt_of_cell? W ⟨g, 0, none⟩ h
theorem int_top {n : Int} (h : (Lit.int .i64 n).wf = true) : n ≤ 9223372036854775807 := by
  have h2 : (decide (IntKind.i64.min ≤ n) && decide (n ≤ IntKind.i64.max)) = true := h
  rw [Bool.and_eq_true, decide_eq_true_eq, decide_eq_true_eq] at h2
  exact Int.le_trans h2.2 (by decide)
theorem tp_of_laid {W : World} (h : laidMetH Tryd.prog Rows.tapeCutsRow.laid W) (hsh : W.ShapedOpen Tryd.prog) : ∃ a, Lv W.heap.size W ∧ Sn4 a W.heap.size W := by
  rw [tp_parts] at h
  have h2 := h.tail.tail
  have hT : Lib.TabIs Tryd.prog W "internal/strconv.uint64pow10" .u64 Lib.pow10Tab := Lib.tabIs_of_head (g := 15) (t := 125) (e := 111) (n := 20) (by kernel_rfl) (by kernel_rfl) Tryd.underlying125 Tryd.underlying111 (by kernel_rfl) (by kernel_rfl) h2
  obtain ⟨ps, hv, hnd, hrows⟩ := h2.tail
  have hx : ∀ x ∈ tpTexts, Tryd.prog.globalNamed x.1 = some x.2.1 ∧ (Tryd.prog.globals[x.2.1]?).map (·.type) = some 26 := fun x hx => by
    have := List.all_eq_true.1 tp_globals x hx
    simpa using this
  obtain ⟨la, h1, _⟩ := laid_list Tryd.underlying26 rowS Tryd.underlying140 Tryd.underlying142 rfl rfl Tryd.underlying9 cellsES cellsStr tpTexts hv hx hrows
  rw [tp_places] at h1
  obtain ⟨a0, _, c0, _⟩ := h1.at (i := 0) (g := 0) rfl
  obtain ⟨a2, _, c2, _⟩ := h1.at (i := 2) (g := 3) rfl
  obtain ⟨a3, _, c3, _⟩ := h1.at (i := 3) (g := 1) rfl
  obtain ⟨a4, _, c4, _⟩ := h1.at (i := 4) (g := 17) rfl
  obtain ⟨a5, _, c5, _⟩ := h1.at (i := 5) (g := 16) rfl
  obtain ⟨m, cm⟩ := max_of_shaped hsh
  exact ⟨fun | 1 => a0 | 7 => a2 | _ => a3, ⟨⟨lt_cellV c5, _, _, c5⟩, ⟨lt_cellV c4, _, _, c4⟩, ⟨lt_cellV cm, m, cm⟩, Lib.tabBelow_of_tabIs hT⟩, ⟨⟨lt_cellV c0, c0⟩, ⟨lt_cellV c2, c2⟩, ⟨lt_cellV c3, c3⟩⟩⟩
end Go.Proofs.YthelggcaggobaaaDoor
