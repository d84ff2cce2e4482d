/-
  What TreeFiles' condition on the listed variables gives a walk: thirteen sentinels; and a world that meets it.
  Conditions: none beside the row's own 'laid'.
-/
import Derived.Test.YtilkjafggfdjeaaDoorLaid
import Derived.Test.YtilkjafggfdjeaaDoorShaped
import Derived.Lay
import Derived.Handed
import Derived.LaidHandle
namespace Go.Proofs.YtilkjafggfdjeaaDoor
open Go.ChangeShapes Go.WideShapes Go.RowKit

theorem gfiles_parts (W : World) : laidMetH Tryd.prog Rows.treeFilesRow.laid W =
    (laidMet Tryd.prog (("unicode/utf8.acceptRanges", Rows.laid_unicode_utf8_acceptRanges) :: ((sentTexts.map fun x => (x.1, .iface "*errors.errorString" (.ptr (.agg [.lit (.string x.2.2)])))) ++ [("unicode/utf8.first", Rows.laid_unicode_utf8_first)])) W ∧ handlesMet Tryd.prog (Rows.treeSumsRow.laid.take 1) W) := by kernel_rfl
theorem sents_of_files {W : World} (h : laidMetH Tryd.prog Rows.treeFilesRow.laid W) : ∃ a, Sents a W := by
  rw [gfiles_parts] at h
  exact sents_of_laid (by rw [laid_parts]; exact ⟨laidMet_init h.1.tail, h.2⟩)
/-- All that is listed but the handle. -/
def filesPlain : List (String × DataW Unit) := Rows.treeFilesRow.laid.filter fun x => x.2.handleName?.isNone
theorem filesWorld_os (os : Os) : (((World.holding Tryd.prog os ⟨#[], #[], []⟩).setCell ⟨13, 0, none⟩ (.iface 129 (.agg #[.pointer (some ⟨20, 32, none⟩)]))).layVars Tryd.prog filesPlain).os = os := World.layVars_os _ _ _
theorem files_fits (os : Os) : ((World.holding Tryd.prog os ⟨#[], #[], []⟩).setCell ⟨13, 0, none⟩ (.iface 129 (.agg #[.pointer (some ⟨20, 32, none⟩)]))).layFits Tryd.prog filesPlain [] = true := by kernel_rfl
theorem files_ifaces (os : Os) : ((World.holding Tryd.prog os ⟨#[], #[], []⟩).setCell ⟨13, 0, none⟩ (.iface 129 (.agg #[.pointer (some ⟨20, 32, none⟩)]))).layIfaces Tryd.prog filesPlain (((World.holding Tryd.prog os ⟨#[], #[], []⟩).setCell ⟨13, 0, none⟩ (.iface 129 (.agg #[.pointer (some ⟨20, 32, none⟩)]))).layVars Tryd.prog filesPlain) = true := by kernel_rfl
theorem files_plain (os : Os) (args : Array Value) : laidMet Tryd.prog filesPlain ((((World.holding Tryd.prog os ⟨#[], #[], []⟩).setCell ⟨13, 0, none⟩ (.iface 129 (.agg #[.pointer (some ⟨20, 32, none⟩)]))).layVars Tryd.prog filesPlain).forCall (fun _ _ => 0) ⟨#[], args, []⟩).memory := by
  have e1 : (filesPlain.filter fun x => (filesPlain.map (·.1)).contains x.1) = filesPlain := List.filter_eq_self.2 fun x hx => List.contains_iff_mem.2 (List.mem_map.2 ⟨x, hx, rfl⟩)
  have e2 : (filesPlain.filter fun x => !(filesPlain.map (·.1)).contains x.1) = [] := List.filter_eq_nil_iff.2 fun x hx => by rw [List.contains_iff_mem.2 (List.mem_map.2 ⟨x, hx, rfl⟩)]; simp
  have h : laidMet Tryd.prog filesPlain (((World.holding Tryd.prog os ⟨#[], #[], []⟩).setCell ⟨13, 0, none⟩ (.iface 129 (.agg #[.pointer (some ⟨20, 32, none⟩)]))).layVars Tryd.prog filesPlain) := laidMet_layVars (w0 := ((World.holding Tryd.prog os ⟨#[], #[], []⟩).setCell ⟨13, 0, none⟩ (.iface 129 (.agg #[.pointer (some ⟨20, 32, none⟩)])))) (filesPlain.map (·.1)) [] (by rw [e1]) (by rw [e1]; exact files_fits os) (by rw [e1]; exact files_ifaces os) (by rw [e2]; exact LaidIn.none)
  exact h.of_heap (by simp [World.memory, World.forCall, Input.heap])
theorem treeFiles_door (os : Os) (args : Array Value) : laidMetH Tryd.prog Rows.treeFilesRow.laid ((((World.holding Tryd.prog os ⟨#[], #[], []⟩).setCell ⟨13, 0, none⟩ (.iface 129 (.agg #[.pointer (some ⟨20, 32, none⟩)]))).layVars Tryd.prog filesPlain).forCall (fun _ _ => 0) ⟨#[], args, []⟩).memory :=
  laidMetH_of_parts3 (fuel := 8) (files_plain os args) (by kernel_rfl) (by kernel_rfl)
end Go.Proofs.YtilkjafggfdjeaaDoor
