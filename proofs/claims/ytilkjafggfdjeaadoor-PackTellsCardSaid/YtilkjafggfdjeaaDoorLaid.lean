/-
  What the rows' condition on the listed variables gives a walk: the thirteen sentinels lie in the first thirteen variables, each behind a pointer of its own ('Sents').
  Conditions: none beside the rows' own 'laid'.
-/
import Derived.Test.YtilkjafggfdjeaaDoorRows
import Derived.Test.YtilkjafggfdjeaaDoorCode
import Derived.Test.YtilkjafggfdjeaaDoorLaidA
import Derived.LaidLaws
import Derived.LaidHandle
import Derived.LaidMore
import Derived.Stop.LaidErr
namespace Go.Proofs.YtilkjafggfdjeaaDoor
open Go.ChangeShapes Go.WideShapes Go.RowKit

/-- The thirteen, off the row's own list. -/
def sentTexts : List (String × Nat × List UInt8) := ((Rows.treeSumsRow.laid.drop 1).zip gvs).map fun x => (x.1.1, x.2, textIn x.1.2)
theorem laid_parts (W : World) : laidMetH Tryd.prog Rows.treeSumsRow.laid W =
    (laidMet Tryd.prog (sentTexts.map fun x => (x.1, .iface "*errors.errorString" (.ptr (.agg [.lit (.string x.2.2)])))) W ∧ handlesMet Tryd.prog (Rows.treeSumsRow.laid.take 1) W) := by kernel_rfl
theorem sent_globals : (sentTexts.all fun x => decide (Tryd.prog.globalNamed x.1 = some x.2.1) && decide ((Tryd.prog.globals[x.2.1]?).map (·.type) = some 32)) = true := by kernel_rfl
theorem sent_places : sentTexts.map (·.2.1) = gvs := by kernel_rfl
theorem gv_at : ∀ i, i < 13 → gvs[i]? = some (gv i) := by decide
theorem handle1 : Rows.treeSumsRow.laid.take 1 = [("errors.errorType", Rows.laid_errors_errorType)] := by kernel_rfl
theorem gET : Tryd.prog.globalNamed "errors.errorType" = some 13 := by kernel_rfl
theorem rtypeIs : (Tryd.prog.cutTypes.find? (·.1 == "internal/reflectlite.rtype")).map (·.2) = some 129 := by kernel_rfl
theorem oneRow : ((List.range 207).filter fun t => Tryd.prog.rowNamed t [101, 114, 114, 111, 114]) = [32] := by kernel_rfl
theorem typesSize : Tryd.prog.types.size = 207 := by kernel_rfl

theorem handle_of {W : World} (h : handlesMet Tryd.prog (Rows.treeSumsRow.laid.take 1) W) : W.cell? ⟨13, 0, none⟩ = some (.iface 129 (.agg #[.pointer (some ⟨20, 32, none⟩)])) := by
  rw [handle1] at h
  obtain ⟨name, u, ty, e1, e2, e3, e4, e5⟩ := h _ (List.mem_singleton.2 rfl)
  have en : name = [101, 114, 114, 111, 114] := (Option.some.inj e1).symm
  subst en
  obtain rfl := Option.some.inj (rtypeIs.symm.trans e2)
  have hm : ty ∈ (List.range 207).filter fun t => Tryd.prog.rowNamed t [101, 114, 114, 111, 114] := List.mem_filter.2 ⟨List.mem_range.2 (by rw [← typesSize]; exact e3), e4⟩
  rw [oneRow] at hm
  obtain rfl := List.mem_singleton.1 hm
  have hh : typeHandle Tryd.prog 32 = .pointer (some ⟨20, 32, none⟩) := by kernel_rfl
  rw [hh] at e5
  simpa using World.var?_cell gET e5 0

theorem sents_of_laid {W : World} (h : laidMetH Tryd.prog Rows.treeSumsRow.laid W) : ∃ a, Sents a W := by
  rw [laid_parts] at h
  obtain ⟨⟨ps, hv, hnd, hrows⟩, hh⟩ := h
  have hx : ∀ x ∈ sentTexts, Tryd.prog.globalNamed x.1 = some x.2.1 ∧ (Tryd.prog.globals[x.2.1]?).map (·.type) = some 32 := fun x hx => by
    have := List.all_eq_true.1 sent_globals x hx
    simpa using this
  obtain ⟨la, h1, h2⟩ := laid_list Tryd.underlying32 rowS Tryd.underlying176 Tryd.underlying195 rfl rfl Tryd.underlying9 cellsES cellsStr sentTexts hv hx hrows
  rw [sent_places] at h1
  have hat : ∀ i, i < 13 → ∃ a, la[i]? = some a ∧ W.cell? ⟨gv i, 0, none⟩ = some (.iface 176 (.pointer (some a))) ∧ ∃ c t, W.heap[a.block]? = some (.cells c t (0, 0)) := fun i hi => h1.at (gv_at i hi)
  refine ⟨fun i => (la[i]?).getD ⟨0, 0, none⟩, ⟨fun i hi => ?_, fun i hi => ?_, fun i j hi hj hij => ?_, handle_of hh⟩⟩
  · obtain ⟨a, e, hc, _⟩ := hat i hi
    rw [e]; exact hc
  · obtain ⟨a, e, _, hc⟩ := hat i hi
    rw [e]; exact hc
  · obtain ⟨a, e, _, _⟩ := hat i hi
    obtain ⟨b, e', _, _⟩ := hat j hj
    rw [e, e']
    intro hab
    have hab : a = b := hab
    subst hab
    have hn : (la.map fun a => MemPlace.cell a.block a.off).Nodup := List.Nodup.sublist h2 hnd
    have hlt : i < (la.map fun a => MemPlace.cell a.block a.off).length := by
      have := (List.getElem?_eq_some_iff.1 e).1
      simpa using this
    exact hij ((List.getElem?_inj hlt hn).1 (by simp [e, e']))
end Go.Proofs.YtilkjafggfdjeaaDoor
