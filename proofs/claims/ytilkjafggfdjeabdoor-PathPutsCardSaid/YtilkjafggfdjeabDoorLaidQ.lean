/-
  What the condition of the law's row on the listed variables gives a walk: thirteen sentinels; and a world that meets it.
  Conditions: none beside the row's own 'laid'.
-/
import Derived.Test.YtilkjafggfdjeabDoorRows
import Derived.Test.YtilkjafggfdjeabDoorCode
import Derived.Test.YtilkjafggfdjeabDoorLaidA
import Derived.Test.YtilkjafggfdjeabDoorShaped
import Derived.Lay
import Derived.Handed
import Derived.LaidLaws
import Derived.LaidHandle
import Derived.LaidMore
import Derived.Stop.LaidErr
namespace Go.Proofs.YtilkjafggfdjeabDoor
open Go.ChangeShapes Go.WideShapes Go.RowKit

/-- The thirteen, off the row's own list. -/
def sentTexts : List (String × Nat × List UInt8) := (((Rows.pathPutsRow.laid.drop 2).take 13).zip gvs).map fun x => (x.1.1, x.2, textIn x.1.2)
theorem laid_parts (W : World) : laidMetH Tryd.prog Rows.pathPutsRow.laid W =
    (laidMet Tryd.prog (("unicode/utf8.acceptRanges", Rows.laid_unicode_utf8_acceptRanges) :: ((sentTexts.map fun x => (x.1, .iface "*errors.errorString" (.ptr (.agg [.lit (.string x.2.2)])))) ++ [("unicode/utf8.first", Rows.laid_unicode_utf8_first)])) W ∧ handlesMet Tryd.prog ((Rows.pathPutsRow.laid.drop 1).take 1) W) := by kernel_rfl
theorem sent_globals : (sentTexts.all fun x => decide (Tryd.prog.globalNamed x.1 = some x.2.1) && decide ((Tryd.prog.globals[x.2.1]?).map (·.type) = some 29)) = true := by kernel_rfl
theorem sent_places : sentTexts.map (·.2.1) = gvs := by kernel_rfl
theorem gv_at : ∀ i, i < 13 → gvs[i]? = some (gv i) := by decide
theorem handle1 : (Rows.pathPutsRow.laid.drop 1).take 1 = [("errors.errorType", Rows.laid_errors_errorType)] := by kernel_rfl
theorem gET : Tryd.prog.globalNamed "errors.errorType" = some 13 := by kernel_rfl
theorem rtypeIs : (Tryd.prog.cutTypes.find? (·.1 == "internal/reflectlite.rtype")).map (·.2) = some 125 := by kernel_rfl
theorem oneRow : ((List.range 183).filter fun t => Tryd.prog.rowNamed t [101, 114, 114, 111, 114]) = [29] := by kernel_rfl
theorem typesSize : Tryd.prog.types.size = 183 := by kernel_rfl

theorem handle_of {W : World} (h : handlesMet Tryd.prog ((Rows.pathPutsRow.laid.drop 1).take 1) W) : W.cell? ⟨13, 0, none⟩ = some (.iface 125 (.agg #[.pointer (some ⟨17, 29, none⟩)])) := by
  rw [handle1] at h
  obtain ⟨name, u, ty, e1, e2, e3, e4, e5⟩ := h _ (List.mem_singleton.2 rfl)
  have en : name = [101, 114, 114, 111, 114] := (Option.some.inj e1).symm
  subst en
  obtain rfl := Option.some.inj (rtypeIs.symm.trans e2)
  have hm : ty ∈ (List.range 183).filter fun t => Tryd.prog.rowNamed t [101, 114, 114, 111, 114] := List.mem_filter.2 ⟨List.mem_range.2 (by rw [← typesSize]; exact e3), e4⟩
  rw [oneRow] at hm
  obtain rfl := List.mem_singleton.1 hm
  have hh : typeHandle Tryd.prog 29 = .pointer (some ⟨17, 29, none⟩) := by kernel_rfl
  rw [hh] at e5
  simpa using World.var?_cell gET e5 0

theorem sents_of_laid {W : World} (h : laidMetH Tryd.prog Rows.pathPutsRow.laid W) : ∃ a, Sents a W := by
  rw [laid_parts] at h
  obtain ⟨hpl, hh⟩ := h
  obtain ⟨ps, hv, hnd, hrows⟩ := laidMet_init hpl.tail
  have hx : ∀ x ∈ sentTexts, Tryd.prog.globalNamed x.1 = some x.2.1 ∧ (Tryd.prog.globals[x.2.1]?).map (·.type) = some 29 := fun x hx => by
    have := List.all_eq_true.1 sent_globals x hx
    simpa using this
  obtain ⟨la, h1, h2⟩ := laid_list Tryd.underlying29 rowS Tryd.underlying153 Tryd.underlying172 rfl rfl Tryd.underlying9 cellsES cellsStr sentTexts hv hx hrows
  rw [sent_places] at h1
  have hat : ∀ i, i < 13 → ∃ a, la[i]? = some a ∧ W.cell? ⟨gv i, 0, none⟩ = some (.iface 153 (.pointer (some a))) ∧ ∃ c t, W.heap[a.block]? = some (.cells c t (0, 0)) := fun i hi => h1.at (gv_at i hi)
  refine ⟨fun i => (la[i]?).getD ⟨0, 0, none⟩, ⟨fun i hi => ?_, fun i hi => ?_, fun i j hi hj hij => ?_, handle_of hh⟩⟩
  · obtain ⟨a, e, hc, _⟩ := hat i hi
    rw [e]; exact hc
  · obtain ⟨a, e, _, hc⟩ := hat i hi
    rw [e]; exact hc
  · obtain ⟨a, e, _, _⟩ := hat i hi
    obtain ⟨b, e', _, _⟩ := hat j hj
    rw [e, e']
    intro hab
    have hab : a = b := hab
    subst hab
    have hn : (la.map fun a => MemPlace.cell a.block a.off).Nodup := List.Nodup.sublist h2 hnd
    have hlt : i < (la.map fun a => MemPlace.cell a.block a.off).length := by
      have := (List.getElem?_eq_some_iff.1 e).1
      simpa using this
    exact hij ((List.getElem?_inj hlt hn).1 (by simp [e, e']))
/-- All that is listed but the handle. -/
def filesPlain : List (String × DataW Unit) := Rows.pathPutsRow.laid.filter fun x => x.2.handleName?.isNone
theorem filesWorld_os (os : Os) : (((World.holding Tryd.prog os ⟨#[], #[], []⟩).setCell ⟨13, 0, none⟩ (.iface 125 (.agg #[.pointer (some ⟨17, 29, none⟩)]))).layVars Tryd.prog filesPlain).os = os := World.layVars_os _ _ _
theorem files_fits (os : Os) : ((World.holding Tryd.prog os ⟨#[], #[], []⟩).setCell ⟨13, 0, none⟩ (.iface 125 (.agg #[.pointer (some ⟨17, 29, none⟩)]))).layFits Tryd.prog filesPlain [] = true := by kernel_rfl
theorem files_ifaces (os : Os) : ((World.holding Tryd.prog os ⟨#[], #[], []⟩).setCell ⟨13, 0, none⟩ (.iface 125 (.agg #[.pointer (some ⟨17, 29, none⟩)]))).layIfaces Tryd.prog filesPlain (((World.holding Tryd.prog os ⟨#[], #[], []⟩).setCell ⟨13, 0, none⟩ (.iface 125 (.agg #[.pointer (some ⟨17, 29, none⟩)]))).layVars Tryd.prog filesPlain) = true := by kernel_rfl
theorem files_plain (os : Os) (args : Array Value) : laidMet Tryd.prog filesPlain ((((World.holding Tryd.prog os ⟨#[], #[], []⟩).setCell ⟨13, 0, none⟩ (.iface 125 (.agg #[.pointer (some ⟨17, 29, none⟩)]))).layVars Tryd.prog filesPlain).forCall (fun _ _ => 0) ⟨#[], args, []⟩).memory := by
  have e1 : (filesPlain.filter fun x => (filesPlain.map (·.1)).contains x.1) = filesPlain := List.filter_eq_self.2 fun x hx => List.contains_iff_mem.2 (List.mem_map.2 ⟨x, hx, rfl⟩)
  have e2 : (filesPlain.filter fun x => !(filesPlain.map (·.1)).contains x.1) = [] := List.filter_eq_nil_iff.2 fun x hx => by rw [List.contains_iff_mem.2 (List.mem_map.2 ⟨x, hx, rfl⟩)]; simp
  have h : laidMet Tryd.prog filesPlain (((World.holding Tryd.prog os ⟨#[], #[], []⟩).setCell ⟨13, 0, none⟩ (.iface 125 (.agg #[.pointer (some ⟨17, 29, none⟩)]))).layVars Tryd.prog filesPlain) := laidMet_layVars (w0 := ((World.holding Tryd.prog os ⟨#[], #[], []⟩).setCell ⟨13, 0, none⟩ (.iface 125 (.agg #[.pointer (some ⟨17, 29, none⟩)])))) (filesPlain.map (·.1)) [] (by rw [e1]) (by rw [e1]; exact files_fits os) (by rw [e1]; exact files_ifaces os) (by rw [e2]; exact LaidIn.none)
  exact h.of_heap (by simp [World.memory, World.forCall, Input.heap])
theorem pathPuts_door (os : Os) (args : Array Value) : laidMetH Tryd.prog Rows.pathPutsRow.laid ((((World.holding Tryd.prog os ⟨#[], #[], []⟩).setCell ⟨13, 0, none⟩ (.iface 125 (.agg #[.pointer (some ⟨17, 29, none⟩)]))).layVars Tryd.prog filesPlain).forCall (fun _ _ => 0) ⟨#[], args, []⟩).memory :=
  laidMetH_of_parts3 (fuel := 8) (files_plain os args) (by kernel_rfl) (by kernel_rfl)
end Go.Proofs.YtilkjafggfdjeabDoor
