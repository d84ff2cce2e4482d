/-
  What the condition of TapeActs' row on the listed variables gives a walk: thirteen sentinels, the library's two, the table of powers of ten; and a world that meets it.
  Conditions: none beside the row's own 'laid'.
-/
import Derived.Test.YthelggcaggobaaaDoorRows
import Derived.Test.YthelggcaggobaaaDoorCode
import Derived.Test.YthelggcaggobaaaDoorLaidA
import Derived.Test.YthelggcaggobaaaDoorShaped
import Derived.Test.YthelggcaggobaaaDoorVd
import Derived.Lib.LaidTab
import Derived.Lib.ItoaMem
import Derived.Lay
import Derived.Handed
import Derived.LaidLaws
import Derived.LaidHandle
import Derived.LaidMore
import Derived.Stop.LaidErr
namespace Go.Proofs.YthelggcaggobaaaDoor
open Go.ChangeShapes Go.WideShapes Go.RowKit

/-- The thirteen, off the row's own list. -/
def sentTexts : List (String × Nat × List UInt8) := ((Rows.tapeActsRow.laid.drop 4).zip (gvs ++ [17, 16])).map fun x => (x.1.1, x.2, textIn x.1.2)
theorem laid_parts (W : World) : laidMetH Tryd.prog Rows.tapeActsRow.laid W =
    (laidMet Tryd.prog (("math/bits.deBruijn32tab", Rows.laid_math_bits_deBruijn32tab) :: ("math/bits.deBruijn64tab", Rows.laid_math_bits_deBruijn64tab) :: ("internal/strconv.uint64pow10", Lib.tabData .u64 Lib.pow10Tab) :: sentTexts.map fun x => (x.1, .iface "*errors.errorString" (.ptr (.agg [.lit (.string x.2.2)])))) W ∧ handlesMet Tryd.prog ((Rows.tapeActsRow.laid.drop 3).take 1) W) := by kernel_rfl
theorem sent_globals : (sentTexts.all fun x => decide (Tryd.prog.globalNamed x.1 = some x.2.1) && decide ((Tryd.prog.globals[x.2.1]?).map (·.type) = some 26)) = true := by kernel_rfl
theorem sent_places : sentTexts.map (·.2.1) = gvs ++ [17, 16] := by kernel_rfl
theorem gv_at : ∀ i, i < 13 → (gvs ++ [17, 16])[i]? = some (gv i) := by decide
theorem handle1 : (Rows.tapeActsRow.laid.drop 3).take 1 = [("errors.errorType", Rows.laid_errors_errorType)] := by kernel_rfl
theorem gET : Tryd.prog.globalNamed "errors.errorType" = some 13 := by kernel_rfl
theorem rtypeIs : (Tryd.prog.cutTypes.find? (·.1 == "internal/reflectlite.rtype")).map (·.2) = some 96 := by kernel_rfl
theorem oneRow : ((List.range 172).filter fun t => Tryd.prog.rowNamed t [101, 114, 114, 111, 114]) = [26] := by kernel_rfl
theorem typesSize : Tryd.prog.types.size = 172 := by kernel_rfl

theorem handle_of {W : World} (h : handlesMet Tryd.prog ((Rows.tapeActsRow.laid.drop 3).take 1) W) : W.cell? ⟨13, 0, none⟩ = some (.iface 96 (.agg #[.pointer (some ⟨20, 26, none⟩)])) := by
  rw [handle1] at h
  obtain ⟨name, u, ty, e1, e2, e3, e4, e5⟩ := h _ (List.mem_singleton.2 rfl)
  have en : name = [101, 114, 114, 111, 114] := (Option.some.inj e1).symm
  subst en
  obtain rfl := Option.some.inj (rtypeIs.symm.trans e2)
  have hm : ty ∈ (List.range 172).filter fun t => Tryd.prog.rowNamed t [101, 114, 114, 111, 114] := List.mem_filter.2 ⟨List.mem_range.2 (by rw [← typesSize]; exact e3), e4⟩
  rw [oneRow] at hm
  obtain rfl := List.mem_singleton.1 hm
  have hh : typeHandle Tryd.prog 26 = .pointer (some ⟨20, 26, none⟩) := by kernel_rfl
  rw [hh] at e5
  simpa using World.var?_cell gET e5 0

theorem sents_of_laid {W : World} (h : laidMetH Tryd.prog Rows.tapeActsRow.laid W) (hsh : W.ShapedOpen Tryd.prog) : ∃ a, Sents a W ∧ Lv W.heap.size W ∧ Sn4 a W.heap.size W := by
  rw [laid_parts] at h
  obtain ⟨hpl, hh⟩ := h
  have hp2 := hpl.tail.tail
  have hT : Lib.TabIs Tryd.prog W "internal/strconv.uint64pow10" .u64 Lib.pow10Tab := Lib.tabIs_of_head (g := 15) (t := 125) (e := 111) (n := 20) (by kernel_rfl) (by kernel_rfl) Tryd.underlying125 Tryd.underlying111 (by kernel_rfl) (by kernel_rfl) hp2
  obtain ⟨ps, hv, hnd, hrows⟩ := hp2.tail
  have hx : ∀ x ∈ sentTexts, Tryd.prog.globalNamed x.1 = some x.2.1 ∧ (Tryd.prog.globals[x.2.1]?).map (·.type) = some 26 := fun x hx => by
    have := List.all_eq_true.1 sent_globals x hx
    simpa using this
  obtain ⟨la, h1, h2⟩ := laid_list Tryd.underlying26 rowS Tryd.underlying140 Tryd.underlying142 rfl rfl Tryd.underlying9 cellsES cellsStr sentTexts hv hx hrows
  rw [sent_places] at h1
  have hat : ∀ i, i < 13 → ∃ a, la[i]? = some a ∧ W.cell? ⟨gv i, 0, none⟩ = some (.iface 140 (.pointer (some a))) ∧ ∃ c t, W.heap[a.block]? = some (.cells c t (0, 0)) := fun i hi => h1.at (gv_at i hi)
  obtain ⟨ar, _, cr, _⟩ := h1.at (i := 13) (g := 17) rfl
  obtain ⟨as2, _, cs2, _⟩ := h1.at (i := 14) (g := 16) rfl
  obtain ⟨mx, cm⟩ := max_of_shaped hsh
  have hltV : ∀ {g : Nat} {v : Value}, W.cell? ⟨g, 0, none⟩ = some v → g < W.heap.size := fun h => World.block_lt_of_cell? W _ h
  suffices hall : Sents (fun i => (la[i]?).getD ⟨0, 0, none⟩) W by
    exact ⟨_, hall, ⟨⟨hltV cs2, _, _, cs2⟩, ⟨hltV cr, _, _, cr⟩, ⟨hltV cm, mx, cm⟩, Lib.tabBelow_of_tabIs hT⟩, ⟨⟨hltV hall.c1, hall.c1⟩, ⟨hltV hall.c7, hall.c7⟩, ⟨hltV hall.c12, hall.c12⟩⟩⟩
  refine ⟨fun i hi => ?_, fun i hi => ?_, fun i j hi hj hij => ?_, handle_of hh⟩
  · obtain ⟨a, e, hc, _⟩ := hat i hi
    rw [e]; exact hc
  · obtain ⟨a, e, _, hc⟩ := hat i hi
    rw [e]; exact hc
  · obtain ⟨a, e, _, _⟩ := hat i hi
    obtain ⟨b, e', _, _⟩ := hat j hj
    rw [e, e']
    intro hab
    have hab : a = b := hab
    subst hab
    have hn : (la.map fun a => MemPlace.cell a.block a.off).Nodup := List.Nodup.sublist h2 hnd
    have hlt : i < (la.map fun a => MemPlace.cell a.block a.off).length := by
      have := (List.getElem?_eq_some_iff.1 e).1
      simpa using this
    exact hij ((List.getElem?_inj hlt hn).1 (by simp [e, e']))
/-- All that is listed but the handle. -/
def filesPlain : List (String × DataW Unit) := Rows.tapeActsRow.laid.filter fun x => x.2.handleName?.isNone
theorem filesWorld_os (os : Os) : (((World.holding Tryd.prog os ⟨#[], #[], []⟩).setCell ⟨13, 0, none⟩ (.iface 96 (.agg #[.pointer (some ⟨20, 26, none⟩)]))).layVars Tryd.prog filesPlain).os = os := World.layVars_os _ _ _
theorem files_fits (os : Os) : ((World.holding Tryd.prog os ⟨#[], #[], []⟩).setCell ⟨13, 0, none⟩ (.iface 96 (.agg #[.pointer (some ⟨20, 26, none⟩)]))).layFits Tryd.prog filesPlain [] = true := by kernel_rfl
theorem files_ifaces (os : Os) : ((World.holding Tryd.prog os ⟨#[], #[], []⟩).setCell ⟨13, 0, none⟩ (.iface 96 (.agg #[.pointer (some ⟨20, 26, none⟩)]))).layIfaces Tryd.prog filesPlain (((World.holding Tryd.prog os ⟨#[], #[], []⟩).setCell ⟨13, 0, none⟩ (.iface 96 (.agg #[.pointer (some ⟨20, 26, none⟩)]))).layVars Tryd.prog filesPlain) = true := by kernel_rfl
theorem files_plain (os : Os) (args : Array Value) : laidMet Tryd.prog filesPlain ((((World.holding Tryd.prog os ⟨#[], #[], []⟩).setCell ⟨13, 0, none⟩ (.iface 96 (.agg #[.pointer (some ⟨20, 26, none⟩)]))).layVars Tryd.prog filesPlain).forCall (fun _ _ => 0) ⟨#[], args, []⟩).memory := by
  have e1 : (filesPlain.filter fun x => (filesPlain.map (·.1)).contains x.1) = filesPlain := List.filter_eq_self.2 fun x hx => List.contains_iff_mem.2 (List.mem_map.2 ⟨x, hx, rfl⟩)
  have e2 : (filesPlain.filter fun x => !(filesPlain.map (·.1)).contains x.1) = [] := List.filter_eq_nil_iff.2 fun x hx => by rw [List.contains_iff_mem.2 (List.mem_map.2 ⟨x, hx, rfl⟩)]; simp
  have h : laidMet Tryd.prog filesPlain (((World.holding Tryd.prog os ⟨#[], #[], []⟩).setCell ⟨13, 0, none⟩ (.iface 96 (.agg #[.pointer (some ⟨20, 26, none⟩)]))).layVars Tryd.prog filesPlain) := laidMet_layVars (w0 := ((World.holding Tryd.prog os ⟨#[], #[], []⟩).setCell ⟨13, 0, none⟩ (.iface 96 (.agg #[.pointer (some ⟨20, 26, none⟩)])))) (filesPlain.map (·.1)) [] (by rw [e1]) (by rw [e1]; exact files_fits os) (by rw [e1]; exact files_ifaces os) (by rw [e2]; exact LaidIn.none)
  exact h.of_heap (by simp [World.memory, World.forCall, Input.heap])
theorem tapeActs_door (os : Os) (args : Array Value) : laidMetH Tryd.prog Rows.tapeActsRow.laid ((((World.holding Tryd.prog os ⟨#[], #[], []⟩).setCell ⟨13, 0, none⟩ (.iface 96 (.agg #[.pointer (some ⟨20, 26, none⟩)]))).layVars Tryd.prog filesPlain).forCall (fun _ _ => 0) ⟨#[], args, []⟩).memory :=
  laidMetH_of_parts3 (fuel := 8) (files_plain os args) (by kernel_rfl) (by kernel_rfl)
end Go.Proofs.YthelggcaggobaaaDoor
