/-
  Sentinels out of a row's list of variables, variable by variable.
  What the rows' condition on the listed variables gives a walk: the thirteen sentinels lie in the first thirteen variables, each behind a pointer of its own ('Sents').
  Arguments that are numbers.
  Conditions: those that each states.
-/
import Derived.Test.YtcejpeohkgchdabGreatDoorRows
import Derived.LaidLaws
import Derived.LaidHandle
import Derived.LaidMore
import Derived.Stop.LaidErr
import Derived.Test.YtcejpeohkgchdabGreatDoorM18
import Derived.Test.YtcejpeohkgchdabGreatDoorM04
import Derived.ProofKit
import Derived.SizedLaws
import Derived.ChangeSlices
import Derived.Deep.Slices
import Derived.Lib.SmallJoins
import Derived.ChangeSame
import Derived.ChangeVars
import Derived.Carry
namespace Go.Proofs.YtcejpeohkgchdabGreatDoor
open Go.ChangeShapes Go.WideShapes Go.RowKit

/-- Variable by variable: the sentinel's cell, and its row of cells. -/
def SentsL (W : World) (tp : TypeId) : List Nat → List Addr → Prop
  | [], [] => True
  | g :: gs, a :: la => (W.cell? ⟨g, 0, none⟩ = some (.iface tp (.pointer (some a))) ∧ ∃ c t, W.heap[a.block]? = some (.cells c t (0, 0))) ∧ SentsL W tp gs la
  | _, _ => False

theorem SentsL.at {W : World} {tp : TypeId} : ∀ {gs : List Nat} {la : List Addr}, SentsL W tp gs la → ∀ {i g : Nat}, gs[i]? = some g →
    ∃ a, la[i]? = some a ∧ W.cell? ⟨g, 0, none⟩ = some (.iface tp (.pointer (some a))) ∧ ∃ c t, W.heap[a.block]? = some (.cells c t (0, 0))
  | [], _, _, i, g, hi => by simp at hi
  | _ :: _, [], h, _, _, _ => by exact absurd h (by simp [SentsL])
  | g0 :: gs, a0 :: la, h, i, g, hi => by
    obtain ⟨h0, h1⟩ := h
    cases i with
    | zero =>
      simp only [List.getElem?_cons_zero, Option.some.injEq] at hi
      subst hi
      exact ⟨a0, rfl, h0⟩
    | succ i =>
      simp only [List.getElem?_cons_succ] at hi ⊢
      exact SentsL.at h1 hi

theorem laid_list {P : Program} {W : World} {nm : String} {ti tp te ts : TypeId} {ms : Array (String × TypeId)} {f : Field}
    (hi : P.underlying ti = some (.interface ms)) (hrow : ∀ u, P.typeName? 3 u = some nm → u = tp)
    (hp : P.underlying tp = some (.pointer te)) (he : P.underlying te = some (.struct #[f])) (hft : f.type = ts) (hfo : f.offset = 0) (hs : P.underlying ts = some .string) (hc : P.cellsOf te = 1) (hcs : P.cellsOf ts = 1) :
    ∀ (l : List (String × Nat × List UInt8)) {ps : List MemPlace}, DataW.LaidVars P W (l.map fun x => (x.1, .iface nm (.ptr (.agg [.lit (.string x.2.2)])))) ps →
      (∀ x ∈ l, P.globalNamed x.1 = some x.2.1 ∧ (P.globals[x.2.1]?).map (·.type) = some ti) →
      (∀ b off, MemPlace.cell b off ∈ ps → (∃ c t, W.heap[b]? = some (.cells c t (0, 0))) ∧ ∀ u v, W.cell? ⟨b, off, none⟩ = some (.iface u v) → Value.okWide P W .any 0 u v) →
      ∃ la : List Addr, SentsL W tp (l.map (·.2.1)) la ∧ (la.map fun a => MemPlace.cell a.block a.off).Sublist ps
  | [], ps, _, _, _ => ⟨[], trivial, List.nil_sublist _⟩
  | (n, g, text) :: l, ps, hv, hx, hrows => by
    obtain ⟨g0, t0, cs0, f0, p0, q0, hg0, ht0, hv0, hd0, hq, e0⟩ := hv
    obtain ⟨hg, ht⟩ := hx (n, g, text) (List.mem_cons_self)
    simp only at hg ht
    obtain rfl := Option.some.inj (hg.symm.trans hg0)
    obtain rfl := Option.some.inj (ht.symm.trans ht0)
    subst e0
    obtain ⟨l0⟩ := cs0
    have ok0 : ∀ u v, l0 = [.iface u v] → Value.okWide P W .any 0 u v := fun u v e => by
      subst e
      exact (hrows g 0 (by simp [MemPlace.row])).2 u v (by simpa using World.var?_cell hg0 hv0 0)
    obtain ⟨a0, s0, rfl, _, _, _, rfl⟩ := errorString_of_trod hi hrow hp he hft hfo hs hc hcs hd0 ok0
    obtain ⟨la, h1, h2⟩ := laid_list hi hrow hp he hft hfo hs hc hcs l hq (fun x hx' => hx x (List.mem_cons_of_mem _ hx')) (fun b off hm => hrows b off (List.mem_append_right _ hm))
    refine ⟨a0 :: la, ⟨⟨?_, (hrows a0.block a0.off (by simp [MemPlace.row])).1⟩, h1⟩, ?_⟩
    · simpa using World.var?_cell hg0 hv0 0
    · refine List.Sublist.trans (List.Sublist.cons_cons _ h2) ?_
      have e : MemPlace.cell a0.block a0.off :: q0 = MemPlace.row a0 1 ++ q0 := by simp [MemPlace.row]
      rw [e, List.append_assoc]
      exact List.sublist_append_right _ _

theorem star : "*errors.errorString" = "*" ++ "errors.errorString" := by decide
theorem rowS (u : TypeId) (h : Tryz.prog.typeName? 3 u = some "*errors.errorString") : u = 330 :=
  typeName_ptr_named (nm := "errors.errorString") (by rw [← star]; kernel_rfl) (by kernel_rfl) (by decide) u (by rw [← star]; exact h)
theorem cellsES : Tryz.prog.cellsOf 348 = 1 := by kernel_rfl
theorem cellsStr : Tryz.prog.cellsOf 9 = 1 := by kernel_rfl

def textIn : DataW Unit → List UInt8
  | .iface _ (.ptr (.agg [.lit (.string s)])) => s
  | _ => []
end Go.Proofs.YtcejpeohkgchdabGreatDoor
namespace Go.Proofs.YtcejpeohkgchdabGreatDoor
open Go.ChangeShapes Go.WideShapes Go.RowKit

/-- The thirteen, off the row's own list. -/
def sentTexts : List (String × Nat × List UInt8) := ((Rows.scrubMendsRow.laid.drop 1).zip gvs).map fun x => (x.1.1, x.2, textIn x.1.2)
theorem laid_parts (W : World) : laidMetH Tryz.prog Rows.scrubMendsRow.laid W =
    (laidMet Tryz.prog (sentTexts.map fun x => (x.1, .iface "*errors.errorString" (.ptr (.agg [.lit (.string x.2.2)])))) W ∧ handlesMet Tryz.prog (Rows.scrubMendsRow.laid.take 1) W) := by kernel_rfl
theorem sent_globals : (sentTexts.all fun x => decide (Tryz.prog.globalNamed x.1 = some x.2.1) && decide ((Tryz.prog.globals[x.2.1]?).map (·.type) = some 36)) = true := by kernel_rfl
theorem sent_places : sentTexts.map (·.2.1) = gvs := by kernel_rfl
theorem gv_at : ∀ i, i < 13 → gvs[i]? = some (gv i) := by decide
theorem handle1 : Rows.scrubMendsRow.laid.take 1 = [("errors.errorType", Rows.laid_errors_errorType)] := by kernel_rfl
theorem gET : Tryz.prog.globalNamed "errors.errorType" = some 13 := by kernel_rfl
theorem rtypeIs : (Tryz.prog.cutTypes.find? (·.1 == "internal/reflectlite.rtype")).map (·.2) = some 261 := by kernel_rfl
theorem oneRow : ((List.range 360).filter fun t => Tryz.prog.rowNamed t [101, 114, 114, 111, 114]) = [36] := by kernel_rfl
theorem typesSize : Tryz.prog.types.size = 360 := by kernel_rfl

theorem handle_of {W : World} (h : handlesMet Tryz.prog (Rows.scrubMendsRow.laid.take 1) W) : W.cell? ⟨13, 0, none⟩ = some (.iface 261 (.agg #[.pointer (some ⟨20, 36, none⟩)])) := by
  rw [handle1] at h
  obtain ⟨name, u, ty, e1, e2, e3, e4, e5⟩ := h _ (List.mem_singleton.2 rfl)
  have en : name = [101, 114, 114, 111, 114] := (Option.some.inj e1).symm
  subst en
  obtain rfl := Option.some.inj (rtypeIs.symm.trans e2)
  have hm : ty ∈ (List.range 360).filter fun t => Tryz.prog.rowNamed t [101, 114, 114, 111, 114] := List.mem_filter.2 ⟨List.mem_range.2 (by rw [← typesSize]; exact e3), e4⟩
  rw [oneRow] at hm
  obtain rfl := List.mem_singleton.1 hm
  have hh : typeHandle Tryz.prog 36 = .pointer (some ⟨20, 36, none⟩) := by kernel_rfl
  rw [hh] at e5
  simpa using World.var?_cell gET e5 0

theorem sents_of_laid {W : World} (h : laidMetH Tryz.prog Rows.scrubMendsRow.laid W) : ∃ a, Sents a W := by
  rw [laid_parts] at h
  obtain ⟨⟨ps, hv, hnd, hrows⟩, hh⟩ := h
  have hx : ∀ x ∈ sentTexts, Tryz.prog.globalNamed x.1 = some x.2.1 ∧ (Tryz.prog.globals[x.2.1]?).map (·.type) = some 36 := fun x hx => by
    have := List.all_eq_true.1 sent_globals x hx
    simpa using this
  obtain ⟨la, h1, h2⟩ := laid_list Tryz.underlying36 rowS Tryz.underlying330 Tryz.underlying348 rfl rfl Tryz.underlying9 cellsES cellsStr sentTexts hv hx hrows
  rw [sent_places] at h1
  have hat : ∀ i, i < 13 → ∃ a, la[i]? = some a ∧ W.cell? ⟨gv i, 0, none⟩ = some (.iface 330 (.pointer (some a))) ∧ ∃ c t, W.heap[a.block]? = some (.cells c t (0, 0)) := fun i hi => h1.at (gv_at i hi)
  refine ⟨fun i => (la[i]?).getD ⟨0, 0, none⟩, ⟨fun i hi => ?_, fun i hi => ?_, fun i j hi hj hij => ?_, handle_of hh⟩⟩
  · obtain ⟨a, e, hc, _⟩ := hat i hi
    rw [e]; exact hc
  · obtain ⟨a, e, _, hc⟩ := hat i hi
    rw [e]; exact hc
  · obtain ⟨a, e, _, _⟩ := hat i hi
    obtain ⟨b, e', _, _⟩ := hat j hj
    rw [e, e']
    intro hab
    have hab : a = b := hab
    subst hab
    have hn : (la.map fun a => MemPlace.cell a.block a.off).Nodup := List.Nodup.sublist h2 hnd
    have hlt : i < (la.map fun a => MemPlace.cell a.block a.off).length := by
      have := (List.getElem?_eq_some_iff.1 e).1
      simpa using this
    exact hij ((List.getElem?_inj hlt hn).1 (by simp [e, e']))
end Go.Proofs.YtcejpeohkgchdabGreatDoor
namespace Go.Proofs.YtcejpeohkgchdabGreatDoor
open Go.ChangeShapes Go.WideShapes Go.RowKit

theorem own_knob : ownKnob Tryz.prog.godebug = none := by kernel_rfl
theorem laid_out : laidOutB Tryz.prog = true := by kernel_rfl
theorem cellsI : Tryz.prog.cellsOf 3 = 1 := by kernel_rfl
theorem cellsIs : Tryz.prog.cellsOf 51 = 1 := by kernel_rfl

section
variable {H : Type} {enc : TypeId × Value → H} {w : World}
theorem ints_of_trod {n : Nat} {v : Value} {x : DataW H × List MemPlace} (h : DataW.trod enc Tryz.prog w 0 (fun _ => true) true n 51 [v] = some x) : ∃ l, IntsAt w v l := by
  rcases open_ints Tryz.underlying51 Tryz.underlying3 cellsI h with ⟨e, _⟩ | ⟨a, len, cap, zs, e, _, hlc, _, hzl, _, hc, _⟩
  · simp only [List.cons.injEq, and_true] at e
    subst e
    exact ⟨[], IntsAt.nil _⟩
  · simp only [List.cons.injEq, and_true] at e
    subst e
    have hzl' : zs.length = cap := by rw [hzl]; rfl
    refine ⟨zs.take len, some a, cap, by rw [List.length_take, Nat.min_eq_left (by omega)], fun i y hy => ?_⟩
    have hi : i < len := by have := (List.getElem?_eq_some_iff.1 hy).1; rw [List.length_take] at this; omega
    rw [List.getElem?_take_of_lt hi] at hy
    have hc0 := hc i (by omega)
    have hg : zs.getD i 0 = y := by simp [List.getD, hy]
    rw [hg] at hc0
    obtain ⟨b, off, spot⟩ := a
    have h0 := hc 0 (by omega)
    have hsp : spot = none := by simpa [Addr.add] using World.cell?_spot h0
    subst hsp
    refine ⟨b, off, rfl, ?_⟩
    rw [Addr.add_mid] at hc0
    exact hc0

set_option maxRecDepth 100000 in
theorem ints_arg {base : Nat} {v : Value} {d : DataW H} {p : List MemPlace} (hval : Value.okWide Tryz.prog w .any base 51 v) (h : DataW.Trod enc Tryz.prog w 0 (fun _ => true) true 51 v d p) : ∃ l, IntsAt w v l := by
  obtain ⟨va, vn, vc, rfl⟩ := okWide_slice Tryz.underlying51 hval
  obtain ⟨fuel, hf⟩ := h
  exact ints_of_trod hf
end
end Go.Proofs.YtcejpeohkgchdabGreatDoor
