/-
  Sentinels out of a row's list of variables, variable by variable.
  Conditions: none beside the rows' own 'laid'.
-/
import Derived.Test.YtilkjafggfdjeabDoorRows
import Derived.LaidLaws
import Derived.LaidHandle
import Derived.LaidMore
import Derived.Stop.LaidErr
namespace Go.Proofs.YtilkjafggfdjeabDoor
open Go.ChangeShapes Go.WideShapes Go.RowKit

/-- Variable by variable: the sentinel's cell, and its row of cells. -/
def SentsL (W : World) (tp : TypeId) : List Nat → List Addr → Prop
  | [], [] => True
  | g :: gs, a :: la => (W.cell? ⟨g, 0, none⟩ = some (.iface tp (.pointer (some a))) ∧ ∃ c t, W.heap[a.block]? = some (.cells c t (0, 0))) ∧ SentsL W tp gs la
  | _, _ => False

theorem SentsL.at {W : World} {tp : TypeId} : ∀ {gs : List Nat} {la : List Addr}, SentsL W tp gs la → ∀ {i g : Nat}, gs[i]? = some g →
    ∃ a, la[i]? = some a ∧ W.cell? ⟨g, 0, none⟩ = some (.iface tp (.pointer (some a))) ∧ ∃ c t, W.heap[a.block]? = some (.cells c t (0, 0))
  | [], _, _, i, g, hi => by simp at hi
  | _ :: _, [], h, _, _, _ => by exact absurd h (by simp [SentsL])
  | g0 :: gs, a0 :: la, h, i, g, hi => by
    obtain ⟨h0, h1⟩ := h
    cases i with
    | zero =>
      simp only [List.getElem?_cons_zero, Option.some.injEq] at hi
      subst hi
      exact ⟨a0, rfl, h0⟩
    | succ i =>
      simp only [List.getElem?_cons_succ] at hi ⊢
      exact SentsL.at h1 hi

theorem laid_list {P : Program} {W : World} {nm : String} {ti tp te ts : TypeId} {ms : Array (String × TypeId)} {f : Field}
    (hi : P.underlying ti = some (.interface ms)) (hrow : ∀ u, P.typeName? 3 u = some nm → u = tp)
    (hp : P.underlying tp = some (.pointer te)) (he : P.underlying te = some (.struct #[f])) (hft : f.type = ts) (hfo : f.offset = 0) (hs : P.underlying ts = some .string) (hc : P.cellsOf te = 1) (hcs : P.cellsOf ts = 1) :
    ∀ (l : List (String × Nat × List UInt8)) {ps : List MemPlace}, DataW.LaidVars P W (l.map fun x => (x.1, .iface nm (.ptr (.agg [.lit (.string x.2.2)])))) ps →
      (∀ x ∈ l, P.globalNamed x.1 = some x.2.1 ∧ (P.globals[x.2.1]?).map (·.type) = some ti) →
      (∀ b off, MemPlace.cell b off ∈ ps → (∃ c t, W.heap[b]? = some (.cells c t (0, 0))) ∧ ∀ u v, W.cell? ⟨b, off, none⟩ = some (.iface u v) → Value.okWide P W .any 0 u v) →
      ∃ la : List Addr, SentsL W tp (l.map (·.2.1)) la ∧ (la.map fun a => MemPlace.cell a.block a.off).Sublist ps
  | [], ps, _, _, _ => ⟨[], trivial, List.nil_sublist _⟩
  | (n, g, text) :: l, ps, hv, hx, hrows => by
    obtain ⟨g0, t0, cs0, f0, p0, q0, hg0, ht0, hv0, hd0, hq, e0⟩ := hv
    obtain ⟨hg, ht⟩ := hx (n, g, text) (List.mem_cons_self)
    simp only at hg ht
    obtain rfl := Option.some.inj (hg.symm.trans hg0)
    obtain rfl := Option.some.inj (ht.symm.trans ht0)
    subst e0
    obtain ⟨l0⟩ := cs0
    have ok0 : ∀ u v, l0 = [.iface u v] → Value.okWide P W .any 0 u v := fun u v e => by
      subst e
      exact (hrows g 0 (by simp [MemPlace.row])).2 u v (by simpa using World.var?_cell hg0 hv0 0)
    obtain ⟨a0, s0, rfl, _, _, _, rfl⟩ := errorString_of_trod hi hrow hp he hft hfo hs hc hcs hd0 ok0
    obtain ⟨la, h1, h2⟩ := laid_list hi hrow hp he hft hfo hs hc hcs l hq (fun x hx' => hx x (List.mem_cons_of_mem _ hx')) (fun b off hm => hrows b off (List.mem_append_right _ hm))
    refine ⟨a0 :: la, ⟨⟨?_, (hrows a0.block a0.off (by simp [MemPlace.row])).1⟩, h1⟩, ?_⟩
    · simpa using World.var?_cell hg0 hv0 0
    · refine List.Sublist.trans (List.Sublist.cons_cons _ h2) ?_
      have e : MemPlace.cell a0.block a0.off :: q0 = MemPlace.row a0 1 ++ q0 := by simp [MemPlace.row]
      rw [e, List.append_assoc]
      exact List.sublist_append_right _ _

theorem star : "*errors.errorString" = "*" ++ "errors.errorString" := by decide
theorem rowS (u : TypeId) (h : Tryd.prog.typeName? 3 u = some "*errors.errorString") : u = 153 :=
  typeName_ptr_named (nm := "errors.errorString") (by rw [← star]; kernel_rfl) (by kernel_rfl) (by decide) u (by rw [← star]; exact h)
theorem cellsES : Tryd.prog.cellsOf 172 = 1 := by kernel_rfl
theorem cellsStr : Tryd.prog.cellsOf 9 = 1 := by kernel_rfl

def textIn : DataW Unit → List UInt8
  | .iface _ (.ptr (.agg [.lit (.string s)])) => s
  | _ => []
end Go.Proofs.YtilkjafggfdjeabDoor
