/-
  Arguments that are numbers.
  An argument that is acts on files.
  Sentinels out of a row's list of variables, variable by variable.
  Conditions: those that each states.
-/
import Derived.Test.YtcejpeohkgchdaaDoorK04
import Derived.Test.YtcejpeohkgchdaaDoorRows
import Derived.ProofKit
import Derived.SizedLaws
import Derived.ChangeSlices
import Derived.Deep.Slices
import Derived.Lib.SmallJoins
import Derived.ChangeSame
import Derived.ChangeVars
import Derived.Carry
import Derived.Test.YtcejpeohkgchdaaDoorK16
import Derived.LaidLaws
import Derived.LaidHandle
import Derived.LaidMore
import Derived.Stop.LaidErr
namespace Go.Proofs.YtcejpeohkgchdaaDoor
open Go.ChangeShapes Go.WideShapes Go.RowKit

theorem own_knob : ownKnob Tryd.prog.godebug = none := by kernel_rfl
theorem laid_out : laidOutB Tryd.prog = true := by kernel_rfl
theorem cellsI : Tryd.prog.cellsOf 3 = 1 := by kernel_rfl
theorem cellsIs : Tryd.prog.cellsOf 30 = 1 := by kernel_rfl

section
variable {H : Type} {enc : TypeId × Value → H} {w : World}
theorem ints_of_trod {n : Nat} {v : Value} {x : DataW H × List MemPlace} (h : DataW.trod enc Tryd.prog w 0 (fun _ => true) true n 30 [v] = some x) : ∃ l, IntsAt w v l := by
  rcases open_ints Tryd.underlying30 Tryd.underlying3 cellsI h with ⟨e, _⟩ | ⟨a, len, cap, zs, e, _, hlc, _, hzl, _, hc, _⟩
  · simp only [List.cons.injEq, and_true] at e
    subst e
    exact ⟨[], IntsAt.nil _⟩
  · simp only [List.cons.injEq, and_true] at e
    subst e
    have hzl' : zs.length = cap := by rw [hzl]; rfl
    refine ⟨zs.take len, some a, cap, by rw [List.length_take, Nat.min_eq_left (by omega)], fun i y hy => ?_⟩
    have hi : i < len := by have := (List.getElem?_eq_some_iff.1 hy).1; rw [List.length_take] at this; omega
    rw [List.getElem?_take_of_lt hi] at hy
    have hc0 := hc i (by omega)
    have hg : zs.getD i 0 = y := by simp [List.getD, hy]
    rw [hg] at hc0
    obtain ⟨b, off, spot⟩ := a
    have h0 := hc 0 (by omega)
    have hsp : spot = none := by simpa [Addr.add] using World.cell?_spot h0
    subst hsp
    refine ⟨b, off, rfl, ?_⟩
    rw [Addr.add_mid] at hc0
    exact hc0

set_option maxRecDepth 100000 in
theorem ints_arg {base : Nat} {v : Value} {d : DataW H} {p : List MemPlace} (hval : Value.okWide Tryd.prog w .any base 30 v) (h : DataW.Trod enc Tryd.prog w 0 (fun _ => true) true 30 v d p) : ∃ l, IntsAt w v l := by
  obtain ⟨va, vn, vc, rfl⟩ := okWide_slice Tryd.underlying30 hval
  obtain ⟨fuel, hf⟩ := h
  exact ints_of_trod hf
end
end Go.Proofs.YtcejpeohkgchdaaDoor
namespace Go.Proofs.YtcejpeohkgchdaaDoor
open Go.ChangeShapes Go.WideShapes Go.RowKit

theorem cellsFS : Tryd.prog.cellsOf 9 = 1 := by kernel_rfl
theorem cellsFB : Tryd.prog.cellsOf 4 = 1 := by kernel_rfl
theorem cellsFAct : Tryd.prog.cellsOf 32 = 5 := by kernel_rfl
theorem fiveF {α : Type} : ∀ {l : List α}, l.length = 5 → ∃ a b c d e, l = [a, b, c, d, e]
  | [a, b, c, d, e], _ => ⟨a, b, c, d, e, rfl⟩

section
variable {H : Type} {enc : TypeId × Value → H} {w : World}
set_option maxRecDepth 100000 in
theorem facts_of_trod {n : Nat} {v : Value} {x : DataW H × List MemPlace} (h : DataW.trod enc Tryd.prog w 0 (fun _ => true) true n 22 [v] = some x) : ∃ l, FActsAt w v l := by
  rcases DataW.trod_slice Tryd.underlying22 h with ⟨hcs, _⟩ | ⟨a, len, cap, elems, rest, m, hfuel, hcs, hx, _, hlc, _, hel, hE, _, _⟩
  · simp only [List.cons.injEq, and_true] at hcs
    subst hcs
    exact ⟨[], none, 0, rfl, fun i x hx => by simp at hx⟩
  · simp only [List.cons.injEq, and_true] at hcs
    subst hcs; subst hfuel
    have hone : ∀ i, i < len → ∃ p : FAct, (Lit.int .i64 p.n).wf = true ∧ (Lit.int .i64 p.bit).wf = true ∧ p.s.size ≤ maxLen ∧ ∃ b off, a = ⟨b, off, none⟩ ∧ w.cell? ⟨b, off + i * 5, none⟩ = some (.string p.kind) ∧ w.cell? ⟨b, off + i * 5 + 1, none⟩ = some (.string p.s) ∧ w.cell? ⟨b, off + i * 5 + 2, none⟩ = some (.bool p.exec) ∧ w.cell? ⟨b, off + i * 5 + 3, none⟩ = some (.int .i64 p.n) ∧ w.cell? ⟨b, off + i * 5 + 4, none⟩ = some (.int .i64 p.bit) := by
      intro i hi
      have hb := hE i hi
      rw [cellsFAct] at hb
      obtain ⟨el, he⟩ : ∃ el, elems[i]? = some el := ⟨elems[i]'(by omega), List.getElem?_eq_getElem (by omega)⟩
      rw [he] at hb
      obtain ⟨cs, hc, ht⟩ := Option.bind_eq_some_iff.1 hb
      obtain ⟨_, hcl, hcc⟩ := World.cells?_some hc
      obtain ⟨xs, m1, hm1, hx1, _, hxl, hf⟩ := DataW.trod_struct Tryd.underlying32 ht
      obtain ⟨z0, z1, z2, z3, z4, rfl⟩ := fiveF (show xs.length = 5 from hxl)
      obtain ⟨c0, c1, c2, c3, c4, rfl⟩ := fiveF hcl
      have h0 : DataW.trod enc Tryd.prog w 0 (fun _ => true) true m1 9 ([c0, c1, c2, c3, c4].take (Tryd.prog.cellsOf 9)) = some z0 := hf 0 _ rfl
      have h1 : DataW.trod enc Tryd.prog w 0 (fun _ => true) true m1 9 ([c1, c2, c3, c4].take (Tryd.prog.cellsOf 9)) = some z1 := hf 1 _ rfl
      have h2 : DataW.trod enc Tryd.prog w 0 (fun _ => true) true m1 4 ([c2, c3, c4].take (Tryd.prog.cellsOf 4)) = some z2 := hf 2 _ rfl
      have h3 : DataW.trod enc Tryd.prog w 0 (fun _ => true) true m1 3 ([c3, c4].take (Tryd.prog.cellsOf 3)) = some z3 := hf 3 _ rfl
      have h4 : DataW.trod enc Tryd.prog w 0 (fun _ => true) true m1 3 ([c4].take (Tryd.prog.cellsOf 3)) = some z4 := hf 4 _ rfl
      rw [cellsFS] at h0 h1
      rw [cellsFB] at h2
      rw [cellsI] at h3 h4
      obtain ⟨kind, e0, _, _⟩ := DataW.trod_string Tryd.underlying9 h0
      obtain ⟨s, e1, _, hs1⟩ := DataW.trod_string Tryd.underlying9 h1
      obtain ⟨ex, e2, _⟩ := DataW.trod_bool Tryd.underlying4 h2
      obtain ⟨k, e3, _, hw3⟩ := DataW.trod_int Tryd.underlying3 h3
      obtain ⟨bit, e4, _, hw4⟩ := DataW.trod_int Tryd.underlying3 h4
      simp only [List.take_succ_cons, List.take_zero, List.cons.injEq, and_true] at e0 e1 e2 e3 e4
      subst e0; subst e1; subst e2; subst e3; subst e4
      have k0 := hcc 0 (by omega)
      have k1 := hcc 1 (by omega)
      have k2 := hcc 2 (by omega)
      have k3 := hcc 3 (by omega)
      have k4 := hcc 4 (by omega)
      simp only [List.getElem?_cons_zero, List.getElem?_cons_succ] at k0 k1 k2 k3 k4
      obtain ⟨b, off, rfl⟩ : ∃ b off, a = ⟨b, off, none⟩ := by
        have hb0 := hE 0 (by omega)
        rw [cellsFAct] at hb0
        obtain ⟨el0, he0⟩ : ∃ el, elems[0]? = some el := ⟨elems[0]'(by omega), List.getElem?_eq_getElem (by omega)⟩
        rw [he0] at hb0
        obtain ⟨cs0, hc0, _⟩ := Option.bind_eq_some_iff.1 hb0
        obtain ⟨_, hcl0, hcc0⟩ := World.cells?_some hc0
        have j0 := hcc0 0 (by omega)
        rw [List.getElem?_eq_getElem (by omega)] at j0
        obtain ⟨b, off, spot⟩ := a
        have hsp : spot = none := by simpa [Addr.add] using World.cell?_spot j0
        subst hsp
        exact ⟨b, off, rfl⟩
      simp only [Addr.add_mid, Nat.add_zero] at k0 k1 k2 k3 k4
      exact ⟨⟨kind, s, ex, k, bit⟩, hw3, hw4, hs1, b, off, rfl, k0, k1, k2, k3, k4⟩
    haveI : Inhabited FAct := ⟨⟨ByteArray.empty, ByteArray.empty, false, 0, 0⟩⟩
    obtain ⟨f, hf⟩ := Deep.choose_lt hone
    refine ⟨(List.range len).map f, some a, cap, by simp, fun i y hy => ?_⟩
    have hi : i < len := by have := (List.getElem?_eq_some_iff.1 hy).1; simpa using this
    have ey : y = f i := by
      rw [List.getElem?_map, List.getElem?_range hi] at hy
      simpa using hy.symm
    subst ey
    obtain ⟨q1, q2, q3, b, off, e, q⟩ := hf i hi
    exact ⟨q1, q2, q3, b, off, by rw [e], q⟩
set_option maxRecDepth 100000 in
theorem facts_arg {base : Nat} {v : Value} {d : DataW H} {p : List MemPlace} (hval : Value.okWide Tryd.prog w .any base 22 v) (h : DataW.Trod enc Tryd.prog w 0 (fun _ => true) true 22 v d p) : ∃ l, FActsAt w v l := by
  obtain ⟨va, vn, vc, rfl⟩ := okWide_slice Tryd.underlying22 hval
  obtain ⟨fuel, hf⟩ := h
  exact facts_of_trod hf
end
end Go.Proofs.YtcejpeohkgchdaaDoor
namespace Go.Proofs.YtcejpeohkgchdaaDoor
open Go.ChangeShapes Go.WideShapes Go.RowKit

/-- Variable by variable: the sentinel's cell, and its row of cells. -/
def SentsL (W : World) (tp : TypeId) : List Nat → List Addr → Prop
  | [], [] => True
  | g :: gs, a :: la => (W.cell? ⟨g, 0, none⟩ = some (.iface tp (.pointer (some a))) ∧ ∃ c t, W.heap[a.block]? = some (.cells c t (0, 0))) ∧ SentsL W tp gs la
  | _, _ => False

theorem SentsL.at {W : World} {tp : TypeId} : ∀ {gs : List Nat} {la : List Addr}, SentsL W tp gs la → ∀ {i g : Nat}, gs[i]? = some g →
    ∃ a, la[i]? = some a ∧ W.cell? ⟨g, 0, none⟩ = some (.iface tp (.pointer (some a))) ∧ ∃ c t, W.heap[a.block]? = some (.cells c t (0, 0))
  | [], _, _, i, g, hi => by simp at hi
  | _ :: _, [], h, _, _, _ => by exact absurd h (by simp [SentsL])
  | g0 :: gs, a0 :: la, h, i, g, hi => by
    obtain ⟨h0, h1⟩ := h
    cases i with
    | zero =>
      simp only [List.getElem?_cons_zero, Option.some.injEq] at hi
      subst hi
      exact ⟨a0, rfl, h0⟩
    | succ i =>
      simp only [List.getElem?_cons_succ] at hi ⊢
      exact SentsL.at h1 hi

theorem laid_list {P : Program} {W : World} {nm : String} {ti tp te ts : TypeId} {ms : Array (String × TypeId)} {f : Field}
    (hi : P.underlying ti = some (.interface ms)) (hrow : ∀ u, P.typeName? 3 u = some nm → u = tp)
    (hp : P.underlying tp = some (.pointer te)) (he : P.underlying te = some (.struct #[f])) (hft : f.type = ts) (hfo : f.offset = 0) (hs : P.underlying ts = some .string) (hc : P.cellsOf te = 1) (hcs : P.cellsOf ts = 1) :
    ∀ (l : List (String × Nat × List UInt8)) {ps : List MemPlace}, DataW.LaidVars P W (l.map fun x => (x.1, .iface nm (.ptr (.agg [.lit (.string x.2.2)])))) ps →
      (∀ x ∈ l, P.globalNamed x.1 = some x.2.1 ∧ (P.globals[x.2.1]?).map (·.type) = some ti) →
      (∀ b off, MemPlace.cell b off ∈ ps → (∃ c t, W.heap[b]? = some (.cells c t (0, 0))) ∧ ∀ u v, W.cell? ⟨b, off, none⟩ = some (.iface u v) → Value.okWide P W .any 0 u v) →
      ∃ la : List Addr, SentsL W tp (l.map (·.2.1)) la ∧ (la.map fun a => MemPlace.cell a.block a.off).Sublist ps
  | [], ps, _, _, _ => ⟨[], trivial, List.nil_sublist _⟩
  | (n, g, text) :: l, ps, hv, hx, hrows => by
    obtain ⟨g0, t0, cs0, f0, p0, q0, hg0, ht0, hv0, hd0, hq, e0⟩ := hv
    obtain ⟨hg, ht⟩ := hx (n, g, text) (List.mem_cons_self)
    simp only at hg ht
    obtain rfl := Option.some.inj (hg.symm.trans hg0)
    obtain rfl := Option.some.inj (ht.symm.trans ht0)
    subst e0
    obtain ⟨l0⟩ := cs0
    have ok0 : ∀ u v, l0 = [.iface u v] → Value.okWide P W .any 0 u v := fun u v e => by
      subst e
      exact (hrows g 0 (by simp [MemPlace.row])).2 u v (by simpa using World.var?_cell hg0 hv0 0)
    obtain ⟨a0, s0, rfl, _, _, _, rfl⟩ := errorString_of_trod hi hrow hp he hft hfo hs hc hcs hd0 ok0
    obtain ⟨la, h1, h2⟩ := laid_list hi hrow hp he hft hfo hs hc hcs l hq (fun x hx' => hx x (List.mem_cons_of_mem _ hx')) (fun b off hm => hrows b off (List.mem_append_right _ hm))
    refine ⟨a0 :: la, ⟨⟨?_, (hrows a0.block a0.off (by simp [MemPlace.row])).1⟩, h1⟩, ?_⟩
    · simpa using World.var?_cell hg0 hv0 0
    · refine List.Sublist.trans (List.Sublist.cons_cons _ h2) ?_
      have e : MemPlace.cell a0.block a0.off :: q0 = MemPlace.row a0 1 ++ q0 := by simp [MemPlace.row]
      rw [e, List.append_assoc]
      exact List.sublist_append_right _ _

theorem star : "*errors.errorString" = "*" ++ "errors.errorString" := by decide
theorem rowS (u : TypeId) (h : Tryd.prog.typeName? 3 u = some "*errors.errorString") : u = 119 :=
  typeName_ptr_named (nm := "errors.errorString") (by rw [← star]; kernel_rfl) (by kernel_rfl) (by decide) u (by rw [← star]; exact h)
theorem cellsES : Tryd.prog.cellsOf 138 = 1 := by kernel_rfl
theorem cellsStr : Tryd.prog.cellsOf 9 = 1 := by kernel_rfl

def textIn : DataW Unit → List UInt8
  | .iface _ (.ptr (.agg [.lit (.string s)])) => s
  | _ => []
end Go.Proofs.YtcejpeohkgchdaaDoor
