/-
  Arguments that are writes on a tape.
  Conditions: none.
-/
import Derived.Test.YthelggcaggobaaaDoorVm
import Derived.Test.YthelggcaggobaaaDoorLaidA
import Derived.Deep.Strs
import Derived.ProofKit
import Derived.ChangeMaps5
namespace Go.Proofs.YthelggcaggobaaaDoor
open Go.ChangeShapes Go.WideShapes Go.RowKit

theorem cellsIntW : Tryd.prog.cellsOf 3 = 1 := by kernel_rfl
theorem cellsWr : Tryd.prog.cellsOf 44 = 3 := by kernel_rfl
theorem threeW {α : Type} : ∀ {l : List α}, l.length = 3 → ∃ a b c, l = [a, b, c]
  | [a, b, c], _ => ⟨a, b, c, rfl⟩
theorem int_topW {n : Int} (h : (Lit.int .i64 n).wf = true) : n ≤ 9223372036854775807 := by
  have h2 : (decide (IntKind.i64.min ≤ n) && decide (n ≤ IntKind.i64.max)) = true := h
  rw [Bool.and_eq_true, decide_eq_true_eq, decide_eq_true_eq] at h2
  exact Int.le_trans h2.2 (by decide)
section
variable {H : Type} {enc : TypeId × Value → H} {w : World}
set_option maxRecDepth 100000 in
theorem writes_of_trod {n : Nat} {v : Value} {x : DataW H × List MemPlace} (h : DataW.trod enc Tryd.prog w 0 (fun _ => true) true n 39 [v] = some x) : ∃ l, WrsAt w v l ∧ l.length ≤ maxLen := by
  rcases DataW.trod_slice Tryd.underlying39 h with ⟨hcs, _⟩ | ⟨a, len, cap, elems, rest, m, hfuel, hcs, hx, _, hlc, hlm, hel, hE, _, _⟩
  · simp only [List.cons.injEq, and_true] at hcs
    subst hcs
    exact ⟨[], ⟨none, 0, rfl, fun i x hx => by simp at hx⟩, by simp⟩
  · simp only [List.cons.injEq, and_true] at hcs
    subst hcs; subst hfuel
    have hone : ∀ i, i < len → ∃ p : TWr, (p.s.size ≤ 9223372036854775807 ∧ p.n ≤ 9223372036854775807) ∧ ∃ b off, a = ⟨b, off, none⟩ ∧ w.cell? ⟨b, off + i * 3, none⟩ = some (.string p.kind) ∧ w.cell? ⟨b, off + i * 3 + 1, none⟩ = some (.string p.s) ∧ w.cell? ⟨b, off + i * 3 + 2, none⟩ = some (.int .i64 p.n) := by
      intro i hi
      have hb := hE i hi
      rw [cellsWr] at hb
      obtain ⟨el, he⟩ : ∃ el, elems[i]? = some el := ⟨elems[i]'(by omega), List.getElem?_eq_getElem (by omega)⟩
      rw [he] at hb
      obtain ⟨cs, hc, ht⟩ := Option.bind_eq_some_iff.1 hb
      obtain ⟨_, hcl, hcc⟩ := World.cells?_some hc
      obtain ⟨xs, m1, hm1, hx1, _, hxl, hf⟩ := DataW.trod_struct Tryd.underlying44 ht
      obtain ⟨z0, z1, z2, rfl⟩ := threeW (show xs.length = 3 from hxl)
      obtain ⟨c0, c1, c2, rfl⟩ := threeW hcl
      have h0 : DataW.trod enc Tryd.prog w 0 (fun _ => true) true m1 9 ([c0, c1, c2].take (Tryd.prog.cellsOf 9)) = some z0 := hf 0 _ rfl
      have h1 : DataW.trod enc Tryd.prog w 0 (fun _ => true) true m1 9 ([c1, c2].take (Tryd.prog.cellsOf 9)) = some z1 := hf 1 _ rfl
      have h2 : DataW.trod enc Tryd.prog w 0 (fun _ => true) true m1 3 ([c2].take (Tryd.prog.cellsOf 3)) = some z2 := hf 2 _ rfl
      rw [cellsStr] at h0 h1
      rw [cellsIntW] at h2
      obtain ⟨kind, e0, _, hk⟩ := DataW.trod_string Tryd.underlying9 h0
      obtain ⟨str, e1, _, hs⟩ := DataW.trod_string Tryd.underlying9 h1
      obtain ⟨nN, e2, _, w2⟩ := DataW.trod_int Tryd.underlying3 h2
      simp only [List.take_succ_cons, List.take_zero, List.cons.injEq, and_true] at e0 e1 e2
      subst e0; subst e1; subst e2
      have k0 := hcc 0 (by omega)
      have k1 := hcc 1 (by omega)
      have k2 := hcc 2 (by omega)
      simp only [List.getElem?_cons_zero, List.getElem?_cons_succ] at k0 k1 k2
      obtain ⟨b, off, rfl⟩ : ∃ b off, a = ⟨b, off, none⟩ := by
        have hb0 := hE 0 (by omega)
        rw [cellsWr] at hb0
        obtain ⟨el0, he0⟩ : ∃ el, elems[0]? = some el := ⟨elems[0]'(by omega), List.getElem?_eq_getElem (by omega)⟩
        rw [he0] at hb0
        obtain ⟨cs0, hc0, _⟩ := Option.bind_eq_some_iff.1 hb0
        obtain ⟨_, hcl0, hcc0⟩ := World.cells?_some hc0
        have j0 := hcc0 0 (by omega)
        rw [List.getElem?_eq_getElem (by omega)] at j0
        obtain ⟨b, off, spot⟩ := a
        have hsp : spot = none := by simpa [Addr.add] using World.cell?_spot j0
        subst hsp
        exact ⟨b, off, rfl⟩
      simp only [Addr.add_mid, Nat.add_zero] at k0 k1 k2
      exact ⟨⟨kind, str, nN⟩, ⟨Nat.le_trans hs (by decide), int_topW w2⟩, b, off, rfl, k0, k1, k2⟩
    haveI : Inhabited TWr := ⟨⟨⟨#[]⟩, ⟨#[]⟩, 0⟩⟩
    obtain ⟨f, hf⟩ := Deep.choose_lt hone
    refine ⟨(List.range len).map f, ⟨some a, cap, by simp, fun i y hy => ?_⟩, by simp; omega⟩
    have hi : i < len := by have := (List.getElem?_eq_some_iff.1 hy).1; simpa using this
    have ey : y = f i := by
      rw [List.getElem?_map, List.getElem?_range hi] at hy
      simpa using hy.symm
    subst ey
    obtain ⟨h1, b, off, e, q⟩ := hf i hi
    exact ⟨h1, b, off, by rw [e], q⟩
set_option maxRecDepth 100000 in
theorem writes_arg {base : Nat} {v : Value} {d : DataW H} {p : List MemPlace} (hval : Value.okWide Tryd.prog w .any base 39 v) (h : DataW.Trod enc Tryd.prog w 0 (fun _ => true) true 39 v d p) : ∃ l, WrsAt w v l ∧ l.length ≤ maxLen := by
  obtain ⟨va, vn, vc, rfl⟩ := okWide_slice Tryd.underlying39 hval
  obtain ⟨fuel, hf⟩ := h
  exact writes_of_trod hf
end
end Go.Proofs.YthelggcaggobaaaDoor
