/-
  An argument that is acts on files.
  Conditions: none.
-/
import Derived.Test.YtcjocgpdlmdflaaDoorImA
import Derived.Test.YtcjocgpdlmdflaaDoorArgI
import Derived.Test.YtcjocgpdlmdflaaDoorRows
import Derived.ProofKit
import Derived.SizedLaws
import Derived.ChangeSlices
import Derived.Deep.Slices
import Derived.Lib.SmallJoins
import Derived.ChangeSame
import Derived.ChangeVars
import Derived.Carry
namespace Go.Proofs.YtcjocgpdlmdflaaDoor
open Go.ChangeShapes Go.WideShapes Go.RowKit

theorem cellsFS : Tryd.prog.cellsOf 9 = 1 := by kernel_rfl
theorem cellsFB : Tryd.prog.cellsOf 4 = 1 := by kernel_rfl
theorem cellsFAct : Tryd.prog.cellsOf 32 = 5 := by kernel_rfl
theorem fiveF {α : Type} : ∀ {l : List α}, l.length = 5 → ∃ a b c d e, l = [a, b, c, d, e]
  | [a, b, c, d, e], _ => ⟨a, b, c, d, e, rfl⟩

section
variable {H : Type} {enc : TypeId × Value → H} {w : World}
set_option maxRecDepth 100000 in
theorem facts_of_trod {n : Nat} {v : Value} {x : DataW H × List MemPlace} (h : DataW.trod enc Tryd.prog w 0 (fun _ => true) true n 22 [v] = some x) : ∃ l, FActsAt w v l := by
  rcases DataW.trod_slice Tryd.underlying22 h with ⟨hcs, _⟩ | ⟨a, len, cap, elems, rest, m, hfuel, hcs, hx, _, hlc, _, hel, hE, _, _⟩
  · simp only [List.cons.injEq, and_true] at hcs
    subst hcs
    exact ⟨[], none, 0, rfl, fun i x hx => by simp at hx⟩
  · simp only [List.cons.injEq, and_true] at hcs
    subst hcs; subst hfuel
    have hone : ∀ i, i < len → ∃ p : FAct, (Lit.int .i64 p.n).wf = true ∧ (Lit.int .i64 p.bit).wf = true ∧ p.s.size ≤ maxLen ∧ ∃ b off, a = ⟨b, off, none⟩ ∧ w.cell? ⟨b, off + i * 5, none⟩ = some (.string p.kind) ∧ w.cell? ⟨b, off + i * 5 + 1, none⟩ = some (.string p.s) ∧ w.cell? ⟨b, off + i * 5 + 2, none⟩ = some (.bool p.exec) ∧ w.cell? ⟨b, off + i * 5 + 3, none⟩ = some (.int .i64 p.n) ∧ w.cell? ⟨b, off + i * 5 + 4, none⟩ = some (.int .i64 p.bit) := by
      intro i hi
      have hb := hE i hi
      rw [cellsFAct] at hb
      obtain ⟨el, he⟩ : ∃ el, elems[i]? = some el := ⟨elems[i]'(by omega), List.getElem?_eq_getElem (by omega)⟩
      rw [he] at hb
      obtain ⟨cs, hc, ht⟩ := Option.bind_eq_some_iff.1 hb
      obtain ⟨_, hcl, hcc⟩ := World.cells?_some hc
      obtain ⟨xs, m1, hm1, hx1, _, hxl, hf⟩ := DataW.trod_struct Tryd.underlying32 ht
      obtain ⟨z0, z1, z2, z3, z4, rfl⟩ := fiveF (show xs.length = 5 from hxl)
      obtain ⟨c0, c1, c2, c3, c4, rfl⟩ := fiveF hcl
      have h0 : DataW.trod enc Tryd.prog w 0 (fun _ => true) true m1 9 ([c0, c1, c2, c3, c4].take (Tryd.prog.cellsOf 9)) = some z0 := hf 0 _ rfl
      have h1 : DataW.trod enc Tryd.prog w 0 (fun _ => true) true m1 9 ([c1, c2, c3, c4].take (Tryd.prog.cellsOf 9)) = some z1 := hf 1 _ rfl
      have h2 : DataW.trod enc Tryd.prog w 0 (fun _ => true) true m1 4 ([c2, c3, c4].take (Tryd.prog.cellsOf 4)) = some z2 := hf 2 _ rfl
      have h3 : DataW.trod enc Tryd.prog w 0 (fun _ => true) true m1 3 ([c3, c4].take (Tryd.prog.cellsOf 3)) = some z3 := hf 3 _ rfl
      have h4 : DataW.trod enc Tryd.prog w 0 (fun _ => true) true m1 3 ([c4].take (Tryd.prog.cellsOf 3)) = some z4 := hf 4 _ rfl
      rw [cellsFS] at h0 h1
      rw [cellsFB] at h2
      rw [cellsI] at h3 h4
      obtain ⟨kind, e0, _, _⟩ := DataW.trod_string Tryd.underlying9 h0
      obtain ⟨s, e1, _, hs1⟩ := DataW.trod_string Tryd.underlying9 h1
      obtain ⟨ex, e2, _⟩ := DataW.trod_bool Tryd.underlying4 h2
      obtain ⟨k, e3, _, hw3⟩ := DataW.trod_int Tryd.underlying3 h3
      obtain ⟨bit, e4, _, hw4⟩ := DataW.trod_int Tryd.underlying3 h4
      simp only [List.take_succ_cons, List.take_zero, List.cons.injEq, and_true] at e0 e1 e2 e3 e4
      subst e0; subst e1; subst e2; subst e3; subst e4
      have k0 := hcc 0 (by omega)
      have k1 := hcc 1 (by omega)
      have k2 := hcc 2 (by omega)
      have k3 := hcc 3 (by omega)
      have k4 := hcc 4 (by omega)
      simp only [List.getElem?_cons_zero, List.getElem?_cons_succ] at k0 k1 k2 k3 k4
      obtain ⟨b, off, rfl⟩ : ∃ b off, a = ⟨b, off, none⟩ := by
        have hb0 := hE 0 (by omega)
        rw [cellsFAct] at hb0
        obtain ⟨el0, he0⟩ : ∃ el, elems[0]? = some el := ⟨elems[0]'(by omega), List.getElem?_eq_getElem (by omega)⟩
        rw [he0] at hb0
        obtain ⟨cs0, hc0, _⟩ := Option.bind_eq_some_iff.1 hb0
        obtain ⟨_, hcl0, hcc0⟩ := World.cells?_some hc0
        have j0 := hcc0 0 (by omega)
        rw [List.getElem?_eq_getElem (by omega)] at j0
        obtain ⟨b, off, spot⟩ := a
        have hsp : spot = none := by simpa [Addr.add] using World.cell?_spot j0
        subst hsp
        exact ⟨b, off, rfl⟩
      simp only [Addr.add_mid, Nat.add_zero] at k0 k1 k2 k3 k4
      exact ⟨⟨kind, s, ex, k, bit⟩, hw3, hw4, hs1, b, off, rfl, k0, k1, k2, k3, k4⟩
    haveI : Inhabited FAct := ⟨⟨ByteArray.empty, ByteArray.empty, false, 0, 0⟩⟩
    obtain ⟨f, hf⟩ := Deep.choose_lt hone
    refine ⟨(List.range len).map f, some a, cap, by simp, fun i y hy => ?_⟩
    have hi : i < len := by have := (List.getElem?_eq_some_iff.1 hy).1; simpa using this
    have ey : y = f i := by
      rw [List.getElem?_map, List.getElem?_range hi] at hy
      simpa using hy.symm
    subst ey
    obtain ⟨q1, q2, q3, b, off, e, q⟩ := hf i hi
    exact ⟨q1, q2, q3, b, off, by rw [e], q⟩
set_option maxRecDepth 100000 in
theorem facts_arg {base : Nat} {v : Value} {d : DataW H} {p : List MemPlace} (hval : Value.okWide Tryd.prog w .any base 22 v) (h : DataW.Trod enc Tryd.prog w 0 (fun _ => true) true 22 v d p) : ∃ l, FActsAt w v l := by
  obtain ⟨va, vn, vc, rfl⟩ := okWide_slice Tryd.underlying22 hval
  obtain ⟨fuel, hf⟩ := h
  exact facts_of_trod hf
end
end Go.Proofs.YtcjocgpdlmdflaaDoor
