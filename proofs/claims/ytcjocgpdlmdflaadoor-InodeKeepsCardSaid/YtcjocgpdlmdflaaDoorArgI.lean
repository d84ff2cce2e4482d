/-
  Arguments that are numbers.
  Conditions: none.
-/
import Derived.Test.YtcjocgpdlmdflaaDoorInts
import Derived.Test.YtcjocgpdlmdflaaDoorRows
import Derived.ProofKit
import Derived.SizedLaws
import Derived.ChangeSlices
import Derived.Deep.Slices
import Derived.Lib.SmallJoins
import Derived.ChangeSame
import Derived.ChangeVars
import Derived.Carry
namespace Go.Proofs.YtcjocgpdlmdflaaDoor
open Go.ChangeShapes Go.WideShapes Go.RowKit

theorem own_knob : ownKnob Tryd.prog.godebug = none := by kernel_rfl
theorem laid_out : laidOutB Tryd.prog = true := by kernel_rfl
theorem cellsI : Tryd.prog.cellsOf 3 = 1 := by kernel_rfl
theorem cellsIs : Tryd.prog.cellsOf 30 = 1 := by kernel_rfl

section
variable {H : Type} {enc : TypeId × Value → H} {w : World}
theorem ints_of_trod {n : Nat} {v : Value} {x : DataW H × List MemPlace} (h : DataW.trod enc Tryd.prog w 0 (fun _ => true) true n 30 [v] = some x) : ∃ l, IntsAt w v l := by
  rcases open_ints Tryd.underlying30 Tryd.underlying3 cellsI h with ⟨e, _⟩ | ⟨a, len, cap, zs, e, _, hlc, _, hzl, _, hc, _⟩
  · simp only [List.cons.injEq, and_true] at e
    subst e
    exact ⟨[], IntsAt.nil _⟩
  · simp only [List.cons.injEq, and_true] at e
    subst e
    have hzl' : zs.length = cap := by rw [hzl]; rfl
    refine ⟨zs.take len, some a, cap, by rw [List.length_take, Nat.min_eq_left (by omega)], fun i y hy => ?_⟩
    have hi : i < len := by have := (List.getElem?_eq_some_iff.1 hy).1; rw [List.length_take] at this; omega
    rw [List.getElem?_take_of_lt hi] at hy
    have hc0 := hc i (by omega)
    have hg : zs.getD i 0 = y := by simp [List.getD, hy]
    rw [hg] at hc0
    obtain ⟨b, off, spot⟩ := a
    have h0 := hc 0 (by omega)
    have hsp : spot = none := by simpa [Addr.add] using World.cell?_spot h0
    subst hsp
    refine ⟨b, off, rfl, ?_⟩
    rw [Addr.add_mid] at hc0
    exact hc0

set_option maxRecDepth 100000 in
theorem ints_arg {base : Nat} {v : Value} {d : DataW H} {p : List MemPlace} (hval : Value.okWide Tryd.prog w .any base 30 v) (h : DataW.Trod enc Tryd.prog w 0 (fun _ => true) true 30 v d p) : ∃ l, IntsAt w v l := by
  obtain ⟨va, vn, vc, rfl⟩ := okWide_slice Tryd.underlying30 hval
  obtain ⟨fuel, hf⟩ := h
  exact ints_of_trod hf
end
end Go.Proofs.YtcjocgpdlmdflaaDoor
