/-
  Arguments that are wants of space.
  Conditions: none.
-/
import Derived.Test.YtddmpecljcfjnaaDoorSpW
import Derived.Test.YtddmpecljcfjnaaDoorArgI
namespace Go.Proofs.YtddmpecljcfjnaaDoor
open Go.ChangeShapes Go.WideShapes Go.RowKit

theorem cellsBo : Tryd.prog.cellsOf 4 = 1 := by kernel_rfl
theorem cellsWant : Tryd.prog.cellsOf 42 = 3 := by kernel_rfl
theorem three3 {α : Type} : ∀ {l : List α}, l.length = 3 → ∃ a b c, l = [a, b, c]
  | [a, b, c], _ => ⟨a, b, c, rfl⟩
section
variable {H : Type} {enc : TypeId × Value → H} {w : World}
set_option maxRecDepth 100000 in
theorem wants_of_trod {n : Nat} {v : Value} {x : DataW H × List MemPlace} (h : DataW.trod enc Tryd.prog w 0 (fun _ => true) true n 39 [v] = some x) : ∃ l, WantsAt w v l := by
  rcases DataW.trod_slice Tryd.underlying39 h with ⟨hcs, _⟩ | ⟨a, len, cap, elems, rest, m, hfuel, hcs, hx, _, hlc, _, hel, hE, _, _⟩
  · simp only [List.cons.injEq, and_true] at hcs
    subst hcs
    exact ⟨[], none, 0, rfl, fun i x hx => by simp at hx⟩
  · simp only [List.cons.injEq, and_true] at hcs
    subst hcs; subst hfuel
    have hone : ∀ i, i < len → ∃ p : SWant, ∃ b off ga gc, a = ⟨b, off, none⟩ ∧ w.cell? ⟨b, off + i * 3, none⟩ = some (.int .i64 p.take) ∧ w.cell? ⟨b, off + i * 3 + 1, none⟩ = some (.slice ga p.give.length gc) ∧ w.cell? ⟨b, off + i * 3 + 2, none⟩ = some (.bool p.is) ∧ IntsAt w (.slice ga p.give.length gc) p.give := by
      intro i hi
      have hb := hE i hi
      rw [cellsWant] at hb
      obtain ⟨el, he⟩ : ∃ el, elems[i]? = some el := ⟨elems[i]'(by omega), List.getElem?_eq_getElem (by omega)⟩
      rw [he] at hb
      obtain ⟨cs, hc, ht⟩ := Option.bind_eq_some_iff.1 hb
      obtain ⟨_, hcl, hcc⟩ := World.cells?_some hc
      obtain ⟨xs, m1, hm1, hx1, _, hxl, hf⟩ := DataW.trod_struct Tryd.underlying42 ht
      obtain ⟨z0, z1, z2, rfl⟩ := three3 (show xs.length = 3 from hxl)
      obtain ⟨c0, c1, c2, rfl⟩ := three3 hcl
      have h0 : DataW.trod enc Tryd.prog w 0 (fun _ => true) true m1 3 ([c0, c1, c2].take (Tryd.prog.cellsOf 3)) = some z0 := hf 0 _ rfl
      have h1 : DataW.trod enc Tryd.prog w 0 (fun _ => true) true m1 22 ([c1, c2].take (Tryd.prog.cellsOf 22)) = some z1 := hf 1 _ rfl
      have h2 : DataW.trod enc Tryd.prog w 0 (fun _ => true) true m1 4 ([c2].take (Tryd.prog.cellsOf 4)) = some z2 := hf 2 _ rfl
      rw [cellsI] at h0
      rw [cellsIs] at h1
      rw [cellsBo] at h2
      obtain ⟨k, e0, _, _⟩ := DataW.trod_int Tryd.underlying3 h0
      obtain ⟨l, hl⟩ := ints_of_trod (v := c1) h1
      obtain ⟨is, e2, _, _⟩ := DataW.trod_bool Tryd.underlying4 h2
      simp only [List.take_succ_cons, List.take_zero, List.cons.injEq, and_true] at e0 e2
      subst e0; subst e2
      have hl' := hl
      obtain ⟨ga, gc, rfl, _⟩ := hl
      have k0 := hcc 0 (by omega)
      have k1 := hcc 1 (by omega)
      have k2 := hcc 2 (by omega)
      simp only [List.getElem?_cons_zero, List.getElem?_cons_succ] at k0 k1 k2
      obtain ⟨b, off, rfl⟩ : ∃ b off, a = ⟨b, off, none⟩ := by
        have hb0 := hE 0 (by omega)
        rw [cellsWant] at hb0
        obtain ⟨el0, he0⟩ : ∃ el, elems[0]? = some el := ⟨elems[0]'(by omega), List.getElem?_eq_getElem (by omega)⟩
        rw [he0] at hb0
        obtain ⟨cs0, hc0, _⟩ := Option.bind_eq_some_iff.1 hb0
        obtain ⟨_, hcl0, hcc0⟩ := World.cells?_some hc0
        have j0 := hcc0 0 (by omega)
        rw [List.getElem?_eq_getElem (by omega)] at j0
        obtain ⟨b, off, spot⟩ := a
        have hsp : spot = none := by simpa [Addr.add] using World.cell?_spot j0
        subst hsp
        exact ⟨b, off, rfl⟩
      simp only [Addr.add_mid, Nat.add_zero] at k0 k1 k2
      exact ⟨⟨k, l, is⟩, b, off, ga, gc, rfl, k0, k1, k2, hl'⟩
    haveI : Inhabited SWant := ⟨⟨0, [], false⟩⟩
    obtain ⟨f, hf⟩ := Deep.choose_lt hone
    refine ⟨(List.range len).map f, some a, cap, by simp, fun i y hy => ?_⟩
    have hi : i < len := by have := (List.getElem?_eq_some_iff.1 hy).1; simpa using this
    have ey : y = f i := by
      rw [List.getElem?_map, List.getElem?_range hi] at hy
      simpa using hy.symm
    subst ey
    obtain ⟨b, off, ga, gc, e, q⟩ := hf i hi
    exact ⟨b, off, ga, gc, by rw [e], q⟩
set_option maxRecDepth 100000 in
theorem wants_arg {base : Nat} {v : Value} {d : DataW H} {p : List MemPlace} (hval : Value.okWide Tryd.prog w .any base 39 v) (h : DataW.Trod enc Tryd.prog w 0 (fun _ => true) true 39 v d p) : ∃ l, WantsAt w v l := by
  obtain ⟨va, vn, vc, rfl⟩ := okWide_slice Tryd.underlying39 hval
  obtain ⟨fuel, hf⟩ := h
  exact wants_of_trod hf
end
end Go.Proofs.YtddmpecljcfjnaaDoor
