/-
  An argument that is packs.
  Conditions: the row's own reach.
-/
import Derived.Test.YtlaenhohjcjilaaDoorArg
import Derived.Test.YtlaenhohjcjilaaDoorRl
import Derived.Deep.Strs
namespace Go.Proofs.YtlaenhohjcjilaaDoor
open Go.ChangeShapes Go.WideShapes Go.RowKit

theorem cellsPack : Tryd.prog.cellsOf 49 = 6 := by kernel_rfl
theorem cellsStrs : Tryd.prog.cellsOf 23 = 1 := by kernel_rfl
theorem bytesPack : Tryd.prog.bytesOf 49 = 104 := by kernel_rfl
theorem listP3 {α : Type} : ∀ {l : List α}, l.length = 3 → ∃ a b c, l = [a, b, c]
  | [a, b, c], _ => ⟨a, b, c, rfl⟩
theorem listP6 {α : Type} : ∀ {l : List α}, l.length = 6 → ∃ a b c d e f, l = [a, b, c, d, e, f]
  | [a, b, c, d, e, f], _ => ⟨a, b, c, d, e, f, rfl⟩
section
variable {H : Type} {enc : TypeId × Value → H} {w : World}
theorem texts_of_trodP {n : Nat} {v : Value} {x : DataW H × List MemPlace} (hf : DataW.trod enc Tryd.prog w 0 (fun _ => true) true n 23 [v] = some x) : ∃ l ua uc, v = .slice ua l.length uc ∧ Texts w v l ∧ l.length ≤ maxLen ∧ ∀ x ∈ l, x.size ≤ maxLen := by
  rcases Deep.open_strs Tryd.underlying23 Tryd.underlying9 cellsStr hf with ⟨e, _⟩ | ⟨a, len, cap, m, Sx, e, _, hlc, hcm, hm, _, hcell⟩
  · have e' : [v] = [.slice none 0 0] := e
    simp only [List.cons.injEq, and_true] at e'
    subst e'
    exact ⟨[], none, 0, rfl, ⟨none, 0, rfl, fun i x hx => by simp at hx⟩, by simp, fun x hx => by simp at hx⟩
  · have e' : [v] = [.slice (some a) len cap] := e
    simp only [List.cons.injEq, and_true] at e'
    subst e'
    have hmc : m = cap := by rw [hm]; rfl
    refine ⟨(List.range len).map Sx, some a, cap, by simp, ⟨some a, cap, by simp, fun i x hx => ?_⟩, by simp; omega, fun x hx => ?_⟩
    · have hi : i < len := by have := (List.getElem?_eq_some_iff.1 hx).1; simpa using this
      rw [List.getElem?_map, List.getElem?_range hi] at hx
      simp only [Option.map_some, Option.some.injEq] at hx
      subst hx
      have hc := (hcell i (by omega)).1
      have h0 := (hcell 0 (by omega)).1
      obtain ⟨b, off, spot⟩ := a
      have hsp : spot = none := by simpa [Addr.add] using World.cell?_spot h0
      subst hsp
      refine ⟨b, off, rfl, ?_⟩
      have hadd : (⟨b, off, none⟩ : Addr).add i = ⟨b, off + i, none⟩ := by unfold Addr.add; split <;> simp_all
      rw [hadd] at hc
      exact hc
    · obtain ⟨i, hi, rfl⟩ := List.mem_map.1 hx
      exact (hcell i (by have := List.mem_range.1 hi; omega)).2
set_option maxRecDepth 100000 in
theorem packs_of_trod {n : Nat} {v : Value} {x : DataW H × List MemPlace} (h : DataW.trod enc Tryd.prog w 0 (fun _ => true) true n 22 [v] = some x) (hw : ∀ m ∈ x.1.weights Tryd.prog 22, m ≤ reachBytes) : ∃ l, PkArg w v l := by
  rcases DataW.trod_slice Tryd.underlying22 h with ⟨hcs, _⟩ | ⟨a, len, cap, elems, rest, m, hfuel, hcs, hx, _, hlc, hcm, hel, hE, _, _⟩
  · simp only [List.cons.injEq, and_true] at hcs
    subst hcs
    exact ⟨[], [], rfl, none, 0, rfl, by simp, fun i c hc => by simp at hc⟩
  · simp only [List.cons.injEq, and_true] at hcs
    subst hcs; subst hfuel
    have hwd : x.1.weights Tryd.prog 22 = ((elems.map (·.1)).length + (rest.map (·.1)).length) * 104 :: (DataW.weightsAll Tryd.prog 49 (elems.map (·.1)) ++ DataW.weightsAll Tryd.prog 49 (rest.map (·.1))) := by
      rw [hx, DataW.weights]; simp only [Tryd.underlying22, bytesPack]
    have hone : ∀ i, i < len → ∃ x : PkG w, x.pk.name.size ≤ 9223372036854775807 ∧ x.pk.refs.length ≤ 9223372036854775807 ∧ x.kn ≤ 9223372036854775807 ∧ (∀ r ∈ x.pk.refs, r.size ≤ 9223372036854775807) ∧ ∃ b off, some a = some ⟨b, off, none⟩ ∧
        w.cell? ⟨b, off + i * 6, none⟩ = some (.string x.pk.name) ∧ w.cell? ⟨b, off + i * 6 + 1, none⟩ = some (.slice x.ua x.pk.refs.length x.uc) ∧ w.cell? ⟨b, off + i * 6 + 2, none⟩ = some (.string x.kd) ∧ w.cell? ⟨b, off + i * 6 + 3, none⟩ = some (.string x.dt) ∧ w.cell? ⟨b, off + i * 6 + 4, none⟩ = some (.bool x.ex) ∧ w.cell? ⟨b, off + i * 6 + 5, none⟩ = some (.slice x.ka x.kn x.kc) := by
      intro i hi
      have hb := hE i hi
      rw [cellsPack] at hb
      obtain ⟨el, he⟩ : ∃ el, elems[i]? = some el := ⟨elems[i]'(by omega), List.getElem?_eq_getElem (by omega)⟩
      rw [he] at hb
      obtain ⟨cs, hc, ht⟩ := Option.bind_eq_some_iff.1 hb
      obtain ⟨_, hcl, hcc⟩ := World.cells?_some hc
      obtain ⟨xs, m1, hm1, hx1, _, hxl, hf⟩ := DataW.trod_struct Tryd.underlying49 ht
      have hwel : ∀ q ∈ el.1.weights Tryd.prog 49, q ≤ reachBytes := fun q hq => hw q (by
        rw [hwd]
        exact List.mem_cons_of_mem _ (List.mem_append_left _ (weights_all (List.mem_map.2 ⟨el, List.mem_of_getElem? he, rfl⟩) q hq)))
      obtain ⟨z0, z1, z2, rfl⟩ := listP3 (show xs.length = 3 from hxl)
      obtain ⟨c0, c1, c2, c3, c4, c5, rfl⟩ := listP6 hcl
      have h0 : DataW.trod enc Tryd.prog w 0 (fun _ => true) true m1 9 ([c0, c1, c2, c3, c4, c5].take (Tryd.prog.cellsOf 9)) = some z0 := hf 0 _ rfl
      have h1 : DataW.trod enc Tryd.prog w 0 (fun _ => true) true m1 23 ([c1, c2, c3, c4, c5].take (Tryd.prog.cellsOf 23)) = some z1 := hf 1 _ rfl
      have h2 : DataW.trod enc Tryd.prog w 0 (fun _ => true) true m1 47 ([c2, c3, c4, c5].take (Tryd.prog.cellsOf 47)) = some z2 := hf 2 _ rfl
      rw [cellsStr] at h0
      rw [cellsStrs] at h1
      rw [cellsNode] at h2
      obtain ⟨name, e0, _, hk⟩ := DataW.trod_string Tryd.underlying9 h0
      obtain ⟨refs, ua, uc, rfl, htx, hrl, hrs⟩ := texts_of_trodP (v := c1) h1
      have hwn : ∀ q ∈ z2.1.weights Tryd.prog 47, q ≤ reachBytes := fun q hq => hwel q (by
        rw [hx1]
        have hwd2 : DataW.weights Tryd.prog 49 (.agg ([z0, z1, z2].map (·.1))) = DataW.weightsEach Tryd.prog [9, 23, 47] ([z0, z1, z2].map (·.1)) := by
          rw [DataW.weights]; simp only [Tryd.underlying49]; rfl
        rw [hwd2]
        exact DataW.weights_mem_each (j := 2) rfl rfl q hq)
      have h2' : DataW.trod enc Tryd.prog w 0 (fun _ => true) true m1 47 [c2, c3, c4, c5] = some z2 := h2
      obtain ⟨nk, ndd, ne, u, y, m2, hm2, ee, hy, hwy, _⟩ := node_of_trod h2' hwn
      obtain ⟨kl, hkl⟩ := lies_of_trod m2 u y hy hwy
      obtain ⟨ka, kc, rfl, hkn⟩ : ∃ ka kc, u = .slice ka kl.length kc ∧ kl.length ≤ 1759218604390 := by
        cases m2 with
        | zero => exact hkl.elim
        | succ m2 =>
          obtain ⟨ka, kc, e, hl, _⟩ := hkl
          exact ⟨ka, kc, e, hl⟩
      simp only [List.take_succ_cons, List.take_zero, List.cons.injEq, and_true] at e0 ee
      subst e0
      obtain ⟨rfl, rfl, rfl, rfl⟩ := ee
      have k0 := hcc 0 (by omega)
      have k1 := hcc 1 (by omega)
      have k2 := hcc 2 (by omega)
      have k3 := hcc 3 (by omega)
      have k4 := hcc 4 (by omega)
      have k5 := hcc 5 (by omega)
      simp only [List.getElem?_cons_zero, List.getElem?_cons_succ] at k0 k1 k2 k3 k4 k5
      obtain ⟨b, off, rfl⟩ : ∃ b off, a = ⟨b, off, none⟩ := by
        have hb0 := hE 0 (by omega)
        rw [cellsPack] at hb0
        obtain ⟨el0, he0⟩ : ∃ el, elems[0]? = some el := ⟨elems[0]'(by omega), List.getElem?_eq_getElem (by omega)⟩
        rw [he0] at hb0
        obtain ⟨cs0, hc0, _⟩ := Option.bind_eq_some_iff.1 hb0
        obtain ⟨_, hcl0, hcc0⟩ := World.cells?_some hc0
        have j0 := hcc0 0 (by omega)
        rw [List.getElem?_eq_getElem (by omega)] at j0
        obtain ⟨b, off, spot⟩ := a
        have hsp : spot = none := by simpa [Addr.add] using World.cell?_spot j0
        subst hsp
        exact ⟨b, off, rfl⟩
      simp only [Addr.add_mid, Nat.add_zero] at k0 k1 k2 k3 k4 k5
      unfold maxLen at hk hrl hrs
      exact ⟨⟨⟨name, refs⟩, ua, uc, nk, ndd, ne, ka, kl.length, kc, htx⟩, hk, hrl, by simp only; omega, hrs, b, off, rfl, k0, k1, k2, k3, k4, k5⟩
    haveI : Inhabited (PkG w) := ⟨⟨⟨ByteArray.empty, []⟩, none, 0, ByteArray.empty, ByteArray.empty, false, none, 0, 0, texts_none w none 0⟩⟩
    obtain ⟨f, hf⟩ := Deep.choose_lt hone
    refine ⟨_, (List.range len).map f, rfl, some a, cap, by simp, by unfold maxLen at hcm; simp; omega, fun i y hy => ?_⟩
    have hi : i < len := by have := (List.getElem?_eq_some_iff.1 hy).1; simpa using this
    have ey : y = f i := by
      rw [List.getElem?_map, List.getElem?_range hi] at hy
      simpa using hy.symm
    subst ey
    exact hf i hi
set_option maxRecDepth 100000 in
theorem packs_arg {base : Nat} {v : Value} {d : DataW H} {p : List MemPlace} (hval : Value.okWide Tryd.prog w .any base 22 v) (h : DataW.Trod enc Tryd.prog w 0 (fun _ => true) true 22 v d p) (hw : ∀ m ∈ d.weights Tryd.prog 22, m ≤ reachBytes) : ∃ l, PkArg w v l := by
  obtain ⟨va, vn, vc, rfl⟩ := okWide_slice Tryd.underlying22 hval
  obtain ⟨fuel, hf⟩ := h
  exact packs_of_trod hf hw
set_option maxRecDepth 100000 in
theorem texts_argP {base : Nat} {v : Value} {d : DataW H} {p : List MemPlace} (hval : Value.okWide Tryd.prog w .any base 23 v) (h : DataW.Trod enc Tryd.prog w 0 (fun _ => true) true 23 v d p) :
    ∃ l, Texts w v l ∧ l.length ≤ 9223372036854775807 ∧ ∀ x ∈ l, x.size ≤ 9223372036854775807 := by
  obtain ⟨va, vn, vc, rfl⟩ := okWide_slice Tryd.underlying23 hval
  obtain ⟨fuel, hf⟩ := h
  obtain ⟨l, _, _, _, h1, h2, h3⟩ := texts_of_trodP hf
  unfold maxLen at h2 h3
  exact ⟨l, h1, h2, h3⟩
end
end Go.Proofs.YtlaenhohjcjilaaDoor
