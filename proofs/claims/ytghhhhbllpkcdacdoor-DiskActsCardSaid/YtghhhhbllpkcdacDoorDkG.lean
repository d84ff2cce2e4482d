/-
  Arguments that are numbers, and acts on a disk; five of them.
  Conditions: none.
-/
import Derived.Test.YtghhhhbllpkcdacDoorDkP
import Derived.Test.YtghhhhbllpkcdacDoorRows
import Derived.ProofKit
import Derived.SizedLaws
import Derived.ChangeSlices
import Derived.Deep.Slices
import Derived.Lib.SmallJoins
import Derived.ChangeSame
import Derived.ChangeVars
import Derived.Carry
namespace Go.Proofs.YtghhhhbllpkcdacDoor
open Go.ChangeShapes Go.WideShapes Go.RowKit

theorem own_knob : ownKnob Tryd.prog.godebug = none := by kernel_rfl
theorem laid_out : laidOutB Tryd.prog = true := by kernel_rfl
theorem cellsI : Tryd.prog.cellsOf 3 = 1 := by kernel_rfl
theorem cellsIs : Tryd.prog.cellsOf 23 = 1 := by kernel_rfl
theorem cellsS : Tryd.prog.cellsOf 9 = 1 := by kernel_rfl
theorem cellsAct : Tryd.prog.cellsOf 31 = 5 := by kernel_rfl
theorem five {α : Type} : ∀ {l : List α}, l.length = 5 → ∃ a b c d e, l = [a, b, c, d, e]
  | [a, b, c, d, e], _ => ⟨a, b, c, d, e, rfl⟩

section
variable {H : Type} {enc : TypeId × Value → H} {w : World}
theorem ints_of_trod {n : Nat} {v : Value} {x : DataW H × List MemPlace} (h : DataW.trod enc Tryd.prog w 0 (fun _ => true) true n 23 [v] = some x) : ∃ l, IntsAt w v l := by
  rcases open_ints Tryd.underlying23 Tryd.underlying3 cellsI h with ⟨e, _⟩ | ⟨a, len, cap, zs, e, _, hlc, _, hzl, _, hc, _⟩
  · simp only [List.cons.injEq, and_true] at e
    subst e
    exact ⟨[], IntsAt.nil _⟩
  · simp only [List.cons.injEq, and_true] at e
    subst e
    have hzl' : zs.length = cap := by rw [hzl]; rfl
    refine ⟨zs.take len, some a, cap, by rw [List.length_take, Nat.min_eq_left (by omega)], fun i y hy => ?_⟩
    have hi : i < len := by have := (List.getElem?_eq_some_iff.1 hy).1; rw [List.length_take] at this; omega
    rw [List.getElem?_take_of_lt hi] at hy
    have hc0 := hc i (by omega)
    have hg : zs.getD i 0 = y := by simp [List.getD, hy]
    rw [hg] at hc0
    obtain ⟨b, off, spot⟩ := a
    have h0 := hc 0 (by omega)
    have hsp : spot = none := by simpa [Addr.add] using World.cell?_spot h0
    subst hsp
    refine ⟨b, off, rfl, ?_⟩
    rw [Addr.add_mid] at hc0
    exact hc0

set_option maxRecDepth 100000 in
theorem acts_of_trod {n : Nat} {v : Value} {x : DataW H × List MemPlace} (h : DataW.trod enc Tryd.prog w 0 (fun _ => true) true n 22 [v] = some x) : ∃ l, ActsAt w v l := by
  rcases DataW.trod_slice Tryd.underlying22 h with ⟨hcs, _⟩ | ⟨a, len, cap, elems, rest, m, hfuel, hcs, hx, _, hlc, _, hel, hE, _, _⟩
  · simp only [List.cons.injEq, and_true] at hcs
    subst hcs
    exact ⟨[], none, 0, rfl, fun i x hx => by simp at hx⟩
  · simp only [List.cons.injEq, and_true] at hcs
    subst hcs; subst hfuel
    have hone : ∀ i, i < len → ∃ p : DAct, ∃ b off kv, a = ⟨b, off, none⟩ ∧ w.cell? ⟨b, off + i * 5, none⟩ = some (.string p.kind) ∧ w.cell? ⟨b, off + i * 5 + 1, none⟩ = some (.string p.s) ∧ w.cell? ⟨b, off + i * 5 + 2, none⟩ = some (.int .i64 p.k) ∧ w.cell? ⟨b, off + i * 5 + 3, none⟩ = some (.int .i64 p.bit) ∧ w.cell? ⟨b, off + i * 5 + 4, none⟩ = some kv ∧ IntsAt w kv p.keep := by
      intro i hi
      have hb := hE i hi
      rw [cellsAct] at hb
      obtain ⟨el, he⟩ : ∃ el, elems[i]? = some el := ⟨elems[i]'(by omega), List.getElem?_eq_getElem (by omega)⟩
      rw [he] at hb
      obtain ⟨cs, hc, ht⟩ := Option.bind_eq_some_iff.1 hb
      obtain ⟨_, hcl, hcc⟩ := World.cells?_some hc
      obtain ⟨xs, m1, hm1, hx1, _, hxl, hf⟩ := DataW.trod_struct Tryd.underlying31 ht
      obtain ⟨z0, z1, z2, z3, z4, rfl⟩ := five (show xs.length = 5 from hxl)
      obtain ⟨c0, c1, c2, c3, c4, rfl⟩ := five hcl
      have h0 : DataW.trod enc Tryd.prog w 0 (fun _ => true) true m1 9 ([c0, c1, c2, c3, c4].take (Tryd.prog.cellsOf 9)) = some z0 := hf 0 _ rfl
      have h1 : DataW.trod enc Tryd.prog w 0 (fun _ => true) true m1 9 ([c1, c2, c3, c4].take (Tryd.prog.cellsOf 9)) = some z1 := hf 1 _ rfl
      have h2 : DataW.trod enc Tryd.prog w 0 (fun _ => true) true m1 3 ([c2, c3, c4].take (Tryd.prog.cellsOf 3)) = some z2 := hf 2 _ rfl
      have h3 : DataW.trod enc Tryd.prog w 0 (fun _ => true) true m1 3 ([c3, c4].take (Tryd.prog.cellsOf 3)) = some z3 := hf 3 _ rfl
      have h4 : DataW.trod enc Tryd.prog w 0 (fun _ => true) true m1 23 ([c4].take (Tryd.prog.cellsOf 23)) = some z4 := hf 4 _ rfl
      rw [cellsS] at h0 h1
      rw [cellsI] at h2 h3
      rw [cellsIs] at h4
      obtain ⟨kind, e0, _, _⟩ := DataW.trod_string Tryd.underlying9 h0
      obtain ⟨s, e1, _, _⟩ := DataW.trod_string Tryd.underlying9 h1
      obtain ⟨k, e2, _, _⟩ := DataW.trod_int Tryd.underlying3 h2
      obtain ⟨bit, e3, _, _⟩ := DataW.trod_int Tryd.underlying3 h3
      obtain ⟨l, hl⟩ := ints_of_trod (v := c4) h4
      simp only [List.take_succ_cons, List.take_zero, List.cons.injEq, and_true] at e0 e1 e2 e3
      subst e0; subst e1; subst e2; subst e3
      have k0 := hcc 0 (by omega)
      have k1 := hcc 1 (by omega)
      have k2 := hcc 2 (by omega)
      have k3 := hcc 3 (by omega)
      have k4 := hcc 4 (by omega)
      simp only [List.getElem?_cons_zero, List.getElem?_cons_succ] at k0 k1 k2 k3 k4
      obtain ⟨b, off, rfl⟩ : ∃ b off, a = ⟨b, off, none⟩ := by
        have hb0 := hE 0 (by omega)
        rw [cellsAct] at hb0
        obtain ⟨el0, he0⟩ : ∃ el, elems[0]? = some el := ⟨elems[0]'(by omega), List.getElem?_eq_getElem (by omega)⟩
        rw [he0] at hb0
        obtain ⟨cs0, hc0, _⟩ := Option.bind_eq_some_iff.1 hb0
        obtain ⟨_, hcl0, hcc0⟩ := World.cells?_some hc0
        have j0 := hcc0 0 (by omega)
        rw [List.getElem?_eq_getElem (by omega)] at j0
        obtain ⟨b, off, spot⟩ := a
        have hsp : spot = none := by simpa [Addr.add] using World.cell?_spot j0
        subst hsp
        exact ⟨b, off, rfl⟩
      simp only [Addr.add_mid, Nat.add_zero] at k0 k1 k2 k3 k4
      exact ⟨⟨kind, s, k, bit, l⟩, b, off, c4, rfl, k0, k1, k2, k3, k4, hl⟩
    haveI : Inhabited DAct := ⟨⟨ByteArray.empty, ByteArray.empty, 0, 0, []⟩⟩
    obtain ⟨f, hf⟩ := Deep.choose_lt hone
    refine ⟨(List.range len).map f, some a, cap, by simp, fun i y hy => ?_⟩
    have hi : i < len := by have := (List.getElem?_eq_some_iff.1 hy).1; simpa using this
    have ey : y = f i := by
      rw [List.getElem?_map, List.getElem?_range hi] at hy
      simpa using hy.symm
    subst ey
    obtain ⟨b, off, kv, e, q⟩ := hf i hi
    exact ⟨b, off, kv, by rw [e], q⟩
set_option maxRecDepth 100000 in
theorem ints_arg {base : Nat} {v : Value} {d : DataW H} {p : List MemPlace} (hval : Value.okWide Tryd.prog w .any base 23 v) (h : DataW.Trod enc Tryd.prog w 0 (fun _ => true) true 23 v d p) : ∃ l, IntsAt w v l := by
  obtain ⟨va, vn, vc, rfl⟩ := okWide_slice Tryd.underlying23 hval
  obtain ⟨fuel, hf⟩ := h
  exact ints_of_trod hf
set_option maxRecDepth 100000 in
theorem acts_arg {base : Nat} {v : Value} {d : DataW H} {p : List MemPlace} (hval : Value.okWide Tryd.prog w .any base 22 v) (h : DataW.Trod enc Tryd.prog w 0 (fun _ => true) true 22 v d p) : ∃ l, ActsAt w v l := by
  obtain ⟨va, vn, vc, rfl⟩ := okWide_slice Tryd.underlying22 hval
  obtain ⟨fuel, hf⟩ := h
  exact acts_of_trod hf
end
section
variable {H : Type} {enc : TypeId × Value → H} {P : Program} {w : World} {base : Nat} {spare : Nat → Bool} {held : Bool}
theorem trodAll_five {t t' t'' t3 t4 : TypeId} {args : Array Value} {ds : List (DataW H)} {ps : List MemPlace} (h : DataW.TrodAll enc P w base spare held [t, t', t'', t3, t4] args.toList ds ps) :
    ∃ v v' v'' v3 v4 d d' d'' d3 d4 p p' p'' p3 p4, args = #[v, v', v'', v3, v4] ∧ ds = [d, d', d'', d3, d4] ∧ ps = p ++ p' ++ p'' ++ p3 ++ p4 ∧ DataW.Trod enc P w base spare held t v d p ∧ DataW.Trod enc P w base spare held t' v' d' p' ∧ DataW.Trod enc P w base spare held t'' v'' d'' p'' ∧ DataW.Trod enc P w base spare held t3 v3 d3 p3 ∧ DataW.Trod enc P w base spare held t4 v4 d4 p4 := by
  obtain ⟨v, vs, d, ds', p, q, hargs, rfl, rfl, hd, hrest⟩ := trodAll_cons h
  obtain ⟨v', vs', d', ds'', p', q', rfl, rfl, rfl, hd', hrest'⟩ := trodAll_cons hrest
  obtain ⟨v'', vs'', d'', ds''', p'', q'', rfl, rfl, rfl, hd'', hrest''⟩ := trodAll_cons hrest'
  obtain ⟨v3, vs3, d3, ds3, p3, q3, rfl, rfl, rfl, hd3, hrest3⟩ := trodAll_cons hrest''
  obtain ⟨v4, vs4, d4, ds4, p4, q4, rfl, rfl, rfl, hd4, hrest4⟩ := trodAll_cons hrest3
  obtain ⟨rfl, rfl, rfl⟩ := trodAll_nil hrest4
  exact ⟨v, v', v'', v3, v4, d, d', d'', d3, d4, p, p', p'', p3, p4, by cases args; simp_all, rfl, by simp, hd, hd', hd'', hd3, hd4⟩
theorem trodAll_mk5 {t t' t'' t3 t4 : TypeId} {v v' v'' v3 v4 : Value} {d d' d'' d3 d4 : DataW H} {p p' p'' p3 p4 : List MemPlace} (h : DataW.Trod enc P w base spare held t v d p) (h' : DataW.Trod enc P w base spare held t' v' d' p')
    (h'' : DataW.Trod enc P w base spare held t'' v'' d'' p'') (h3 : DataW.Trod enc P w base spare held t3 v3 d3 p3) (h4 : DataW.Trod enc P w base spare held t4 v4 d4 p4) : DataW.TrodAll enc P w base spare held [t, t', t'', t3, t4] [v, v', v'', v3, v4] [d, d', d'', d3, d4] (p ++ (p' ++ (p'' ++ (p3 ++ p4)))) := ⟨p, p' ++ (p'' ++ (p3 ++ p4)), h, trodAll_mk4 h' h'' h3 h4, rfl⟩
end
end Go.Proofs.YtghhhhbllpkcdacDoor
