/-
  From the reading of an argument as data to a tree in memory ('Lies').
  An argument that is a node: its cells, and its kids in memory; what a row's proof wants besides.
  Conditions: those that each states.
-/
import Derived.Test.YtpjjpmikhjlgnaaGreatDoorM28
import Derived.Test.YtpjjpmikhjlgnaaGreatDoorM02
import Derived.ProofKit
import Derived.SizedLaws
import Derived.Deep.Slices
import Derived.Lib.SmallJoins
import Derived.ChangeSame
import Derived.ChangeVars
namespace Go.Proofs.YtpjjpmikhjlgnaaGreatDoor
open Go.ChangeShapes Go.WideShapes Go.RowKit

theorem cellsKid : Tryz.prog.cellsOf 65 = 5 := by kernel_rfl
theorem cellsNode : Tryz.prog.cellsOf 24 = 4 := by kernel_rfl
theorem bytesKid : Tryz.prog.bytesOf 65 = 80 := by kernel_rfl
theorem cellsBool : Tryz.prog.cellsOf 4 = 1 := by kernel_rfl
theorem cellsKids : Tryz.prog.cellsOf 22 = 1 := by kernel_rfl
theorem weights_all {H : Type} {P : Program} {e : TypeId} : ∀ {l : List (DataW H)} {x : DataW H}, x ∈ l → ∀ n ∈ x.weights P e, n ∈ DataW.weightsAll P e l
  | [], _, h, _, _ => by simp at h
  | d :: r, x, h, n, hn => by
    rw [DataW.weightsAll, List.mem_append]
    rcases List.mem_cons.1 h with rfl | h
    · exact .inl hn
    · exact .inr (weights_all h n hn)

section
variable {H : Type} {enc : TypeId × Value → H} {w : World}

theorem list2 {α : Type} : ∀ {l : List α}, l.length = 2 → ∃ a b, l = [a, b]
  | [a, b], _ => ⟨a, b, rfl⟩
theorem list4 {α : Type} : ∀ {l : List α}, l.length = 4 → ∃ a b c d, l = [a, b, c, d]
  | [a, b, c, d], _ => ⟨a, b, c, d, rfl⟩
theorem list5 {α : Type} : ∀ {l : List α}, l.length = 5 → ∃ a b c d e, l = [a, b, c, d, e]
  | [a, b, c, d, e], _ => ⟨a, b, c, d, e, rfl⟩
/-- A node's four cells. -/
theorem node_of_trod {n : Nat} {cs : List Value} {x : DataW H × List MemPlace} (h : DataW.trod enc Tryz.prog w 0 (fun _ => true) true n 24 cs = some x) (hw : ∀ m ∈ x.1.weights Tryz.prog 24, m ≤ reachBytes) :
    ∃ (kind data : ByteArray) (exec : Bool) (u : Value) (y : DataW H × List MemPlace) (m : Nat), m < n ∧ cs = [.string kind, .string data, .bool exec, u] ∧ DataW.trod enc Tryz.prog w 0 (fun _ => true) true m 22 [u] = some y ∧ (∀ q ∈ y.1.weights Tryz.prog 22, q ≤ reachBytes) ∧ data.size ≤ maxLen := by
  obtain ⟨xs, m, hfuel, hx, hcl, hxl, hf⟩ := DataW.trod_struct Tryz.underlying24 h
  rw [cellsNode] at hcl
  obtain ⟨c0, c1, c2, c3, rfl⟩ := list4 hcl
  obtain ⟨y0, y1, y2, y3, rfl⟩ := list4 (show xs.length = 4 from hxl)
  have h0 : DataW.trod enc Tryz.prog w 0 (fun _ => true) true m 9 ([c0, c1, c2, c3].take (Tryz.prog.cellsOf 9)) = some y0 := hf 0 _ rfl
  have h1 : DataW.trod enc Tryz.prog w 0 (fun _ => true) true m 9 ([c1, c2, c3].take (Tryz.prog.cellsOf 9)) = some y1 := hf 1 _ rfl
  have h2 : DataW.trod enc Tryz.prog w 0 (fun _ => true) true m 4 ([c2, c3].take (Tryz.prog.cellsOf 4)) = some y2 := hf 2 _ rfl
  have h3 : DataW.trod enc Tryz.prog w 0 (fun _ => true) true m 22 ([c3].take (Tryz.prog.cellsOf 22)) = some y3 := hf 3 _ rfl
  rw [cellsStr] at h0 h1
  rw [cellsBool] at h2
  rw [cellsKids] at h3
  obtain ⟨kind, e0, _, _⟩ := DataW.trod_string Tryz.underlying9 h0
  obtain ⟨data, e1, _, hds⟩ := DataW.trod_string Tryz.underlying9 h1
  obtain ⟨exec, e2, _⟩ := DataW.trod_bool Tryz.underlying4 h2
  simp only [List.take_succ_cons, List.take_zero, List.cons.injEq, and_true] at e0 e1 e2
  subst e0; subst e1; subst e2
  refine ⟨kind, data, exec, c3, y3, m, by omega, rfl, h3, fun q hq => hw q ?_, hds⟩
  rw [hx]
  have hwd : DataW.weights Tryz.prog 24 (.agg ([y0, y1, y2, y3].map (·.1))) = DataW.weightsEach Tryz.prog [9, 9, 4, 22] ([y0, y1, y2, y3].map (·.1)) := by
    rw [DataW.weights]; simp only [Tryz.underlying24]; rfl
  rw [hwd]
  exact DataW.weights_mem_each (j := 3) rfl rfl q hq

set_option maxRecDepth 100000 in
theorem lies_of_trod : ∀ (n : Nat) (v : Value) (x : DataW H × List MemPlace), DataW.trod enc Tryz.prog w 0 (fun _ => true) true n 22 [v] = some x → (∀ m ∈ x.1.weights Tryz.prog 22, m ≤ reachBytes) → ∃ l, Lies w w.heap.size n l v := by
  intro n
  induction n using Nat.strongRecOn with
  | ind n ih =>
    intro v x h hw
    rcases DataW.trod_slice Tryz.underlying22 h with ⟨hcs, _⟩ | ⟨a, len, cap, elems, rest, m, hfuel, hcs, hx, _, hlc, _, hel, hE, _, _⟩
    · simp only [List.cons.injEq, and_true] at hcs
      subst hcs
      cases n with
      | zero => simp [DataW.trod] at h
      | succ n => exact ⟨[], none, 0, rfl, by simp, fun i x hx => by simp at hx⟩
    · simp only [List.cons.injEq, and_true] at hcs
      subst hcs; subst hfuel
      have hwd : x.1.weights Tryz.prog 22 = ((elems.map (·.1)).length + (rest.map (·.1)).length) * 80 :: (DataW.weightsAll Tryz.prog 65 (elems.map (·.1)) ++ DataW.weightsAll Tryz.prog 65 (rest.map (·.1))) := by
        rw [hx, DataW.weights]; simp only [Tryz.underlying22, bytesKid]
      have hlen : len ≤ 1759218604390 := by
        have := hw _ (by rw [hwd]; exact List.mem_cons_self)
        simp only [List.length_map, hel, reachBytes] at this
        omega
      have hplain : ∀ i, i < len → ∃ b off, a = ⟨b, off, none⟩ := by
        intro i hi
        have hb := hE 0 (by omega)
        rw [cellsKid] at hb
        obtain ⟨el, he⟩ : ∃ el, elems[0]? = some el := ⟨elems[0]'(by omega), List.getElem?_eq_getElem (by omega)⟩
        rw [he] at hb
        obtain ⟨cs, hc, _⟩ := Option.bind_eq_some_iff.1 hb
        obtain ⟨_, hcl, hcc⟩ := World.cells?_some hc
        have k0 := hcc 0 (by omega)
        rw [List.getElem?_eq_getElem (by omega)] at k0
        obtain ⟨b, off, spot⟩ := a
        have hsp : spot = none := by simpa [Addr.add] using World.cell?_spot k0
        subst hsp
        exact ⟨b, off, rfl⟩
      have hone : ∀ i, i < len → ∃ p : (ByteArray × Tree) × Value, (∃ b off, a = ⟨b, off, none⟩ ∧ b < w.heap.size ∧ p.1.1.size ≤ 140737488355328 ∧
          w.cell? ⟨b, off + i * 5, none⟩ = some (.string p.1.1) ∧ w.cell? ⟨b, off + i * 5 + 1, none⟩ = some (.string p.1.2.kind) ∧ w.cell? ⟨b, off + i * 5 + 2, none⟩ = some (.string p.1.2.data) ∧
          w.cell? ⟨b, off + i * 5 + 3, none⟩ = some (.bool p.1.2.exec) ∧ w.cell? ⟨b, off + i * 5 + 4, none⟩ = some p.2) ∧ Lies w w.heap.size m p.1.2.kids p.2 := by
        intro i hi
        have hb := hE i hi
        rw [cellsKid] at hb
        obtain ⟨el, he⟩ : ∃ el, elems[i]? = some el := ⟨elems[i]'(by omega), List.getElem?_eq_getElem (by omega)⟩
        rw [he] at hb
        obtain ⟨cs, hc, ht⟩ := Option.bind_eq_some_iff.1 hb
        obtain ⟨_, hcl, hcc⟩ := World.cells?_some hc
        obtain ⟨xs, m1, hm1, hx1, _, hxl, hf⟩ := DataW.trod_struct Tryz.underlying65 ht
        have hwel : ∀ q ∈ el.1.weights Tryz.prog 65, q ≤ reachBytes := fun q hq => hw q (by
          rw [hwd]
          exact List.mem_cons_of_mem _ (List.mem_append_left _ (weights_all (List.mem_map.2 ⟨el, List.mem_of_getElem? he, rfl⟩) q hq)))
        obtain ⟨z0, z1, rfl⟩ := list2 (show xs.length = 2 from hxl)
        obtain ⟨c0, c1, c2, c3, c4, rfl⟩ := list5 hcl
        have h0 : DataW.trod enc Tryz.prog w 0 (fun _ => true) true m1 9 ([c0, c1, c2, c3, c4].take (Tryz.prog.cellsOf 9)) = some z0 := hf 0 _ rfl
        have h1 : DataW.trod enc Tryz.prog w 0 (fun _ => true) true m1 24 ([c1, c2, c3, c4].take (Tryz.prog.cellsOf 24)) = some z1 := hf 1 _ rfl
        rw [cellsStr] at h0
        rw [cellsNode] at h1
        have hwk : DataW.weights Tryz.prog 65 (.agg ([z0, z1].map (·.1))) = DataW.weightsEach Tryz.prog [9, 24] ([z0, z1].map (·.1)) := by
          rw [DataW.weights]; simp only [Tryz.underlying65]; rfl
        rw [hx1] at hwel
        rw [hwk] at hwel
        obtain ⟨name, e0, ez, _⟩ := DataW.trod_string Tryz.underlying9 h0
        have hns : name.size ≤ 140737488355328 := by
          have := hwel name.data.toList.length (DataW.weights_mem_each (j := 0) (t := 9) (d := z0.1) rfl rfl _ (by rw [ez]; simp [DataW.weights]))
          simp only [reachBytes] at this
          have e : name.data.toList.length = name.size := by simp
          omega
        obtain ⟨kind, data, exec, u, y, m2, hm2, e1, hy, hwy, _⟩ := node_of_trod h1 (fun q hq => hwel q (DataW.weights_mem_each (j := 1) (t := 24) (d := z1.1) rfl rfl q hq))
        obtain ⟨l, hl⟩ := ih m2 (by omega) u y hy hwy
        simp only [List.take_succ_cons, List.take_zero, List.cons.injEq, and_true] at e0 e1
        obtain ⟨rfl, rfl, rfl, rfl⟩ := e1
        subst e0
        have k0 := hcc 0 (by omega)
        have k1 := hcc 1 (by omega)
        have k2 := hcc 2 (by omega)
        have k3 := hcc 3 (by omega)
        have k4 := hcc 4 (by omega)
        simp only [List.getElem?_cons_zero, List.getElem?_cons_succ] at k0 k1 k2 k3 k4
        have ha := hplain i hi
        obtain ⟨b, off, rfl⟩ := ha
        have hadd : ∀ (q o : Nat), (⟨b, q, none⟩ : Addr).add o = ⟨b, q + o, none⟩ := fun q o => by unfold Addr.add; split <;> simp_all
        simp only [hadd, Nat.add_zero] at k0 k1 k2 k3 k4
        exact ⟨((name, ⟨kind, data, exec, l⟩), c4), ⟨b, off, rfl, lt_of_cell k0, hns, k0, k1, k2, k3, k4⟩, hl.up (Nat.le_refl _) (by omega)⟩
      haveI : Inhabited ((ByteArray × Tree) × Value) := ⟨((ByteArray.empty, ⟨ByteArray.empty, ByteArray.empty, false, []⟩), .nilIface)⟩
      obtain ⟨f, hf⟩ := Deep.choose_lt hone
      refine ⟨(List.range len).map fun i => (f i).1, some a, cap, by simp, by simpa using hlen, fun i x hx => ?_⟩
      have hi : i < len := by have := (List.getElem?_eq_some_iff.1 hx).1; simpa using this
      have ex : x = (f i).1 := by
        rw [List.getElem?_map, List.getElem?_range hi] at hx
        simpa using hx.symm
      subst ex
      obtain ⟨⟨b, off, e, q1, q2, q3, q4, q5, q6, q7⟩, q8⟩ := hf i hi
      exact ⟨b, off, (f i).2, by rw [e], q1, q2, q3, q4, q5, q6, q7, q8⟩
end
end Go.Proofs.YtpjjpmikhjlgnaaGreatDoor
namespace Go.Proofs.YtpjjpmikhjlgnaaGreatDoor
open Go.ChangeShapes Go.WideShapes Go.RowKit

theorem sums_own : ownKnob Tryz.prog.godebug = none := by kernel_rfl
theorem sums_laidOut : laidOutB Tryz.prog = true := by kernel_rfl
set_option maxRecDepth 100000 in
/-- A node among the arguments: its cells, and its kids in memory. -/
theorem node_arg {H : Type} {enc : TypeId × Value → H} {W : World} {base : Nat} {v : Value} {d : DataW H} {p : List MemPlace} (hval : Value.okWide Tryz.prog W .any base 24 v) (h : DataW.Trod enc Tryz.prog W 0 (fun _ => true) true 24 v d p)
    (hw : ∀ m ∈ d.weights Tryz.prog 24, m ≤ reachBytes) : ∃ (t : Tree) (u : Value) (n : Nat), v = .agg #[.string t.kind, .string t.data, .bool t.exec, u] ∧ Lies W W.heap.size n t.kids u ∧ t.data.size ≤ maxLen := by
  obtain ⟨cs, rfl, _⟩ := okWide_struct Tryz.underlying24 hval
  obtain ⟨fuel, hf⟩ := h
  obtain ⟨kind, data, exec, u, y, m, _, e, hy, hwy, hds⟩ := node_of_trod hf hw
  obtain ⟨l, hl⟩ := lies_of_trod m u y hy hwy
  refine ⟨⟨kind, data, exec, l⟩, u, m, ?_, hl, hds⟩
  have e' : cs.toList = [.string kind, .string data, .bool exec, u] := e
  have : cs = #[.string kind, .string data, .bool exec, u] := by
    cases cs with
    | mk l => simp only at e'; subst e'; rfl
  rw [this]
end Go.Proofs.YtpjjpmikhjlgnaaGreatDoor
