/-
  From the reading of an argument as data to a tree in memory ('Lies').
  An argument that is a node: its cells, and its kids in memory; what a row's proof wants besides.
  An argument that is acts on trees.
  Lists of a tree's nodes, as the document's answer makes them: each node's kids right behind it, one node after the other. No program stands here.
  Conditions: those that each states.
-/
import Derived.Test.YteefneelcgeioaaGreatDoorH01
import Derived.ProofKit
import Derived.SizedLaws
import Derived.Deep.Slices
import Derived.Lib.SmallJoins
import Derived.ChangeSame
import Derived.ChangeVars
import Derived.Deep.MidRow
namespace Go.Proofs.YteefneelcgeioaaGreatDoor
open Go.ChangeShapes Go.WideShapes Go.RowKit

theorem cellsKid : Tryz.prog.cellsOf 86 = 5 := by kernel_rfl
theorem cellsNode : Tryz.prog.cellsOf 32 = 4 := by kernel_rfl
theorem bytesKid : Tryz.prog.bytesOf 86 = 80 := by kernel_rfl
theorem cellsBool : Tryz.prog.cellsOf 4 = 1 := by kernel_rfl
theorem cellsKids : Tryz.prog.cellsOf 30 = 1 := by kernel_rfl
theorem weights_all {H : Type} {P : Program} {e : TypeId} : ∀ {l : List (DataW H)} {x : DataW H}, x ∈ l → ∀ n ∈ x.weights P e, n ∈ DataW.weightsAll P e l
  | [], _, h, _, _ => by simp at h
  | d :: r, x, h, n, hn => by
    rw [DataW.weightsAll, List.mem_append]
    rcases List.mem_cons.1 h with rfl | h
    · exact .inl hn
    · exact .inr (weights_all h n hn)

section
variable {H : Type} {enc : TypeId × Value → H} {w : World}

theorem list2 {α : Type} : ∀ {l : List α}, l.length = 2 → ∃ a b, l = [a, b]
  | [a, b], _ => ⟨a, b, rfl⟩
theorem list4 {α : Type} : ∀ {l : List α}, l.length = 4 → ∃ a b c d, l = [a, b, c, d]
  | [a, b, c, d], _ => ⟨a, b, c, d, rfl⟩
theorem list5 {α : Type} : ∀ {l : List α}, l.length = 5 → ∃ a b c d e, l = [a, b, c, d, e]
  | [a, b, c, d, e], _ => ⟨a, b, c, d, e, rfl⟩
/-- A node's four cells. -/
theorem node_of_trod {n : Nat} {cs : List Value} {x : DataW H × List MemPlace} (h : DataW.trod enc Tryz.prog w 0 (fun _ => true) true n 32 cs = some x) (hw : ∀ m ∈ x.1.weights Tryz.prog 32, m ≤ reachBytes) :
    ∃ (kind data : ByteArray) (exec : Bool) (u : Value) (y : DataW H × List MemPlace) (m : Nat), m < n ∧ cs = [.string kind, .string data, .bool exec, u] ∧ DataW.trod enc Tryz.prog w 0 (fun _ => true) true m 30 [u] = some y ∧ (∀ q ∈ y.1.weights Tryz.prog 30, q ≤ reachBytes) ∧ data.size ≤ maxLen := by
  obtain ⟨xs, m, hfuel, hx, hcl, hxl, hf⟩ := DataW.trod_struct Tryz.underlying32 h
  rw [cellsNode] at hcl
  obtain ⟨c0, c1, c2, c3, rfl⟩ := list4 hcl
  obtain ⟨y0, y1, y2, y3, rfl⟩ := list4 (show xs.length = 4 from hxl)
  have h0 : DataW.trod enc Tryz.prog w 0 (fun _ => true) true m 9 ([c0, c1, c2, c3].take (Tryz.prog.cellsOf 9)) = some y0 := hf 0 _ rfl
  have h1 : DataW.trod enc Tryz.prog w 0 (fun _ => true) true m 9 ([c1, c2, c3].take (Tryz.prog.cellsOf 9)) = some y1 := hf 1 _ rfl
  have h2 : DataW.trod enc Tryz.prog w 0 (fun _ => true) true m 4 ([c2, c3].take (Tryz.prog.cellsOf 4)) = some y2 := hf 2 _ rfl
  have h3 : DataW.trod enc Tryz.prog w 0 (fun _ => true) true m 30 ([c3].take (Tryz.prog.cellsOf 30)) = some y3 := hf 3 _ rfl
  rw [cellsStr] at h0 h1
  rw [cellsBool] at h2
  rw [cellsKids] at h3
  obtain ⟨kind, e0, _, _⟩ := DataW.trod_string Tryz.underlying9 h0
  obtain ⟨data, e1, _, hds⟩ := DataW.trod_string Tryz.underlying9 h1
  obtain ⟨exec, e2, _⟩ := DataW.trod_bool Tryz.underlying4 h2
  simp only [List.take_succ_cons, List.take_zero, List.cons.injEq, and_true] at e0 e1 e2
  subst e0; subst e1; subst e2
  refine ⟨kind, data, exec, c3, y3, m, by omega, rfl, h3, fun q hq => hw q ?_, hds⟩
  rw [hx]
  have hwd : DataW.weights Tryz.prog 32 (.agg ([y0, y1, y2, y3].map (·.1))) = DataW.weightsEach Tryz.prog [9, 9, 4, 30] ([y0, y1, y2, y3].map (·.1)) := by
    rw [DataW.weights]; simp only [Tryz.underlying32]; rfl
  rw [hwd]
  exact DataW.weights_mem_each (j := 3) rfl rfl q hq

set_option maxRecDepth 100000 in
theorem lies_of_trod : ∀ (n : Nat) (v : Value) (x : DataW H × List MemPlace), DataW.trod enc Tryz.prog w 0 (fun _ => true) true n 30 [v] = some x → (∀ m ∈ x.1.weights Tryz.prog 30, m ≤ reachBytes) → ∃ l, Lies w w.heap.size n l v := by
  intro n
  induction n using Nat.strongRecOn with
  | ind n ih =>
    intro v x h hw
    rcases DataW.trod_slice Tryz.underlying30 h with ⟨hcs, _⟩ | ⟨a, len, cap, elems, rest, m, hfuel, hcs, hx, _, hlc, _, hel, hE, _, _⟩
    · simp only [List.cons.injEq, and_true] at hcs
      subst hcs
      cases n with
      | zero => simp [DataW.trod] at h
      | succ n => exact ⟨[], none, 0, rfl, by simp, fun i x hx => by simp at hx⟩
    · simp only [List.cons.injEq, and_true] at hcs
      subst hcs; subst hfuel
      have hwd : x.1.weights Tryz.prog 30 = ((elems.map (·.1)).length + (rest.map (·.1)).length) * 80 :: (DataW.weightsAll Tryz.prog 86 (elems.map (·.1)) ++ DataW.weightsAll Tryz.prog 86 (rest.map (·.1))) := by
        rw [hx, DataW.weights]; simp only [Tryz.underlying30, bytesKid]
      have hlen : len ≤ 1759218604390 := by
        have := hw _ (by rw [hwd]; exact List.mem_cons_self)
        simp only [List.length_map, hel, reachBytes] at this
        omega
      have hplain : ∀ i, i < len → ∃ b off, a = ⟨b, off, none⟩ := by
        intro i hi
        have hb := hE 0 (by omega)
        rw [cellsKid] at hb
        obtain ⟨el, he⟩ : ∃ el, elems[0]? = some el := ⟨elems[0]'(by omega), List.getElem?_eq_getElem (by omega)⟩
        rw [he] at hb
        obtain ⟨cs, hc, _⟩ := Option.bind_eq_some_iff.1 hb
        obtain ⟨_, hcl, hcc⟩ := World.cells?_some hc
        have k0 := hcc 0 (by omega)
        rw [List.getElem?_eq_getElem (by omega)] at k0
        obtain ⟨b, off, spot⟩ := a
        have hsp : spot = none := by simpa [Addr.add] using World.cell?_spot k0
        subst hsp
        exact ⟨b, off, rfl⟩
      have hone : ∀ i, i < len → ∃ p : (ByteArray × Tree) × Value, (∃ b off, a = ⟨b, off, none⟩ ∧ b < w.heap.size ∧ p.1.1.size ≤ 140737488355328 ∧
          w.cell? ⟨b, off + i * 5, none⟩ = some (.string p.1.1) ∧ w.cell? ⟨b, off + i * 5 + 1, none⟩ = some (.string p.1.2.kind) ∧ w.cell? ⟨b, off + i * 5 + 2, none⟩ = some (.string p.1.2.data) ∧
          w.cell? ⟨b, off + i * 5 + 3, none⟩ = some (.bool p.1.2.exec) ∧ w.cell? ⟨b, off + i * 5 + 4, none⟩ = some p.2) ∧ Lies w w.heap.size m p.1.2.kids p.2 := by
        intro i hi
        have hb := hE i hi
        rw [cellsKid] at hb
        obtain ⟨el, he⟩ : ∃ el, elems[i]? = some el := ⟨elems[i]'(by omega), List.getElem?_eq_getElem (by omega)⟩
        rw [he] at hb
        obtain ⟨cs, hc, ht⟩ := Option.bind_eq_some_iff.1 hb
        obtain ⟨_, hcl, hcc⟩ := World.cells?_some hc
        obtain ⟨xs, m1, hm1, hx1, _, hxl, hf⟩ := DataW.trod_struct Tryz.underlying86 ht
        have hwel : ∀ q ∈ el.1.weights Tryz.prog 86, q ≤ reachBytes := fun q hq => hw q (by
          rw [hwd]
          exact List.mem_cons_of_mem _ (List.mem_append_left _ (weights_all (List.mem_map.2 ⟨el, List.mem_of_getElem? he, rfl⟩) q hq)))
        obtain ⟨z0, z1, rfl⟩ := list2 (show xs.length = 2 from hxl)
        obtain ⟨c0, c1, c2, c3, c4, rfl⟩ := list5 hcl
        have h0 : DataW.trod enc Tryz.prog w 0 (fun _ => true) true m1 9 ([c0, c1, c2, c3, c4].take (Tryz.prog.cellsOf 9)) = some z0 := hf 0 _ rfl
        have h1 : DataW.trod enc Tryz.prog w 0 (fun _ => true) true m1 32 ([c1, c2, c3, c4].take (Tryz.prog.cellsOf 32)) = some z1 := hf 1 _ rfl
        rw [cellsStr] at h0
        rw [cellsNode] at h1
        have hwk : DataW.weights Tryz.prog 86 (.agg ([z0, z1].map (·.1))) = DataW.weightsEach Tryz.prog [9, 32] ([z0, z1].map (·.1)) := by
          rw [DataW.weights]; simp only [Tryz.underlying86]; rfl
        rw [hx1] at hwel
        rw [hwk] at hwel
        obtain ⟨name, e0, ez, _⟩ := DataW.trod_string Tryz.underlying9 h0
        have hns : name.size ≤ 140737488355328 := by
          have := hwel name.data.toList.length (DataW.weights_mem_each (j := 0) (t := 9) (d := z0.1) rfl rfl _ (by rw [ez]; simp [DataW.weights]))
          simp only [reachBytes] at this
          have e : name.data.toList.length = name.size := by simp
          omega
        obtain ⟨kind, data, exec, u, y, m2, hm2, e1, hy, hwy, _⟩ := node_of_trod h1 (fun q hq => hwel q (DataW.weights_mem_each (j := 1) (t := 32) (d := z1.1) rfl rfl q hq))
        obtain ⟨l, hl⟩ := ih m2 (by omega) u y hy hwy
        simp only [List.take_succ_cons, List.take_zero, List.cons.injEq, and_true] at e0 e1
        obtain ⟨rfl, rfl, rfl, rfl⟩ := e1
        subst e0
        have k0 := hcc 0 (by omega)
        have k1 := hcc 1 (by omega)
        have k2 := hcc 2 (by omega)
        have k3 := hcc 3 (by omega)
        have k4 := hcc 4 (by omega)
        simp only [List.getElem?_cons_zero, List.getElem?_cons_succ] at k0 k1 k2 k3 k4
        have ha := hplain i hi
        obtain ⟨b, off, rfl⟩ := ha
        have hadd : ∀ (q o : Nat), (⟨b, q, none⟩ : Addr).add o = ⟨b, q + o, none⟩ := fun q o => by unfold Addr.add; split <;> simp_all
        simp only [hadd, Nat.add_zero] at k0 k1 k2 k3 k4
        exact ⟨((name, ⟨kind, data, exec, l⟩), c4), ⟨b, off, rfl, lt_of_cell k0, hns, k0, k1, k2, k3, k4⟩, hl.up (Nat.le_refl _) (by omega)⟩
      haveI : Inhabited ((ByteArray × Tree) × Value) := ⟨((ByteArray.empty, ⟨ByteArray.empty, ByteArray.empty, false, []⟩), .nilIface)⟩
      obtain ⟨f, hf⟩ := Deep.choose_lt hone
      refine ⟨(List.range len).map fun i => (f i).1, some a, cap, by simp, by simpa using hlen, fun i x hx => ?_⟩
      have hi : i < len := by have := (List.getElem?_eq_some_iff.1 hx).1; simpa using this
      have ex : x = (f i).1 := by
        rw [List.getElem?_map, List.getElem?_range hi] at hx
        simpa using hx.symm
      subst ex
      obtain ⟨⟨b, off, e, q1, q2, q3, q4, q5, q6, q7⟩, q8⟩ := hf i hi
      exact ⟨b, off, (f i).2, by rw [e], q1, q2, q3, q4, q5, q6, q7, q8⟩
end
end Go.Proofs.YteefneelcgeioaaGreatDoor
namespace Go.Proofs.YteefneelcgeioaaGreatDoor
open Go.ChangeShapes Go.WideShapes Go.RowKit

theorem sums_own : ownKnob Tryz.prog.godebug = none := by kernel_rfl
theorem sums_laidOut : laidOutB Tryz.prog = true := by kernel_rfl
set_option maxRecDepth 100000 in
/-- A node among the arguments: its cells, and its kids in memory. -/
theorem node_arg {H : Type} {enc : TypeId × Value → H} {W : World} {base : Nat} {v : Value} {d : DataW H} {p : List MemPlace} (hval : Value.okWide Tryz.prog W .any base 32 v) (h : DataW.Trod enc Tryz.prog W 0 (fun _ => true) true 32 v d p)
    (hw : ∀ m ∈ d.weights Tryz.prog 32, m ≤ reachBytes) : ∃ (t : Tree) (u : Value) (n : Nat), v = .agg #[.string t.kind, .string t.data, .bool t.exec, u] ∧ Lies W W.heap.size n t.kids u ∧ t.data.size ≤ maxLen := by
  obtain ⟨cs, rfl, _⟩ := okWide_struct Tryz.underlying32 hval
  obtain ⟨fuel, hf⟩ := h
  obtain ⟨kind, data, exec, u, y, m, _, e, hy, hwy, hds⟩ := node_of_trod hf hw
  obtain ⟨l, hl⟩ := lies_of_trod m u y hy hwy
  refine ⟨⟨kind, data, exec, l⟩, u, m, ?_, hl, hds⟩
  have e' : cs.toList = [.string kind, .string data, .bool exec, u] := e
  have : cs = #[.string kind, .string data, .bool exec, u] := by
    cases cs with
    | mk l => simp only at e'; subst e'; rfl
  rw [this]
end Go.Proofs.YteefneelcgeioaaGreatDoor
namespace Go.Proofs.YteefneelcgeioaaGreatDoor
open Go.ChangeShapes Go.WideShapes Go.RowKit

/-- An act on trees. -/
structure TAct where
  kind : ByteArray
  path : ByteArray
  s : ByteArray
  node : Tree
  k : Int
  n : Int
  bit : Int
/-- One act in memory. -/
structure TActAt (w : World) (d b o : Nat) (c : TAct) (u : Value) : Prop where
  kind : w.cell? ⟨b, o, none⟩ = some (.string c.kind)
  path : w.cell? ⟨b, o + 1, none⟩ = some (.string c.path)
  s : w.cell? ⟨b, o + 2, none⟩ = some (.string c.s)
  nkind : w.cell? ⟨b, o + 3, none⟩ = some (.string c.node.kind)
  ndata : w.cell? ⟨b, o + 4, none⟩ = some (.string c.node.data)
  nexec : w.cell? ⟨b, o + 5, none⟩ = some (.bool c.node.exec)
  nkids : w.cell? ⟨b, o + 6, none⟩ = some u
  k : w.cell? ⟨b, o + 7, none⟩ = some (.int .i64 c.k)
  n : w.cell? ⟨b, o + 8, none⟩ = some (.int .i64 c.n)
  bit : w.cell? ⟨b, o + 9, none⟩ = some (.int .i64 c.bit)
  lies : Lies w w.heap.size d c.node.kids u
/-- Acts in memory, however many. -/
def TActsIn (w : World) (d : Nat) (l : List TAct) (v : Value) : Prop := ∃ ad cap, v = .slice ad l.length cap ∧ (∀ c ∈ l, c.kind.size ≤ maxLen ∧ c.path.size ≤ maxLen ∧ c.s.size ≤ maxLen ∧ (Lit.int .i64 c.k).wf = true ∧ (Lit.int .i64 c.n).wf = true ∧ (Lit.int .i64 c.bit).wf = true) ∧ ∀ i c, l[i]? = some c → ∃ b off u, ad = some ⟨b, off, none⟩ ∧ b < w.heap.size ∧ TActAt w d b (off + i * 10) c u
theorem cellsTA : Tryz.prog.cellsOf 34 = 10 := by kernel_rfl
theorem bytesTA : Tryz.prog.bytesOf 34 = 136 := by kernel_rfl
theorem cellsIntA : Tryz.prog.cellsOf 3 = 1 := by kernel_rfl
theorem list7 {α : Type} : ∀ {l : List α}, l.length = 7 → ∃ a b c d e f g, l = [a, b, c, d, e, f, g]
  | [a, b, c, d, e, f, g], _ => ⟨a, b, c, d, e, f, g, rfl⟩
theorem list10 {α : Type} : ∀ {l : List α}, l.length = 10 → ∃ a b c d e f g h i j, l = [a, b, c, d, e, f, g, h, i, j]
  | [a, b, c, d, e, f, g, h, i, j], _ => ⟨a, b, c, d, e, f, g, h, i, j, rfl⟩
section
variable {H : Type} {enc : TypeId × Value → H} {w : World}
set_option maxRecDepth 100000 in
theorem tacts_of_trod {n : Nat} {v : Value} {x : DataW H × List MemPlace} (h : DataW.trod enc Tryz.prog w 0 (fun _ => true) true n 22 [v] = some x) (hw : ∀ m ∈ x.1.weights Tryz.prog 22, m ≤ reachBytes) : ∃ l, TActsIn w n l v := by
  rcases DataW.trod_slice Tryz.underlying22 h with ⟨hcs, _⟩ | ⟨a, len, cap, elems, rest, m, hfuel, hcs, hx, _, hlc, _, hel, hE, _, _⟩
  · simp only [List.cons.injEq, and_true] at hcs
    subst hcs
    exact ⟨[], none, 0, rfl, fun c hc => by simp at hc, fun i c hc => by simp at hc⟩
  · simp only [List.cons.injEq, and_true] at hcs
    subst hcs; subst hfuel
    have hwd : x.1.weights Tryz.prog 22 = ((elems.map (·.1)).length + (rest.map (·.1)).length) * 136 :: (DataW.weightsAll Tryz.prog 34 (elems.map (·.1)) ++ DataW.weightsAll Tryz.prog 34 (rest.map (·.1))) := by
      rw [hx, DataW.weights]; simp only [Tryz.underlying22, bytesTA]
    have hone : ∀ i, i < len → ∃ p : TAct, (p.kind.size ≤ maxLen ∧ p.path.size ≤ maxLen ∧ p.s.size ≤ maxLen ∧ (Lit.int .i64 p.k).wf = true ∧ (Lit.int .i64 p.n).wf = true ∧ (Lit.int .i64 p.bit).wf = true) ∧ ∃ b off u, a = ⟨b, off, none⟩ ∧ b < w.heap.size ∧ TActAt w (m + 1) b (off + i * 10) p u := by
      intro i hi
      have hb := hE i hi
      rw [cellsTA] at hb
      obtain ⟨el, he⟩ : ∃ el, elems[i]? = some el := ⟨elems[i]'(by omega), List.getElem?_eq_getElem (by omega)⟩
      rw [he] at hb
      obtain ⟨cs, hc, ht⟩ := Option.bind_eq_some_iff.1 hb
      obtain ⟨_, hcl, hcc⟩ := World.cells?_some hc
      obtain ⟨xs, m1, hm1, hx1, _, hxl, hf⟩ := DataW.trod_struct Tryz.underlying34 ht
      have hwel : ∀ q ∈ el.1.weights Tryz.prog 34, q ≤ reachBytes := fun q hq => hw q (by
        rw [hwd]
        exact List.mem_cons_of_mem _ (List.mem_append_left _ (weights_all (List.mem_map.2 ⟨el, List.mem_of_getElem? he, rfl⟩) q hq)))
      obtain ⟨z0, z1, z2, z3, z4, z5, z6, rfl⟩ := list7 (show xs.length = 7 from hxl)
      obtain ⟨c0, c1, c2, c3, c4, c5, c6, c7, c8, c9, rfl⟩ := list10 hcl
      have h0 : DataW.trod enc Tryz.prog w 0 (fun _ => true) true m1 9 ([c0, c1, c2, c3, c4, c5, c6, c7, c8, c9].take (Tryz.prog.cellsOf 9)) = some z0 := hf 0 _ rfl
      have h1 : DataW.trod enc Tryz.prog w 0 (fun _ => true) true m1 9 ([c1, c2, c3, c4, c5, c6, c7, c8, c9].take (Tryz.prog.cellsOf 9)) = some z1 := hf 1 _ rfl
      have h2 : DataW.trod enc Tryz.prog w 0 (fun _ => true) true m1 9 ([c2, c3, c4, c5, c6, c7, c8, c9].take (Tryz.prog.cellsOf 9)) = some z2 := hf 2 _ rfl
      have h3 : DataW.trod enc Tryz.prog w 0 (fun _ => true) true m1 32 ([c3, c4, c5, c6, c7, c8, c9].take (Tryz.prog.cellsOf 32)) = some z3 := hf 3 _ rfl
      have h4 : DataW.trod enc Tryz.prog w 0 (fun _ => true) true m1 3 ([c7, c8, c9].take (Tryz.prog.cellsOf 3)) = some z4 := hf 4 _ rfl
      have h5 : DataW.trod enc Tryz.prog w 0 (fun _ => true) true m1 3 ([c8, c9].take (Tryz.prog.cellsOf 3)) = some z5 := hf 5 _ rfl
      have h6 : DataW.trod enc Tryz.prog w 0 (fun _ => true) true m1 3 ([c9].take (Tryz.prog.cellsOf 3)) = some z6 := hf 6 _ rfl
      rw [cellsStr] at h0 h1 h2
      rw [cellsNode] at h3
      rw [cellsIntA] at h4 h5 h6
      obtain ⟨kind, e0, _, hk⟩ := DataW.trod_string Tryz.underlying9 h0
      obtain ⟨path, e1, _, hp⟩ := DataW.trod_string Tryz.underlying9 h1
      obtain ⟨str, e2, _, hs⟩ := DataW.trod_string Tryz.underlying9 h2
      obtain ⟨nK, e4, _, w4⟩ := DataW.trod_int Tryz.underlying3 h4
      obtain ⟨nN, e5, _, w5⟩ := DataW.trod_int Tryz.underlying3 h5
      obtain ⟨nB, e6, _, w6⟩ := DataW.trod_int Tryz.underlying3 h6
      have hwn : ∀ q ∈ z3.1.weights Tryz.prog 32, q ≤ reachBytes := fun q hq => hwel q (by
        rw [hx1]
        have hwd2 : DataW.weights Tryz.prog 34 (.agg ([z0, z1, z2, z3, z4, z5, z6].map (·.1))) = DataW.weightsEach Tryz.prog [9, 9, 9, 32, 3, 3, 3] ([z0, z1, z2, z3, z4, z5, z6].map (·.1)) := by
          rw [DataW.weights]; simp only [Tryz.underlying34]; rfl
        rw [hwd2]
        exact DataW.weights_mem_each (j := 3) rfl rfl q hq)
      have h3' : DataW.trod enc Tryz.prog w 0 (fun _ => true) true m1 32 [c3, c4, c5, c6] = some z3 := h3
      obtain ⟨nk, ndd, ne, u, y, m2, hm2, ee, hy, hwy, _⟩ := node_of_trod h3' hwn
      obtain ⟨kl, hkl⟩ := lies_of_trod m2 u y hy hwy
      simp only [List.take_succ_cons, List.take_zero, List.cons.injEq, and_true] at e0 e1 e2 e4 e5 e6 ee
      subst e0; subst e1; subst e2; subst e4; subst e5; subst e6
      obtain ⟨rfl, rfl, rfl, rfl⟩ := ee
      have k0 := hcc 0 (by omega)
      have k1 := hcc 1 (by omega)
      have k2 := hcc 2 (by omega)
      have k3 := hcc 3 (by omega)
      have k4 := hcc 4 (by omega)
      have k5 := hcc 5 (by omega)
      have k6 := hcc 6 (by omega)
      have k7 := hcc 7 (by omega)
      have k8 := hcc 8 (by omega)
      have k9 := hcc 9 (by omega)
      simp only [List.getElem?_cons_zero, List.getElem?_cons_succ] at k0 k1 k2 k3 k4 k5 k6 k7 k8 k9
      obtain ⟨b, off, rfl⟩ : ∃ b off, a = ⟨b, off, none⟩ := by
        have hb0 := hE 0 (by omega)
        rw [cellsTA] at hb0
        obtain ⟨el0, he0⟩ : ∃ el, elems[0]? = some el := ⟨elems[0]'(by omega), List.getElem?_eq_getElem (by omega)⟩
        rw [he0] at hb0
        obtain ⟨cs0, hc0, _⟩ := Option.bind_eq_some_iff.1 hb0
        obtain ⟨_, hcl0, hcc0⟩ := World.cells?_some hc0
        have j0 := hcc0 0 (by omega)
        rw [List.getElem?_eq_getElem (by omega)] at j0
        obtain ⟨b, off, spot⟩ := a
        have hsp : spot = none := by simpa [Addr.add] using World.cell?_spot j0
        subst hsp
        exact ⟨b, off, rfl⟩
      simp only [Addr.add_mid, Nat.add_zero] at k0 k1 k2 k3 k4 k5 k6 k7 k8 k9
      exact ⟨⟨kind, path, str, ⟨nk, ndd, ne, kl⟩, nK, nN, nB⟩, ⟨hk, hp, hs, w4, w5, w6⟩, b, off, _, rfl, World.block_lt_of_cell? w _ k0, ⟨k0, k1, k2, k3, k4, k5, k6, k7, k8, k9, hkl.up (Nat.le_refl _) (by omega)⟩⟩
    haveI : Inhabited TAct := ⟨⟨ByteArray.empty, ByteArray.empty, ByteArray.empty, ⟨ByteArray.empty, ByteArray.empty, false, []⟩, 0, 0, 0⟩⟩
    obtain ⟨f, hf⟩ := Deep.choose_lt hone
    refine ⟨(List.range len).map f, some a, cap, by simp, fun c hc => ?_, fun i y hy => ?_⟩
    · obtain ⟨i, hi, rfl⟩ := List.mem_map.1 hc
      exact (hf i (by simpa using hi)).1
    · have hi : i < len := by have := (List.getElem?_eq_some_iff.1 hy).1; simpa using this
      have ey : y = f i := by
        rw [List.getElem?_map, List.getElem?_range hi] at hy
        simpa using hy.symm
      subst ey
      obtain ⟨_, b, off, u, e, q⟩ := hf i hi
      exact ⟨b, off, u, by rw [e], q⟩
set_option maxRecDepth 100000 in
theorem tacts_arg {base : Nat} {v : Value} {d : DataW H} {p : List MemPlace} (hval : Value.okWide Tryz.prog w .any base 22 v) (h : DataW.Trod enc Tryz.prog w 0 (fun _ => true) true 22 v d p) (hw : ∀ m ∈ d.weights Tryz.prog 22, m ≤ reachBytes) : ∃ l n, TActsIn w n l v := by
  obtain ⟨va, vn, vc, rfl⟩ := okWide_slice Tryz.underlying22 hval
  obtain ⟨fuel, hf⟩ := h
  obtain ⟨l, hl⟩ := tacts_of_trod hf hw
  exact ⟨l, fuel, hl⟩
end
end Go.Proofs.YteefneelcgeioaaGreatDoor
namespace Go.Proofs.YteefneelcgeioaaGreatDoor
open Go.RowKit

def kidsOf (most : Nat) (x : ByteArray × Nat × Tree) : List (ByteArray × Nat × Tree) := (x.2.2.kids.take (most + 1)).map fun y => (x.1 ++ slash ++ y.1, x.2.1 + 1, y.2)
def grow (most deep : Nat) (l : List (ByteArray × Nat × Tree)) (i : Nat) : List (ByteArray × Nat × Tree) :=
  match l[i]? with
  | none => l
  | some x => if deep < x.2.1 then l else l.take (i + 1) ++ kidsOf most x ++ l.drop (i + 1)
def listTo (most deep : Nat) (l : List (ByteArray × Nat × Tree)) : Nat → List (ByteArray × Nat × Tree)
  | 0 => l
  | i + 1 => grow most deep (listTo most deep l i) i
def listOf (most deep : Nat) (t : Tree) : List (ByteArray × Nat × Tree) := listTo most deep [(ByteArray.empty, 0, t)] (most + 1)

theorem listTo_done {most deep : Nat} {l : List (ByteArray × Nat × Tree)} {i : Nat} (h : (listTo most deep l i).length ≤ i) : ∀ n, i ≤ n → listTo most deep l n = listTo most deep l i := by
  intro n hn
  induction n with
  | zero => have : i = 0 := by omega
            subst this; rfl
  | succ n ih =>
    rcases Nat.lt_or_ge n i with hlt | hge
    · have : i = n + 1 := by omega
      subst this; rfl
    · have e := ih hge
      show grow most deep (listTo most deep l n) n = _
      rw [e]
      unfold grow
      rw [List.getElem?_eq_none (by omega)]
theorem listTo_len {most deep : Nat} {l : List (ByteArray × Nat × Tree)} : ∀ i, (listTo most deep l i).length ≤ l.length + i * (most + 1)
  | 0 => by simp [listTo]
  | i + 1 => by
    have ih := listTo_len (most := most) (deep := deep) (l := l) i
    have e : (i + 1) * (most + 1) = i * (most + 1) + (most + 1) := by rw [Nat.add_mul]; omega
    show (grow most deep (listTo most deep l i) i).length ≤ _
    unfold grow
    split
    · omega
    · rename_i x hx
      split
      · omega
      · have hi : i < (listTo most deep l i).length := (List.getElem?_eq_some_iff.1 hx).1
        have hk : (kidsOf most x).length ≤ most + 1 := by unfold kidsOf; simp; omega
        simp only [List.length_append, List.length_take, List.length_drop]
        omega

/-- An item in memory: its cells, with its kids' slice. -/
def itCells : List ((ByteArray × Nat × Tree) × Value) → List Value
  | [] => []
  | x :: l => .string x.1.1 :: .int .i64 (x.1.2.1 : Int) :: .string x.1.2.2.kind :: .string x.1.2.2.data :: .bool x.1.2.2.exec :: x.2 :: itCells l
theorem itCells_append : ∀ (a b : List ((ByteArray × Nat × Tree) × Value)), itCells (a ++ b) = itCells a ++ itCells b
  | [], b => rfl
  | x :: a, b => by simp only [List.cons_append, itCells]; rw [itCells_append a b]
theorem itCells_length : ∀ (a : List ((ByteArray × Nat × Tree) × Value)), (itCells a).length = a.length * 6
  | [] => rfl
  | x :: a => by simp only [itCells, List.length_cons, itCells_length a]; omega
theorem itCells_at : ∀ {l : List ((ByteArray × Nat × Tree) × Value)} {i : Nat} {x : (ByteArray × Nat × Tree) × Value}, l[i]? = some x →
    (itCells l)[i * 6]? = some (.string x.1.1) ∧ (itCells l)[i * 6 + 1]? = some (.int .i64 (x.1.2.1 : Int)) ∧ (itCells l)[i * 6 + 2]? = some (.string x.1.2.2.kind) ∧ (itCells l)[i * 6 + 3]? = some (.string x.1.2.2.data) ∧ (itCells l)[i * 6 + 4]? = some (.bool x.1.2.2.exec) ∧ (itCells l)[i * 6 + 5]? = some x.2
  | [], i, x, h => by simp at h
  | y :: l, 0, x, h => by
    simp only [List.getElem?_cons_zero, Option.some.injEq] at h
    subst h
    exact ⟨rfl, rfl, rfl, rfl, rfl, rfl⟩
  | y :: l, i + 1, x, h => by
    simp only [List.getElem?_cons_succ] at h
    have := itCells_at h
    have e : ∀ k, (i + 1) * 6 + k = (i * 6 + k) + 1 + 1 + 1 + 1 + 1 + 1 := fun k => by omega
    simp only [itCells]
    refine ⟨?_, ?_, ?_, ?_, ?_, ?_⟩
    · rw [show (i + 1) * 6 = (i * 6) + 1 + 1 + 1 + 1 + 1 + 1 from by omega]; simpa using this.1
    · rw [e]; simpa using this.2.1
    · rw [e]; simpa using this.2.2.1
    · rw [e]; simpa using this.2.2.2.1
    · rw [e]; simpa using this.2.2.2.2.1
    · rw [e]; simpa using this.2.2.2.2.2
theorem itCells_oneCell {l : List ((ByteArray × Nat × Tree) × Value)} (h : ∀ x ∈ l, ∃ ad n c, x.2 = .slice ad n c) : ∀ u ∈ itCells l, u.oneCell' = true := by
  induction l with
  | nil => intro u hu; simp [itCells] at hu
  | cons x l ih =>
    intro u hu
    obtain ⟨ad, n, c, e⟩ := h x List.mem_cons_self
    simp only [itCells, List.mem_cons] at hu
    rcases hu with rfl | rfl | rfl | rfl | rfl | rfl | hu
    · rfl
    · rfl
    · rfl
    · rfl
    · rfl
    · rw [e]; rfl
    · exact ih (fun y hy => h y (List.mem_cons_of_mem _ hy)) u hu
theorem itCells_take {l : List ((ByteArray × Nat × Tree) × Value)} (k : Nat) : itCells (l.take k) = (itCells l).take (k * 6) := by
  induction l generalizing k with
  | nil => simp [itCells]
  | cons x l ih =>
    cases k with
    | zero => simp [itCells]
    | succ k =>
      simp only [List.take_succ_cons, itCells, ih]
      rw [show (k + 1) * 6 = k * 6 + 1 + 1 + 1 + 1 + 1 + 1 from by omega]
      simp only [List.take_succ_cons]
theorem itCells_drop {l : List ((ByteArray × Nat × Tree) × Value)} (k : Nat) : itCells (l.drop k) = (itCells l).drop (k * 6) := by
  induction l generalizing k with
  | nil => simp [itCells]
  | cons x l ih =>
    cases k with
    | zero => simp [itCells]
    | succ k =>
      simp only [List.drop_succ_cons, itCells, ih]
      rw [show (k + 1) * 6 = k * 6 + 1 + 1 + 1 + 1 + 1 + 1 from by omega]
      simp only [List.drop_succ_cons]
theorem ownsRow_lower {w : World} {base base' : Nat} {e : TypeId} {size : Nat} {v : Value} {n : Nat} {xs : List Value} (h : w.ownsRow base e size v n xs) (hb : base' ≤ base) : w.ownsRow base' e size v n xs := by
  obtain ⟨h1, h2⟩ := h
  refine ⟨h1, ?_⟩
  rcases h2 with h2 | ⟨g, cap, cur, hv, hg, hh, r⟩
  · exact .inl h2
  · exact .inr ⟨g, cap, cur, hv, by omega, hh, r⟩
theorem ownsRow_single (w : World) (base : Nat) (e : TypeId) (size : Nat) (cs : Array Value) (hb : base ≤ w.heap.size) (hs : cs.size = size) : (w.alloc (.cells cs e)).ownsRow base e size (.slice (some ⟨w.heap.size, 0, none⟩) 1 1) 1 cs.toList := by
  refine ⟨by simp [hs], .inr ⟨w.heap.size, 1, cs, rfl, hb, heap_alloc_new w _, Nat.le_refl _, by unfold maxLen; omega, by omega, ?_⟩⟩
  rw [List.take_of_length_le (by simp; omega)]
end Go.Proofs.YteefneelcgeioaaGreatDoor
