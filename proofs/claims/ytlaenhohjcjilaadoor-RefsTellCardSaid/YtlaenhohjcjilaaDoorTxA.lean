/-
  Texts as a map's keys, and a step of walks that puts into a map.
  Conditions: the texts lie in memory.
-/
import Derived.Test.YtlaenhohjcjilaaDoorRa
import Derived.Test.YtlaenhohjcjilaaDoorDv
import Derived.Test.YtlaenhohjcjilaaDoorTextsE
import Derived.Test.YtlaenhohjcjilaaDoorSen
namespace Go.Proofs.YtlaenhohjcjilaaDoor
open Go.RowKit Go.Maps
attribute [local go_sem ↓] Go.wp_at_zero Go.wp_at_succ

theorem heap_alloc_last (w : World) (o : Obj) : (w.alloc o).heap[w.heap.size]? = some o := by
  show (w.heap.push o)[w.heap.size]? = _
  simp
theorem keyStr : Keyed Tryd.prog 9 := string_keyed Tryd.underlying9
theorem memB_snoc (x s : ByteArray) (S : List ByteArray) : memB x (S ++ [s]) = (memB x S || (s.toList == x.toList)) := by
  unfold memB
  rw [List.any_append]
  simp
theorem wpList_mapPut {P : Program} {ops : Array Oper} {rest : List Oper} {o : Oper} {a : Act} {w w' : World} {Q : Exit → Act → World → Prop} (hgd : o.guard = none) (m x v : Operand) (t : TypeId) (ho : o.op = .mapUpdate t m x v) (mv xv vv : Value)
    (hm : a.eval m = mv) (hx : a.eval x = xv) (hv : a.eval v = vv) (hr : (Instr.mapUpdate t mv xv vv).run P w = .ok () w') (h : wpList P ops Q rest (a.put o.dst undef) w') : wpList P ops Q (o :: rest) a w := by
  refine wpList_plain hgd fun K' hK' => ?_
  unfold Oper.wp
  simp [execOp, ho, hm, hx, hv, hr, Result.andThen]
  exact hK' _ _ h
/-- Below a number, over a step that turns one block from there on. -/
theorem below_by {B mb : Nat} {w W W' : World} (h : Below B w W) (hg : W.grownBy W' (some mb)) (hB : B ≤ mb) (hs : B ≤ W.heap.size) : Below B w W' := h.grown hg hs (fun k e => by cases e; exact hB)
theorem Texts.apart {w w' : World} {v : Value} {l : List ByteArray} {mb : Nat} (h : Texts w v l) (hm : ∃ es cl, w.heap[mb]? = some (.map es cl)) (hg : w.grownBy w' (some mb)) : Texts w' v l := by
  obtain ⟨ad, cap, e, hc⟩ := h
  refine ⟨ad, cap, e, fun i x hx => ?_⟩
  obtain ⟨b, off, e1, h1⟩ := hc i x hx
  refine ⟨b, off, e1, ?_⟩
  obtain ⟨es, cl, hm⟩ := hm
  rw [World.cell?_of_block (a := ⟨b, off + i, none⟩) (hg.block b (lt_of_cell h1) (fun e2 => by
    obtain rfl := Option.some.inj e2
    unfold World.cell? at h1
    simp only [hm] at h1
    cases h1))]
  exact h1

theorem drewN_below' {w W : World} {B m : Nat} (h : Below B w W) : Below B w (W.drewN m) := below_drewN h _

theorem one_text {w : World} {b : Nat} {x : ByteArray} {t : TypeId} (h : w.heap[b]? = some (.cells #[.string x] t (0, 0))) (c : Nat) : Texts w (.slice (some ⟨b, 0, none⟩) 1 c) [x] := ⟨_, _, rfl, fun i y hy => ⟨_, _, rfl, by
  cases i with
  | zero =>
    obtain rfl := Option.some.inj hy
    rw [cell_of_row _ _ _ _ _ _ h]; rfl
  | succ i => cases hy⟩⟩

end Go.Proofs.YtlaenhohjcjilaaDoor
