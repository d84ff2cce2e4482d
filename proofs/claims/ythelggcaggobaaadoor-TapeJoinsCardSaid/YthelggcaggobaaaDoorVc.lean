/-
  A tape in memory: its bytes, an append of bytes to them, and what stands when a tape turns.
  Conditions: none beside each theorem's own.
-/
import Derived.Test.YthelggcaggobaaaDoorVa
import Derived.Test.YthelggcaggobaaaDoorProg
import Derived.Lib.FrozenHead
import Derived.Lib.ConvBytes
import Derived.Lib.Bytes
import Derived.Laws.IdiomStrings
import Derived.KernelRfl
import Derived.Below
namespace Go.Proofs.YthelggcaggobaaaDoor
open Go.RowKit

theorem infoU8 : (Tryd.prog.info? 5).map (fun i => (i.zero, i.size, i.bytes)) = some (some (.int .u8 0), 1, 1) := by kernel_rfl
/-- A row of bytes: l, and room behind them. -/
def RowU (w : World) (g cap : Nat) (l : List UInt8) : Prop := ∃ cur fz, w.heap[g]? = some (.cells cur 5 fz) ∧ (fz.2 ≤ l.length ∨ cur.size ≤ fz.1) ∧ l.length ≤ cap ∧ cap ≤ maxLen ∧ cur.size = cap ∧ cur.toList.take l.length = Lib.byteCells l
theorem RowU.lt {w : World} {g cap : Nat} {l : List UInt8} (h : RowU w g cap l) : g < w.heap.size := by
  obtain ⟨_, _, h, _⟩ := h
  exact (Array.getElem?_eq_some_iff.1 h).1
theorem RowU.keep {w w' : World} {g cap : Nat} {l : List UInt8} (h : RowU w g cap l) (e : w'.heap[g]? = w.heap[g]?) : RowU w' g cap l := by
  obtain ⟨cur, fz, h1, h2⟩ := h
  exact ⟨cur, fz, e.trans h1, h2⟩
theorem RowU.cell {w : World} {g cap : Nat} {l : List UInt8} (h : RowU w g cap l) (j : Nat) (hj : j < l.length) : w.cell? ((⟨g, 0, none⟩ : Addr).add j) = some (.int .u8 (l[j].toNat : Int)) := by
  obtain ⟨cur, fz, h1, _, _, _, _, h2⟩ := h
  have hadd : (⟨g, 0, none⟩ : Addr).add j = ⟨g, j, none⟩ := by unfold Addr.add; split <;> simp_all
  rw [hadd, cell_of_row w g j cur 5 fz h1]
  have e : (cur.toList.take l.length)[j]? = some (.int .u8 (l[j].toNat : Int)) := by
    rw [h2]
    simp [Lib.byteCells, hj]
  rw [List.getElem?_take_of_lt hj] at e
  simpa using e
theorem RowU.cut {w : World} {g cap : Nat} {l : List UInt8} (h : RowU w g cap l) (k : Nat) (hk : k ≤ l.length) (hf : ∀ cur fz, w.heap[g]? = some (.cells cur 5 fz) → fz = (0, 0) ∨ cur.size ≤ fz.1) : RowU w g cap (l.take k) := by
  obtain ⟨cur, fz, h1, h2, h3, h4, h5, h6⟩ := h
  have hl : (l.take k).length = k := by rw [List.length_take]; omega
  refine ⟨cur, fz, h1, ?_, by omega, h4, h5, ?_⟩
  · rcases hf cur fz h1 with rfl | h
    · exact .inl (Nat.zero_le _)
    · exact .inr h
  · rw [hl]
    have := congrArg (List.take k) h6
    rw [List.take_take, Nat.min_eq_left hk] at this
    rw [this]
    simp [Lib.byteCells, List.map_take]
theorem store_marked (P : Program) (g o : Nat) (t : TypeId) (fz : Nat × Nat) : ∀ (vs : List Value) (i : Nat) (cur : Array Value) (w : World), w.heap[g]? = some (.cells cur t fz) → (fz.2 ≤ o + i ∨ cur.size ≤ fz.1) → o + i + vs.length ≤ cur.size → (∀ v ∈ vs, v.oneCell' = true) →
    (storeCells ⟨g, o, none⟩ vs i).run P w = .ok () (w.setRow g (cur.toList.take (o + i) ++ vs ++ cur.toList.drop (o + i + vs.length)).toArray)
  | [], i, cur, w, hg, _, _, _ => by
    simp only [storeCells, List.append_nil, List.length_nil, Nat.add_zero, List.take_append_drop, Array.toArray_toList]
    rw [setRow_self w g cur t fz hg]
    rfl
  | v :: rest, i, cur, w, hg, hfz, hl, h1 => by
    have hi : o + i < cur.size := by simp at hl; omega
    have hadd : (⟨g, o, none⟩ : Addr).add i = ⟨g, o + i, none⟩ := by unfold Addr.add; split <;> simp_all
    have hcell : w.cell? ⟨g, o + i, none⟩ = some cur[o + i] := by simp [World.cell?, hg, hi]
    have hfro : w.frozen? ⟨g, o + i, none⟩ = false := by
      obtain ⟨lo, hi'⟩ := fz
      simp only [World.frozen?, hg, Bool.and_eq_false_iff, decide_eq_false_iff_not]
      simp only at hfz
      omega
    have hst : (store ((⟨g, o, none⟩ : Addr).add i) v).run P w = .ok () (w.setRow g (cur.setIfInBounds (o + i) v)) := by
      rw [hadd, run_store P w _ v _ (h1 v (by simp)), hcell]
      simp [hfro, setCell_eq_setRow w g (o + i) cur t fz v hg]
    have ih := store_marked P g o t fz rest (i + 1) (cur.setIfInBounds (o + i) v) (w.setRow g (cur.setIfInBounds (o + i) v)) (setRow_heap w g cur _ t _ hg) (by simp; omega) (by simp at hl ⊢; omega) (fun x hx => h1 x (by simp [hx]))
    simp only [storeCells, Sem.run_bind, hst, Result.andThen_ok, ih, setRow_setRow]
    congr 3
    have e := list_seg_step cur.toList (o + i) v rest (by simp at hl ⊢; omega)
    simpa [Array.toList_setIfInBounds, Nat.add_assoc] using e
/-- Marks of rows of bytes: none, or behind the row. -/
def Mk0 (w : World) (g : Nat) : Prop := ∀ cur fz, w.heap[g]? = some (.cells cur 5 fz) → fz = (0, 0) ∨ cur.size ≤ fz.1
theorem run_appB (w : World) (g cap : Nat) (l : List UInt8) (ty : TypeId) (hR : RowU w g cap l) (hM : Mk0 w g) (x : ByteArray) (hlen : l.length + x.size ≤ 1000000000) :
    ∃ g' cap' w', (Builtin.append_ #[50, 9] ty #[.slice (some ⟨g, 0, none⟩) l.length cap, .string x]).run Tryd.prog w = .ok (.slice (some ⟨g', 0, none⟩) (l.length + x.size) cap') w' ∧ RowU w' g' cap' (l ++ x.data.toList) ∧ Mk0 w' g' ∧ w.grownBy w' (some g) ∧ (g' = g ∨ w.heap.size ≤ g') := by
  obtain ⟨i0, hi0, hz⟩ := Option.map_eq_some_iff.1 infoU8
  simp only [Prod.mk.injEq] at hz
  obtain ⟨hz0, hz1, hz2⟩ := hz
  have hRc := hR.cell
  obtain ⟨cur, fz, hg, hfz, hlc, hcm, hcs, htk⟩ := hR
  have hxl : x.data.toList.length = x.size := by simp
  have hbc : (Lib.byteCells l).length = l.length := by simp [Lib.byteCells]
  have hcat : Lib.byteCells l ++ Lib.strCells x = Lib.byteCells (l ++ x.data.toList) := by simp [Lib.byteCells, Lib.strCells]
  by_cases hroom : l.length + x.size ≤ cap
  · have hf := Lib.run_firstCells_string (P := Tryd.prog) w 1 x
    have hst := store_marked Tryd.prog g l.length 5 fz (Lib.strCells x) 0 cur w hg hfz (by rw [Lib.strCells_length]; omega) (Lib.strCells_oneCell x)
    simp only [Nat.add_zero, Lib.strCells_length] at hst
    refine ⟨g, cap, w.setRow g (cur.toList.take l.length ++ Lib.strCells x ++ cur.toList.drop (l.length + x.size)).toArray, ?_, ⟨_, fz, setRow_heap w g cur _ 5 _ hg, ?_, ?_, hcm, ?_, ?_⟩, ?_, ⟨rfl, rfl, rfl, by simp, fun k _ hk => setRow_other w g k _ (fun e => hk (by rw [e]))⟩, .inl rfl⟩
    · simp [Builtin.append_, run_underlying Tryd.underlying50, run_underlying Tryd.underlying9, sizeOf, typeInfo, hi0, hz1, Builtin.lenOf, hroom, hf, Addr.add_lit, hst]
    · rcases hfz with h | h
      · exact .inl (by rw [List.length_append]; omega)
      · refine .inr ?_
        simp only [List.size_toArray, List.length_append, List.length_take, List.length_drop, Array.length_toList, Lib.strCells_length]
        omega
    · rw [List.length_append, hxl]; exact hroom
    · simp only [List.size_toArray, List.length_append, List.length_take, List.length_drop, Array.length_toList, Lib.strCells_length]
      omega
    · rw [htk, hcat, List.length_append, hxl]
      have e : (Lib.byteCells (l ++ x.data.toList)).length = l.length + x.size := by simp [Lib.byteCells]
      show List.take _ (_ ++ _) = _
      rw [← e, List.take_left]
    · intro cur' fz' h'
      rw [setRow_heap w g cur _ 5 _ hg] at h'
      simp only [Option.some.injEq, Obj.cells.injEq] at h'
      obtain ⟨rfl, _, rfl⟩ := h'
      rcases hM cur fz hg with h | h
      · exact .inl h
      · refine .inr ?_
        simp only [List.size_toArray, List.length_append, List.length_take, List.length_drop, Array.length_toList, Lib.strCells_length]
        omega
  · have hcap : cap < l.length + x.size := by omega
    have holds : ∀ j v, (Lib.byteCells l)[j]? = some v → w.cell? ((⟨g, 0, none⟩ : Addr).add j) = some v := fun j v hv => by
      have hj : j < l.length := by have := (List.getElem?_eq_some_iff.1 hv).1; omega
      rw [hRc j hj]
      simp [Lib.byteCells, hj] at hv
      rw [← hv]
    have hr := Lib.run_append_grow_string (P := Tryd.prog) w 50 9 ty 5 i0 (.int .u8 0) Tryd.underlying50 Tryd.underlying9 hi0 hz0 ⟨g, 0, none⟩ l.length cap (Lib.byteCells l) (by rw [hz1, hbc, Nat.mul_one]) holds x hcap (by omega) (by rw [hz2]; exact growslice_fits (by omega) (by omega))
    have hge := grownCap_ge w (l.length + x.size) cap 5
    have hcm2 : grownCap w (l.length + x.size) cap 5 ≤ maxLen := grownCap_le_maxLen w (l.length + x.size) cap 5 (by unfold maxLen; omega)
    have hnew := heap_alloc_new w.drew (.cells ((Lib.byteCells l).toArray ++ (Lib.strCells x).toArray ++ Builtin.zeroCells (Value.int .u8 0).cells (grownCap w (l.length + x.size) cap 5 - (l.length + x.size))) 5)
    have hz8 : (Value.int IntKind.u8 0).cells.size = 1 := rfl
    refine ⟨w.heap.size, _, _, hr, ⟨_, (0, 0), hnew, .inl (Nat.zero_le _), by rw [List.length_append, hxl]; exact hge, hcm2, ?_, ?_⟩, ?_, ⟨rfl, rfl, rfl, by simp, fun k hk _ => heap_alloc_old w.drew _ k hk⟩, .inr (Nat.le_refl _)⟩
    · simp only [Array.size_append, List.size_toArray, size_zeroCells, hz8, hbc, Lib.strCells_length]
      omega
    · have e : (Lib.byteCells (l ++ x.data.toList)).length = l.length + x.size := by simp [Lib.byteCells]
      simp only [Array.toList_append]
      rw [hcat, List.length_append, hxl, ← e, List.take_left]
    · intro cur' fz' h'
      rw [show (World.alloc w.drew _).heap[w.heap.size]? = _ from hnew] at h'
      simp only [Option.some.injEq, Obj.cells.injEq] at h'
      exact .inl h'.2.2.symm
theorem wpList_appB {ops : Array Oper} {rest : List Oper} {o : Oper} {a : Act} {Q : Exit → Act → World → Prop} (w : World) (hgd : o.guard = none) (sl x : Operand)
    (ho : o.op = .call { callee := .builtin .append, args := #[sl, x], argTypes := #[50, 9] }) (g cap : Nat) (l : List UInt8) (s : ByteArray) (hs : a.eval sl = .slice (some ⟨g, 0, none⟩) l.length cap) (hx : a.eval x = .string s) (hR : RowU w g cap l) (hM : Mk0 w g) (hlen : l.length + s.size ≤ 1000000000)
    (h : ∀ g' cap' w', RowU w' g' cap' (l ++ s.data.toList) → Mk0 w' g' → w.grownBy w' (some g) → (g' = g ∨ w.heap.size ≤ g') → wpList Tryd.prog ops Q rest (a.put o.dst (.slice (some ⟨g', 0, none⟩) (l.length + s.size) cap')) w') : wpList Tryd.prog ops Q (o :: rest) a w := by
  refine wpList_plain hgd fun K hK => ?_
  obtain ⟨g', cap', w', hrun, h1, h2, h3, h4⟩ := run_appB w g cap l o.type hR hM s hlen
  unfold Oper.wp
  simp [execOp, ho, resolve, invoke, builtin, hs, hx, hrun, Result.andThen]
  exact hK _ _ (h g' cap' w' h1 h2 h3 h4)
theorem step_appB {ops : Array Oper} {o : Oper} {a : Act} {K : Act → World → Prop} {Q : Exit → Act → World → Prop} {E : Prop} (w : World) (hgd : o.guard = none) (sl x : Operand)
    (ho : o.op = .call { callee := .builtin .append, args := #[sl, x], argTypes := #[50, 9] }) (g cap : Nat) (l : List UInt8) (s : ByteArray) (hs : a.eval sl = .slice (some ⟨g, 0, none⟩) l.length cap) (hx : a.eval x = .string s) (hR : RowU w g cap l) (hM : Mk0 w g) (hlen : l.length + s.size ≤ 1000000000)
    (h : ∀ g' cap' w', RowU w' g' cap' (l ++ s.data.toList) → Mk0 w' g' → w.grownBy w' (some g) → (g' = g ∨ w.heap.size ≤ g') → K (a.put o.dst (.slice (some ⟨g', 0, none⟩) (l.length + s.size) cap')) w') : if Region.wanted o (yielded ops a.tmps) = true then Oper.wp Tryd.prog o a w K Q else E := by
  rw [if_pos (by simp [Region.wanted, hgd])]
  obtain ⟨g', cap', w', hrun, h1, h2, h3, h4⟩ := run_appB w g cap l o.type hR hM s hlen
  unfold Oper.wp
  simp [execOp, ho, resolve, invoke, builtin, hs, hx, hrun, Result.andThen]
  exact h g' cap' w' h1 h2 h3 h4

/-! ### The tape -/
/-- What a tape is: bytes, is power off, does a Cut wait, and for how many bytes. -/
structure Tp where
  l : List UInt8
  off : Bool
  cut : Bool
  left : Int
/-- The tape's block d, and its bytes' block g. -/
structure TpAt (w : World) (B d g cap : Nat) (t : Tp) : Prop where
  blk : ∃ z : Int, (0 ≤ z ∧ z ≤ (t.l.length : Int)) ∧ w.heap[d]? = some (.cells #[.slice (some ⟨g, 0, none⟩) t.l.length cap, .bool t.off, .bool t.cut, .int .i64 t.left, .int .i64 z] 52 (0, 0))
  row : RowU w g cap t.l
  mark : Mk0 w g
  hd : B ≤ d
  hg : B ≤ g
  lf : 0 ≤ t.left ∧ t.left ≤ 9223372036854775807
/-- What a tape's acts turn: its block, and its bytes'. -/
structure TpBut (d g : Nat) (w w' : World) : Prop where
  os : w'.os = w.os
  tape : w'.tape = w.tape
  output : w'.output = w.output
  size : w.heap.size ≤ w'.heap.size
  block : ∀ k, k < w.heap.size → k ≠ d → k ≠ g → w'.heap[k]? = w.heap[k]?
theorem TpBut.refl (d g : Nat) (w : World) : TpBut d g w w := ⟨rfl, rfl, rfl, Nat.le_refl _, fun _ _ _ _ => rfl⟩
theorem TpBut.of_below {d g : Nat} {w w' : World} (h : Below w.heap.size w w') : TpBut d g w w' := ⟨h.os, h.tape, h.output, h.size, fun k hk _ _ => h.block k hk⟩
theorem TpBut.below {d g B : Nat} {w w' : World} (h : TpBut d g w w') (hB : B ≤ w.heap.size) (hd : B ≤ d) (hg : B ≤ g) : Below B w w' := ⟨h.os, h.tape, h.output, h.size, fun k hk => h.block k (by omega) (by omega) (by omega)⟩
theorem TpBut.trans {d g g' : Nat} {w w1 w2 : World} (h : TpBut d g w w1) (h' : TpBut d g' w1 w2) (hg : g' = g ∨ w.heap.size ≤ g') : TpBut d g w w2 :=
  ⟨h'.os.trans h.os, h'.tape.trans h.tape, h'.output.trans h.output, Nat.le_trans h.size h'.size, fun k hk hd hne => (h'.block k (Nat.lt_of_lt_of_le hk h.size) hd (by rcases hg with rfl | hg <;> omega)).trans (h.block k hk hd hne)⟩
section
variable {w w' : World} {B d g cap : Nat} {t : Tp}
theorem TpAt.ne (h : TpAt w B d g cap t) : d ≠ g := by
  rintro rfl
  obtain ⟨cur, fz, h1, _⟩ := h.row
  obtain ⟨z, _, hb⟩ := h.blk
  rw [hb] at h1
  simp only [Option.some.injEq, Obj.cells.injEq] at h1
  exact absurd h1.2.1 (by decide)
theorem TpAt.lt (h : TpAt w B d g cap t) : d < w.heap.size := by
  obtain ⟨z, _, hb⟩ := h.blk
  exact (Array.getElem?_eq_some_iff.1 hb).1
theorem TpAt.c0 (h : TpAt w B d g cap t) : w.cell? ⟨d, 0, none⟩ = some (.slice (some ⟨g, 0, none⟩) t.l.length cap) := by
  obtain ⟨z, _, hb⟩ := h.blk
  rw [cell_of_row _ _ _ _ _ _ hb]; rfl
theorem TpAt.c1 (h : TpAt w B d g cap t) : w.cell? ⟨d, 1, none⟩ = some (.bool t.off) := by
  obtain ⟨z, _, hb⟩ := h.blk
  rw [cell_of_row _ _ _ _ _ _ hb]; rfl
theorem TpAt.c2 (h : TpAt w B d g cap t) : w.cell? ⟨d, 2, none⟩ = some (.bool t.cut) := by
  obtain ⟨z, _, hb⟩ := h.blk
  rw [cell_of_row _ _ _ _ _ _ hb]; rfl
theorem TpAt.c3 (h : TpAt w B d g cap t) : w.cell? ⟨d, 3, none⟩ = some (.int .i64 t.left) := by
  obtain ⟨z, _, hb⟩ := h.blk
  rw [cell_of_row _ _ _ _ _ _ hb]; rfl
theorem TpAt.fr (h : TpAt w B d g cap t) (i : Nat) : w.frozen? ⟨d, i, none⟩ = false := by
  obtain ⟨z, _, hb⟩ := h.blk
  simp [World.frozen?, hb]
theorem TpAt.keep (h : TpAt w B d g cap t) (hd : w'.heap[d]? = w.heap[d]?) (hg : w'.heap[g]? = w.heap[g]?) : TpAt w' B d g cap t :=
  ⟨by obtain ⟨z, hz, hb⟩ := h.blk; exact ⟨z, hz, hd.trans hb⟩, h.row.keep hg, fun cur fz hh => h.mark cur fz (hg.symm.trans hh), h.hd, h.hg, h.lf⟩
theorem TpAt.below (h : TpAt w B d g cap t) (hb : Below w.heap.size w w') : TpAt w' B d g cap t := h.keep (hb.block _ h.lt) (hb.block _ h.row.lt)
/-- The tape's block gets other cells. -/
theorem TpAt.set (h : TpAt w B d g cap t) {g' cap' : Nat} {t' : Tp} {z : Int} (hb : w'.heap[d]? = some (.cells #[.slice (some ⟨g', 0, none⟩) t'.l.length cap', .bool t'.off, .bool t'.cut, .int .i64 t'.left, .int .i64 z] 52 (0, 0))) (hz : 0 ≤ z ∧ z ≤ (t'.l.length : Int)) (hr : RowU w' g' cap' t'.l) (hm : Mk0 w' g') (hg : B ≤ g') (hl : 0 ≤ t'.left ∧ t'.left ≤ 9223372036854775807) : TpAt w' B d g' cap' t' := ⟨⟨z, hz, hb⟩, hr, hm, h.hd, hg, hl⟩
theorem TpAt.bytes (h : TpAt w B d g cap t) : (convert 50 9 (.slice (some ⟨g, 0, none⟩) t.l.length cap)).run Tryd.prog w = .ok (.string (bs t.l)) w :=
  run_convert_bytes_back w 50 9 5 ⟨g, 0, none⟩ cap t.l Tryd.underlying50 Tryd.underlying5 Tryd.underlying9 h.row.cell
end
theorem set_tape {w : World} {d : Nat} {x0 x1 x2 x3 x4 y : Value} {t : TypeId} (h : w.heap[d]? = some (.cells #[x0, x1, x2, x3, x4] t (0, 0))) :
    (w.setCell ⟨d, 0, none⟩ y).heap[d]? = some (.cells #[y, x1, x2, x3, x4] t (0, 0)) ∧ (w.setCell ⟨d, 1, none⟩ y).heap[d]? = some (.cells #[x0, y, x2, x3, x4] t (0, 0)) ∧ (w.setCell ⟨d, 2, none⟩ y).heap[d]? = some (.cells #[x0, x1, y, x3, x4] t (0, 0)) ∧ (w.setCell ⟨d, 3, none⟩ y).heap[d]? = some (.cells #[x0, x1, x2, y, x4] t (0, 0)) ∧ (w.setCell ⟨d, 4, none⟩ y).heap[d]? = some (.cells #[x0, x1, x2, x3, y] t (0, 0)) := by
  simp [World.setCell, Array.getElem?_modify, h]
theorem set_other {w : World} {d k i : Nat} {y : Value} (h : k ≠ d) : (w.setCell ⟨d, i, none⟩ y).heap[k]? = w.heap[k]? := Below.heap_setCell _ _ _ _ h
end Go.Proofs.YthelggcaggobaaaDoor
