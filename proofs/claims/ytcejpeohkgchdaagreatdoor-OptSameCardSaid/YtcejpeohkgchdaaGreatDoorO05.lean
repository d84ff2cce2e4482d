/-
  A space of blocks: what is free, taken and given back, as functions on lists; a space in memory.
  Numbers in memory: as cells, and in a row of their own; the contract of the law's own copy of numbers.
  The contracts of package space: New, marks, where.
  The contracts of package space: Used, Free, mark, Copy, Need, and of slices.Clone and slices.ContainsFunc.
  Conditions: those that each states.
-/
import Derived.Below
import Derived.Laws.AppendOwn
import Derived.Deep.WholeRow
import Derived.Test.YtcejpeohkgchdaaGreatDoorProg
import Derived.WalkKit
import Derived.Deep.MidRow
import Derived.LoopN
import Derived.BigQuiet
import Derived.KernelRfl
import Derived.Handy
import Derived.Laws.MakeOwn
import Derived.Laws.IdiomStrings
import Derived.Shelf.Abstract
import Derived.Maps.AppendAt
import Derived.Lib.Walk
import Derived.Lib.SliceRun
namespace Go.Proofs.YtcejpeohkgchdaaGreatDoor
open Go.RowKit

/-- The blocks below n that are wanted by what is used. -/
def whereR (p : Bool → Bool) (u : List Bool) (n : Nat) : List Nat := (List.range n).filter fun k => p (u[k]?.getD false)
def freeR (u : List Bool) : List Nat := whereR (fun b => !b) u u.length
def usedR (u : List Bool) : List Nat := whereR id u u.length
def markR (u : List Bool) (b : Bool) : List Nat → List Bool
  | [] => u
  | k :: l => markR (u.set k b) b l
/-- Can these be given back, one by one? -/
def giveR (u : List Bool) : List Nat → Bool
  | [] => true
  | k :: l => u[k]?.getD false && giveR (u.set k false) l
theorem whereR_next (p : Bool → Bool) (u : List Bool) (n : Nat) : whereR p u (n + 1) = if p (u[n]?.getD false) then whereR p u n ++ [n] else whereR p u n := by
  unfold whereR
  rw [List.range_succ, List.filter_append]
  by_cases h : p (u[n]?.getD false) = true <;> simp [h]
theorem whereR_lt {p : Bool → Bool} {u : List Bool} {n k : Nat} (h : k ∈ whereR p u n) : k < n := by
  unfold whereR at h
  simpa using (List.mem_filter.1 h).1
theorem whereR_len (p : Bool → Bool) (u : List Bool) (n : Nat) : (whereR p u n).length ≤ n := by
  unfold whereR
  exact Nat.le_trans (List.length_filter_le _ _) (by simp)
theorem whereR_nodup (p : Bool → Bool) (u : List Bool) (n : Nat) : (whereR p u n).Nodup := List.Pairwise.filter _ List.nodup_range
theorem mem_free {u : List Bool} {k : Nat} : k ∈ freeR u ↔ u[k]? = some false := by
  unfold freeR whereR
  simp only [List.mem_filter, List.mem_range, Bool.not_eq_true']
  constructor
  · rintro ⟨h1, h2⟩
    rw [List.getElem?_eq_getElem h1] at h2 ⊢
    simpa using h2
  · intro h
    exact ⟨(List.getElem?_eq_some_iff.1 h).1, by rw [h]; rfl⟩
theorem mem_used {u : List Bool} {k : Nat} : k ∈ usedR u ↔ u[k]? = some true := by
  unfold usedR whereR
  simp only [List.mem_filter, List.mem_range, id]
  constructor
  · rintro ⟨h1, h2⟩
    rw [List.getElem?_eq_getElem h1] at h2 ⊢
    simpa using h2
  · intro h
    exact ⟨(List.getElem?_eq_some_iff.1 h).1, by rw [h]; rfl⟩
theorem free_used_len (u : List Bool) : (freeR u).length + (usedR u).length = u.length := by
  have : ∀ n, (whereR (fun b => !b) u n).length + (whereR id u n).length = n := by
    intro n
    induction n with
    | zero => simp [whereR]
    | succ n ih =>
      rw [whereR_next, whereR_next]
      cases u[n]?.getD false <;> simp <;> omega
  exact this u.length
theorem markR_len (b : Bool) : ∀ (l : List Nat) (u : List Bool), (markR u b l).length = u.length
  | [], _ => rfl
  | k :: l, u => by rw [markR, markR_len b l]; simp
theorem markR_not {b : Bool} : ∀ {l : List Nat} {u : List Bool} {k : Nat}, k ∉ l → (markR u b l)[k]? = u[k]?
  | [], _, _, _ => rfl
  | j :: l, u, k, h => by
    have hne : j ≠ k := fun e => h (by rw [e]; exact List.mem_cons_self)
    rw [markR, markR_not (fun hk => h (List.mem_cons_of_mem _ hk)), List.getElem?_set_ne hne]
theorem markR_in {b : Bool} : ∀ {l : List Nat} {u : List Bool} {k : Nat}, k ∈ l → k < u.length → (markR u b l)[k]? = some b
  | j :: l, u, k, h, hk => by
    rw [markR]
    by_cases hl : k ∈ l
    · exact markR_in hl (by simpa using hk)
    · rw [markR_not hl]
      rcases List.mem_cons.1 h with rfl | h
      · rw [List.getElem?_set_self hk]
      · exact absurd h hl
theorem markR_snoc (b : Bool) : ∀ (l : List Nat) (u : List Bool) (k : Nat), markR u b (l ++ [k]) = (markR u b l).set k b
  | [], _, _ => rfl
  | j :: l, u, k => by rw [List.cons_append, markR, markR, markR_snoc b l]
theorem giveR_snoc : ∀ (l : List Nat) (u : List Bool) (k : Nat), giveR u (l ++ [k]) = (giveR u l && (markR u false l)[k]?.getD false)
  | [], u, k => by simp [giveR, markR]
  | j :: l, u, k => by rw [List.cons_append, giveR, giveR, giveR_snoc l, markR, Bool.and_assoc]
theorem giveR_iff : ∀ (l : List Nat) (u : List Bool), giveR u l = true ↔ l.Nodup ∧ ∀ k ∈ l, u[k]? = some true
  | [], u => by simp [giveR]
  | j :: l, u => by
    rw [giveR, Bool.and_eq_true, giveR_iff l, List.nodup_cons]
    constructor
    · rintro ⟨h1, h2, h3⟩
      have hj : u[j]? = some true := by
        cases h : u[j]? with
        | none => rw [h] at h1; cases h1
        | some b => rw [h] at h1; simpa using h1
      have hjl := (List.getElem?_eq_some_iff.1 hj).1
      have hn : j ∉ l := fun hm => by
        have := h3 j hm
        rw [List.getElem?_set_self hjl] at this
        cases this
      refine ⟨⟨hn, h2⟩, fun k hk => ?_⟩
      rcases List.mem_cons.1 hk with rfl | hk
      · exact hj
      · have := h3 k hk
        have hne : j ≠ k := fun e => hn (by rw [e]; exact hk)
        rwa [List.getElem?_set_ne hne] at this
    · rintro ⟨⟨h1, h2⟩, h3⟩
      refine ⟨by rw [h3 j List.mem_cons_self]; rfl, h2, fun k hk => ?_⟩
      have hne : j ≠ k := fun e => h1 (by rw [e]; exact hk)
      rw [List.getElem?_set_ne hne]
      exact h3 k (List.mem_cons_of_mem _ hk)

/-- Marks in a row of their own. -/
def RowB (w : World) (b cap : Nat) (u : List Bool) : Prop := w.ownsRow 0 4 1 (.slice (some ⟨b, 0, none⟩) u.length cap) u.length (u.map Value.bool)
namespace RowB
variable {w w' : World} {b cap : Nat} {u : List Bool}
theorem of_owns {B : Nat} (h : w.ownsRow B 4 1 (.slice (some ⟨b, 0, none⟩) u.length cap) u.length (u.map Value.bool)) : RowB w b cap u := by
  refine ⟨h.1, ?_⟩
  rcases h.2 with ⟨h, _⟩ | ⟨g, c, cur, e, _, h1⟩
  · simp at h
  · exact .inr ⟨g, c, cur, e, Nat.zero_le _, h1⟩
theorem row (S : RowB w b cap u) : ∃ cur, w.heap[b]? = some (.cells cur 4 (0, 0)) ∧ u.length ≤ cap ∧ cap ≤ maxLen ∧ cur.size = cap ∧ cur.toList.take u.length = u.map Value.bool := by
  rcases S.2 with ⟨h, _⟩ | ⟨g, c, cur, e, _, h1, h2, h3, h4, h5⟩
  · simp at h
  · simp only [Value.slice.injEq, Option.some.injEq, Addr.mk.injEq, true_and, and_true] at e
    obtain ⟨rfl, rfl⟩ := e
    exact ⟨cur, h1, h2, h3, by rw [h4, Nat.mul_one], by rw [← h5, Nat.mul_one]⟩
theorem mark (S : RowB w b cap u) {k : Nat} {x : Bool} (h : u[k]? = some x) : w.cell? ⟨b, k, none⟩ = some (.bool x) := by
  obtain ⟨cur, h1, _, _, _, h5⟩ := S.row
  have hk := (List.getElem?_eq_some_iff.1 h).1
  rw [cell_of_row _ _ _ _ _ _ h1, ← Array.getElem?_toList]
  have : cur.toList[k]? = (cur.toList.take u.length)[k]? := by rw [List.getElem?_take_of_lt hk]
  rw [this, h5, List.getElem?_map, h]; rfl
theorem frozen (S : RowB w b cap u) (k : Nat) : w.frozen? ⟨b, k, none⟩ = false := by
  obtain ⟨cur, h1, _⟩ := S.row
  simp [World.frozen?, h1]
theorem lt (S : RowB w b cap u) : b < w.heap.size := by
  obtain ⟨cur, h1, _⟩ := S.row
  exact (Array.getElem?_eq_some_iff.1 h1).1
theorem keep (S : RowB w b cap u) (hb : w'.heap[b]? = w.heap[b]?) : RowB w' b cap u := by
  refine ⟨S.1, ?_⟩
  rcases S.2 with ⟨h, _⟩ | ⟨g, c, cur, e, h0, h1, h2⟩
  · simp at h
  · simp only [Value.slice.injEq, Option.some.injEq, Addr.mk.injEq, true_and, and_true] at e
    obtain ⟨rfl, rfl⟩ := e
    exact .inr ⟨b, cap, cur, rfl, h0, by rw [hb]; exact h1, h2⟩
theorem below (S : RowB w b cap u) (hb : Below w.heap.size w w') : RowB w' b cap u := S.keep (hb.block _ S.lt)
theorem ne (S : RowB w b cap u) {k : Nat} {cur : Array Value} {t : TypeId} {f : Nat × Nat} (h : w.heap[k]? = some (.cells cur t f)) (ht : t ≠ 4) : k ≠ b := fun e => by
  obtain ⟨cur', h1, _⟩ := S.row
  rw [e, h1] at h
  simp only [Option.some.injEq, Obj.cells.injEq] at h
  exact ht h.2.1.symm
theorem set (S : RowB w b cap u) (k : Nat) (x : Bool) : RowB (w.setCell ⟨b, k, none⟩ (.bool x)) b cap (u.set k x) := by
  obtain ⟨cur, h1, h2, h3, h4, h5⟩ := S.row
  have hr : (w.setCell ⟨b, k, none⟩ (.bool x)).heap[b]? = some (.cells (cur.toList.set k (.bool x)).toArray 4 (0, 0)) := by
    simp [World.setCell, Array.getElem?_modify, h1]
    apply Array.ext'; simp
  refine ⟨by simp, .inr ⟨b, cap, _, by simp, Nat.zero_le _, hr, by simpa using h2, h3, by simpa using h4, ?_⟩⟩
  simp only [List.length_set, Nat.mul_one, List.take_set]
  rw [h5, List.map_set]
end RowB
/-- A space in memory: itself in block p, its marks in block b. -/
structure SpAt (w : World) (p b cap : Nat) (u : List Bool) : Prop where
  box : w.heap[p]? = some (.cells #[.slice (some ⟨b, 0, none⟩) u.length cap] 194 (0, 0))
  own : RowB w b cap u
namespace SpAt
variable {w w' : World} {p b cap : Nat} {u : List Bool}
theorem row (S : SpAt w p b cap u) : ∃ cur, w.heap[b]? = some (.cells cur 4 (0, 0)) ∧ u.length ≤ cap ∧ cap ≤ maxLen ∧ cur.size = cap ∧ cur.toList.take u.length = u.map Value.bool := S.own.row
theorem cell (S : SpAt w p b cap u) : w.cell? ⟨p, 0, none⟩ = some (.slice (some ⟨b, 0, none⟩) u.length cap) := by rw [cell_of_row _ _ _ _ _ _ S.box]; rfl
theorem mark (S : SpAt w p b cap u) {k : Nat} {x : Bool} (h : u[k]? = some x) : w.cell? ⟨b, k, none⟩ = some (.bool x) := S.own.mark h
theorem frozen (S : SpAt w p b cap u) (k : Nat) : w.frozen? ⟨b, k, none⟩ = false := S.own.frozen k
theorem lt (S : SpAt w p b cap u) : p < w.heap.size ∧ b < w.heap.size := ⟨(Array.getElem?_eq_some_iff.1 S.box).1, S.own.lt⟩
theorem keep (S : SpAt w p b cap u) (hp : w'.heap[p]? = w.heap[p]?) (hb : w'.heap[b]? = w.heap[b]?) : SpAt w' p b cap u := ⟨by rw [hp]; exact S.box, S.own.keep hb⟩
theorem below (S : SpAt w p b cap u) (hb : Below w.heap.size w w') : SpAt w' p b cap u := S.keep (hb.block _ S.lt.1) (hb.block _ S.lt.2)
theorem ne (S : SpAt w p b cap u) : p ≠ b := S.own.ne S.box (by decide)
theorem set (S : SpAt w p b cap u) (k : Nat) (x : Bool) : SpAt (w.setCell ⟨b, k, none⟩ (.bool x)) p b cap (u.set k x) :=
  ⟨by rw [Below.heap_setCell _ _ _ _ S.ne, List.length_set]; exact S.box, S.own.set k x⟩
end SpAt
end Go.Proofs.YtcejpeohkgchdaaGreatDoor
namespace Go.Proofs.YtcejpeohkgchdaaGreatDoor
open Go.RowKit

/-- Numbers in memory. -/
def IntsAt (w : World) (v : Value) (l : List Int) : Prop := ∃ ad cap, v = .slice ad l.length cap ∧ ∀ i x, l[i]? = some x → ∃ b off, ad = some ⟨b, off, none⟩ ∧ w.cell? ⟨b, off + i, none⟩ = some (.int .i64 x)
theorem IntsAt.nil (w : World) : IntsAt w (.slice none 0 0) [] := ⟨none, 0, rfl, fun i x h => by simp at h⟩
theorem IntsAt.below {w w' : World} {v : Value} {l : List Int} (h : IntsAt w v l) (hb : Below w.heap.size w w') : IntsAt w' v l := by
  obtain ⟨ad, cap, e, hc⟩ := h
  refine ⟨ad, cap, e, fun i x hx => ?_⟩
  obtain ⟨b, off, e2, h2⟩ := hc i x hx
  exact ⟨b, off, e2, by rw [hb.cell (p := ⟨b, off + i, none⟩) (World.block_lt_of_cell? w _ h2)]; exact h2⟩
/-- Numbers in a row of their own. -/
def IntsT (w : World) (v : Value) (l : List Int) : Prop := ∃ ad cap, v = .slice ad l.length cap ∧ (l ≠ [] → ∃ b off cur, ad = some ⟨b, off, none⟩ ∧ w.heap[b]? = some (.cells cur 3 (0, 0)) ∧ ∀ i x, l[i]? = some x → cur[off + i]? = some (.int .i64 x))
def ints (l : List Nat) : List Int := l.map Int.ofNat
theorem IntsT.nil (w : World) (ad : Option Addr) (c : Nat) : IntsT w (.slice ad 0 c) [] := ⟨ad, c, rfl, fun h => absurd rfl h⟩
theorem IntsT.keep {w w' : World} {v : Value} {l : List Int} (h : IntsT w v l) (hb : ∀ (b : Nat) (cur : Array Value), w.heap[b]? = some (Obj.cells cur 3 (0, 0)) → w'.heap[b]? = w.heap[b]?) : IntsT w' v l := by
  obtain ⟨ad, cap, e, h1⟩ := h
  refine ⟨ad, cap, e, fun hl => ?_⟩
  obtain ⟨b, off, cur, e2, e3, e4⟩ := h1 hl
  exact ⟨b, off, cur, e2, by rw [hb b cur e3]; exact e3, e4⟩
theorem IntsT.below {w w' : World} {v : Value} {l : List Int} (h : IntsT w v l) (hb : Below w.heap.size w w') : IntsT w' v l :=
  h.keep fun b _ e => hb.block b (Array.getElem?_eq_some_iff.1 e).1
theorem IntsT.of_owns {w : World} {base : Nat} {v : Value} {l : List Int} (h : w.ownsRow base 3 1 v l.length (l.map (Value.int .i64))) : IntsT w v l := by
  rcases h.2 with ⟨rfl, hn⟩ | ⟨g, cap, cur, rfl, _, hg, _, _, _, ht⟩
  · have : l = [] := List.eq_nil_of_length_eq_zero hn
    subst this
    exact IntsT.nil _ _ _
  · refine ⟨some ⟨g, 0, none⟩, cap, rfl, fun _ => ⟨g, 0, cur, rfl, hg, fun i x hx => ?_⟩⟩
    have hi := (List.getElem?_eq_some_iff.1 hx).1
    have : cur.toList[i]? = (cur.toList.take (l.length * 1))[i]? := by rw [List.getElem?_take_of_lt (by omega)]
    rw [Nat.zero_add, ← Array.getElem?_toList, this, ht, List.getElem?_map, hx]; rfl
theorem IntsT.at {w : World} {v : Value} {l : List Int} (h : IntsT w v l) : IntsAt w v l := by
  obtain ⟨ad, cap, e, h1⟩ := h
  refine ⟨ad, cap, e, fun i x hx => ?_⟩
  obtain ⟨b, off, cur, e2, e3, e4⟩ := h1 (fun hl => by rw [hl] at hx; simp at hx)
  exact ⟨b, off, e2, by rw [cell_of_row _ _ _ _ _ _ e3]; exact e4 i x hx⟩
/-- Numbers in a row of one's own. -/
def OwnI (w : World) (B : Nat) (v : Value) (l : List Nat) : Prop := w.ownsRow B 3 1 v l.length ((ints l).map (Value.int .i64))
theorem OwnI.nil (w : World) (B : Nat) : OwnI w B (.slice none 0 0) [] := World.ownsRow_nil _ _ _ _
theorem OwnI.alloc {w : World} {B : Nat} {v : Value} {l : List Nat} (h : OwnI w B v l) (o : Obj) : OwnI (w.alloc o) B v l := World.ownsRow.alloc h o
theorem OwnI.t {w : World} {B : Nat} {v : Value} {l : List Nat} (h : OwnI w B v l) : IntsT w v (ints l) := by
  refine IntsT.of_owns (base := B) ?_
  rw [show (ints l).length = l.length by simp [ints]]
  exact h
theorem OwnI.keep {w w' : World} {B : Nat} {v : Value} {l : List Nat} (h : OwnI w B v l) (hb : ∀ (b : Nat) (cur : Array Value), w.heap[b]? = some (Obj.cells cur 3 (0, 0)) → w'.heap[b]? = w.heap[b]?) : OwnI w' B v l := by
  refine ⟨h.1, ?_⟩
  rcases h.2 with h2 | ⟨g, cap, cur, e, e1, e2, e3⟩
  · exact .inl h2
  · exact .inr ⟨g, cap, cur, e, e1, by rw [hb g cur e2]; exact e2, e3⟩
theorem infoBo : (Tryz.prog.info? 4).map (fun i => (i.zero, i.size, i.bytes)) = some (some (.bool false), 1, 1) := by kernel_rfl
theorem infoSt : (Tryz.prog.info? 9).map (fun i => (i.zero, i.size, i.bytes)) = some (some (.string { data := #[] }), 1, 16) := by kernel_rfl
theorem infoIn : (Tryz.prog.info? 3).map (fun i => (i.zero, i.size, i.bytes)) = some (some (.int .i64 0), 1, 8) := by kernel_rfl

end Go.Proofs.YtcejpeohkgchdaaGreatDoor
namespace Go.Proofs.YtcejpeohkgchdaaGreatDoor
open Go.RowKit

set_option maxRecDepth 100000 in
theorem run_make_bools (n : Nat) (hn : n ≤ 100000) (w : World) : (Instr.makeSlice 192 (.int .i64 (n : Int)) (.int .i64 (n : Int))).run Tryz.prog w = .ok (.slice (some ⟨w.heap.size, 0, none⟩) n n) (w.alloc (.cells ((List.replicate n false).map Value.bool).toArray 4)) := by
  obtain ⟨i0, hi0, hz0, hz1, hz2⟩ := info_parts infoBo
  have := run_make (P := Tryz.prog) w 192 4 i0 _ Tryz.underlying192 hi0 hz0 .i64 .i64 n n (by omega) (Int.le_refl _) (by rw [hz2]; omega) (by omega)
  simp only [Int.toNat_natCast] at this
  rw [this, hz1]
  congr 3
  apply Array.ext
  · simp [size_madeCells]
  · intro i h1 h2
    simp [madeCells, Value.cells, Nat.mod_one]
theorem made_bools (n : Nat) (hn : n ≤ 100000) (w : World) (C0 : Array Value) (h : C0 = ((List.replicate n false).map Value.bool).toArray) : RowB (w.alloc (.cells C0 4)) w.heap.size n (List.replicate n false) :=
  ⟨by simp, .inr ⟨w.heap.size, n, C0, by simp, Nat.zero_le _, heap_alloc_last _ _, by simp, by unfold maxLen; omega, by rw [h]; simp, by rw [h]; simp⟩⟩
set_option maxRecDepth 100000 in
set_option maxHeartbeats 1000000 in
theorem sp_new (n : Nat) (h1 : 1 ≤ n) (h2 : n ≤ 512) (w : World) :
    Calls Tryz.prog 54 #[.int .i64 (n : Int)] w fun e w' => e = .returned (.tuple #[.pointer (some ⟨w.heap.size + 1, 0, none⟩), .nilIface]) ∧ SpAt w' (w.heap.size + 1) w.heap.size n (List.replicate n false) ∧ Below w.heap.size w w' := by
  have HM := run_make_bools n (by omega) w
  obtain ⟨C0, hC0⟩ : ∃ C0, C0 = ((List.replicate n false).map Value.bool).toArray := ⟨_, rfl⟩
  rw [← hC0] at HM
  have HC0 : Hid (C0 = ((List.replicate n false).map Value.bool).toArray) := hC0
  clear hC0
  go_enter Tryz.func54, Tryz.ntmps54
  go_wp2_with fail
  go_ret2
  have hs1 : (w.alloc (.cells C0 4)).heap.size = w.heap.size + 1 := by simp
  refine ⟨rfl, ⟨?_, by simp, .inr ⟨w.heap.size, n, C0, by simp, Nat.zero_le _, ?_, by simp, by unfold maxLen; omega, by rw [HC0.out]; simp, by rw [HC0.out]; simp⟩⟩, ((Below.refl _ w).alloc (Nat.le_refl _) _).alloc (by simp) _⟩
  · rw [← hs1, heap_alloc_last, List.length_replicate]
  · rw [Below.heap_alloc _ _ _ (by simp), heap_alloc_last]
set_option maxRecDepth 100000 in
set_option maxHeartbeats 1000000 in
theorem sp_new_not (n : Int) (h : n < 1 ∨ 512 < n) (er : Value) (w : World) (hE : w.cell? ⟨4, 0, none⟩ = some er) :
    Calls Tryz.prog 54 #[.int .i64 n] w fun e w' => e = .returned (.tuple #[.pointer none, er]) ∧ Below w.heap.size w w' := by
  by_cases h1 : n < 1
  · go_enter Tryz.func54, Tryz.ntmps54
    go_wp2_with fail
    go_quiet (fail)
    go_wp2_with fail
    go_ret2
    exact ⟨rfl, ⟨rfl, rfl, rfl, Nat.le_refl _, fun _ _ => rfl⟩⟩
  · have h2 : 512 < n := by omega
    clear h
    go_enter Tryz.func54, Tryz.ntmps54
    go_wp2_with fail
    go_quiet (fail)
    go_wp2_with fail
    go_ret2
    exact ⟨rfl, ⟨rfl, rfl, rfl, Nat.le_refl _, fun _ _ => rfl⟩⟩
section
variable {p b cap : Nat} {u : List Bool}
set_option maxRecDepth 100000 in
set_option maxHeartbeats 1000000 in
theorem sp_marks (w : World) (S : SpAt w p b cap u) :
    Calls Tryz.prog 167 #[.pointer (some ⟨p, 0, none⟩)] w fun e w' => e = .returned (.slice (some ⟨b, 0, none⟩) u.length cap) ∧ w' = w := by
  have c := S.cell
  clear S
  go_enter Tryz.func167, Tryz.ntmps167
  go_wp2_with fail
  go_ret
  exact ⟨rfl, rfl⟩
set_option maxRecDepth 100000 in
set_option maxHeartbeats 2000000 in
theorem sp_where (g : Nat) (pr : Bool → Bool) (w : World) (S : SpAt w p b cap u) (hu : u.length ≤ 512)
    (eg : ∀ args w, (callFunc g args).run Tryz.prog w = .ok (.enter g args) w)
    (HF : ∀ (x : Bool) (W : World), Calls Tryz.prog g (#[.bool x] ++ #[]) W fun e W' => e = .returned (.bool (pr x)) ∧ W' = W) :
    Calls Tryz.prog 161 #[.pointer (some ⟨p, 0, none⟩), .func (.func g) #[] #[]] w fun e w' => ∃ v, e = .returned v ∧ OwnI w' w.heap.size v (whereR pr u u.length) ∧ Below w.heap.size w w' := by
  obtain ⟨i0, hi0, hz0, hz1, hz2⟩ := info_parts infoIn
  have HM := sp_marks w S
  have HS : Hid (SpAt w p b cap u) := S
  have HFF : Hid (∀ (x : Bool) (W : World), Calls Tryz.prog g (#[.bool x] ++ #[]) W fun e W' => e = .returned (.bool (pr x)) ∧ W' = W) := HF
  clear S HF
  go_enter Tryz.func161, Tryz.ntmps161
  go_wp2_with (go_at_call 167; refine HM.mono ?_; rintro e w1 ⟨rfl, hw⟩; rw [hw]; clear hw)
  clear HM
  go_loopw [5, 11] (fun l i wr => ∃ j : Nat, j ≤ u.length ∧ i = .int .i64 j ∧ OwnI wr w.heap.size l (whereR pr u j) ∧ Below w.heap.size w wr) (fun _ i _ => u.length - (intOf i).toNat)
  case atStart => exact ⟨0, Nat.zero_le _, rfl, OwnI.nil _ _, Below.refl _ _⟩
  case round =>
    obtain ⟨j, hj, rfl, ho, hb⟩ := hrel
    have HO : Hid (OwnI wr w.heap.size u5 (whereR pr u j)) := ho
    have HB : Hid (Below w.heap.size w wr) := hb
    by_cases hlt : j < u.length
    · obtain ⟨x, hx⟩ : ∃ x, u[j]? = some x := ⟨_, List.getElem?_eq_getElem hlt⟩
      have c := (HS.out.below hb).mark hx
      have HN : Hid (whereR pr u (j + 1) = if pr x then whereR pr u j ++ [j] else whereR pr u j) := by show _ = _; rw [whereR_next, hx]; rfl
      have HC := HFF.out x wr
      have hwl := whereR_len pr u j
      clear ho hb hx
      cases hp : pr x with
      | true =>
        rw [hp] at HC HN
        have hsz := HB.out.size
        obtain ⟨m, xs, HMm, HO1⟩ : ∃ m xs, Hid (m = (whereR pr u j).length ∧ xs = (ints (whereR pr u j)).map (Value.int .i64)) ∧ Hid (∀ X, (wr.alloc X).ownsRow w.heap.size 3 1 u5 m xs) := ⟨_, _, ⟨rfl, rfl⟩, fun X => HO.out.alloc X⟩
        have hm5 : m ≤ 512 := by rw [HMm.out.1]; omega
        go_wp2_with (first
          | (refine HC.mono ?_; rintro e w2 ⟨rfl, hw⟩; rw [hw]; clear hw)
          | (at_builtin; refine wpList_append_own _ (by rfl) (.tmp 19) (.tmp 21) 36 (by rfl) w.heap.size 3 i0 _ 1 8 Tryz.underlying36 hi0 hz0 hz1 hz2 rfl (by omega) _ m _ (by rfl) (HO1.out _) ⟨wr.heap.size, 0, none⟩ 1 1 [.int .i64 (j : Int)] (by rfl) rfl (cell_one_new _ _ _) (fun u hu => by rw [List.mem_singleton.1 hu]; rfl) (by unfold maxLen; omega) (by omega) (by rw [World.size_alloc]; omega) ?_; intro v' w3 hown hgrow _))
        refine ⟨⟨j + 1, by omega, by simp, ?_, (HB.out.alloc hsz _).grown hgrow (by rw [World.size_alloc]; omega) (fun k hk => (HO.out.lt k hk).1)⟩, by simp [intOf]; omega⟩
        rw [HN.out]
        obtain ⟨e1, e2⟩ := HMm.out
        rw [e1, e2] at hown
        unfold OwnI
        simpa [ints] using hown
      | false =>
        rw [hp] at HC HN
        go_wp2_with (refine HC.mono ?_; rintro e w2 ⟨rfl, hw⟩; rw [hw]; clear hw)
        refine ⟨⟨j + 1, by omega, by simp, by rw [HN.out]; exact HO.out, HB.out⟩, by simp [intOf]; omega⟩
    · obtain rfl : j = u.length := by omega
      clear ho hb
      go_wp2_with fail
      go_ret
      exact ⟨_, rfl, HO.out, HB.out⟩
end
end Go.Proofs.YtcejpeohkgchdaaGreatDoor
namespace Go.Proofs.YtcejpeohkgchdaaGreatDoor
open Go.RowKit
theorem own_form {w : World} {B : Nat} {v : Value} {l : List Nat} (h : OwnI w B v l) : ∃ ad vc, v = .slice ad l.length vc := by
  rcases h.2 with ⟨e, e2⟩ | ⟨g, cap, cur, e, _⟩
  · exact ⟨none, 0, by rw [e, e2]⟩
  · exact ⟨_, _, e⟩
section
variable {p b cap : Nat} {u : List Bool}
theorem free1_any (x : Bool) (W : World) : Calls Tryz.prog 162 (#[.bool x] ++ #[]) W fun e W' => e = .returned (.bool (!x)) ∧ W' = W := by
  show Calls Tryz.prog 162 #[.bool x] W _
  go_enter Tryz.func162, Tryz.ntmps162
  go_wp2_with fail
  go_ret
  exact ⟨rfl, rfl⟩
theorem sp_free (w : World) (S : SpAt w p b cap u) (hu : u.length ≤ 512) :
    Calls Tryz.prog 131 #[.pointer (some ⟨p, 0, none⟩)] w fun e w' => ∃ v, e = .returned v ∧ OwnI w' w.heap.size v (freeR u) ∧ Below w.heap.size w w' := by
  have HS := sp_where 162 (fun x => !x) w S hu (enters_of Tryz.func162 (by kernel_rfl) rfl) free1_any
  clear S
  go_enter Tryz.func131, Tryz.ntmps131
  go_wp2_with (go_at_call 161; refine HS.mono ?_; rintro e w1 ⟨v, rfl, h1, h2⟩)
  go_ret
  exact ⟨v, rfl, h1, h2⟩
theorem sp_Free (w : World) (S : SpAt w p b cap u) (hu : u.length ≤ 512) :
    Calls Tryz.prog 85 #[.pointer (some ⟨p, 0, none⟩)] w fun e w' => e = .returned (.int .i64 ((freeR u).length : Int)) ∧ Below w.heap.size w w' := by
  have HS := sp_free w S hu
  clear S
  go_enter Tryz.func85, Tryz.ntmps85
  go_wp2_with (go_at_call 131; refine HS.mono ?_; rintro e w1 ⟨v, rfl, h1, h2⟩; (obtain ⟨ad, vc, rfl⟩ := own_form h1); clear h1)
  go_ret
  exact ⟨rfl, h2⟩
set_option maxRecDepth 100000 in
set_option maxHeartbeats 2000000 in
theorem sp_mark (x : Bool) (v : Value) (l : List Nat) (w : World) (S : SpAt w p b cap u) (hv : IntsT w v (ints l)) (hl : l.length ≤ 100000) (hk : ∀ k ∈ l, k < u.length) :
    Calls Tryz.prog 133 #[.pointer (some ⟨p, 0, none⟩), v, .bool x] w fun e w' => e = .returned (.tuple #[]) ∧ SpAt w' p b cap (markR u x l) ∧ w.grownBy w' (some b) := by
  obtain ⟨ad, vc, rfl, hcs⟩ := hv
  have hle : (ints l).length = l.length := by simp [ints]
  rw [hle]
  have HSA : Hid (SpAt w p b cap u) := S
  obtain ⟨cur0, hrow, _⟩ := S.row
  have HC : Hid (∀ (j k : Nat), l[j]? = some k → ∃ g off, ad = some ⟨g, off, none⟩ ∧ ∀ w', w.grownBy w' (some b) → w'.cell? ⟨g, off + j, none⟩ = some (.int .i64 (k : Int))) := fun j k hj => by
    obtain ⟨g, off, cur, e1, e2, e3⟩ := hcs (fun h => by have : l = [] := by simpa [ints] using h
                                                         rw [this] at hj; simp at hj)
    refine ⟨g, off, e1, fun w' hg => ?_⟩
    have hgb : g ≠ b := fun e => by
      rw [e, hrow] at e2
      simp only [Option.some.injEq, Obj.cells.injEq] at e2
      exact absurd e2.2.1 (by decide)
    have hgl := (Array.getElem?_eq_some_iff.1 e2).1
    rw [World.cell?_of_block (a := ⟨g, off + j, none⟩) (hg.block g hgl (by simpa using hgb)), cell_of_row _ _ _ _ _ _ e2]
    exact e3 j k (by simp [ints, hj])
  have HK : Hid (∀ k ∈ l, k < u.length) := hk
  clear hcs hrow S hk
  go_enter Tryz.func133, Tryz.ntmps133
  go_wp2_with fail
  go_loopw [10] (fun i wr => ∃ j : Nat, j ≤ l.length ∧ i = .int .i64 j ∧ SpAt wr p b cap (markR u x (l.take j)) ∧ w.grownBy wr (some b)) (fun i _ => l.length - (intOf i).toNat)
  case atStart => exact ⟨0, Nat.zero_le _, rfl, by simp only [List.take_zero, markR]; exact HSA.out, ⟨rfl, rfl, rfl, Nat.le_refl _, fun _ _ _ => rfl⟩⟩
  case round =>
    obtain ⟨j, hj, rfl, S, hg⟩ := hrel
    have HS : Hid (SpAt wr p b cap (markR u x (l.take j))) := S
    have HG : Hid (w.grownBy wr (some b)) := hg
    by_cases hlt : j < l.length
    · obtain ⟨k, hk⟩ : ∃ k, l[j]? = some k := ⟨_, List.getElem?_eq_getElem hlt⟩
      obtain ⟨g, off, rfl, hc⟩ := HC.out j k hk
      have c1 := hc wr hg
      have c0 := S.cell
      rw [markR_len] at c0
      have hku := HK.out k (List.mem_of_getElem? hk)
      obtain ⟨y, hy⟩ : ∃ y, (markR u x (l.take j))[k]? = some y := ⟨_, List.getElem?_eq_getElem (by rw [markR_len]; exact hku)⟩
      have c2 := S.mark hy
      have f2 := S.frozen k
      have HN : Hid (markR u x (l.take (j + 1)) = (markR u x (l.take j)).set k x) := by
        show _ = _
        rw [List.take_succ_eq_append_getElem hlt, markR_snoc]
        congr 1
        exact (List.getElem?_eq_some_iff.1 hk).2
      clear S hg hc hy hk
      go_wp2_with fail
      refine ⟨⟨j + 1, by omega, by simp, by rw [HN.out]; exact HS.out.set k x, ⟨HG.out.os, HG.out.tape, HG.out.output, by simp [World.setCell]; exact HG.out.size, fun q hq hqb => ?_⟩⟩, by simp [intOf]; omega⟩
      rw [Below.heap_setCell _ _ _ _ (by simpa using hqb)]
      exact HG.out.block q hq hqb
    · obtain rfl : j = l.length := by omega
      clear S hg
      go_wp2_with fail
      go_returns
      rw [List.take_length] at HS
      exact ⟨rfl, HS.out, HG.out⟩
set_option maxRecDepth 100000 in
set_option maxHeartbeats 2000000 in
theorem cloneI_any (v : Value) (l : List Int) (w : World) (hv : IntsAt w v l) (hl : l.length ≤ 100000) :
    Calls Tryz.prog 57 #[v] w fun e w' => ∃ v', e = .returned v' ∧ w'.ownsRow w.heap.size 3 1 v' l.length (l.map (Value.int .i64)) ∧ Below w.heap.size w w' := by
  obtain ⟨ad, vc, rfl, hcs⟩ := hv
  obtain ⟨i0, hi0, hz0, hz1, hz2⟩ := info_parts infoIn
  have q22 : ∀ (w : World) (a : Option Addr) (n c n' c' : Nat), (binOp .eql 36 (.slice a n c) (.slice none n' c')).run Tryz.prog w = .ok (.bool a.isNone) w := fun w a n c n' c' => Lib.run_eql_slice_nil w _ _ a n c n' c' Tryz.underlying36
  have HCS : Hid (∀ i x, l[i]? = some x → ∃ b off, ad = some ⟨b, off, none⟩ ∧ w.cell? ⟨b, off + i, none⟩ = some (.int .i64 x)) := hcs
  clear hcs
  cases ad with
  | none =>
    have hl0 : l = [] := by
      cases l with
      | nil => rfl
      | cons y l => obtain ⟨_, _, e, _⟩ := HCS.out 0 y rfl; cases e
    subst hl0
    go_enter Tryz.func57, Tryz.ntmps57
    go_wp2_with fail
    go_ret
    exact ⟨_, rfl, World.ownsRow_nil _ _ _ _, Below.refl _ _⟩
  | some a =>
    obtain ⟨m, hm⟩ : ∃ m, m = l.length := ⟨_, rfl⟩
    have HM : Hid (m = l.length) := hm
    rw [← hm] at hl ⊢
    have HC : Hid (∀ X j u, (l.map (Value.int .i64))[j]? = some u → (w.alloc X).cell? (a.add j) = some u) := fun X j u hu => by
      rw [List.getElem?_map] at hu
      cases e : l[j]? with
      | none => rw [e] at hu; cases hu
      | some z =>
        rw [e] at hu
        simp only [Option.map_some, Option.some.injEq] at hu
        obtain ⟨b', off', e', h'⟩ := HCS.out j z e
        cases e'
        rw [Addr.add_mid, ← hu]
        exact Lib.cell?_alloc_some _ h'
    have HO : Hid (∀ u ∈ l.map (Value.int .i64), u.oneCell' = true) := fun u hu => by
      obtain ⟨z, _, rfl⟩ := List.mem_map.1 hu
      rfl
    have HL : Hid ((l.map (Value.int .i64)).length = m * 1) := by show _ = _; simp [hm]
    clear hm
    go_enter Tryz.func57, Tryz.ntmps57
    go_wp2_with (at_builtin; refine wpList_append_own _ (by rfl) (.tmp 5) (.tmp 6) 36 (by rfl) w.heap.size 3 i0 _ 1 8 Tryz.underlying36 hi0 hz0 hz1 hz2 rfl (by omega) _ 0 [] (by rfl) (World.ownsRow_made w #[] 0 (Nat.le_refl _) (Nat.zero_le _) rfl) a m vc (l.map (Value.int .i64)) (by rfl) HL.out (HC.out _) HO.out (by unfold maxLen; omega) (by omega) (by simp) ?_; intro v' w1 hown hgrow _)
    go_ret
    refine ⟨v', rfl, by simpa using hown, ((Below.refl _ w).alloc (Nat.le_refl _) _).grown hgrow (by simp) (by intro k hk; simp [Value.ownBlock] at hk; omega)⟩
set_option maxRecDepth 100000 in
set_option maxHeartbeats 2000000 in
theorem cloneB_any (w : World) (S : SpAt w p b cap u) (hu : u.length ≤ 512) :
    Calls Tryz.prog 166 #[.slice (some ⟨b, 0, none⟩) u.length cap] w fun e w' => ∃ g c, e = .returned (.slice (some ⟨g, 0, none⟩) u.length c) ∧ w'.ownsRow w.heap.size 4 1 (.slice (some ⟨g, 0, none⟩) u.length c) u.length (u.map Value.bool) ∧ Below w.heap.size w w' := by
  obtain ⟨i0, hi0, hz0, hz1, hz2⟩ := info_parts infoBo
  have q22 : ∀ (w : World) (a : Option Addr) (n c n' c' : Nat), (binOp .eql 192 (.slice a n c) (.slice none n' c')).run Tryz.prog w = .ok (.bool a.isNone) w := fun w a n c n' c' => Lib.run_eql_slice_nil w _ _ a n c n' c' Tryz.underlying192
  have HC : Hid (∀ X j y, (u.map Value.bool)[j]? = some y → (w.alloc X).cell? ((⟨b, 0, none⟩ : Addr).add j) = some y) := fun X j y hy => by
    rw [List.getElem?_map] at hy
    cases e : u[j]? with
    | none => rw [e] at hy; cases hy
    | some z =>
      rw [e] at hy
      simp only [Option.map_some, Option.some.injEq] at hy
      rw [Addr.add_mid, ← hy, Nat.zero_add]
      exact Lib.cell?_alloc_some _ (S.mark e)
  have HO : Hid (∀ y ∈ u.map Value.bool, y.oneCell' = true) := fun y hy => by
    obtain ⟨z, _, rfl⟩ := List.mem_map.1 hy
    rfl
  have HL : Hid ((u.map Value.bool).length = u.length * 1) := by show _ = _; simp
  clear S
  go_enter Tryz.func166, Tryz.ntmps166
  go_wp2_with (at_builtin; refine wpList_append_own _ (by rfl) (.tmp 5) (.tmp 6) 192 (by rfl) w.heap.size 4 i0 _ 1 1 Tryz.underlying192 hi0 hz0 hz1 hz2 rfl (by omega) _ 0 [] (by rfl) (World.ownsRow_made w #[] 0 (Nat.le_refl _) (Nat.zero_le _) rfl) ⟨b, 0, none⟩ u.length cap (u.map Value.bool) (by rfl) HL.out (HC.out _) HO.out (by unfold maxLen; omega) (by omega) (by simp) ?_; intro v' w1 hown hgrow hnil)
  go_ret
  have hb : Below w.heap.size w w1 := ((Below.refl _ w).alloc (Nat.le_refl _) _).grown hgrow (by simp) (by intro k hk; simp [Value.ownBlock] at hk; omega)
  rw [Nat.zero_add, List.nil_append] at hown
  rcases hown.2 with ⟨e, _⟩ | ⟨g, c, cur, e, _⟩
  · exact absurd (hnil.1 e).1 (by simp)
  · subst e
    exact ⟨g, c, rfl, hown, hb⟩
end
/-- How many blocks bytes need. -/
def needR (n : Int) : Int := if n < 1 then 0 else (n - 1) / 16 + 1
set_option maxRecDepth 100000 in
theorem sp_need (n : Int) (w : World) (hn : n ≤ 1000000) : Calls Tryz.prog 89 #[.int .i64 n] w fun e w' => e = .returned (.int .i64 (needR n)) ∧ w' = w := by
  by_cases h : n < 1
  · go_enter Tryz.func89, Tryz.ntmps89
    go_wp2_with fail
    go_ret
    have e : needR n = 0 := if_pos h
    exact ⟨by rw [e]; rfl, rfl⟩
  · have h1 : IntKind.i64.wrap (n - 1) = n - 1 := by rw [IntKind.wrap_i64]; omega
    have h2 : Int.tdiv (n - 1) 16 = (n - 1) / 16 := Int.tdiv_eq_ediv_of_nonneg (by omega)
    have h3 : IntKind.i64.wrap ((n - 1) / 16 + 1) = (n - 1) / 16 + 1 := by rw [IntKind.wrap_i64]; omega
    go_enter Tryz.func89, Tryz.ntmps89
    go_wp2_with fail
    go_ret
    have e : needR n = (n - 1) / 16 + 1 := if_neg (by omega)
    exact ⟨by rw [e]; rfl, rfl⟩
end Go.Proofs.YtcejpeohkgchdaaGreatDoor
