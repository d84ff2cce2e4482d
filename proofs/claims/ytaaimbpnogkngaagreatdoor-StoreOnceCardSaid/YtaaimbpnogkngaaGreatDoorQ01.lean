/- Tk, joined. Conditions: as each states. -/
import Derived.Test.YtaaimbpnogkngaaGreatDoorQ00
import Derived.WalkKit
import Derived.OrdersHeld
import Derived.Deep.RegionHeld
import Derived.Test.YtaaimbpnogkngaaGreatDoorProg
namespace Go.Proofs.YtaaimbpnogkngaaGreatDoor
section
open Go Go.RowKit

theorem au : (∀ {α : Type} (xs : List α) (i : Nat) (h : i < xs.toArray.size), xs.toArray[i] = xs[i]'(by simpa using h)) ∧ (∀ {α : Type} (a : α) (r : List α) (h : 0 < (a :: r).length), (a :: r)[0] = a) ∧ (∀ {α : Type} (a : α) (r : List α) (i : Nat) (h : i + 1 < (a :: r).length), (a :: r)[i + 1] = r[i]'(by simpa using h)) :=
  ⟨fun _ _ _ => by simp, fun _ _ _ => rfl, fun _ _ _ _ => rfl⟩
theorem cu : (∀ {α : Type} (l : List α) (i : Nat) (a : α), l.toArray.setIfInBounds i a = (l.set i a).toArray) ∧ (∀ {α : Type} (a : α) (r : List α) (b : α), (a :: r).set 0 b = b :: r) ∧ (∀ {α : Type} (a : α) (r : List α) (i : Nat) (b : α), (a :: r).set (i + 1) b = a :: r.set i b) :=
  ⟨fun _ _ _ => by simp, fun _ _ _ => rfl, fun _ _ _ _ => rfl⟩
theorem tk {P : Program} {md : Region.Mode} {ops : Array Oper} {Q : Exit → Act → Yw → Prop} {S : Yw → Prop} (i : Nat) (v : Yv) {oi : Oper} {fuel : Nat} {listed : Array Bool} {a : Act} {w : Yw} (hi : ops[i]? = some oi) (hS : S w) (h : wpAnyH P md ops Q S fuel (listed.setIfInBounds i true) (a.put oi.dst v) w)
    (hs : Region.noSelect ops = true := by kernel_rfl) (hf : Region.free md ops listed i = true := by kernel_rfl) (hr : (Region.ready md ops listed).contains i = true := by kernel_rfl)
    (hQ : ∀ c a w, Q (.panic c) (a.put oi.dst v) w → Q (.panic c) a w := by exact fun _ _ _ h => h) (hy : YieldsIf P ops S oi v a := by exact Or.inl ⟨by rfl, by intro w hSw; (try dsimp only at hSw); simp only [au]; go_simp⟩) : wpAnyH P md ops Q S (fuel + 1) listed a w :=
  wpAnyH_take hi hs hf hr hQ hy hS h
theorem Mz {P : Program} {md : Region.Mode} {ops : Array Oper} {Q : Exit → Act → Yw → Prop} {S : Yw → Prop} (i : Nat) {oi : Oper} {fuel : Nat} {listed : Array Bool} {a : Act} {w : Yw} (hi : ops[i]? = some oi) (hS : S w) (h : wpAnyH P md ops Q S fuel (listed.setIfInBounds i true) (a.put oi.dst undef) w)
    (hs : Region.noSelect ops = true := by kernel_rfl) (hf : Region.free md ops listed i = true := by kernel_rfl) (hr : (Region.ready md ops listed).contains i = true := by kernel_rfl)
    (hQ : ∀ c a w, Q (.panic c) (a.put oi.dst undef) w → Q (.panic c) a w := by exact fun _ _ _ h => h) (hy : YieldsIf P ops S oi undef a := by exact Or.inr ⟨by rfl, rfl⟩) : wpAnyH P md ops Q S (fuel + 1) listed a w :=
  wpAnyH_take hi hs hf hr hQ hy hS h
theorem aU {P : Program} {md : Region.Mode} {ops : Array Oper} {Q : Exit → Act → Yw → Prop} {S : Yw → Prop} (i : Nat) {o : Oper} {fuel : Nat} {listed : Array Bool} {a : Act} {w : Yw} (ho : ops[i]? = some o)
    (h : ∀ K' : Act → Yw → Prop, Shut (∀ a w, S w → (S w → wpAnyH P md ops Q S fuel (listed.setIfInBounds i true) a w) → K' a w) → if Region.wanted o (yielded ops a.tmps) = true then Oper.wp P o a w K' Q else K' (a.put o.dst undef) w) (hr : Region.ready md ops listed = [i] := by kernel_rfl) : wpAnyH P md ops Q S (fuel + 1) listed a w :=
  wpAnyH_ready hr (by simp) (AllReadyH.cons ho h AllReadyH.nil)
def pZ (b o : Nat) : Yv := .pointer (some ⟨b, o, none⟩)
def iZ (n : Int) : Yv := .int .i64 n
def B9 (P : Program) (md : Region.Mode) (ops : Array Oper) (Q : Exit → Act → Yw → Prop) (S : Yw → Prop) : List (Nat × Yv) → Nat → Array Bool → Act → Nat → Array Bool → Act → Prop
  | [], n, l, a, n', l', a' => n' = n ∧ l' = l ∧ a' = a
  | (i, v) :: r, n, l, a, n', l', a' => ∃ m oi, n = m + 1 ∧ ops[i]? = some oi ∧ Region.free md ops l i = true ∧ (Region.ready md ops l).contains i = true ∧ (∀ c a w, Q (.panic c) (a.put oi.dst v) w → Q (.panic c) a w) ∧ YieldsIf P ops S oi v a ∧ B9 P md ops Q S r m (l.setIfInBounds i true) (a.put oi.dst v) n' l' a'
theorem LI {P : Program} {md : Region.Mode} {ops : Array Oper} {Q : Exit → Act → Yw → Prop} {S : Yw → Prop} {n : Nat} {l : Array Bool} {a : Act} : B9 P md ops Q S [] n l a n l a := ⟨rfl, rfl, rfl⟩
theorem Ku {P : Program} {md : Region.Mode} {ops : Array Oper} {Q : Exit → Act → Yw → Prop} {S : Yw → Prop} {i : Nat} {v : Yv} {r : List (Nat × Yv)} {n n' : Nat} {l l' : Array Bool} {a a' : Act} {oi : Oper} (hi : ops[i]? = some oi) (hf : Region.free md ops l i = true) (hr : (Region.ready md ops l).contains i = true) (hQ : ∀ c a w, Q (.panic c) (a.put oi.dst v) w → Q (.panic c) a w) (hy : YieldsIf P ops S oi v a) (h : B9 P md ops Q S r n (l.setIfInBounds i true) (a.put oi.dst v) n' l' a') : B9 P md ops Q S ((i, v) :: r) (n + 1) l a n' l' a' := ⟨n, oi, rfl, hi, hf, hr, hQ, hy, h⟩
/-- Many steps at once. -/
theorem bI {P : Program} {md : Region.Mode} {ops : Array Oper} {Q : Exit → Act → Yw → Prop} {S : Yw → Prop} (p : List (Nat × Yv)) {n n' : Nat} {l l' : Array Bool} {a a' : Act} {w : Yw} (hS : S w) (h : wpAnyH P md ops Q S n' l' a' w) (hs : Region.noSelect ops = true := by kernel_rfl)
    (ht : B9 P md ops Q S p n l a n' l' a' := by repeat (first | exact LI | (apply Ku rfl (by kernel_rfl) (by kernel_rfl) (fun _ _ _ h => h) (by first | exact Or.inl ⟨by rfl, by intro w hSw; (try dsimp only at hSw); simp only [au, pZ, iZ]; go_simp⟩ | exact Or.inr ⟨by rfl, by rfl⟩); simp only [au, Act.put, cu, pZ, iZ]))) : wpAnyH P md ops Q S n l a w := by
  induction p generalizing n l a with
  | nil =>
    obtain ⟨rfl, rfl, rfl⟩ := ht
    exact h
  | cons x r ih =>
    obtain ⟨m, oi, rfl, hi, hf, hr, hQ, hy, hx⟩ := ht
    exact wpAnyH_take hi hs hf hr hQ hy hS (ih hx)
theorem kH {p : Prop} (h : p) : Hid p := h
abbrev Bl (w w' : Yw) : Prop := Below w.heap.size w w'
abbrev Cl (f : FuncId) (a : Array Yv) (w : Yw) (Q : Ending → Yw → Prop) : Prop := Calls Tryz.prog f a w Q
/-! ALIASES -/
abbrev ja := @Array.getElem?_eq_some_iff
abbrev jb := @List.getElem?_eq_some_iff
abbrev jc := @List.getElem?_eq_getElem
abbrev jd := @Nat.le_refl
abbrev je := @Go.RowKit.Below.refl
abbrev jf := @Go.RowKit.Below.heap_setCell
abbrev jg := @List.mem_of_getElem?
abbrev jh := @Option.some.injEq
abbrev ji := @Go.World.block_lt_of_cell?
abbrev jk := @Go.Calls.mono
abbrev jl := @Go.World.cell?_of_block
abbrev jm := @Nat.le_trans
abbrev jn := @Nat.lt_of_lt_of_le
abbrev jo := @Go.Value.slice.injEq
abbrev jp := @Go.RowKit.Below.heap_alloc
abbrev jq := @Nat.zero_le
abbrev jr := @List.take_of_length_le
abbrev js := @List.length_take
abbrev jt := @List.length_append
abbrev ju := @List.take_succ_eq_append_getElem
abbrev jv := @List.mem_map
abbrev jw := @List.mem_cons_of_mem
abbrev jx := @List.getElem?_map
abbrev jy := @List.mem_cons_self
abbrev jz := @List.length_cons
abbrev jA := @List.getElem?_append_right
abbrev jB := @List.length_map
abbrev jC := @Go.AllReadyH.cons
abbrev jD := @List.getElem?_append_left
abbrev jE := @Go.World.size_alloc
abbrev jF := @List.mem_singleton
abbrev jG := @Go.World.ownsRow.alloc
abbrev jH := @List.map_cons
abbrev jI := @List.length_set
abbrev jJ := @List.getElem?_cons_zero
abbrev jK := @List.append_assoc
abbrev jL := @Go.Obj.cells.injEq
abbrev jM := @List.getElem?_set_self
abbrev jN := @List.mem_cons
abbrev jO := @Option.some.inj
abbrev jQ := @List.map_congr_left
abbrev jR := @List.map_append
abbrev jS := @List.take_length
abbrev jT := @List.mem_append
abbrev jU := @List.mem_of_mem_take
abbrev jV := @List.getElem?_set_ne
abbrev jW := @Go.AllReadyH.nil
abbrev jX := @List.cons_append
abbrev jY := @List.mem_flatMap
abbrev jZ := @List.flatMap_cons
abbrev j6 := @Nat.zero_add
abbrev j7 := @List.length_singleton
abbrev j8 := @List.take_append_drop
abbrev j9 := @List.getElem_cons_zero
abbrev qd := @List.getElem_cons_succ
abbrev qe := @ByteArray.size_append
abbrev qf := @List.eq_nil_of_length_eq_zero
abbrev qg := @List.getElem_toArray
abbrev qh := @Bool.or_eq_false_iff
abbrev qi := @List.length_drop
abbrev qj := @Go.World.ownsRow.lt
abbrev qk := @List.drop_eq_nil_of_le
abbrev ql := @List.drop_eq_getElem_cons
abbrev qo := @List.getElem?_cons_succ
abbrev qp := @List.flatMap_append
abbrev qq := @List.nil_append
abbrev qr := @List.flatMap_def
abbrev qt := @Go.World.ownsRow_nil
abbrev qu := @List.length_filter_le
abbrev qv := @List.size_toArray
abbrev qw := @List.getElem?_eq_none
abbrev qx := @List.length_replicate
abbrev qy := @List.all_eq_true
abbrev qz := @List.append_nil
abbrev qA := @List.mem_map_of_mem
abbrev qB := @List.getElem?_take_of_lt
abbrev qC := @List.map_map
abbrev qD := @List.cons.injEq
abbrev qE := @Option.map_some
abbrev qF := @List.length_nil
abbrev qG := @ByteArray.data_append
abbrev qH := @Go.Addr.mk.injEq
abbrev qI := @List.mem_of_mem_drop
abbrev qJ := @List.range_succ
abbrev qK := @List.mem_filter
abbrev qL := @List.filter_cons_of_pos
abbrev qM := @List.filter_cons_of_neg
abbrev qN := @Array.getElem?_eq_getElem
abbrev qO := @Nat.lt_or_ge
abbrev qP := @Option.map_eq_some_iff
abbrev qR := @List.mem_range
abbrev qS := @Bool.and_eq_true
abbrev qU := @Array.replicate_succ
abbrev qV := @Array.replicate_zero
abbrev qX := @List.count_cons_self
abbrev qY := @List.take_zero
abbrev qZ := @Go.World.cell?_setCell_other
abbrev yd := @List.take_append_of_le_length
abbrev ye := @List.take_succ_cons
abbrev yf := @List.append_toArray
abbrev yg := @Array.toList_append
abbrev yh := @Nat.add_zero
abbrev yi := @List.count_cons_of_ne
abbrev yj := @List.nodup_cons
abbrev yl := @List.find?_eq_none
abbrev ym := @List.getElem?_drop
abbrev yn := @List.count_pos_iff
abbrev yp := @Go.World.ownsRow.stored
abbrev yr := @List.push_toArray
abbrev yt := @List.getElem_of_mem
abbrev yu := @Nat.min_eq_left
abbrev yw := @List.getElem?_toArray
abbrev yx := @List.getElem?_zipWith
abbrev yy := @List.filter_append
abbrev yz := @Nat.xor_lt_two_pow
abbrev yA := @Option.isSome_iff_exists
abbrev yB := @List.map_toArray
abbrev yC := @List.map_flatMap
abbrev yD := @List.mem_append_left
abbrev yE := @Go.World.cell?_alloc_at
abbrev yF := @Bool.or_eq_true
abbrev ze := @Go.cell_of_row
abbrev zh := @Go.wp_region_held_drew
abbrev zi := @if_neg
abbrev zj := @if_pos
abbrev zk := @Go.wpAnyH_done
abbrev zl := @beq_eq_false_iff_ne
abbrev zm := @decide_eq_true_eq
abbrev zo := @Go.wpAnyH_ready
abbrev zr := @Go.wpAnyH_take
abbrev zt := @Go.wpList_append_own
abbrev zu := @of_decide_eq_true
abbrev zv := @Go.bodyPost_ret
abbrev zw := @decide_eq_false_iff_not
end
end Go.Proofs.YtaaimbpnogkngaaGreatDoor
