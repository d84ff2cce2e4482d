/-
  The contracts of the document's answer for what a tree has: stillroomref1's ItemsOf, CountOf, SizeOf and FilesOf.
  Conditions: the tree lies in memory below block B; its nodes' data is no longer than a statement allows.
-/
import Derived.Test.YtilkjafggfdjeaaDoorRefIt
import Derived.Test.YtilkjafggfdjeaaDoorFiles
import Derived.Test.YtilkjafggfdjeaaDoorSums3
namespace Go.Proofs.YtilkjafggfdjeaaDoor
open Go.RowKit
attribute [local go_sem ↓] Go.wp_at_zero Go.wp_at_succ

def countR (l : List (ByteArray × Nat × Tree)) : Nat := match errOf l with | none => l.length | some _ => 0
def sizeR (l : List (ByteArray × Nat × Tree)) : Nat := match errOf l with | none => l.foldl szStep 0 | some _ => 0
def filesR (l : List (ByteArray × Nat × Tree)) : List ByteArray := match errOf l with | none => l.foldl flStep [] | some _ => []

set_option maxHeartbeats 1000000 in
theorem countOf_any (B d d' : Nat) (t : Tree) (u : Value) (w : World) (l : List (ByteArray × Nat × Tree)) (hll : l = listOf 200 8 t) (hB : B ≤ w.heap.size) (hl : Lies w B d t.kids u) (hdat : Dat d' t) :
    Calls Tryd.prog 20 #[.agg #[.string t.kind, .string t.data, .bool t.exec, u]] w fun e w' => e = .returned (.int .i64 (countR l : Int)) ∧ Below w.heap.size w w' := by
  obtain ⟨ta, tc, rfl⟩ := hl.form
  have hW : ∀ o, Below w.heap.size w (w.alloc o) := fun o => (Below.refl _ _).alloc (Nat.le_refl _) o
  have hE : ∀ o, Calls Tryd.prog 16 #[.agg #[.string t.kind, .string t.data, .bool t.exec, .slice ta t.kids.length tc]] (w.alloc o) fun e w' => e = .returned (.int .i64 (num (errOf l))) ∧ Below (w.alloc o).heap.size (w.alloc o) w' := fun o => by
    rw [hll]
    exact treeError_any B d d' t _ (w.alloc o) (by simp; omega) (hl.below (hW o) hB) hdat
  have hI : ∀ w', Below w.heap.size w w' → Calls Tryd.prog 44 #[.agg #[.string t.kind, .string t.data, .bool t.exec, .slice ta t.kids.length tc]] w' fun e w'' => ∃ g cap, e = .returned (.slice (some ⟨g, 0, none⟩) l.length cap) ∧ g < w''.heap.size ∧ ToldAt l g w'' ∧ Below w'.heap.size w' w'' := fun w' h =>
    itemsOf_any B d t _ w' l hll (by have := h.size; omega) (hl.below h hB)
  have HW : Hid _ := hW
  have HE : Hid _ := hE
  have HI : Hid _ := hI
  clear hW hE hI hl hll hdat
  cases he : errOf l with
  | some er =>
    have HC : Hid (countR l = 0) := show _ = _ by unfold countR; rw [he]
    have HN : Hid (num (errOf l) = (er : Int) + 1) := show _ = _ by rw [he]; rfl
    clear he
    go_enter Tryd.func20, Tryd.ntmps20
    go_wp2_with fail
    refine Calls.mono (HE.out _) ?_
    rintro e w2 ⟨rfl, h2⟩
    rw [HN.out]
    go_wp2_with fail
    go_ret
    exact ⟨ret_int (by rw [HC.out]; rfl), (HW.out _).trans (h2.mono (by simp))⟩
  | none =>
    have HC : Hid (countR l = l.length) := show _ = _ by unfold countR; rw [he]
    have HN : Hid (num (errOf l) = 0) := show _ = _ by rw [he]; rfl
    clear he
    go_enter Tryd.func20, Tryd.ntmps20
    go_wp2_with fail
    refine Calls.mono (HE.out _) ?_
    rintro e w2 ⟨rfl, h2⟩
    rw [HN.out]
    have hb2 : Below w.heap.size w w2 := (HW.out _).trans (h2.mono (by simp))
    have hcn : ∀ i, w2.cell? ⟨w.heap.size, i, none⟩ = #[Value.string t.kind, .string t.data, .bool t.exec, .slice ta t.kids.length tc][i]? := fun i => by
      rw [h2.cell (p := ⟨w.heap.size, i, none⟩) (by simp), World.cell?_alloc_at _ _ _ _ rfl]
    have d0 : w2.cell? ⟨w.heap.size, 0, none⟩ = _ := hcn 0
    have d1 : w2.cell? ⟨w.heap.size, 1, none⟩ = _ := hcn 1
    have d2 : w2.cell? ⟨w.heap.size, 2, none⟩ = _ := hcn 2
    have d3 : w2.cell? ⟨w.heap.size, 3, none⟩ = _ := hcn 3
    simp only [List.getElem?_toArray, List.getElem?_cons_zero, List.getElem?_cons_succ] at d0 d1 d2 d3
    clear hcn h2
    go_wp2_with fail
    refine Calls.mono (HI.out _ hb2) ?_
    rintro e w3 ⟨g, cap, rfl, _, _, h3⟩
    go_wp2_with fail
    go_ret
    exact ⟨ret_int (by rw [HC.out]), hb2.trans (h3.mono hb2.size)⟩

theorem sz_take {l : List (ByteArray × Nat × Tree)} {j : Nat} {x : ByteArray × Nat × Tree} (hx : l[j]? = some x) : (l.take (j + 1)).foldl szStep 0 = szStep ((l.take j).foldl szStep 0) x := by
  have hj : j < l.length := (List.getElem?_eq_some_iff.1 hx).1
  rw [List.take_succ_eq_append_getElem hj, (List.getElem?_eq_some_iff.1 hx).2, List.foldl_append]
  rfl
theorem fl_take {l : List (ByteArray × Nat × Tree)} {j : Nat} {x : ByteArray × Nat × Tree} (hx : l[j]? = some x) : (l.take (j + 1)).foldl flStep [] = flStep ((l.take j).foldl flStep []) x := by
  have hj : j < l.length := (List.getElem?_eq_some_iff.1 hx).1
  rw [List.take_succ_eq_append_getElem hj, (List.getElem?_eq_some_iff.1 hx).2, List.foldl_append]
  rfl
theorem flStep_le (q : List ByteArray) (x : ByteArray × Nat × Tree) : (flStep q x).length ≤ q.length + 1 := by
  unfold flStep
  split
  · simp
  · omega
theorem fl_len {l : List (ByteArray × Nat × Tree)} : ∀ j, ((l.take j).foldl flStep []).length ≤ j
  | 0 => by simp
  | j + 1 => by
    cases hx : l[j]? with
    | none =>
      have : l.length ≤ j := by
        rcases Nat.lt_or_ge j l.length with h | h
        · rw [List.getElem?_eq_getElem h] at hx; cases hx
        · exact h
      have ih := fl_len (l := l) j
      rw [List.take_of_length_le (by omega)]
      rw [List.take_of_length_le (by omega)] at ih
      omega
    | some x =>
      rw [fl_take hx]
      have ih := fl_len (l := l) j
      have h1 := flStep_le ((l.take j).foldl flStep []) x
      omega
theorem sz_bound {l : List (ByteArray × Nat × Tree)} (h : ∀ x ∈ l, x.2.2.data.size ≤ 2001) : ∀ j, (l.take j).foldl szStep 0 ≤ 2001 * j
  | 0 => by simp
  | j + 1 => by
    cases hx : l[j]? with
    | none =>
      have : l.length ≤ j := by
        rcases Nat.lt_or_ge j l.length with h | h
        · rw [List.getElem?_eq_getElem h] at hx; cases hx
        · exact h
      have ih := sz_bound h j
      rw [List.take_of_length_le (by omega)]
      rw [List.take_of_length_le (by omega)] at ih
      omega
    | some x =>
      rw [sz_take hx]
      have ih := sz_bound h j
      have h1 := h x (List.mem_of_getElem? hx)
      have h2 := szStep_le ((l.take j).foldl szStep 0) x
      omega
end Go.Proofs.YtilkjafggfdjeaaDoor
