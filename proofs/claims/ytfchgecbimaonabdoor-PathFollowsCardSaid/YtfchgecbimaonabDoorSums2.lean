/-
  What a dir has is what its kids have together; a dir's kid is well, if it is. No program stands here but by the numbers that its functions tell.
  Conditions: none.
-/
import Derived.Test.YtfchgecbimaonabDoorSums
namespace Go.Proofs.YtfchgecbimaonabDoor
open Go.RowKit

theorem ba_empty (p : ByteArray) : p ++ ByteArray.empty = p := by
  apply ByteArray.ext
  simp
theorem ba_assoc (p q r : ByteArray) : p ++ q ++ r = p ++ (q ++ r) := by
  apply ByteArray.ext
  simp [ByteArray.data_append]
theorem pre_shift : ∀ (d : Nat) (p : ByteArray) (k : Nat) (t : Tree), pre d p k t = (pre d ByteArray.empty 0 t).map fun x => (p ++ x.1, k + x.2.1, x.2.2)
  | 0, _, _, _ => rfl
  | d + 1, p, k, t => by
    simp only [pre, List.map_cons, ba_empty, Nat.add_zero, List.map_flatMap]
    congr 1
    congr 1
    funext y
    rw [pre_shift d (p ++ slash ++ y.1) (k + 1) y.2, pre_shift d (ByteArray.empty ++ slash ++ y.1) (0 + 1) y.2, List.map_map]
    congr 1
    funext x
    simp only [Function.comp]
    have e1 : ByteArray.empty ++ slash = slash := by apply ByteArray.ext; simp
    rw [e1, ba_assoc p slash y.1, ba_assoc p (slash ++ y.1) x.1]
    congr 2
    omega

/-- A sum over nodes. -/
def S (g : Tree → Nat) (l : List (ByteArray × Nat × Tree)) : Nat := (l.map fun x => g x.2.2).sum
theorem S_shift (g : Tree → Nat) (d : Nat) (p : ByteArray) (k : Nat) (t : Tree) : S g (pre d p k t) = S g (pre d ByteArray.empty 0 t) := by
  rw [pre_shift]
  unfold S
  rw [List.map_map]
  rfl
theorem S_cons (g : Tree → Nat) (x : ByteArray × Nat × Tree) (l : List (ByteArray × Nat × Tree)) : S g (x :: l) = g x.2.2 + S g l := by simp [S]
theorem S_append (g : Tree → Nat) (a b : List (ByteArray × Nat × Tree)) : S g (a ++ b) = S g a + S g b := by simp [S]
theorem S_flat (g : Tree → Nat) (d : Nat) (F : ByteArray × Tree → ByteArray) (k : Nat) : ∀ (l : List (ByteArray × Tree)), S g (l.flatMap fun y => pre d (F y) k y.2) = (l.map fun y => S g (pre d ByteArray.empty 0 y.2)).sum
  | [] => rfl
  | y :: l => by
    rw [List.flatMap_cons, S_append, S_flat g d F k l, S_shift]
    simp
theorem S_dir (g : Tree → Nat) (d : Nat) (t : Tree) : S g (pre (d + 1) ByteArray.empty 0 t) = g t + (t.kids.map fun y => S g (pre d ByteArray.empty 0 y.2)).sum := by
  rw [pre, S_cons, S_flat g d (fun y => ByteArray.empty ++ slash ++ y.1) (0 + 1)]

def one (_ : Tree) : Nat := 1
def bytesIn (t : Tree) : Nat := if isFile t = true then t.data.size else 0
def isOne (t : Tree) : Nat := if isFile t = true then 1 else 0
theorem S_one (l : List (ByteArray × Nat × Tree)) : S one l = l.length := by
  induction l with
  | nil => rfl
  | cons x l ih => rw [S_cons, ih]; simp [one]; omega
/-- Items that every function on the way takes. -/
def OkItems (l : List (ByteArray × Nat × Tree)) : Prop := ∀ x ∈ l, x.1.size ≤ maxLen ∧ x.2.1 ≤ 4611686018427387904 ∧ x.2.2.data.size ≤ 2001
theorem alive_ck : ∀ (l : List (ByteArray × Nat × Tree)) (n : Nat), n ≤ 200 → OkItems l → Alive ck ckOk n l
  | [], _, _, _ => trivial
  | x :: l, n, hn, h => by
    have hx := h x List.mem_cons_self
    refine ⟨⟨hn, hx.1, hx.2.1, by have := hx.2.2; unfold maxLen; omega⟩, fun he => ?_⟩
    refine alive_ck l (n + 1) ?_ (fun y hy => h y (List.mem_cons_of_mem _ hy))
    unfold ck at he
    simp only at he
    split at he
    · cases he
    · split at he
      · cases he
      · omega
/-- Well: no error on the way. -/
def WellAll (l : List (ByteArray × Nat × Tree)) : Prop := ∀ x ∈ l, x.2.1 ≤ 8 ∧ nodeErr x.2.2 = none
theorem ck_none : ∀ (l : List (ByteArray × Nat × Tree)) (n : Nat), n ≤ 200 → ((runs ck n l).2 = none ↔ n + l.length ≤ 200 ∧ WellAll l)
  | [], n, hn => by simp [runs, WellAll, hn]
  | x :: l, n, hn => by
    by_cases h8 : 8 < x.2.1
    · have e : ck n x = (n + 1, some 8) := by unfold ck; rw [if_pos h8]
      have hr : (runs ck n (x :: l)).2 = some 8 := by simp only [runs, e]
      rw [hr]
      refine ⟨fun h => by simp at h, fun h => ?_⟩
      have := (h.2 x List.mem_cons_self).1
      omega
    · by_cases h2 : 200 < n + 1
      · have e : ck n x = (n + 1, some 7) := by unfold ck; rw [if_neg h8, if_pos h2]
        have hr : (runs ck n (x :: l)).2 = some 7 := by simp only [runs, e]
        rw [hr]
        refine ⟨fun h => by simp at h, fun h => ?_⟩
        have := h.1
        simp only [List.length_cons] at this
        omega
      · have e : ck n x = (n + 1, nodeErr x.2.2) := by unfold ck; rw [if_neg h8, if_neg h2]
        cases hne : nodeErr x.2.2 with
        | some er =>
          have hr : (runs ck n (x :: l)).2 = some er := by simp only [runs, e, hne]
          rw [hr]
          refine ⟨fun h => by simp at h, fun h => ?_⟩
          have := (h.2 x List.mem_cons_self).2
          rw [hne] at this
          cases this
        | none =>
          have hr : (runs ck n (x :: l)).2 = (runs ck (n + 1) l).2 := by simp only [runs, e, hne]
          rw [hr, ck_none l (n + 1) (by omega)]
          simp only [List.length_cons]
          refine ⟨fun h => ⟨by omega, fun y hy => ?_⟩, fun h => ⟨by omega, fun y hy => h.2 y (List.mem_cons_of_mem _ hy)⟩⟩
          rcases List.mem_cons.1 hy with rfl | hy
          · exact ⟨by omega, hne⟩
          · exact h.2 y hy
theorem treeErr_none {d : Nat} {t : Tree} : treeErr d t = none ↔ (pre d ByteArray.empty 0 t).length ≤ 200 ∧ WellAll (pre d ByteArray.empty 0 t) := by
  unfold treeErr
  rw [ck_none _ 0 (by omega), Nat.zero_add]

theorem mem_sum {α : Type} (f : α → Nat) : ∀ {l : List α} {x : α}, x ∈ l → f x ≤ (l.map f).sum
  | [], _, h => by simp at h
  | y :: l, x, h => by
    simp only [List.map_cons, List.sum_cons]
    rcases List.mem_cons.1 h with rfl | h
    · omega
    · have := mem_sum f h; omega
/-- A kid's list within its dir's. -/
theorem kid_in {d : Nat} {t : Tree} {y : ByteArray × Tree} (hy : y ∈ t.kids) {x : ByteArray × Nat × Tree} (hx : x ∈ pre d ByteArray.empty 0 y.2) : (ByteArray.empty ++ slash ++ y.1 ++ x.1, 0 + 1 + x.2.1, x.2.2) ∈ pre (d + 1) ByteArray.empty 0 t := by
  rw [pre]
  refine List.mem_cons_of_mem _ (List.mem_flatMap.2 ⟨y, hy, ?_⟩)
  rw [pre_shift d (ByteArray.empty ++ slash ++ y.1) (0 + 1) y.2]
  exact List.mem_map.2 ⟨x, hx, rfl⟩
theorem kid_len {d : Nat} {t : Tree} {y : ByteArray × Tree} (hy : y ∈ t.kids) : (pre d ByteArray.empty 0 y.2).length + 1 ≤ (pre (d + 1) ByteArray.empty 0 t).length := by
  rw [← S_one, ← S_one, S_dir]
  have h := mem_sum (fun y : ByteArray × Tree => S one (pre d ByteArray.empty 0 y.2)) hy
  simp only [one] at *
  omega
theorem kid_ok {d : Nat} {t : Tree} {y : ByteArray × Tree} (hy : y ∈ t.kids) (h : OkItems (pre (d + 1) ByteArray.empty 0 t)) : OkItems (pre d ByteArray.empty 0 y.2) := fun x hx => by
  have := h _ (kid_in hy hx)
  simp only [ByteArray.size_append] at this
  exact ⟨by omega, by omega, this.2.2⟩
theorem kid_well {d : Nat} {t : Tree} {y : ByteArray × Tree} (hy : y ∈ t.kids) (h : treeErr (d + 1) t = none) : treeErr d y.2 = none := by
  rw [treeErr_none] at h ⊢
  refine ⟨by have := kid_len (d := d) hy; omega, fun x hx => ?_⟩
  have := h.2 _ (kid_in hy hx)
  exact ⟨by have := this.1; simp only at this; omega, this.2⟩
end Go.Proofs.YtfchgecbimaonabDoor
