/-
  The contract of diff.Apply.
  Conditions: the sentinels hold what the program's text lays; the library's MaxLen holds a number; tree and changes lie in memory below block B; the changes' nodes are bounded; their paths are shorter than four thousand million bytes.
-/
import Derived.Test.YtilkjafggfdjeabDoorDApp
import Derived.Test.YtilkjafggfdjeabDoorDDiff
namespace Go.Proofs.YtilkjafggfdjeabDoor
open Go.RowKit
attribute [local go_sem ↓] Go.wp_at_zero Go.wp_at_succ

/-- What a change leaves is well. -/
theorem apply_well {dc : Nat} {t Y : Tree} {c : Chg} (hf : Fit 9 t) (ht : treeErr 9 t = none) (hY : Fit (9 + 1 + dc) Y) (h : applyR dc t c = .ok Y) : treeErr 9 Y = none ∧ Fit 9 Y := by
  have put : putR 9 (9 + 1 + dc) t c.path c.node = .ok Y → WN 9 Y ∧ cnt 9 Y ≤ 200 := fun h => by
    unfold putR at h
    rw [ht] at h
    cases hs : splitR c.path with
    | none => simp only [hs] at h; cases h
    | some l =>
      simp only [hs] at h
      split at h
      · cases hy : treeErr (9 + 1 + dc) (setAt c.node l t) with
        | some er => rw [hy] at h; cases h
        | none =>
          rw [hy] at h
          injection h with h
          subst h
          exact (well_iff hY).1 hy
      · cases h
  have key : WN 9 Y ∧ cnt 9 Y ≤ 200 := by
    unfold applyR at h
    split at h
    · cases hg : getR 9 t c.path with
      | ok k => rw [hg] at h; cases h
      | error e => rw [hg] at h; exact put h
    · split at h
      · cases hg : getR 9 t c.path with
        | ok k => rw [hg] at h; exact put h
        | error e => rw [hg] at h; cases h
      · split at h
        · split at h
          · unfold dropR at h
            rw [ht] at h
            cases hs : splitR c.path with
            | none => simp only [hs] at h; cases h
            | some l =>
              simp only [hs] at h
              split at h
              · cases h
              · cases hk : atR l t with
                | none => rw [hk] at h; cases h
                | some k =>
                  rw [hk] at h
                  injection h with h
                  subst h
                  obtain ⟨h1, h2⟩ := drop_tree hf ht hk
                  exact (well_iff (rises_fit h2)).1 h1
          · cases h
        · cases h
  exact ⟨(well_iff key.1.fit).2 key, key.1.fit⟩
/-- Kids that lie somewhere between two blocks. -/
def Lain (lo hi d : Nat) (l : List (ByteArray × Tree)) (v : Value) (w : World) : Prop := ∀ w9 : World, (∀ k, lo ≤ k → k < hi → w9.heap[k]? = w.heap[k]?) → hi ≤ w9.heap.size → Lies w9 hi d l v
theorem Lain.on {lo hi d : Nat} {l : List (ByteArray × Tree)} {v : Value} {w w' : World} (h : Lain lo hi d l v w) (hw : ∀ k, lo ≤ k → k < hi → w'.heap[k]? = w.heap[k]?) : Lain lo hi d l v w' := fun w9 h9 hs => h w9 (fun k h1 h2 => (h9 k h1 h2).trans (hw k h1 h2)) hs
/-- The state of the loop: nb: the block of the tree. -/
structure AllAt (dc r0 nb : Nat) (t : Tree) (l : List Chg) (w2 : World) (j : Nat) (T : Tree) (na : Option Addr) (nc : Nat) (wr : World) : Prop where
  made : appliesR dc 0 t (l.take j) = .ok T
  well : treeErr 9 T = none
  box : wr.heap[nb]? = some (.cells #[.string T.kind, .string T.data, .bool T.exec, .slice na T.kids.length nc] 24 (0, 0))
  lain : ∃ lo hi, Lain lo hi 9 T.kids (.slice na T.kids.length nc) wr ∧ hi ≤ wr.heap.size ∧ (nb < lo ∨ hi ≤ nb) ∧ r0 < lo
  below : Below nb w2 wr
theorem AllAt.lies {dc r0 nb : Nat} {t T : Tree} {l : List Chg} {w2 wr : World} {j nc : Nat} {na : Option Addr} (h : AllAt dc r0 nb t l w2 j T na nc wr) : Lies wr wr.heap.size 9 T.kids (.slice na T.kids.length nc) := by
  obtain ⟨lo, hi, h1, h2, _⟩ := h.lain
  exact (h1 wr (fun _ _ _ => rfl) h2).up h2 (Nat.le_refl _)
theorem applies_take {dc : Nat} : ∀ {l : List Chg} {i j : Nat} {t T : Tree} {c : Chg}, appliesR dc i t (l.take j) = .ok T → l[j]? = some c → appliesR dc i t (l.take (j + 1)) = (match applyR dc T c with
  | .error e => .error (i + j, e)
  | .ok Y => .ok Y) ∧ (∀ e, applyR dc T c = .error e → appliesR dc i t l = .error (i + j, e)) := by
  intro l i j t T c h hc
  have hj := (List.getElem?_eq_some_iff.1 hc).1
  have e1 : l.take (j + 1) = l.take j ++ [c] := by rw [List.take_succ_eq_append_getElem hj, (List.getElem?_eq_some_iff.1 hc).2]
  have hl : (l.take j).length = j := by rw [List.length_take]; omega
  refine ⟨?_, fun e he => ?_⟩
  · rw [e1, applies_append h, hl]
    simp only [appliesR]
    cases applyR dc T c <;> rfl
  · have e2 : l = l.take j ++ (c :: l.drop (j + 1)) := by
      rw [← (List.getElem?_eq_some_iff.1 hc).2, ← List.drop_eq_getElem_cons hj, List.take_append_drop]
    rw [e2, applies_append h, hl]
    simp only [appliesR, he]
/-- What Apply hands back. -/
def AllPost (a : Nat → Addr) (d dc : Nat) (t : Tree) (l : List Chg) (w : World) (e : Ending) (w' : World) : Prop := Below w.heap.size w w' ∧
  ((∃ er, treeErr d t = some er ∧ e = .returned (.tuple #[.agg #[.string { data := #[] }, .string { data := #[] }, .bool false, .slice none 0 0], .iface 153 (.pointer (some (a er)))])) ∨
   (treeErr d t = none ∧ ∃ i er fb, appliesR dc 0 t l = .error (i, er) ∧ e = .returned (.tuple #[.agg #[.string { data := #[] }, .string { data := #[] }, .bool false, .slice none 0 0], .iface 79 (.pointer (some ⟨fb, 0, none⟩))]) ∧ w'.heap[fb]? = some (.cells #[.int .i64 (i : Int), .iface 153 (.pointer (some (a er)))] 81 (0, 0))) ∨
   (treeErr d t = none ∧ ∃ Y u, appliesR dc 0 t l = .ok Y ∧ treeErr 9 Y = none ∧ e = .returned (.tuple #[.agg #[.string Y.kind, .string Y.data, .bool Y.exec, u], .nilIface]) ∧ Lies w' w'.heap.size 9 Y.kids u))

end Go.Proofs.YtilkjafggfdjeabDoor
