/-
  The contract of package disk's Rot.
  Conditions: the disk lies in memory.
-/
import Derived.Test.YtcjocgpdlmdflaaDoorDkB
namespace Go.Proofs.YtcjocgpdlmdflaaDoor
open Go.RowKit

theorem DkBut.of_heap {bb : Nat} {va : Option Addr} {w w1 w' : World} (h : DkBut bb va w w1) (e : w'.heap = w1.heap) (e1 : w'.os = w1.os) (e2 : w'.tape = w1.tape) (e3 : w'.output = w1.output) : DkBut bb va w w' :=
  ⟨e1.trans h.os, e2.trans h.tape, e3.trans h.output, by rw [e]; exact h.size, fun k a b c d => by rw [e]; exact h.block k a b c d⟩
theorem set_same {β : Type} {l : List β} {j : Nat} {x : β} (h : l[j]? = some x) : l.set j x = l := by
  apply List.ext_getElem?
  intro i
  rw [List.getElem?_set]
  by_cases e : j = i
  · subst e
    rw [if_pos rfl, h, if_pos (List.getElem?_eq_some_iff.1 h).1]
  · rw [if_neg e]
/-- A write with a bit turned, if it is of that block. -/
def rotX (k bit : Nat) (x : Nat × List UInt8) : Nat × List UInt8 := if x.1 = k then (x.1, turnL x.2 bit) else x
def rotJ (wt : List (Nat × List UInt8)) (k bit j : Nat) : List (Nat × List UInt8) := (wt.take j).map (rotX k bit) ++ wt.drop j
theorem rotJ_len (wt : List (Nat × List UInt8)) (k bit j : Nat) : (rotJ wt k bit j).length = wt.length := by simp [rotJ]; omega
theorem rotJ_at {wt : List (Nat × List UInt8)} {k bit j : Nat} {x : Nat × List UInt8} (h : wt[j]? = some x) : (rotJ wt k bit j)[j]? = some x := by
  have hj := (List.getElem?_eq_some_iff.1 h).1
  unfold rotJ
  rw [List.getElem?_append_right (by simp; omega)]
  simp [Nat.min_eq_left (Nat.le_of_lt hj), h]
theorem rotJ_next {wt : List (Nat × List UInt8)} {k bit j : Nat} {x : Nat × List UInt8} (h : wt[j]? = some x) : rotJ wt k bit (j + 1) = (rotJ wt k bit j).set j (rotX k bit x) := by
  obtain ⟨hj, e⟩ := List.getElem?_eq_some_iff.1 h
  unfold rotJ
  rw [List.set_append_right _ _ (by simp; omega)]
  have hl : j - ((wt.take j).map (rotX k bit)).length = 0 := by simp; omega
  rw [hl, List.drop_eq_getElem_cons hj, List.set_cons_zero, List.take_succ_eq_append_getElem hj, e]
  simp

end Go.Proofs.YtcjocgpdlmdflaaDoor
