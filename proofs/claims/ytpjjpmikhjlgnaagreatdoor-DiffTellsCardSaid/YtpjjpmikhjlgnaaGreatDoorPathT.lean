/-
  How a path is told: plain mathematics.
  Conditions: those that each states.
-/
import Derived.Test.YtpjjpmikhjlgnaaGreatDoorJoins
import Derived.Test.YtpjjpmikhjlgnaaGreatDoorOrds
namespace Go.Proofs.YtpjjpmikhjlgnaaGreatDoor
open Go.RowKit

/-- How a path is told. -/
def tellP (m : List ByteArray) : ByteArray := if (joinB m).toList.isEmpty = true then slash else joinB m
theorem joinB_isEmpty (m : List ByteArray) : (joinB m).toList.isEmpty = m.isEmpty := by
  rw [ba_toList, joinB_list]
  cases m <;> rfl
theorem name_noStroke {x : ByteArray} (h : nameB x = true) : NoStroke x := fun c hc e => by
  unfold nameB at h
  simp only [Bool.and_eq_true, List.all_eq_true] at h
  have := h.2 c hc
  subst e
  simp [nb] at this
theorem name_ne {x : ByteArray} (h : nameB x = true) : x ≠ ByteArray.empty := fun e => by
  unfold nameB at h
  simp only [Bool.and_eq_true, decide_eq_true_eq] at h
  rw [e] at h
  have := h.1.1.1.1
  simp at this
theorem tell_split {m : List ByteArray} (h8 : m.length ≤ 8) (hn : m.all nameB = true) : splitR (tellP m) = some m := by
  unfold tellP
  rw [joinB_isEmpty]
  cases m with
  | nil => exact splitR_one
  | cons x r =>
    have hx : ∀ y ∈ x :: r, nameB y = true := fun y hy => List.all_eq_true.1 hn y hy
    rw [if_neg (by simp), join_split (fun y hy => name_noStroke (hx y hy)) (fun h => name_ne (hx x (by simp)) h.2), if_pos (by simp only [Bool.and_eq_true, decide_eq_true_eq]; exact ⟨h8, hn⟩)]
theorem tell_size {m : List ByteArray} (h8 : m.length ≤ 8) (hn : m.all nameB = true) : (tellP m).size ≤ 1000 := by
  unfold tellP
  split
  · decide
  · have h1 := joinB_size (l := m) (n := 12) fun x hx => by
      have := List.all_eq_true.1 hn x hx
      unfold nameB at this
      simp only [Bool.and_eq_true, decide_eq_true_eq] at this
      exact this.1.1.1.2
    have h2 : m.length * (12 + 1) ≤ 8 * 13 := Nat.mul_le_mul h8 (Nat.le_refl _)
    omega
theorem splitR_names {s : ByteArray} {l : List ByteArray} (h : splitR s = some l) : l.all nameB = true := by
  unfold splitR at h
  split at h
  · injection h with h; subst h; rfl
  · split at h
    · cases h
    · split at h
      · rename_i h2
        injection h with h
        subst h
        rw [← all_map]
        exact h2.2.2
      · cases h
end Go.Proofs.YtpjjpmikhjlgnaaGreatDoor
