/-
  A text cut by strokes, and what a path is: plain mathematics.
  Conditions: none.
-/
import Derived.Test.YtpjjpmikhjlgnaaGreatDoorTrees
import Derived.Lib.Split
import Derived.Lib.IndexBytes
namespace Go.Proofs.YtpjjpmikhjlgnaaGreatDoor
open Go.RowKit

/-- Cut by strokes. -/
def cutL : List UInt8 → List (List UInt8)
  | [] => [[]]
  | c :: l => if c = 47 then [] :: cutL l else match cutL l with
    | h :: t => (c :: h) :: t
    | [] => [[c]]
theorem cutL_ne (l : List UInt8) : cutL l ≠ [] := by
  cases l with
  | nil => simp [cutL]
  | cons c l =>
    unfold cutL
    split
    · simp
    · split <;> simp
theorem cutL_pos (l : List UInt8) : 1 ≤ (cutL l).length := by
  have := cutL_ne l
  cases h : cutL l with
  | nil => exact absurd h this
  | cons => simp
theorem cutL_stroke (l : List UInt8) : cutL (47 :: l) = [] :: cutL l := by simp [cutL]
theorem cutL_byte {c : UInt8} (hc : c ≠ 47) {l h : List UInt8} {t : List (List UInt8)} (e : cutL l = h :: t) : cutL (c :: l) = (c :: h) :: t := by
  simp [cutL, hc, e]
theorem cutL_le : ∀ (l : List UInt8), (cutL l).length ≤ l.length + 1
  | [] => by simp [cutL]
  | c :: l => by
    have ih := cutL_le l
    by_cases hc : c = 47
    · subst hc; rw [cutL_stroke]; simp; omega
    · obtain ⟨h, t, e⟩ : ∃ h t, cutL l = h :: t := by
        cases h : cutL l with
        | nil => exact absurd h (cutL_ne l)
        | cons a b => exact ⟨a, b, rfl⟩
      rw [cutL_byte hc e]
      rw [e] at ih
      simp at ih ⊢
      omega
/-- No stroke: one piece; else the first one, and the others. -/
theorem cutL_none : ∀ {l : List UInt8}, Lib.indexByte l 47 = -1 → cutL l = [l]
  | [], _ => rfl
  | c :: l, h => by
    unfold Lib.indexByte at h
    by_cases hc : c = 47
    · subst hc; simp at h
    · rw [if_neg (by simpa using hc)] at h
      split at h
      · rename_i h2
        rw [cutL_byte hc (cutL_none (beq_iff_eq.1 h2))]
      · have := Lib.indexByte_ge l 47
        omega
theorem cutL_some : ∀ {l : List UInt8} {i : Nat}, Lib.indexByte l 47 = i → cutL l = l.take i :: cutL (l.drop (i + 1))
  | [], i, h => by simp [Lib.indexByte] at h
  | c :: l, i, h => by
    unfold Lib.indexByte at h
    by_cases hc : c = 47
    · subst hc
      rw [if_pos (by decide)] at h
      obtain rfl : i = 0 := by omega
      rw [cutL_stroke]
      rfl
    · rw [if_neg (by simpa using hc)] at h
      split at h
      · omega
      · rename_i h2
        have h3 : Lib.indexByte l 47 ≠ -1 := fun e => h2 (beq_iff_eq.2 e)
        have h4 := Lib.indexByte_ge l 47
        obtain ⟨k, rfl⟩ : ∃ k, i = k + 1 := ⟨i - 1, by omega⟩
        have ih := cutL_some (l := l) (i := k) (by omega)
        rw [cutL_byte hc ih]
        rfl
/-- A cut with a bound: whole where it is not met. -/
theorem splitK_cut : ∀ (k : Nat) (l : List UInt8), ((cutL l).length ≤ k + 1 → Lib.splitK [47] 0 k l = cutL l) ∧ (k + 1 < (cutL l).length → (Lib.splitK [47] 0 k l).length = k + 1)
  | 0, l => by
    refine ⟨fun h => ?_, fun _ => rfl⟩
    have hp := cutL_pos l
    cases hi : decide (Lib.indexByte l 47 = -1) with
    | true => rw [cutL_none (by simpa using hi)]; rfl
    | false =>
      have h1 : Lib.indexByte l 47 ≠ -1 := by simpa using hi
      have h2 := Lib.indexByte_ge l 47
      rw [cutL_some (i := (Lib.indexByte l 47).toNat) (by omega)] at h
      have := cutL_pos (l.drop ((Lib.indexByte l 47).toNat + 1))
      simp at h
      exact absurd h (cutL_ne _)
  | k + 1, l => by
    unfold Lib.splitK
    rw [Lib.index_one]
    by_cases h1 : Lib.indexByte l 47 = -1
    · rw [if_pos (beq_iff_eq.2 h1), cutL_none h1]
      exact ⟨fun _ => rfl, fun h => by simp at h⟩
    · have h2 := Lib.indexByte_ge l 47
      rw [if_neg (fun e => h1 (beq_iff_eq.1 e)), cutL_some (i := (Lib.indexByte l 47).toNat) (by omega)]
      have ih := splitK_cut k (l.drop ((Lib.indexByte l 47).toNat + 1))
      simp only [List.length_cons, List.length_nil, Nat.add_zero, Nat.zero_add]
      exact ⟨fun h => by rw [ih.1 (by omega)], fun h => by rw [ih.2 (by omega)]⟩
def strokeB : ByteArray := { data := #[47] }
/-- The names of a path; none: it is no path. -/
def splitR (s : ByteArray) : Option (List ByteArray) :=
  if s = strokeB then some [] else match s.data.toList with
    | [] => none
    | c :: l => if c = 47 ∧ (cutL l).length ≤ 8 ∧ ((cutL l).all fun x => nameB ⟨x.toArray⟩) = true then some ((cutL l).map fun x => ⟨x.toArray⟩) else none
theorem splitR_one : splitR strokeB = some [] := by unfold splitR; rw [if_pos rfl]
/-- What SplitN makes. -/
theorem split_pieces {r : ByteArray} : ((cutL r.data.toList).length ≤ 8 → Lib.splitB strokeB 0 (min 9 (r.size + 1) - 1) r = (cutL r.data.toList).map fun x => ⟨x.toArray⟩) ∧ (8 < (cutL r.data.toList).length → 8 < (Lib.splitB strokeB 0 (min 9 (r.size + 1) - 1) r).length) := by
  have hd := Lib.splitB_data strokeB 0 (min 9 (r.size + 1) - 1) r
  have hk := splitK_cut (min 9 (r.size + 1) - 1) r.data.toList
  have hle := cutL_le r.data.toList
  have hl : r.data.toList.length = r.size := by simp
  rw [show strokeB.data.toList = [47] from rfl] at hd
  have hlen : (Lib.splitB strokeB 0 (min 9 (r.size + 1) - 1) r).length = (Lib.splitK [47] 0 (min 9 (r.size + 1) - 1) r.data.toList).length := by rw [← hd, List.length_map]
  constructor
  · intro h
    rw [hk.1 (by omega)] at hd
    rw [← hd, List.map_map]
    have : (fun x : List UInt8 => (⟨x.toArray⟩ : ByteArray)) ∘ (fun x : ByteArray => x.data.toList) = id := by
      funext x
      rfl
    rw [this, List.map_id]
  · intro h
    rw [hlen]
    by_cases h9 : (cutL r.data.toList).length ≤ min 9 (r.size + 1) - 1 + 1
    · rw [hk.1 h9]; exact h
    · rw [hk.2 (by omega)]; omega
end Go.Proofs.YtpjjpmikhjlgnaaGreatDoor
