/-
  Names put together to a path, and cut again: plain mathematics.
  Conditions: none.
-/
import Derived.Test.YtpjjpmikhjlgnaaGreatDoorPSplit
namespace Go.Proofs.YtpjjpmikhjlgnaaGreatDoor
open Go.RowKit

theorem ba_ext' {s t : ByteArray} (h : s.data.toList = t.data.toList) : s = t := by
  obtain ⟨⟨a⟩⟩ := s
  obtain ⟨⟨b⟩⟩ := t
  simp only at h
  subst h; rfl
/-- Each name with a stroke ahead. -/
def joinL (l : List ByteArray) : List UInt8 := l.flatMap fun x => 47 :: x.data.toList
def joinB (l : List ByteArray) : ByteArray := ⟨(joinL l).toArray⟩
theorem joinB_list (l : List ByteArray) : (joinB l).data.toList = joinL l := rfl
theorem cutL_join : ∀ (l : List UInt8), ((cutL l).flatMap fun x => 47 :: x) = 47 :: l
  | [] => rfl
  | c :: l => by
    have ih := cutL_join l
    by_cases hc : c = 47
    · subst hc
      rw [cutL_stroke, List.flatMap_cons, ih]
      rfl
    · obtain ⟨h, t, e⟩ : ∃ h t, cutL l = h :: t := by
        cases h : cutL l with
        | nil => exact absurd h (cutL_ne l)
        | cons a b => exact ⟨a, b, rfl⟩
      rw [cutL_byte hc e]
      rw [e, List.flatMap_cons] at ih
      rw [List.flatMap_cons]
      simp only [List.cons_append, List.cons.injEq, true_and] at ih ⊢
      exact ih
/-- Names of a path make it again. -/
theorem split_join {s : ByteArray} {l : List ByteArray} (h : splitR s = some l) : (s = strokeB ∧ l = []) ∨ (s ≠ strokeB ∧ joinB l = s) := by
  by_cases hs : s = strokeB
  · left
    subst hs
    rw [splitR_one] at h
    injection h with h
    exact ⟨rfl, h.symm⟩
  · right
    refine ⟨hs, ?_⟩
    cases hl : s.data.toList with
    | nil => rw [splitR_nil hs hl] at h; cases h
    | cons c r =>
      rw [splitR_cons hs hl] at h
      split at h
      · rename_i h2
        injection h with h
        subst h
        have e : joinL ((cutL r).map fun x => (⟨x.toArray⟩ : ByteArray)) = 47 :: r := by
          unfold joinL
          rw [List.flatMap_map]
          exact cutL_join r
        have e2 : (joinB ((cutL r).map fun x => (⟨x.toArray⟩ : ByteArray))).data.toList = s.data.toList := by
          rw [joinB_list, e, hl, h2.1]
        obtain ⟨⟨k⟩⟩ := s
        simp only at e2
        unfold joinB at e2 ⊢
        simp only at e2
        rw [e2]
      · cases h
/-- No stroke. -/
def NoStroke (x : ByteArray) : Prop := ∀ c ∈ x.data.toList, c ≠ 47
theorem cutL_piece : ∀ {x : List UInt8}, (∀ c ∈ x, c ≠ 47) → ∀ (r : List UInt8), cutL (x ++ 47 :: r) = x :: cutL r
  | [], _, r => cutL_stroke r
  | c :: x, h, r => by
    rw [List.cons_append, cutL_byte (h c (by simp)) (cutL_piece (fun d hd => h d (by simp [hd])) r)]
theorem cutL_last : ∀ {x : List UInt8}, (∀ c ∈ x, c ≠ 47) → cutL x = [x]
  | [], _ => rfl
  | c :: x, h => by rw [cutL_byte (h c (by simp)) (cutL_last (fun d hd => h d (by simp [hd])))]
theorem join_cut : ∀ (x : ByteArray) (l : List ByteArray), (∀ y ∈ x :: l, NoStroke y) → cutL (x.data.toList ++ joinL l) = (x :: l).map (·.data.toList)
  | x, [], h => by
    show cutL (x.data.toList ++ []) = _
    rw [List.append_nil, cutL_last (h x (by simp))]
    rfl
  | x, y :: l, h => by
    have ih := join_cut y l fun z hz => h z (by simp [hz])
    show cutL (x.data.toList ++ (47 :: y.data.toList ++ joinL l)) = _
    rw [List.cons_append, cutL_piece (h x (by simp)), ih]
    rfl
theorem map_back (l : List ByteArray) : (l.map (·.data.toList)).map (fun x => (⟨x.toArray⟩ : ByteArray)) = l := by
  rw [List.map_map]
  have : (fun x : List UInt8 => (⟨x.toArray⟩ : ByteArray)) ∘ (fun x : ByteArray => x.data.toList) = id := by
    funext x
    rfl
  rw [this, List.map_id]
theorem joinB_ne {x : ByteArray} {l : List ByteArray} (h : ¬ (l = [] ∧ x = ByteArray.empty)) : joinB (x :: l) ≠ strokeB := by
  intro e
  have e2 := congrArg (fun s : ByteArray => s.data.toList) e
  simp only [joinB_list] at e2
  have e3 : joinL (x :: l) = 47 :: (x.data.toList ++ joinL l) := rfl
  rw [e3] at e2
  have e4 : strokeB.data.toList = [47] := rfl
  rw [e4] at e2
  simp only [List.cons.injEq, true_and, List.append_eq_nil_iff] at e2
  apply h
  refine ⟨?_, ?_⟩
  · cases l with
    | nil => rfl
    | cons y l => have := e2.2; simp [joinL] at this
  · have h1 := e2.1
    obtain ⟨⟨k⟩⟩ := x
    simp only at h1
    subst h1; rfl
/-- Of names there is a path just if each is one, and they are not too many. -/
theorem join_split {x : ByteArray} {l : List ByteArray} (hn : ∀ y ∈ x :: l, NoStroke y) (h : ¬ (l = [] ∧ x = ByteArray.empty)) :
    splitR (joinB (x :: l)) = if decide ((x :: l).length ≤ 8) && (x :: l).all nameB then some (x :: l) else none := by
  have e : (joinB (x :: l)).data.toList = 47 :: (x.data.toList ++ joinL l) := rfl
  rw [splitR_cons (joinB_ne h) e, join_cut x l hn, all_map, map_back, List.length_map]
  simp
theorem joinB_nil : joinB [] = ByteArray.empty := rfl
theorem joinB_empty : joinB [ByteArray.empty] = strokeB := rfl
theorem joinB_snoc {l : List ByteArray} {j : Nat} {x : ByteArray} (hx : l[j]? = some x) : joinB (l.take (j + 1)) = joinB (l.take j) ++ strokeB ++ x := by
  have hj : j < l.length := (List.getElem?_eq_some_iff.1 hx).1
  have e : l.take (j + 1) = l.take j ++ [x] := by rw [List.take_succ_eq_append_getElem hj, (List.getElem?_eq_some_iff.1 hx).2]
  apply ba_ext'
  rw [ByteArray.data_append, Array.toList_append, ByteArray.data_append, Array.toList_append, joinB_list, joinB_list, e]
  unfold joinL
  rw [List.flatMap_append]
  simp [strokeB]
theorem joinB_size {l : List ByteArray} {n : Nat} (h : ∀ x ∈ l, x.size ≤ n) : (joinB l).size ≤ l.length * (n + 1) := by
  have e : (joinB l).size = (joinL l).length := rfl
  rw [e]
  clear e
  induction l with
  | nil => simp [joinL]
  | cons y l ih =>
    have h1 := h y (by simp)
    have h2 := ih fun x hx => h x (by simp [hx])
    have e2 : joinL (y :: l) = 47 :: (y.data.toList ++ joinL l) := rfl
    rw [e2]
    simp only [List.length_cons, List.length_append, Array.length_toList, ByteArray.size_data]
    have e3 : (l.length + 1) * (n + 1) = l.length * (n + 1) + (n + 1) := Nat.succ_mul _ _
    omega
end Go.Proofs.YtpjjpmikhjlgnaaGreatDoor
