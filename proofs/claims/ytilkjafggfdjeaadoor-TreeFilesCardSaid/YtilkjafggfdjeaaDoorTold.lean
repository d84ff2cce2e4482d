/-
  The paths that a tree's files are told by: each is got, and is a file; no two are one; their bytes are the tree's size. Plain mathematics.
  Conditions: none.
-/
import Derived.Test.YtilkjafggfdjeaaDoorPGet
import Derived.Test.YtilkjafggfdjeaaDoorJoins
import Derived.Test.YtilkjafggfdjeaaDoorPathT
import Derived.Test.YtilkjafggfdjeaaDoorNamed
import Derived.Test.YtilkjafggfdjeaaDoorSums3
namespace Go.Proofs.YtilkjafggfdjeaaDoor
open Go.RowKit

/-- The files, each with its names. -/
def filesN (d : Nat) (t : Tree) : List (List ByteArray × Tree) := (preN d [] t).filter fun x => isFile x.2
theorem fold_files : ∀ (l : List (List ByteArray × Tree)) (a : List ByteArray), (l.map fun x => (joinB x.1, x.1.length, x.2)).foldl flStep a = a ++ (l.filter fun x => isFile x.2).map fun x => tellP x.1
  | [], a => by simp
  | x :: l, a => by
    rw [List.map_cons, List.foldl_cons, fold_files l]
    cases h : isFile x.2
    · rw [List.filter_cons_of_neg (by simp [h])]
      simp [flStep, h]
    · rw [List.filter_cons_of_pos (by simp [h])]
      simp [flStep, h, tellP]
theorem files_named {d : Nat} {t : Tree} (h : treeErr d t = none) : filesOf d t = (filesN d t).map fun x => tellP x.1 := by
  unfold filesOf filesN
  rw [h]
  have e := pre_names d [] t
  have e2 : pre d ByteArray.empty 0 t = (preN d [] t).map fun x => (joinB x.1, x.1.length, x.2) := e
  simp only
  rw [e2, fold_files, List.nil_append]
def bytesTo (l : List (List ByteArray × Tree)) : Nat := (l.map fun x => x.2.data.size).sum
theorem fold_bytes : ∀ (l : List (List ByteArray × Tree)) (n : Nat), (l.map fun x => (joinB x.1, x.1.length, x.2)).foldl szStep n = n + bytesTo (l.filter fun x => isFile x.2)
  | [], n => by simp [bytesTo]
  | x :: l, n => by
    rw [List.map_cons, List.foldl_cons, fold_bytes l]
    cases h : isFile x.2
    · rw [List.filter_cons_of_neg (by simp [h])]
      simp [szStep, h]
    · rw [List.filter_cons_of_pos (by simp [h])]
      simp [szStep, h, bytesTo]
      omega
theorem size_named {d : Nat} {t : Tree} (h : treeErr d t = none) : sizeOf d t = bytesTo (filesN d t) := by
  unfold sizeOf filesN
  rw [h]
  have e := pre_names d [] t
  have e2 : pre d ByteArray.empty 0 t = (preN d [] t).map fun x => (joinB x.1, x.1.length, x.2) := e
  simp only
  rw [e2, fold_bytes, Nat.zero_add]
theorem bytesTo_succ {l : List (List ByteArray × Tree)} {j : Nat} {x : List ByteArray × Tree} (hx : l[j]? = some x) : bytesTo (l.take (j + 1)) = bytesTo (l.take j) + x.2.data.size := by
  have hj : j < l.length := (List.getElem?_eq_some_iff.1 hx).1
  unfold bytesTo
  rw [List.take_succ_eq_append_getElem hj, (List.getElem?_eq_some_iff.1 hx).2]
  simp
/-- What is told of files: each is got, and is a file. -/
theorem file_got {d : Nat} {t : Tree} (hf : Fit d t) (h : treeErr d t = none) {x : List ByteArray × Tree} (hx : x ∈ filesN d t) : getR d t (tellP x.1) = .ok x.2 ∧ isFile x.2 = true ∧ x.1.length ≤ 8 ∧ x.1.all nameB = true := by
  have hw := treeErr_none.1 h
  unfold filesN at hx
  obtain ⟨hm, hfi⟩ := List.mem_filter.1 hx
  have e := pre_names d [] t
  have e2 : pre d ByteArray.empty 0 t = (preN d [] t).map fun x => (joinB x.1, x.1.length, x.2) := e
  have h8 : x.1.length ≤ 8 := by
    have := (hw.2 (joinB x.1, x.1.length, x.2) (by rw [e2]; exact List.mem_map.2 ⟨x, hm, rfl⟩)).1
    simpa using this
  obtain ⟨m, em, ha, hall⟩ := preN_at (rises_well hf h) (names_tree (p := ByteArray.empty) (k := 0) hf fun y hy => (hw.2 y hy).2) x hm
  rw [List.nil_append] at em
  subst em
  exact ⟨getR_some h (tell_split h8 hall) ha, hfi, h8, hall⟩
theorem files_apart {d : Nat} {t : Tree} (hf : Fit d t) (h : treeErr d t = none) {i j : Nat} {x y : List ByteArray × Tree} (hij : i < j) (hx : (filesN d t)[i]? = some x) (hy : (filesN d t)[j]? = some y) : tellP x.1 ≠ tellP y.1 := by
  intro e
  have hxm := file_got hf h (List.mem_of_getElem? hx)
  have hym := file_got hf h (List.mem_of_getElem? hy)
  have e1 := tell_split hxm.2.2.1 hxm.2.2.2
  rw [e, tell_split hym.2.2.1 hym.2.2.2] at e1
  have e2 : y.1 = x.1 := Option.some.inj e1
  have hnd : ((filesN d t).map (·.1)).Nodup := by
    unfold filesN
    exact List.Nodup.sublist (List.Sublist.map _ List.filter_sublist) (preN_nodup (rises_well hf h))
  have hi : i < ((filesN d t).map (·.1)).length := by
    have := (List.getElem?_eq_some_iff.1 hx).1
    simpa using this
  have := (List.getElem?_inj hi hnd).1 (show ((filesN d t).map (·.1))[i]? = ((filesN d t).map (·.1))[j]? by rw [List.getElem?_map, List.getElem?_map, hx, hy]; simp [e2])
  omega
end Go.Proofs.YtilkjafggfdjeaaDoor
