/-
  The paths that a tree's files are told by: each is got, and is a file; no two are one; their bytes are the tree's size. Plain mathematics.
  Conditions: none.
-/
import Derived.Test.YtfchgecbimaonaaDoorPGet
import Derived.Test.YtfchgecbimaonaaDoorJoins
import Derived.Test.YtfchgecbimaonaaDoorSums3
namespace Go.Proofs.YtfchgecbimaonaaDoor
open Go.RowKit

/-- A tree's nodes, each with its names. -/
def preN : Nat → List ByteArray → Tree → List (List ByteArray × Tree)
  | 0, _, _ => []
  | d + 1, ns, t => (ns, t) :: t.kids.flatMap fun x => preN d (ns ++ [x.1]) x.2
theorem joinB_app (l : List ByteArray) (x : ByteArray) : joinB (l ++ [x]) = joinB l ++ slash ++ x := by
  have h := joinB_snoc (l := l ++ [x]) (j := l.length) (x := x) (by simp)
  rw [List.take_of_length_le (by simp), List.take_left] at h
  exact h
theorem pre_names : ∀ (d : Nat) (ns : List ByteArray) (t : Tree), pre d (joinB ns) ns.length t = (preN d ns t).map fun x => (joinB x.1, x.1.length, x.2)
  | 0, _, _ => rfl
  | d + 1, ns, t => by
    simp only [pre, preN, List.map_cons, List.map_flatMap]
    congr 1
    rw [List.flatMap_def, List.flatMap_def]
    congr 1
    apply List.map_congr_left
    intro x _
    have h := pre_names d (ns ++ [x.1]) x.2
    rw [joinB_app, List.length_append] at h
    exact h
/-- Names are names, all the way down; so deep at most. -/
def NamesD : Nat → Tree → Prop
  | 0, _ => False
  | d + 1, t => ∀ x ∈ t.kids, nameB x.1 = true ∧ NamesD d x.2
theorem names_dir {t : Tree} (h : nodeErr t = none) : ∀ x ∈ t.kids, nameB x.1 = true := by
  obtain ⟨kd, da, ex, ki⟩ := t
  unfold nodeErr at h
  have nil : ki.length = 0 → ∀ x ∈ ki, nameB x.1 = true := fun e x hx => by
    rw [List.eq_nil_of_length_eq_zero e] at hx
    simp at hx
  split at h
  · unfold fileErr at h
    split at h
    · cases h
    · rename_i h1
      exact nil (by simp only at h1; omega)
  · split at h
    · unfold dirErr at h
      split at h
      · cases h
      · split at h
        · rename_i h2
          exact fun x hx => List.all_eq_true.1 h2 x hx
        · cases h
    · split at h
      · unfold linkErr at h
        split at h
        · cases h
        · rename_i h1
          simp only [not_or] at h1
          exact nil (by have := h1.2; omega)
      · cases h
theorem names_tree : ∀ {d : Nat} {p : ByteArray} {k : Nat} {t : Tree}, Fit d t → (∀ x ∈ pre d p k t, nodeErr x.2.2 = none) → NamesD d t
  | 0, _, _, _, h, _ => h
  | d + 1, p, k, t, h, ho => by
    simp only [pre] at ho
    exact fun y hy => ⟨names_dir (ho (p, k, t) List.mem_cons_self) y hy, names_tree (p := p ++ slash ++ y.1) (k := k + 1) (h y hy) fun x hx => ho x (List.mem_cons_of_mem _ (List.mem_flatMap.2 ⟨y, hy, hx⟩))⟩
/-- Each node is where its names lead. -/
theorem preN_at : ∀ {d : Nat} {ns : List ByteArray} {t : Tree}, RisesD d t → NamesD d t → ∀ x ∈ preN d ns t, ∃ m, x.1 = ns ++ m ∧ atR m t = some x.2 ∧ m.all nameB = true
  | 0, _, _, h, _, _, _ => h.elim
  | d + 1, ns, t, hr, hn, x, hx => by
    simp only [preN, List.mem_cons, List.mem_flatMap] at hx
    rcases hx with rfl | ⟨y, hy, hx⟩
    · exact ⟨[], by simp, rfl, rfl⟩
    · obtain ⟨m, e, ha, hall⟩ := preN_at (hr.2 y hy) (hn y hy).2 x hx
      obtain ⟨i, hi, hiy⟩ := List.getElem_of_mem hy
      have hyi : t.kids[i]? = some y := by rw [List.getElem?_eq_getElem hi, hiy]
      refine ⟨y.1 :: m, by rw [e]; simp, ?_, by rw [List.all_cons, (hn y hy).1, hall]; rfl⟩
      have hk : kidOf t y.1 = some y.2 := by
        unfold kidOf
        rw [if_pos (there_at hr.1 hyi), place_at hr.1 hyi, hyi]
        rfl
      simp only [atR, hk]
      exact ha
/-- No two nodes have the same names. -/
theorem preN_nodup : ∀ {d : Nat} {ns : List ByteArray} {t : Tree}, RisesD d t → ((preN d ns t).map (·.1)).Nodup
  | 0, _, _, h => h.elim
  | d + 1, ns, t, hr => by
    have pref : ∀ (y : ByteArray × Tree), RisesD d y.2 → ∀ z ∈ (preN d (ns ++ [y.1]) y.2).map (·.1), ∃ m, z = ns ++ y.1 :: m := fun y _ z hz => by
      have key : ∀ (d : Nat) (ms : List ByteArray) (t : Tree), ∀ z ∈ (preN d ms t).map (·.1), ∃ m, z = ms ++ m := by
        intro d
        induction d with
        | zero => intro ms t z hz; simp [preN] at hz
        | succ d ih =>
          intro ms t z hz
          simp only [preN, List.map_cons, List.map_flatMap, List.mem_cons, List.mem_flatMap] at hz
          rcases hz with rfl | ⟨x, _, hz⟩
          · exact ⟨[], by simp⟩
          · obtain ⟨m, e⟩ := ih _ _ z hz
            exact ⟨x.1 :: m, by rw [e]; simp⟩
      obtain ⟨m, e⟩ := key d _ _ z hz
      exact ⟨m, by rw [e]; simp⟩
    simp only [preN, List.map_cons, List.map_flatMap]
    rw [List.nodup_cons]
    refine ⟨fun h => ?_, ?_⟩
    · obtain ⟨y, hy, hz⟩ := List.mem_flatMap.1 h
      obtain ⟨m, e⟩ := pref y (hr.2 y hy) ns hz
      have := congrArg List.length e
      simp at this
    · have dist : ∀ (l : List (ByteArray × Tree)), Rises l → (∀ x ∈ l, RisesD d x.2) → (l.flatMap fun x => (preN d (ns ++ [x.1]) x.2).map (·.1)).Nodup := by
        intro l
        induction l with
        | nil => intro _ _; simp
        | cons y l ih =>
          intro h1 h2
          rw [List.flatMap_cons, List.nodup_append]
          refine ⟨preN_nodup (h2 y (by simp)), ih (fun i j x z hij hx hz => h1 (i + 1) (j + 1) x z (by omega) (by simpa using hx) (by simpa using hz)) (fun x hx => h2 x (by simp [hx])), fun z hz z' hz' e => ?_⟩
          subst e
          obtain ⟨m, e1⟩ := pref y (h2 y (by simp)) z hz
          obtain ⟨x, hx, hzx⟩ := List.mem_flatMap.1 hz'
          obtain ⟨m', e2⟩ := pref x (h2 x (by simp [hx])) z hzx
          rw [e1] at e2
          have e3 := List.append_cancel_left e2
          injection e3 with e4 _
          obtain ⟨i, hi, hix⟩ := List.getElem_of_mem hx
          have := h1 0 (i + 1) y x (by omega) rfl (by rw [List.getElem?_cons_succ, List.getElem?_eq_getElem hi, hix])
          rw [e4, less_irrefl] at this
          cases this
      exact dist t.kids hr.1 hr.2
/-- How a path is told. -/
def tellP (m : List ByteArray) : ByteArray := if (joinB m).toList.isEmpty = true then slash else joinB m
theorem joinB_isEmpty (m : List ByteArray) : (joinB m).toList.isEmpty = m.isEmpty := by
  rw [ba_toList, joinB_list]
  cases m <;> rfl
theorem name_noStroke {x : ByteArray} (h : nameB x = true) : NoStroke x := fun c hc e => by
  unfold nameB at h
  simp only [Bool.and_eq_true, List.all_eq_true] at h
  have := h.2 c hc
  subst e
  simp [nb] at this
theorem name_ne {x : ByteArray} (h : nameB x = true) : x ≠ ByteArray.empty := fun e => by
  unfold nameB at h
  simp only [Bool.and_eq_true, decide_eq_true_eq] at h
  rw [e] at h
  have := h.1.1.1.1
  simp at this
theorem tell_split {m : List ByteArray} (h8 : m.length ≤ 8) (hn : m.all nameB = true) : splitR (tellP m) = some m := by
  unfold tellP
  rw [joinB_isEmpty]
  cases m with
  | nil => exact splitR_one
  | cons x r =>
    have hx : ∀ y ∈ x :: r, nameB y = true := fun y hy => List.all_eq_true.1 hn y hy
    rw [if_neg (by simp), join_split (fun y hy => name_noStroke (hx y hy)) (fun h => name_ne (hx x (by simp)) h.2), if_pos (by simp only [Bool.and_eq_true, decide_eq_true_eq]; exact ⟨h8, hn⟩)]
/-- The files, each with its names. -/
def filesN (d : Nat) (t : Tree) : List (List ByteArray × Tree) := (preN d [] t).filter fun x => isFile x.2
theorem fold_files : ∀ (l : List (List ByteArray × Tree)) (a : List ByteArray), (l.map fun x => (joinB x.1, x.1.length, x.2)).foldl flStep a = a ++ (l.filter fun x => isFile x.2).map fun x => tellP x.1
  | [], a => by simp
  | x :: l, a => by
    rw [List.map_cons, List.foldl_cons, fold_files l]
    cases h : isFile x.2
    · rw [List.filter_cons_of_neg (by simp [h])]
      simp [flStep, h]
    · rw [List.filter_cons_of_pos (by simp [h])]
      simp [flStep, h, tellP]
theorem files_named {d : Nat} {t : Tree} (h : treeErr d t = none) : filesOf d t = (filesN d t).map fun x => tellP x.1 := by
  unfold filesOf filesN
  rw [h]
  have e := pre_names d [] t
  have e2 : pre d ByteArray.empty 0 t = (preN d [] t).map fun x => (joinB x.1, x.1.length, x.2) := e
  simp only
  rw [e2, fold_files, List.nil_append]
def bytesTo (l : List (List ByteArray × Tree)) : Nat := (l.map fun x => x.2.data.size).sum
theorem fold_bytes : ∀ (l : List (List ByteArray × Tree)) (n : Nat), (l.map fun x => (joinB x.1, x.1.length, x.2)).foldl szStep n = n + bytesTo (l.filter fun x => isFile x.2)
  | [], n => by simp [bytesTo]
  | x :: l, n => by
    rw [List.map_cons, List.foldl_cons, fold_bytes l]
    cases h : isFile x.2
    · rw [List.filter_cons_of_neg (by simp [h])]
      simp [szStep, h]
    · rw [List.filter_cons_of_pos (by simp [h])]
      simp [szStep, h, bytesTo]
      omega
theorem size_named {d : Nat} {t : Tree} (h : treeErr d t = none) : sizeOf d t = bytesTo (filesN d t) := by
  unfold sizeOf filesN
  rw [h]
  have e := pre_names d [] t
  have e2 : pre d ByteArray.empty 0 t = (preN d [] t).map fun x => (joinB x.1, x.1.length, x.2) := e
  simp only
  rw [e2, fold_bytes, Nat.zero_add]
theorem bytesTo_succ {l : List (List ByteArray × Tree)} {j : Nat} {x : List ByteArray × Tree} (hx : l[j]? = some x) : bytesTo (l.take (j + 1)) = bytesTo (l.take j) + x.2.data.size := by
  have hj : j < l.length := (List.getElem?_eq_some_iff.1 hx).1
  unfold bytesTo
  rw [List.take_succ_eq_append_getElem hj, (List.getElem?_eq_some_iff.1 hx).2]
  simp
/-- What is told of files: each is got, and is a file. -/
theorem file_got {d : Nat} {t : Tree} (hf : Fit d t) (h : treeErr d t = none) {x : List ByteArray × Tree} (hx : x ∈ filesN d t) : getR d t (tellP x.1) = .ok x.2 ∧ isFile x.2 = true ∧ x.1.length ≤ 8 ∧ x.1.all nameB = true := by
  have hw := treeErr_none.1 h
  unfold filesN at hx
  obtain ⟨hm, hfi⟩ := List.mem_filter.1 hx
  have e := pre_names d [] t
  have e2 : pre d ByteArray.empty 0 t = (preN d [] t).map fun x => (joinB x.1, x.1.length, x.2) := e
  have h8 : x.1.length ≤ 8 := by
    have := (hw.2 (joinB x.1, x.1.length, x.2) (by rw [e2]; exact List.mem_map.2 ⟨x, hm, rfl⟩)).1
    simpa using this
  obtain ⟨m, em, ha, hall⟩ := preN_at (rises_well hf h) (names_tree (p := ByteArray.empty) (k := 0) hf fun y hy => (hw.2 y hy).2) x hm
  rw [List.nil_append] at em
  subst em
  exact ⟨getR_some h (tell_split h8 hall) ha, hfi, h8, hall⟩
theorem files_apart {d : Nat} {t : Tree} (hf : Fit d t) (h : treeErr d t = none) {i j : Nat} {x y : List ByteArray × Tree} (hij : i < j) (hx : (filesN d t)[i]? = some x) (hy : (filesN d t)[j]? = some y) : tellP x.1 ≠ tellP y.1 := by
  intro e
  have hxm := file_got hf h (List.mem_of_getElem? hx)
  have hym := file_got hf h (List.mem_of_getElem? hy)
  have e1 := tell_split hxm.2.2.1 hxm.2.2.2
  rw [e, tell_split hym.2.2.1 hym.2.2.2] at e1
  have e2 : y.1 = x.1 := Option.some.inj e1
  have hnd : ((filesN d t).map (·.1)).Nodup := by
    unfold filesN
    exact List.Nodup.sublist (List.Sublist.map _ List.filter_sublist) (preN_nodup (rises_well hf h))
  have hi : i < ((filesN d t).map (·.1)).length := by
    have := (List.getElem?_eq_some_iff.1 hx).1
    simpa using this
  have := (List.getElem?_inj hi hnd).1 (show ((filesN d t).map (·.1))[i]? = ((filesN d t).map (·.1))[j]? by rw [List.getElem?_map, List.getElem?_map, hx, hy]; simp [e2])
  omega
theorem tell_size {m : List ByteArray} (h8 : m.length ≤ 8) (hn : m.all nameB = true) : (tellP m).size ≤ 1000 := by
  unfold tellP
  split
  · decide
  · have h1 := joinB_size (l := m) (n := 12) fun x hx => by
      have := List.all_eq_true.1 hn x hx
      unfold nameB at this
      simp only [Bool.and_eq_true, decide_eq_true_eq] at this
      exact this.1.1.1.2
    have h2 : m.length * (12 + 1) ≤ 8 * 13 := Nat.mul_le_mul h8 (Nat.le_refl _)
    omega
end Go.Proofs.YtfchgecbimaonaaDoor
