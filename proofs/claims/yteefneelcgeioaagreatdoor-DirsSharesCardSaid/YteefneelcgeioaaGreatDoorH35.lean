/-
  A tree's files: with their paths, bare and filled. Plain mathematics.
  Trees by numbers, and the inodes that their files are: what holds between acts. Plain mathematics.
  The contracts of the document's SameInts (for the same numbers) and NeedOf, and of the law's closed fact of a space.
  The contract of package disk's Rot.
  Acts on a disk in memory; what blocks may be.
  Conditions: those that each states.
-/
import Derived.Test.YteefneelcgeioaaGreatDoorH30
import Derived.Test.YteefneelcgeioaaGreatDoorH34
import Derived.Test.YteefneelcgeioaaGreatDoorH10
import Derived.Test.YteefneelcgeioaaGreatDoorH09
import Derived.Test.YteefneelcgeioaaGreatDoorH11
namespace Go.Proofs.YteefneelcgeioaaGreatDoor
open Go.RowKit Go.Maps

theorem bare_file : isFile bareF = true := by kernel_rfl
theorem name_size {s : ByteArray} (h : nameB s = true) : s.size ≤ 12 := by
  unfold nameB at h
  simp only [Bool.and_eq_true, decide_eq_true_eq] at h
  exact h.1.1.1.2
theorem topP_join (ns : List ByteArray) : topP (joinB ns) = tellP ns := rfl
theorem filesL_named : ∀ (d : Nat) (ns : List ByteArray) (t : Tree), GoodT d t → filesL d (joinB ns) t = ((preN d ns t).filter fun x => isFile x.2).map fun x => (tellP x.1, x.2)
  | 0, _, _, _ => rfl
  | d + 1, ns, t, hG => by
    rw [filesL, preN]
    by_cases h : isFile t = true
    · rw [if_pos h, hG.1 h, List.filter_cons_of_pos (by simpa using h)]
      rfl
    · rw [if_neg h, List.filter_cons_of_neg (by simpa using h), List.filter_flatMap, List.map_flatMap]
      rw [List.flatMap_def, List.flatMap_def]
      congr 1
      refine List.map_congr_left fun x hx => ?_
      rw [← joinB_app]
      exact filesL_named d (ns ++ [x.1]) x.2 (hG.2 x hx).2
theorem filesT_named {d : Nat} {t : Tree} (hG : GoodT d t) : filesT d t = (filesN d t).map fun x => (tellP x.1, x.2) := filesL_named d [] t hG
theorem filesT_of {d : Nat} {t : Tree} (hG : GoodT d t) (h : treeErr d t = none) : filesOf d t = (filesT d t).map (·.1) := by
  rw [files_named h, filesT_named hG, List.map_map]
  rfl
theorem filesT_nodup {d : Nat} {t : Tree} (hf : Fit d t) (hG : GoodT d t) (h : treeErr d t = none) : ((filesT d t).map (·.1)).Nodup := by
  rw [filesT_named hG, List.map_map]
  refine List.pairwise_iff_getElem.2 fun i j hi hj hij => ?_
  have hi' : i < (filesN d t).length := by simpa using hi
  have hj' : j < (filesN d t).length := by simpa using hj
  have := files_apart hf h hij (List.getElem?_eq_getElem hi') (List.getElem?_eq_getElem hj')
  simpa using this
theorem mapL_mapL (g h : ByteArray → Tree → Tree) (hh : ∀ p x, isFile (h p x) = true) : ∀ (d : Nat) (p : ByteArray) (t : Tree), mapL g d p (mapL h d p t) = mapL (fun q x => g q (h q x)) d p t
  | 0, _, _ => rfl
  | d + 1, p, t => by
    by_cases e : isFile t = true
    · rw [mapL.eq_2 h, if_pos e, mapL, if_pos (hh _ _), mapL, if_pos e]
    · have e' : ¬ isFile { t with kids := t.kids.map fun x => (x.1, mapL h d (p ++ slash ++ x.1) x.2) } = true := e
      rw [mapL.eq_2 h, if_neg e, mapL, if_neg e', mapL, if_neg e]
      simp only [List.map_map]
      congr 1
      refine List.map_congr_left fun x hx => ?_
      show (x.1, _) = (x.1, _)
      rw [mapL_mapL g h hh d]
theorem mapL_id {g : ByteArray → Tree → Tree} : ∀ (d : Nat) (p : ByteArray) (t : Tree), (∀ y ∈ filesL d p t, g y.1 y.2 = y.2) → mapL g d p t = t
  | 0, _, _, _ => rfl
  | d + 1, p, t, h => by
    rw [mapL]
    rw [filesL] at h
    by_cases e : isFile t = true
    · rw [if_pos e] at h ⊢
      exact h _ (List.mem_singleton.2 rfl)
    · rw [if_neg e] at h ⊢
      have hk : (t.kids.map fun x => (x.1, mapL g d (p ++ slash ++ x.1) x.2)) = t.kids := by
        have h2 : (t.kids.map fun x => (x.1, mapL g d (p ++ slash ++ x.1) x.2)) = t.kids.map id := List.map_congr_left fun x hx => by
          rw [mapL_id d _ _ (fun y hy => h y (List.mem_flatMap.2 ⟨x, hx, hy⟩))]
          rfl
        rw [h2, List.map_id]
      rw [hk]
      cases t; rfl
theorem filesL_map (g : ByteArray → Tree → Tree) (hg : ∀ p x, isFile (g p x) = true) : ∀ (d : Nat) (p : ByteArray) (t : Tree), filesL d p (mapL g d p t) = (filesL d p t).map fun y => (y.1, g y.1 y.2)
  | 0, _, _ => rfl
  | d + 1, p, t => by
    by_cases e : isFile t = true
    · rw [mapL, if_pos e, filesL, if_pos (hg _ _), filesL, if_pos e]
      rfl
    · have e' : ¬ isFile { t with kids := t.kids.map fun x => (x.1, mapL g d (p ++ slash ++ x.1) x.2) } = true := e
      rw [mapL, if_neg e, filesL, if_neg e', filesL, if_neg e, List.map_flatMap]
      simp only [List.flatMap_map]
      rw [List.flatMap_def, List.flatMap_def]
      congr 1
      refine List.map_congr_left fun x hx => ?_
      exact filesL_map g hg d _ _
theorem GoodT.map {g : ByteArray → Tree → Tree} (hg : ∀ p x, (g p x).kids = []) : ∀ {d : Nat} {p : ByteArray} {t : Tree}, GoodT d t → GoodT d (mapL g d p t)
  | 0, _, _, _ => trivial
  | d + 1, p, t, h => by
    rw [mapL]
    by_cases e : isFile t = true
    · rw [if_pos e]
      exact ⟨fun _ => hg _ _, fun x hx => by rw [hg] at hx; cases hx⟩
    · rw [if_neg e]
      refine ⟨fun e' => absurd e' e, fun x hx => ?_⟩
      obtain ⟨y, hy, rfl⟩ := List.mem_map.1 hx
      exact ⟨(h.2 y hy).1, GoodT.map hg (h.2 y hy).2⟩
theorem bareT_good {d : Nat} {t : Tree} (h : GoodT d t) : GoodT d (bareT d t) := h.map (fun _ _ => rfl)
theorem bareT_files (d : Nat) (t : Tree) : filesT d (bareT d t) = (filesT d t).map fun y => (y.1, bareF) := filesL_map _ (fun _ _ => bare_file) d _ t
theorem filesL_file : ∀ {d : Nat} {p : ByteArray} {t : Tree}, GoodT d t → ∀ y ∈ filesL d p t, isFile y.2 = true ∧ y.2.kids = []
  | 0, _, _, _, y, hy => by cases hy
  | d + 1, p, t, h, y, hy => by
    rw [filesL] at hy
    by_cases e : isFile t = true
    · rw [if_pos e] at hy
      rw [List.mem_singleton.1 hy]
      exact ⟨e, h.1 e⟩
    · rw [if_neg e] at hy
      obtain ⟨x, hx, hy'⟩ := List.mem_flatMap.1 hy
      exact filesL_file (h.2 x hx).2 y hy'
/-- What was put bare is filled as it was. -/
theorem fill_bare {bl : List (List UInt8)} {ι : ByteArray → Ino} {d : Nat} {t : Tree} (hG : GoodT d t) (h : ∀ y ∈ filesT d t, readD bl (ι y.1).blocks (ι y.1).bytes = y.2.data ∧ (ι y.1).exec = y.2.exec) : fillT bl ι d (bareT d t) = t := by
  unfold fillT bareT
  rw [mapL_mapL _ _ (fun _ _ => bare_file)]
  refine mapL_id d _ t fun y hy => ?_
  obtain ⟨h1, h2⟩ := h y hy
  obtain ⟨h3, h4⟩ := filesL_file hG y hy
  show nodeI bl (ι y.1) = y.2
  unfold nodeI
  rw [h1, h2]
  have hk : y.2.kind = { data := #[102, 105, 108, 101] } := by
    unfold isFile at h3
    rw [beq_iff_eq, ByteArray.toList_eq] at h3
    exact bytes_eq h3
  cases hy2 : y.2 with
  | mk kind data exec kids => rw [hy2] at hk h4; simp only at hk h4; rw [hk, h4]
theorem file_node {t : Tree} (h : nodeErr t = none) (hf : isFile t = true) : t.kids = [] ∧ t.data.size ≤ 2000 := by
  unfold nodeErr at h
  rw [if_pos hf] at h
  unfold fileErr at h
  split at h
  · cases h
  · split at h
    · cases h
    · rename_i h1 h2
      exact ⟨List.eq_nil_of_length_eq_zero (by omega), by omega⟩
theorem good_of : ∀ {d : Nat} {p : ByteArray} {k : Nat} {t : Tree}, (∀ x ∈ pre d p k t, nodeErr x.2.2 = none) → GoodT d t
  | 0, _, _, _, _ => trivial
  | d + 1, p, k, t, h => by
    have h0 := h (p, k, t) (List.mem_cons_self ..)
    refine ⟨fun e => (file_node h0 e).1, fun x hx => ⟨name_size (names_dir h0 x hx), ?_⟩⟩
    exact good_of (p := p ++ slash ++ x.1) (k := k + 1) fun y hy => h y (List.mem_cons_of_mem _ (List.mem_flatMap.2 ⟨x, hx, hy⟩))
theorem files_small : ∀ {d : Nat} {p p' : ByteArray} {k : Nat} {t : Tree}, (∀ x ∈ pre d p' k t, nodeErr x.2.2 = none) → ∀ y ∈ filesL d p t, y.2.data.size ≤ 2000 ∧ y.1.size ≤ p.size + d * 13 + 1
  | 0, _, _, _, _, _, y, hy => by cases hy
  | d + 1, p, p', k, t, h, y, hy => by
    have h0 := h (p', k, t) (List.mem_cons_self ..)
    rw [filesL] at hy
    by_cases e : isFile t = true
    · rw [if_pos e] at hy
      rw [List.mem_singleton.1 hy]
      refine ⟨(file_node h0 e).2, ?_⟩
      show (topP p).size ≤ _
      unfold topP
      split
      · have : slash.size = 1 := rfl
        omega
      · omega
    · rw [if_neg e] at hy
      obtain ⟨x, hx, hy'⟩ := List.mem_flatMap.1 hy
      obtain ⟨a1, a2⟩ := files_small (p := p ++ slash ++ x.1) (p' := p' ++ slash ++ x.1) (k := k + 1) (fun z hz => h z (List.mem_cons_of_mem _ (List.mem_flatMap.2 ⟨x, hx, hz⟩))) y hy'
      refine ⟨a1, ?_⟩
      have hn := name_size (names_dir h0 x hx)
      have hs : slash.size = 1 := rfl
      rw [ByteArray.size_append, ByteArray.size_append] at a2
      omega
end Go.Proofs.YteefneelcgeioaaGreatDoor
namespace Go.Proofs.YteefneelcgeioaaGreatDoor
open Go.RowKit Go.Maps

def refsO (D : Nat) (o : Option NTree) (t : Tree) : List (Nat × ByteArray × Bool) := match o with
  | none => []
  | some x => refs x.fs (filesT D t)
/-- Each file of all trees: its inode, its bytes. -/
def refsA (D : Nat) (tr : List (Option NTree)) (pt : List Tree) : List (Nat × ByteArray × Bool) := (List.zipWith (refsO D) tr pt).flatten
/-- Trees that were put, as they are kept. -/
structure LInv (N D : Nat) (s : TSt) (tr : List (Option NTree)) (pt : List Tree) : Prop where
  rf : RInv N s (refsA D tr pt)
  len : tr.length = pt.length
  tree : ∀ (k : Nat) (x : NTree), ntI tr (k : Int) = some x → ∃ t, pt[k]? = some t ∧ treeErr D t = none ∧ Fit D t ∧ x.t = bareT D t ∧ x.fs.map (·.1) = (filesT D t).map (·.1)
theorem perm_flat_at {α : Type} : ∀ {L : List (List α)} {k : Nat} {a : List α}, L[k]? = some a → L.flatten.Perm (a ++ (L.set k []).flatten)
  | [], _, _, h => by simp at h
  | b :: L, 0, a, h => by
    have e : b = a := by simpa using h
    rw [e]
    exact List.Perm.refl _
  | b :: L, k + 1, a, h => by
    have ih := perm_flat_at (L := L) (k := k) (a := a) (by simpa using h)
    rw [List.set_cons_succ, List.flatten_cons, List.flatten_cons]
    exact (List.Perm.append_left b ih).trans (by
      rw [← List.append_assoc, ← List.append_assoc]
      exact List.Perm.append_right _ List.perm_append_comm)
theorem zip_set {D : Nat} {tr : List (Option NTree)} {pt : List Tree} {k : Nat} {t : Tree} (o : Option NTree) (ht : pt[k]? = some t) (hl : tr.length = pt.length) : List.zipWith (refsO D) (tr.set k o) pt = (List.zipWith (refsO D) tr pt).set k (refsO D o t) := by
  apply List.ext_getElem?
  intro i
  have hk := (List.getElem?_eq_some_iff.1 ht).1
  by_cases e : i = k
  · subst e
    rw [List.getElem?_zipWith, List.getElem?_set_self (by omega), ht, List.getElem?_set_self (by rw [List.length_zipWith]; omega)]
  · rw [List.getElem?_zipWith, List.getElem?_set_ne (fun h => e h.symm), List.getElem?_set_ne (fun h => e h.symm), List.getElem?_zipWith]
theorem ntI_at {tr : List (Option NTree)} {k : Nat} {x : NTree} (h : ntI tr (k : Int) = some x) : tr[k]? = some (some x) := by
  rw [ntI_nat] at h
  cases h' : tr[k]? with
  | none => rw [h'] at h; cases h
  | some z => rw [h'] at h; cases z with
    | none => cases h
    | some y => cases h; rfl
theorem refsA_set {D : Nat} {tr : List (Option NTree)} {pt : List Tree} {k : Nat} {t : Tree} {x : NTree} (o : Option NTree) (hx : ntI tr (k : Int) = some x) (ht : pt[k]? = some t) (hl : tr.length = pt.length) : ∃ R, (refsA D tr pt).Perm (refs x.fs (filesT D t) ++ R) ∧ (refsA D (tr.set k o) pt).Perm (refsO D o t ++ R) := by
  have hz : (List.zipWith (refsO D) tr pt)[k]? = some (refs x.fs (filesT D t)) := by
    rw [List.getElem?_zipWith, ntI_at hx, ht]; rfl
  refine ⟨((List.zipWith (refsO D) tr pt).set k []).flatten, perm_flat_at hz, ?_⟩
  unfold refsA
  rw [zip_set o ht hl]
  have h2 := perm_flat_at (L := (List.zipWith (refsO D) tr pt).set k (refsO D o t)) (k := k) (a := refsO D o t) (List.getElem?_set_self (List.getElem?_eq_some_iff.1 hz).1)
  rw [List.set_set] at h2
  exact h2
theorem refs_fst : ∀ {fs : List (ByteArray × Nat)} {l : List (ByteArray × Tree)}, fs.length = l.length → (refs fs l).map (·.1) = fs.map (·.2)
  | [], _, _ => rfl
  | _ :: _, [], h => by simp at h
  | f :: fs, y :: l, h => by
    have ih := refs_fst (fs := fs) (l := l) (by simpa using h)
    unfold refs at ih ⊢
    rw [List.zipWith_cons_cons, List.map_cons, List.map_cons, ih]
theorem inoL_fst : ∀ (l : List (ByteArray × Tree)) (s : TSt), (inoL s l).map (·.1) = l.map (·.1)
  | [], _ => rfl
  | x :: l, s => by rw [inoL, List.map_cons, List.map_cons, inoL_fst l]
/-- A file's inode is another one. -/
theorem refs_set {p : ByteArray} {j : Nat} : ∀ {fs : List (ByteArray × Nat)} {l : List (ByteArray × Tree)} {q : Nat}, fs.map (·.1) = l.map (·.1) → (fs.map (·.1)).Nodup → (p, q) ∈ fs → ∃ y R, (p, y) ∈ l ∧ (refs fs l).Perm ((q, y.data, y.exec) :: R) ∧ (refs (setF fs p j) l).Perm ((j, y.data, y.exec) :: R)
  | [], _, _, _, _, h => by cases h
  | _ :: _, [], _, h, _, _ => by simp at h
  | f :: fs, y :: l, q, h, hn, hm => by
    rw [List.map_cons, List.map_cons, List.cons.injEq] at h
    rw [List.map_cons, List.nodup_cons] at hn
    have hset : setF (f :: fs) p j = (if f.1 = p then (p, j) else f) :: setF fs p j := rfl
    have hr : refs (f :: fs) (y :: l) = (f.2, y.2.data, y.2.exec) :: refs fs l := rfl
    rw [hr, hset]
    by_cases e : f.1 = p
    · have hno : setF fs p j = fs := by
        unfold setF
        have h2 : (fs.map fun x => if x.1 = p then (p, j) else x) = fs.map id := List.map_congr_left fun x hx => by
          rw [if_neg (fun e2 => hn.1 (by rw [e, ← e2]; exact List.mem_map_of_mem (f := (·.1)) hx))]
          rfl
        rw [h2, List.map_id]
      rcases List.mem_cons.1 hm with e2 | hm2
      · rw [if_pos e, hno, ← e2]
        refine ⟨y.2, refs fs l, ?_, List.Perm.refl _, List.Perm.refl _⟩
        have : y = (p, y.2) := by rw [← e, h.1]
        rw [← this]; exact List.mem_cons_self ..
      · exact absurd (List.mem_map_of_mem (f := (·.1)) hm2) (by rw [← e]; exact hn.1)
    · rcases List.mem_cons.1 hm with e2 | hm2
      · exact absurd (by rw [← e2]) e
      · obtain ⟨z, R, h1, h2, h3⟩ := refs_set h.2 hn.2 hm2
        rw [if_neg e]
        refine ⟨z, (f.2, y.2.data, y.2.exec) :: R, List.mem_cons_of_mem _ h1, (List.Perm.cons _ h2).trans (List.Perm.swap _ _ _), ?_⟩
        show (((f.2, y.2.data, y.2.exec) :: refs (setF fs p j) l).Perm _)
        exact (List.Perm.cons _ h3).trans (List.Perm.swap _ _ _)
theorem setF_fst (fs : List (ByteArray × Nat)) (p : ByteArray) (j : Nat) : (setF fs p j).map (·.1) = fs.map (·.1) := by
  unfold setF
  rw [List.map_map]
  refine List.map_congr_left fun x _ => ?_
  show (if x.1 = p then (p, j) else x).1 = x.1
  split
  · rename_i e; exact e.symm
  · rfl
theorem nodup_snd {l : List (ByteArray × Tree)} (h : (l.map (·.1)).Nodup) {p : ByteArray} {a b : Tree} : (p, a) ∈ l → (p, b) ∈ l → a = b := by
  induction l with
  | nil => intro h; cases h
  | cons x l ih =>
    rw [List.map_cons, List.nodup_cons] at h
    intro ha hb
    rcases List.mem_cons.1 ha with e1 | h1
    · rcases List.mem_cons.1 hb with e2 | h2
      · rw [← e1] at e2
        exact (congrArg Prod.snd e2).symm
      · exact absurd (List.mem_map_of_mem (f := (·.1)) h2) (by rw [← e1] at h; exact h.1)
    · rcases List.mem_cons.1 hb with e2 | h2
      · exact absurd (List.mem_map_of_mem (f := (·.1)) h1) (by rw [← e2] at h; exact h.1)
      · exact ih h.2 h1 h2
/-- The inode that a path is. -/
def inoAt (s : TSt) (fs : List (ByteArray × Nat)) (p : ByteArray) : Ino := ((findF fs p).bind (slotT s.tab)).getD ⟨0, 0, false, [], 0⟩
namespace LInv
variable {N D : Nat} {s : TSt} {tr : List (Option NTree)} {pt : List Tree}
theorem put (I : LInv N D s tr pt) {t : Tree} (hw : treeErr D t = none) (hf : Fit D t) (hn : needL (filesT D t) ≤ (freeR s.u).length) : LInv N D (mkL s (filesT D t)) (tr ++ [some ⟨bareT D t, inoL s (filesT D t)⟩]) (pt ++ [t]) := by
  have hall := fun x hx => ((treeErr_none.1 hw).2 x hx).2
  have hrf := I.rf.makes (filesT D t) (fun x hx => (files_small hall x hx).1) hn
  have he : refsA D (tr ++ [some ⟨bareT D t, inoL s (filesT D t)⟩]) (pt ++ [t]) = refsA D tr pt ++ refs (inoL s (filesT D t)) (filesT D t) := by
    unfold refsA
    rw [List.zipWith_append I.len, List.flatten_append]
    simp [refsO]
  refine ⟨by rw [he]; exact hrf.perm List.perm_append_comm, by simp [I.len], fun k x hx => ?_⟩
  rw [ntI_snoc] at hx
  split at hx
  · rename_i e
    cases hx
    have e' : k = pt.length := by rw [← I.len]; omega
    exact ⟨t, by rw [e']; simp, hw, hf, rfl, inoL_fst _ _⟩
  · obtain ⟨t', h1, h2⟩ := I.tree k x hx
    exact ⟨t', by rw [List.getElem?_append_left (List.getElem?_eq_some_iff.1 h1).1]; exact h1, h2⟩
theorem drop (I : LInv N D s tr pt) {k : Nat} {x : NTree} (hx : ntI tr (k : Int) = some x) {l : List Nat} (hl : l.Perm (x.fs.map (·.2))) : LInv N D (unlL s l) (tr.set k none) pt := by
  obtain ⟨t, ht, hw, hf, e1, e2⟩ := I.tree k x hx
  obtain ⟨R, p1, p2⟩ := refsA_set (D := D) none hx ht I.len
  have hlen : x.fs.length = (filesT D t).length := by have := congrArg List.length e2; simpa using this
  refine ⟨((I.rf.perm p1).unlinks l (by rw [refs_fst hlen]; exact hl)).perm p2.symm, by simp [I.len], fun j y hy => ?_⟩
  rw [ntI_set hx] at hy
  split at hy
  · cases hy
  · exact I.tree j y hy
theorem cnt (I : LInv N D s tr pt) {k : Nat} {x : NTree} (hx : ntI tr (k : Int) = some x) (hb : (refsA D tr pt).length ≤ 1000000) : CntOk s (x.fs.map (·.2)) ∧ (x.fs.map (·.1)).Nodup := by
  obtain ⟨t, ht, hw, hf, e1, e2⟩ := I.tree k x hx
  obtain ⟨R, p1, p2⟩ := refsA_set (D := D) none hx ht I.len
  have hlen : x.fs.length = (filesT D t).length := by have := congrArg List.length e2; simpa using this
  have hG := good_of fun y hy => ((treeErr_none.1 hw).2 y hy).2
  refine ⟨?_, by rw [e2]; exact filesT_nodup hf hG hw⟩
  have h := (I.rf.perm p1).cnt (by rw [← p1.length_eq]; exact hb)
  rw [refs_fst hlen] at h
  exact h
theorem share (I : LInv N D s tr pt) {k : Nat} {x : NTree} {p : ByteArray} {was j : Nat} {y z : Ino} (hx : ntI tr (k : Int) = some x) (hp : findF x.fs p = some was) (hy : slotT s.tab was = some y) (hz : slotT s.tab j = some z) (hne : ¬ j = was) (hc : crcR (readD s.bl z.blocks z.bytes) = z.sum) (hl : likeI s.bl y z = true) : LInv N D (unlS (lnkS s j z) was y) (tr.set k (some { x with fs := setF x.fs p j })) pt := by
  obtain ⟨t, ht, hw, hf, e1, e2⟩ := I.tree k x hx
  have hG := good_of fun y hy => ((treeErr_none.1 hw).2 y hy).2
  obtain ⟨R, p1, p2⟩ := refsA_set (D := D) (some { x with fs := setF x.fs p j }) hx ht I.len
  obtain ⟨f, R2, hm, q1, q2⟩ := refs_set (j := j) e2 (by rw [e2]; exact filesT_nodup hf hG hw) (findF_mem _ hp)
  have I1 := I.rf.perm (p1.trans (q1.append_right R))
  obtain ⟨y', hy', h1, h2, h3⟩ := I1.held _ (List.mem_cons_self ..)
  simp only at hy' h1 h2
  rw [hy] at hy'
  cases hy'
  obtain ⟨k1, k2⟩ := (likeI_iff _ _ _).1 hl
  have I2 := I1.link hz hc
  have hy1 : slotT (lnkS s j z).tab was = some y := by
    show slotT (s.tab.set j _) was = _
    rw [slotT_set (slotT_lt hz), if_neg (fun e => hne e.symm)]; exact hy
  have I3 := (I2.perm (List.Perm.swap _ _ _)).unlink hy1
  rw [← k1, h1, ← k2, h2] at I3
  refine ⟨I3.perm ((p2.trans (q2.append_right R)).symm), by simp [I.len], fun i v hv => ?_⟩
  rw [ntI_set hx] at hv
  split at hv
  · rename_i e
    cases hv
    have e' : i = k := by omega
    subst e'
    exact ⟨t, ht, hw, hf, e1, by rw [setF_fst]; exact e2⟩
  · exact I.tree i v hv
/-- Each file of a tree is there, and has its bytes. -/
theorem files (I : LInv N D s tr pt) {k : Nat} {x : NTree} {t : Tree} (hx : ntI tr (k : Int) = some x) (ht : pt[k]? = some t) : ∀ y ∈ filesT D t, ∃ q, findF x.fs y.1 = some q ∧ slotT s.tab q = some (inoAt s x.fs y.1) ∧ readD s.bl (inoAt s x.fs y.1).blocks (inoAt s x.fs y.1).bytes = y.2.data ∧ (inoAt s x.fs y.1).exec = y.2.exec ∧ (inoAt s x.fs y.1).sum = crcR y.2.data := by
  obtain ⟨t', ht', hw, hf, e1, e2⟩ := I.tree k x hx
  rw [ht] at ht'
  cases ht'
  have hG := good_of fun y hy => ((treeErr_none.1 hw).2 y hy).2
  have hnd := filesT_nodup hf hG hw
  obtain ⟨R, p1, p2⟩ := refsA_set (D := D) none hx ht I.len
  intro y hy
  obtain ⟨f, hfm, ef⟩ := List.mem_map.1 (show y.1 ∈ x.fs.map (·.1) by rw [e2]; exact List.mem_map_of_mem (f := (·.1)) hy)
  obtain ⟨q, hq⟩ := Option.isSome_iff_exists.1 (findF_some x.fs hfm)
  rw [ef] at hq
  obtain ⟨z, R2, hz, q1, _⟩ := refs_set (j := 0) e2 (by rw [e2]; exact hnd) (findF_mem _ hq)
  have hzy : z = y.2 := nodup_snd hnd hz (show (y.1, y.2) ∈ _ from hy)
  subst hzy
  obtain ⟨i, hi, h1, h2, h3⟩ := (I.rf.perm (p1.trans (q1.append_right R))).held _ (List.mem_cons_self ..)
  simp only at hi h1 h2 h3
  have hι : inoAt s x.fs y.1 = i := by
    unfold inoAt
    rw [hq]
    show (slotT s.tab q).getD _ = i
    rw [hi]
    rfl
  rw [hι]
  exact ⟨q, hq, hi, h1, h2, h3⟩
end LInv
end Go.Proofs.YteefneelcgeioaaGreatDoor
namespace Go.Proofs.YteefneelcgeioaaGreatDoor
open Go.RowKit

theorem built_t (W : World) (l : List Int) (a : Array Value) (ha : a = (l.map (Value.int .i64)).toArray) : IntsT (W.alloc (.cells a 3)) (.slice (some ⟨W.heap.size, 0, none⟩) l.length l.length) l :=
  ⟨_, _, rfl, fun _ => ⟨_, _, a, rfl, heap_alloc_last _ _, fun i x hx => by rw [ha, Nat.zero_add, List.getElem?_toArray, List.getElem?_map, hx]; rfl⟩⟩
end Go.Proofs.YteefneelcgeioaaGreatDoor
namespace Go.Proofs.YteefneelcgeioaaGreatDoor
open Go.RowKit

theorem DkBut.of_heap {bb : Nat} {va : Option Addr} {w w1 w' : World} (h : DkBut bb va w w1) (e : w'.heap = w1.heap) (e1 : w'.os = w1.os) (e2 : w'.tape = w1.tape) (e3 : w'.output = w1.output) : DkBut bb va w w' :=
  ⟨e1.trans h.os, e2.trans h.tape, e3.trans h.output, by rw [e]; exact h.size, fun k a b c d => by rw [e]; exact h.block k a b c d⟩
theorem set_same {β : Type} {l : List β} {j : Nat} {x : β} (h : l[j]? = some x) : l.set j x = l := by
  apply List.ext_getElem?
  intro i
  rw [List.getElem?_set]
  by_cases e : j = i
  · subst e
    rw [if_pos rfl, h, if_pos (List.getElem?_eq_some_iff.1 h).1]
  · rw [if_neg e]
/-- A write with a bit turned, if it is of that block. -/
def rotX (k bit : Nat) (x : Nat × List UInt8) : Nat × List UInt8 := if x.1 = k then (x.1, turnL x.2 bit) else x
def rotJ (wt : List (Nat × List UInt8)) (k bit j : Nat) : List (Nat × List UInt8) := (wt.take j).map (rotX k bit) ++ wt.drop j
theorem rotJ_len (wt : List (Nat × List UInt8)) (k bit j : Nat) : (rotJ wt k bit j).length = wt.length := by simp [rotJ]; omega
theorem rotJ_at {wt : List (Nat × List UInt8)} {k bit j : Nat} {x : Nat × List UInt8} (h : wt[j]? = some x) : (rotJ wt k bit j)[j]? = some x := by
  have hj := (List.getElem?_eq_some_iff.1 h).1
  unfold rotJ
  rw [List.getElem?_append_right (by simp; omega)]
  simp [Nat.min_eq_left (Nat.le_of_lt hj), h]
theorem rotJ_next {wt : List (Nat × List UInt8)} {k bit j : Nat} {x : Nat × List UInt8} (h : wt[j]? = some x) : rotJ wt k bit (j + 1) = (rotJ wt k bit j).set j (rotX k bit x) := by
  obtain ⟨hj, e⟩ := List.getElem?_eq_some_iff.1 h
  unfold rotJ
  rw [List.set_append_right _ _ (by simp; omega)]
  have hl : j - ((wt.take j).map (rotX k bit)).length = 0 := by simp; omega
  rw [hl, List.drop_eq_getElem_cons hj, List.set_cons_zero, List.take_succ_eq_append_getElem hj, e]
  simp

end Go.Proofs.YteefneelcgeioaaGreatDoor
namespace Go.Proofs.YteefneelcgeioaaGreatDoor
open Go.RowKit

/-- An act on a disk. -/
structure DAct where
  kind : ByteArray
  s : ByteArray
  k : Int
  bit : Int
  keep : List Int
/-- Acts in memory. -/
def ActsAt (w : World) (v : Value) (l : List DAct) : Prop := ∃ ad cap, v = .slice ad l.length cap ∧ ∀ i a, l[i]? = some a → ∃ b off kv, ad = some ⟨b, off, none⟩ ∧ w.cell? ⟨b, off + i * 5, none⟩ = some (.string a.kind) ∧ w.cell? ⟨b, off + i * 5 + 1, none⟩ = some (.string a.s) ∧ w.cell? ⟨b, off + i * 5 + 2, none⟩ = some (.int .i64 a.k) ∧ w.cell? ⟨b, off + i * 5 + 3, none⟩ = some (.int .i64 a.bit) ∧ w.cell? ⟨b, off + i * 5 + 4, none⟩ = some kv ∧ IntsAt w kv a.keep
/-- The word of a barrier. -/
def barL : List UInt8 := [98, 97, 114, 114, 105, 101, 114]
/-- Was it written there? -/
def Wrote (l : List DAct) (j : Nat) (b : List UInt8) : Prop := ∃ (i : Nat) (a : DAct), l[i]? = some a ∧ (a.kind.toList == barL) = false ∧ a.k = (j : Int) ∧ a.s = ⟨b.toArray⟩
structure Good (l : List DAct) (bl : List (List UInt8)) (wt : List (Nat × List UInt8)) : Prop where
  bl : ∀ j b, bl[j]? = some b → b = zb ∨ Wrote l j b
  wt : ∀ x ∈ wt, Wrote l x.1 x.2
theorem Good.start (l : List DAct) (n : Nat) : Good l (List.replicate n zb) [] := ⟨fun j b h => .inl (by rw [List.getElem?_replicate] at h; split at h <;> simp_all), fun x hx => by cases hx⟩
theorem Good.write {l : List DAct} {bl : List (List UInt8)} {wt : List (Nat × List UInt8)} (G : Good l bl wt) {x : Nat × List UInt8} (h : Wrote l x.1 x.2) : Good l bl (wt ++ [x]) := ⟨G.bl, fun y hy => by
  rcases List.mem_append.1 hy with h' | h'
  · exact G.wt y h'
  · rw [List.mem_singleton.1 h']; exact h⟩
theorem Good.settle {l : List DAct} {bl : List (List UInt8)} {wt : List (Nat × List UInt8)} (G : Good l bl wt) (keep : Nat → Bool) : ∀ i, Good l (setl keep wt bl i) []
  | 0 => ⟨G.bl, fun x hx => by cases hx⟩
  | i + 1 => by
    have IH := G.settle keep i
    refine ⟨?_, fun x hx => by cases hx⟩
    unfold setl
    cases h : wt[i]? with
    | none => exact IH.bl
    | some x =>
      by_cases hk : keep i
      · simp only [hk, if_true]
        intro j b hj
        rw [List.getElem?_set] at hj
        split at hj
        · next e =>
          split at hj
          · cases hj
            right
            rw [← e]; exact G.wt x (List.mem_of_getElem? h)
          · cases hj
        · exact IH.bl j b hj
      · simp only [hk]
        exact IH.bl
theorem Good.rd {l : List DAct} {bl : List (List UInt8)} {wt : List (Nat × List UInt8)} (G : Good l bl wt) {k : Nat} {b : List UInt8} (hk : bl[k]? = some b) : rdR bl wt k = zb ∨ Wrote l k (rdR bl wt k) := by
  rcases rdR_mem (wt := wt) hk with h | h
  · rw [h]; exact G.bl k b hk
  · exact .inr (G.wt _ h)
theorem turnL_twice (l : List UInt8) (k : Nat) : turnL (turnL l k) k = l := by
  unfold turnL
  by_cases h : k / 8 < l.length
  · rw [List.getElem?_set_self h, Option.getD_some, turnB_twice, List.set_set]
    rw [List.getElem?_eq_getElem h, Option.getD_some]
    exact set_same (List.getElem?_eq_getElem h)
  · rw [List.set_eq_of_length_le (by rw [List.length_set]; omega), List.set_eq_of_length_le (by omega)]
theorem rotX_twice (k bit : Nat) (x : Nat × List UInt8) : rotX k bit (rotX k bit x) = x := by
  unfold rotX
  by_cases h : x.1 = k
  · simp [h, turnL_twice]; rw [← h]
  · simp [h]
theorem rot_back {bl : List (List UInt8)} {wt : List (Nat × List UInt8)} {k bit : Nat} {b : List UInt8} (hk : bl[k]? = some b) : (bl.set k (turnL b bit)).set k (turnL (turnL b bit) bit) = bl ∧ (wt.map (rotX k bit)).map (rotX k bit) = wt := by
  refine ⟨?_, ?_⟩
  · rw [turnL_twice, List.set_set]; exact set_same hk
  · rw [List.map_map]
    have : rotX k bit ∘ rotX k bit = id := by funext x; exact rotX_twice k bit x
    rw [this, List.map_id]
end Go.Proofs.YteefneelcgeioaaGreatDoor
