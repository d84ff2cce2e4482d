/-
  More facts of trees as text: their length; levels; two that are the same are one.
  Conditions: none.
-/
import Derived.Test.YtilkjafggfdjeaaDoorPacks2
import Derived.Test.YtilkjafggfdjeaaDoorSmall
namespace Go.Proofs.YtilkjafggfdjeaaDoor
open Go.RowKit

theorem dec_len {n : Nat} (h : n < 1000000) : (numT n).length ≤ 7 := by
  have := dec_ok h
  unfold numOk at this
  simp only [Bool.and_eq_true, decide_eq_true_eq] at this
  simp only [numT, List.length_append, List.length_cons, List.length_nil]
  omega
theorem flat_le {α : Type} {F : α → List UInt8} {P : α → List (ByteArray × Nat × Tree)} : ∀ {l : List α}, (∀ x ∈ l, (F x).length ≤ 2100 * (P x).length) → (l.flatMap F).length ≤ 2100 * (l.flatMap P).length
  | [], _ => by simp
  | x :: l, h => by
    have h1 := h x (by simp)
    have h2 := flat_le (l := l) fun y hy => h y (by simp [hy])
    simp only [List.flatMap_cons, List.length_append]
    omega
theorem kids_le {d : Nat} {l : List (ByteArray × Tree)} {F : ByteArray × Tree → ByteArray} {k : Nat} (hf : ∀ x ∈ l, Fit d x.2) : l.length ≤ (l.flatMap fun x => pre d (F x) k x.2).length := by
  induction l with
  | nil => simp
  | cons x l ih =>
    have h1 : 1 ≤ (pre d (F x) k x.2).length := by
      have := hf x (by simp)
      cases d with
      | zero => exact absurd this (by simp [Fit])
      | succ d => simp [pre]
    have h2 := ih fun y hy => hf y (by simp [hy])
    simp only [List.flatMap_cons, List.length_append, List.length_cons]
    omega
theorem text_len : ∀ (d : Nat) (p : ByteArray) (k : Nat) (t : Tree), Fit d t → (∀ x ∈ pre d p k t, nodeErr x.2.2 = none) → (pre d p k t).length ≤ 200 → (textT d t).length + 19 ≤ 2100 * (pre d p k t).length
  | 0, _, _, _, h, _, _ => absurd h (by simp [Fit])
  | d + 1, p, k, t, hfit, hx, hn => by
    have hne := hx (p, k, t) (by simp [pre])
    simp only at hne
    simp only [pre, List.length_cons] at hn ⊢
    have leaf : isDir t = false → t.data.size ≤ 2000 → (textT (d + 1) t).length + 19 ≤ 2100 := fun hd hs => by
      have := dec_len (n := t.data.size) (by omega)
      simp only [textT, hd, Bool.false_eq_true, if_false, List.length_cons, bytesT, List.length_append]
      have e : t.data.data.toList.length = t.data.size := by simp
      omega
    rcases node_cases hne with ⟨e, hs⟩ | ⟨e, hs⟩ | ⟨e, hs⟩
    · have := leaf (by rw [e]; exact kind_is _ _ _ _ _) hs
      omega
    · have := leaf (by rw [e]; exact kind_is _ _ _ _ _) (by omega)
      omega
    · have hdir : isDir t = true := by rw [e]; exact kind_is _ _ _ _ _
      have h1 := kids_le (k := k + 1) (F := fun x => p ++ slash ++ x.1) (fun x hx' => hfit x hx')
      have h2 := dec_len (n := t.kids.length) (by omega)
      have h3 := flat_le (l := t.kids) (F := fun x => bytesT x.1 ++ textT d x.2) (P := fun x => pre d (p ++ slash ++ x.1) (k + 1) x.2) (fun x hx' => by
        have h4 := mem_sum (fun y => (pre d (p ++ slash ++ y.1) (k + 1) y.2).length) hx'
        rw [← List.length_flatMap] at h4
        have h5 := text_len d (p ++ slash ++ x.1) (k + 1) x.2 (hfit x hx') (fun y hy => hx y (by simp only [pre, List.mem_cons, List.mem_flatMap]; exact .inr ⟨x, hx', hy⟩)) (by omega)
        have h6 := dec_len (n := x.1.size) (by have := hs x hx'; omega)
        have h7 := hs x hx'
        have e7 : x.1.data.toList.length = x.1.size := by simp
        simp only [List.length_append, bytesT]
        omega)
      simp only [textT, hdir, if_true, List.length_cons, List.length_append]
      omega
/-- A tree has as many levels as its nodes tell. -/
theorem fit_level : ∀ (d f k : Nat) (p : ByteArray) (t : Tree), Fit d t → (∀ x ∈ pre d p k t, x.2.1 < k + f) → Fit f t ∧ pre f p k t = pre d p k t
  | 0, _, _, _, _, h, _ => absurd h (by simp [Fit])
  | d + 1, f, k, p, t, hfit, hx => by
    have h0 := hx (p, k, t) (by simp [pre])
    simp only at h0
    obtain ⟨g, rfl⟩ : ∃ g, f = g + 1 := ⟨f - 1, by omega⟩
    have ih : ∀ y ∈ t.kids, Fit g y.2 ∧ pre g (p ++ slash ++ y.1) (k + 1) y.2 = pre d (p ++ slash ++ y.1) (k + 1) y.2 := fun y hy =>
      fit_level d g (k + 1) (p ++ slash ++ y.1) y.2 (hfit y hy) fun x hx' => by
        have := hx x (by simp only [pre, List.mem_cons, List.mem_flatMap]; exact .inr ⟨y, hy, hx'⟩)
        omega
    refine ⟨fun y hy => (ih y hy).1, ?_⟩
    simp only [pre]
    congr 1
    rw [List.flatMap_def, List.flatMap_def, List.map_congr_left fun y hy => (ih y hy).2]
theorem ba_eq {x y : ByteArray} (h : (x.toList == y.toList) = true) : x = y := by
  have e : x.toList = y.toList := by simpa using h
  rw [ByteArray.toList_eq, ByteArray.toList_eq] at e
  exact (bs_data x).symm.trans ((congrArg bs e).trans (bs_data y))
/-- Two that are the same are one. -/
theorem sameB_eq : ∀ (d : Nat) (s t : Tree), sameB d s t = true → s = t
  | 0, _, _, h => by simp [sameB] at h
  | d + 1, s, t, h => by
    rw [sameB_succ] at h
    simp only [Bool.and_eq_true, headSame] at h
    obtain ⟨⟨⟨⟨h1, h2⟩, h3⟩, h4⟩, h5⟩ := h
    obtain ⟨sk, sd, sx, sl⟩ := s
    obtain ⟨tk, td, tx, tl⟩ := t
    simp only at h1 h2 h3 h4 h5
    have hl : sl.length = tl.length := by simpa using h4
    have hk : sl = tl := by
      apply List.ext_getElem hl
      intro i hi hi'
      unfold sameTo at h5
      have := List.all_eq_true.1 h5 i (List.mem_range.2 hi)
      simp only [List.getElem?_eq_getElem hi, List.getElem?_eq_getElem hi', Bool.and_eq_true] at this
      exact Prod.ext (ba_eq this.1) (sameB_eq d _ _ this.2)
    rw [ba_eq h1, ba_eq h2, hk, show sx = tx by simpa using h3]
end Go.Proofs.YtilkjafggfdjeaaDoor
