/-
  What was written is read, and no tree's text begins another one's: as plain mathematics.
  Conditions: none.
-/
import Derived.Test.YtilkjafggfdjeaaDoorPacks
import Derived.Test.YtilkjafggfdjeaaDoorSums
namespace Go.Proofs.YtilkjafggfdjeaaDoor
open Go.RowKit

theorem kidsR_text {f d k : Nat} {p : ByteArray} {l : List (ByteArray × Tree)} {n : Nat} {r : List UInt8}
    (ih : ∀ x ∈ l, ∀ (m : Nat) (r : List UInt8), m + (pre d (p ++ slash ++ x.1) (k + 1) x.2).length ≤ 200 → nodeR f (m, textT d x.2 ++ r) = .ok (x.2, (m + (pre d (p ++ slash ++ x.1) (k + 1) x.2).length, r)))
    (hs : ∀ x ∈ l, x.1.size ≤ 12) (hn : n + (l.flatMap fun x => pre d (p ++ slash ++ x.1) (k + 1) x.2).length ≤ 200) : ∀ j, j ≤ l.length →
    kidsR (nodeR f) j (n, (l.flatMap fun x => bytesT x.1 ++ textT d x.2) ++ r) = .ok (l.take j, (n + ((l.take j).flatMap fun x => pre d (p ++ slash ++ x.1) (k + 1) x.2).length, ((l.drop j).flatMap fun x => bytesT x.1 ++ textT d x.2) ++ r)) := by
  intro j
  induction j with
  | zero => intro _; simp [kidsR]
  | succ j ihj =>
    intro hj
    have hlt : j < l.length := by omega
    obtain ⟨x, hx⟩ : ∃ x, l[j]? = some x := ⟨l[j], List.getElem?_eq_getElem hlt⟩
    have hm : x ∈ l := List.mem_of_getElem? hx
    have e1 : l.drop j = x :: l.drop (j + 1) := by
      rw [List.drop_eq_getElem_cons hlt, (List.getElem?_eq_some_iff.1 hx).2]
    have e2 := flat_take hx (fun x => pre d (p ++ slash ++ x.1) (k + 1) x.2)
    have e3 := flat_split hx (fun x => pre d (p ++ slash ++ x.1) (k + 1) x.2)
    have hn' := hn
    rw [e3] at hn'
    simp only [List.length_append] at hn'
    simp only [kidsR]
    rw [ihj (by omega)]
    simp only [kidR, e1, List.flatMap_cons, List.append_assoc]
    rw [bytesR_text (by have := hs x hm; omega)]
    simp only
    rw [ih x hm _ _ (by omega)]
    simp only [e2, bs_data, List.length_append]
    have e4 : l.take (j + 1) = l.take j ++ [x] := by rw [List.take_succ_eq_append_getElem hlt, (List.getElem?_eq_some_iff.1 hx).2]
    rw [e4, Nat.add_assoc]

theorem kind_is (l m : List UInt8) (d : ByteArray) (x : Bool) (k : List (ByteArray × Tree)) : ((Tree.mk (bs l) d x k).kind.toList == m) = (l == m) := by
  show ((bs l).toList == m) = _
  unfold bs
  rw [ByteArray.toList_mk]
/-- What was written is read, whatever is behind it. -/
theorem node_text : ∀ (d f k : Nat) (p : ByteArray) (t : Tree) (n : Nat) (r : List UInt8), Fit d t → (∀ x ∈ pre d p k t, nodeErr x.2.2 = none ∧ x.2.1 < k + f) → n + (pre d p k t).length ≤ 200 →
    nodeR f (n, textT d t ++ r) = .ok (t, (n + (pre d p k t).length, r)) := by
  intro d
  induction d with
  | zero => intro f k p t n r h; exact absurd h (by simp [Fit])
  | succ d ih =>
    intro f k p t n r hfit hx hn
    have h0 := hx (p, k, t) (by simp [pre])
    obtain ⟨hne, hkf⟩ := h0
    simp only at hne hkf
    obtain ⟨f, rfl⟩ : ∃ g, f = g + 1 := ⟨f - 1, by omega⟩
    simp only [pre, List.length_cons] at hn ⊢
    unfold nodeR
    simp only
    rw [if_neg (by omega)]
    rcases node_cases hne with ⟨e, hs⟩ | ⟨e, hs⟩ | ⟨e, hs⟩
    · have hk : t.kids = [] := by rw [e]
      have hdir : isDir t = false := by rw [e]; exact kind_is _ _ _ _ _
      have hlink : isLink t = false := by rw [e]; exact kind_is _ _ _ _ _
      simp only [textT, hdir, Bool.false_eq_true, if_false, List.cons_append, letterOf, hlink, hk, List.flatMap_nil, List.length_nil]
      cases hex : t.exec
      · simp only [Bool.false_eq_true, if_false]
        rw [if_pos (by decide)]
        unfold leafR
        rw [bytesR_text (by omega)]
        simp only [bs_data]
        rw [hex] at e
        rw [e]; rfl
      · simp only [if_true]
        rw [if_pos (by decide)]
        unfold leafR
        rw [bytesR_text (by omega)]
        simp only [bs_data]
        rw [hex] at e
        rw [e]; rfl
    · have hk : t.kids = [] := by rw [e]
      have hdir : isDir t = false := by rw [e]; exact kind_is _ _ _ _ _
      have hlink : isLink t = true := by rw [e]; exact kind_is _ _ _ _ _
      simp only [textT, hdir, Bool.false_eq_true, if_false, List.cons_append, letterOf, hlink, if_true, hk, List.flatMap_nil, List.length_nil]
      rw [if_neg (by decide)]
      unfold leafR
      rw [bytesR_text (by omega)]
      simp only [bs_data]
      rw [e]
    · have hdir : isDir t = true := by rw [e]; exact kind_is _ _ _ _ _
      simp only [textT, hdir, if_true, List.cons_append, letterOf]
      rw [if_neg (by decide), if_neg (by decide)]
      unfold dirR
      have hlen : t.kids.length < 1000000 := by
        have : t.kids.length ≤ (t.kids.flatMap fun x => pre d (p ++ slash ++ x.1) (k + 1) x.2).length := by
          rw [List.length_flatMap]
          have hpos : ∀ x ∈ t.kids, 1 ≤ (pre d (p ++ slash ++ x.1) (k + 1) x.2).length := fun x hx' => by
            have hf : Fit d x.2 := hfit x hx'
            cases d with
            | zero => exact absurd hf (by simp [Fit])
            | succ d => simp [pre]
          clear hn hx ih hfit hne e hs hdir
          generalize t.kids = l at hpos
          induction l with
          | nil => simp
          | cons y l ihl =>
            have h1 := hpos y (by simp)
            have h2 := ihl (fun x hx => hpos x (by simp [hx]))
            simp only [List.map_cons, List.sum_cons, List.length_cons] at h2 ⊢
            omega
        omega
      rw [List.append_assoc, numR_text hlen]
      simp only
      have := kidsR_text (f := f) (d := d) (k := k) (p := p) (l := t.kids) (n := n + 1) (r := r)
        (fun x hx' m r' hm => ih f (k + 1) (p ++ slash ++ x.1) x.2 m r' (hfit x hx') (fun y hy => by
          have := hx y (by simp only [pre, List.mem_cons, List.mem_flatMap]; exact .inr ⟨x, hx', hy⟩)
          exact ⟨this.1, by omega⟩) hm) hs (by omega) t.kids.length (Nat.le_refl _)
      rw [this]
      simp only [List.take_length, List.drop_length, List.flatMap_nil, List.nil_append]
      rw [Nat.add_assoc, Nat.add_comm 1]
      congr 2
      exact e.symm
theorem text_read {d : Nat} {t : Tree} (hfit : Fit d t) (hwell : treeErr d t = none) (r : List UInt8) : nodeR 9 (0, textT d t ++ r) = .ok (t, ((pre d ByteArray.empty 0 t).length, r)) := by
  have h := treeErr_none.1 hwell
  have := node_text d 9 0 ByteArray.empty t 0 r hfit (fun x hx => ⟨(h.2 x hx).2, by have := (h.2 x hx).1; omega⟩) (by omega)
  rw [this, Nat.zero_add]
/-- No tree's text begins another one's. -/
theorem text_apart {d e : Nat} {s t : Tree} (hs : Fit d s) (ht : Fit e t) (ws : treeErr d s = none) (wt : treeErr e t = none) {r : List UInt8} (h : textT e t = textT d s ++ r) : s = t := by
  have h1 := text_read hs ws r
  have h2 := text_read ht wt []
  rw [List.append_nil, h, h1] at h2
  injection h2 with h2
  exact congrArg Prod.fst h2
end Go.Proofs.YtilkjafggfdjeaaDoor
