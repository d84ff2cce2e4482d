/-
  The document's way to a tree with a node put or taken out, as a function, and that it is setAt or dropAt on a well tree; the state of its loop.
  Conditions: those that each states.
-/
import Derived.Test.YtpjjpmikhjlgnaaGreatDoorPutP
import Derived.Test.YtpjjpmikhjlgnaaGreatDoorDropM
import Derived.Test.YtpjjpmikhjlgnaaGreatDoorRoom
import Derived.Test.YtpjjpmikhjlgnaaGreatDoorOwn
namespace Go.Proofs.YtpjjpmikhjlgnaaGreatDoor
open Go.RowKit

/-- What setOf tells: none, or the tree. -/
def setS (X : Tree) (dr : Bool) : List ByteArray → Tree → Option Tree
  | [], _ => some X
  | x :: r, t => if isDir t = false then none else
      if thereAt t.kids x = true then
        if (decide (r = []) && dr) = true then some { t with kids := t.kids.eraseIdx (placeOf t.kids x) }
        else match setS X dr r ((kidOf t x).getD zeroT) with
          | none => none
          | some y => some { t with kids := t.kids.set (placeOf t.kids x) (x, y) }
      else if (decide (r = []) && !dr) = true then some { t with kids := t.kids.take (placeOf t.kids x) ++ (x, X) :: t.kids.drop (placeOf t.kids x) } else none
/-- Only dirs have kids, all the way down. -/
def DirsD : Nat → Tree → Prop
  | 0, _ => False
  | d + 1, t => (t.kids ≠ [] → isDir t = true) ∧ ∀ x ∈ t.kids, DirsD d x.2
theorem dir_well {t : Tree} (h : nodeErr t = none) (hne : t.kids ≠ []) : isDir t = true := by
  have hp : 0 < t.kids.length := by
    cases hk : t.kids with
    | nil => exact absurd hk hne
    | cons a b => simp
  unfold nodeErr at h
  split at h
  · unfold fileErr at h
    rw [if_pos hp] at h
    cases h
  · split at h
    · rename_i h2
      exact h2
    · split at h
      · unfold linkErr at h
        rw [if_pos (.inr hp)] at h
        cases h
      · cases h
theorem dirs_tree : ∀ {d : Nat} {p : ByteArray} {k : Nat} {t : Tree}, Fit d t → (∀ x ∈ pre d p k t, nodeErr x.2.2 = none) → DirsD d t
  | 0, _, _, _, h, _ => h
  | d + 1, p, k, t, h, ho => by
    simp only [pre] at ho
    exact ⟨dir_well (ho (p, k, t) List.mem_cons_self), fun y hy => dirs_tree (p := p ++ slash ++ y.1) (k := k + 1) (h y hy) fun x hx => ho x (List.mem_cons_of_mem _ (List.mem_flatMap.2 ⟨y, hy, hx⟩))⟩
theorem dirs_well {d : Nat} {t : Tree} (hf : Fit d t) (h : treeErr d t = none) : DirsD d t := dirs_tree (p := ByteArray.empty) (k := 0) hf fun x hx => ((treeErr_none.1 h).2 x hx).2
theorem kid_there {t : Tree} {x : ByteArray} (h : thereAt t.kids x = true) : ∃ k, kidOf t x = some k ∧ t.kids[placeOf t.kids x]? = some (x, k) := by
  obtain ⟨⟨y, k⟩, hy, e⟩ := there_some h
  simp only at e
  subst e
  refine ⟨k, ?_, hy⟩
  unfold kidOf
  rw [if_pos h, hy]
  rfl
theorem kid_not {t : Tree} {x : ByteArray} (h : thereAt t.kids x = false) : kidOf t x = none := by
  unfold kidOf
  rw [if_neg (by simp [h])]
theorem room_cons {x y : ByteArray} {r : List ByteArray} {t k : Tree} (h : kidOf t x = some k) : roomB (x :: y :: r) t = roomB (y :: r) k := by
  unfold roomB
  rw [List.dropLast_cons_cons]
  simp only [List.isEmpty_cons, Bool.false_or, atR, h]
theorem room_not {x y : ByteArray} {r : List ByteArray} {t : Tree} (h : kidOf t x = none) : roomB (x :: y :: r) t = false := by
  unfold roomB
  rw [List.dropLast_cons_cons]
  simp only [List.isEmpty_cons, Bool.false_or, atR, h]
theorem room_one {x : ByteArray} {t : Tree} : roomB [x] t = isDir t := rfl
theorem setS_put (X : Tree) : ∀ (l : List ByteArray) {d : Nat} {t : Tree}, DirsD d t → setS X false l t = if roomB l t = true then some (setAt X l t) else none
  | [], _, t, _ => rfl
  | [x], 0, t, h => h.elim
  | [x], d + 1, t, h => by
    rw [room_one]
    unfold setS
    cases hd : isDir t with
    | false => rfl
    | true =>
      simp only [if_neg (by simp : ¬ true = false), if_true]
      cases ht : thereAt t.kids x with
      | true => simp [setS, setAt, setKid, ht]
      | false => simp [setAt, setKid, ht]
  | x :: y :: r, 0, t, h => h.elim
  | x :: y :: r, d + 1, t, h => by
    unfold setS
    cases ht : thereAt t.kids x with
    | true =>
      obtain ⟨k, hk, hp⟩ := kid_there ht
      have hm := List.mem_of_getElem? hp
      have hd := h.1 (List.ne_nil_of_mem hm)
      have ih := setS_put X (y :: r) (h.2 _ hm)
      rw [room_cons hk, hd, hk]
      simp only [Option.getD_some] at ih ⊢
      rw [ih]
      cases hr : roomB (y :: r) k with
      | true => simp [setAt, setKid, ht, hk]
      | false => simp
    | false =>
      rw [room_not (kid_not ht)]
      cases isDir t <;> simp
theorem setS_drop (X : Tree) : ∀ (l : List ByteArray) {d : Nat} {t : Tree}, l ≠ [] → DirsD d t → setS X true l t = if (atR l t).isSome = true then some (dropAt l t) else none
  | [], _, t, h, _ => absurd rfl h
  | [x], 0, t, _, h => h.elim
  | [x], d + 1, t, _, h => by
    unfold setS
    cases ht : thereAt t.kids x with
    | true =>
      obtain ⟨k, hk, hp⟩ := kid_there ht
      have hd := h.1 (List.ne_nil_of_mem (List.mem_of_getElem? hp))
      simp [hd, atR, hk, dropAt]
    | false =>
      cases hd : isDir t <;> simp [atR, kid_not ht]
  | x :: y :: r, 0, t, _, h => h.elim
  | x :: y :: r, d + 1, t, _, h => by
    unfold setS
    cases ht : thereAt t.kids x with
    | true =>
      obtain ⟨k, hk, hp⟩ := kid_there ht
      have hm := List.mem_of_getElem? hp
      have hd := h.1 (List.ne_nil_of_mem hm)
      have ih := setS_drop X (y :: r) (by simp) (h.2 _ hm)
      have he : atR (x :: y :: r) t = atR (y :: r) k := by rw [atR, hk]
      rw [he, hd, hk]
      simp only [Option.getD_some] at ih ⊢
      rw [ih]
      cases hr : (atR (y :: r) k).isSome with
      | true => simp [dropAt, setKid, ht, hk]
      | false => simp
    | false =>
      have he : atR (x :: y :: r) t = none := by rw [atR, kid_not ht]
      rw [he]
      cases isDir t <;> simp

theorem place_iff {s : ByteArray} : ∀ {l : List (ByteArray × Tree)}, Rises l → ∀ (i : Nat) (y : ByteArray × Tree), l[i]? = some y → (Op.bytesLess y.1.toList s.toList = true ↔ i < placeOf l s)
  | [], _, i, y, h => by simp at h
  | a :: r, hr, i, y, h => by
    cases ha : Op.bytesLess a.1.toList s.toList with
    | false =>
      have hall : ∀ (k : Nat) (z : ByteArray × Tree), (a :: r)[k]? = some z → Op.bytesLess z.1.toList s.toList = false := fun k z hz => by
        cases k with
        | zero =>
          simp only [List.getElem?_cons_zero, Option.some.injEq] at hz
          subst hz
          exact ha
        | succ k =>
          cases hc : Op.bytesLess z.1.toList s.toList with
          | false => rfl
          | true =>
            have := less_trans (hr 0 (k + 1) a z (by omega) rfl hz) hc
            rw [ha] at this
            cases this
      have h0 : placeOf (a :: r) s = 0 := by
        unfold placeOf
        rw [List.countP_eq_zero]
        intro z hz
        obtain ⟨k, hk, rfl⟩ := List.getElem_of_mem hz
        rw [hall k _ (List.getElem?_eq_getElem hk)]
        decide
      rw [h0, hall i y h]
      simp
    | true =>
      have h1 : placeOf (a :: r) s = placeOf r s + 1 := List.countP_cons_of_pos (p := fun x : ByteArray × Tree => Op.bytesLess x.1.toList s.toList) ha
      rw [h1]
      cases i with
      | zero =>
        simp only [List.getElem?_cons_zero, Option.some.injEq] at h
        subst h
        simp [ha]
      | succ i =>
        have ih := place_iff (s := s) (l := r) (fun i j x y hij hx hy => hr (i + 1) (j + 1) x y (by omega) hx hy) i y h
        rw [ih]
        omega
theorem Lies.toQ {w : World} {B : Nat} {Q : Nat → Prop} (hq : ∀ b, b < B → Q b) : ∀ {d : Nat} {l : List (ByteArray × Tree)} {v : Value}, Lies w B d l v → LiesQ w Q d l v
  | 0, _, _, h => h
  | d + 1, l, v, ⟨ad, cap, e, hlen, hk⟩ => ⟨ad, cap, e, hlen, fun i x hx => by
    obtain ⟨b, off, u, e, h1, h2, h3, h4, h5, h6, h7, h8⟩ := hk i x hx
    exact ⟨b, off, u, e, hq b h1, h2, h3, h4, h5, h6, h7, Lies.toQ hq h8⟩⟩
theorem LiesQ.up {w : World} {Q : Nat → Prop} : ∀ {d e : Nat} {l : List (ByteArray × Tree)} {v : Value}, d ≤ e → LiesQ w Q d l v → LiesQ w Q e l v
  | 0, _, _, _, _, h => h.elim
  | _ + 1, 0, _, _, h, _ => by omega
  | d + 1, e + 1, l, v, hd, ⟨ad, cap, e1, hlen, hk⟩ => ⟨ad, cap, e1, hlen, fun i x hx => by
    obtain ⟨b, off, u, e2, h1, h2, h3, h4, h5, h6, h7, h8⟩ := hk i x hx
    exact ⟨b, off, u, e2, h1, h2, h3, h4, h5, h6, h7, LiesQ.up (by omega) h8⟩⟩
/-- Kids in a row of their own, each lying in blocks that are not the row's. -/
structure RowQ (w : World) (B lo : Nat) (d : Nat) (K : List (ByteArray × Tree)) (v : Value) : Prop where
  row : ∃ us : List Value, us.length = K.length ∧ w.ownsRow lo 65 5 v K.length (kidCells K us) ∧ ∀ (i : Nat) (x : ByteArray × Tree) (u : Value), K[i]? = some x → us[i]? = some u → LiesQ w (fun b => b < B ∨ (lo ≤ b ∧ b < w.heap.size ∧ v.ownBlock ≠ some b)) d x.2.kids u
theorem RowQ.nil (w : World) (B lo d : Nat) : RowQ w B lo d [] (.slice none 0 0) := ⟨[], rfl, World.ownsRow_nil _ _ _ _, fun i x u h => by simp at h⟩
theorem RowQ.below {w w' : World} {B lo d : Nat} {K : List (ByteArray × Tree)} {v : Value} (h : RowQ w B lo d K v) (hlo : B ≤ lo) (hw : lo ≤ w.heap.size) (hb : Below w.heap.size w w') : RowQ w' B lo d K v := by
  obtain ⟨us, h1, h2, h3⟩ := h.row
  refine ⟨us, h1, ownsRow_ext' h2 fun k hk => hb.block k (h2.lt k hk).2, fun i x u hx hu => (h3 i x u hx hu).kept (fun k hk => hb.block k ?_) fun k hk => ?_⟩
  · rcases hk with hk | hk
    · omega
    · exact hk.2.1
  · rcases hk with hk | hk
    · exact .inl hk
    · exact .inr ⟨hk.1, by have := hb.size; omega, hk.2.2⟩
/-- One kid more, by an append. -/
theorem rowQ_more {w wa w5 : World} {B lo d g cap H : Nat} {K : List (ByteArray × Tree)} {v u : Value} {x : ByteArray × Tree} (hlo : B ≤ lo) (hw : lo ≤ w.heap.size) (hba : Below w.heap.size w wa)
    (hx : LiesQ w (fun b => b < B ∨ (lo ≤ b ∧ b < w.heap.size ∧ v.ownBlock ≠ some b)) d x.2.kids u) (us : List Value) (hus : us.length = K.length) (hrow : w.ownsRow lo 65 5 v K.length (kidCells K us))
    (hk : ∀ (i : Nat) (x : ByteArray × Tree) (u : Value), K[i]? = some x → us[i]? = some u → LiesQ w (fun b => b < B ∨ (lo ≤ b ∧ b < w.heap.size ∧ v.ownBlock ≠ some b)) d x.2.kids u)
    (hown : w5.ownsRow lo 65 5 (.slice (some ⟨g, 0, none⟩) (K.length + 1) cap) (K.length + 1) (kidCells K us ++ [.string x.1, .string x.2.kind, .string x.2.data, .bool x.2.exec, u]))
    (hgrow : wa.grownBy w5 v.ownBlock) (hat : v.ownBlock = some g ∨ g = H) (hH : w.heap.size ≤ H) : RowQ w5 B lo d (K ++ [x]) (.slice (some ⟨g, 0, none⟩) (K.length + 1) cap) := by
  have hlt := fun k hk => hrow.lt k hk
  have h5 : ∀ k, k < w.heap.size → v.ownBlock ≠ some k → w5.heap[k]? = w.heap[k]? := fun k hk hne => by
    rw [hgrow.block k (Nat.lt_of_lt_of_le hk hba.size) (fun e => hne e.symm), hba.block k hk]
  have hs5 : w.heap.size ≤ w5.heap.size := Nat.le_trans hba.size hgrow.size
  have hQ : ∀ b, (b < B ∨ (lo ≤ b ∧ b < w.heap.size ∧ v.ownBlock ≠ some b)) → b < w.heap.size ∧ v.ownBlock ≠ some b := fun b hb => by
    rcases hb with hb | hb
    · exact ⟨by omega, fun e => by have := (hlt b e).1; omega⟩
    · exact hb.2
  have hQ2 : ∀ b, (b < B ∨ (lo ≤ b ∧ b < w.heap.size ∧ v.ownBlock ≠ some b)) → (b < B ∨ (lo ≤ b ∧ b < w5.heap.size ∧ (Value.slice (some ⟨g, 0, none⟩) (K.length + 1) cap).ownBlock ≠ some b)) := fun b hb => by
    rcases hb with hb | hb
    · exact .inl hb
    · refine .inr ⟨hb.1, by omega, ?_⟩
      simp only [Value.ownBlock, ne_eq, Option.some.injEq]
      intro e
      rcases hat with h | h
      · exact hb.2.2 (by rw [h, e])
      · omega
  refine ⟨us ++ [u], by simp [hus], ?_, fun i y z hy hz => ?_⟩
  · rw [kidCells_snoc _ _ _ _ hus.symm, List.length_append]
    exact hown
  · by_cases hi : i < K.length
    · rw [List.getElem?_append_left hi] at hy
      rw [List.getElem?_append_left (by omega)] at hz
      exact (hk i y z hy hz).kept (fun k hk => h5 k (hQ k hk).1 (hQ k hk).2) hQ2
    · have hi0 : i = K.length := by
        have := (List.getElem?_eq_some_iff.1 hy).1
        rw [List.length_append, List.length_singleton] at this
        omega
      subst hi0
      rw [List.getElem?_append_right (Nat.le_refl _), Nat.sub_self] at hy
      rw [List.getElem?_append_right (by omega), hus, Nat.sub_self] at hz
      simp only [List.getElem?_cons_zero, Option.some.injEq] at hy hz
      subst hy; subst hz
      exact hx.kept (fun k hk => h5 k (hQ k hk).1 (hQ k hk).2) hQ2
/-- All kids stand in the row: a list of kids that lies. -/
theorem RowQ.lies {w : World} {B lo d : Nat} {K : List (ByteArray × Tree)} {v : Value} (h : RowQ w B lo d K v) (hlen : K.length ≤ 1759218604390) (hs : ∀ x ∈ K, x.1.size ≤ 140737488355328) : LiesQ w (fun b => b < B ∨ (lo ≤ b ∧ b < w.heap.size)) (d + 1) K v := by
  obtain ⟨us, h1, h2, h3⟩ := h.row
  exact LiesQ.made h2 hlen h1 (fun g hg => .inr ⟨(h2.lt g hg).1, (h2.lt g hg).2⟩) hs fun i x u hx hu => (h3 i x u hx hu).kept (fun _ _ => rfl) fun k hk => by
    rcases hk with hk | hk
    · exact .inl hk
    · exact .inr ⟨hk.1, hk.2.1⟩
end Go.Proofs.YtpjjpmikhjlgnaaGreatDoor
