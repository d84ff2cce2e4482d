/-
  The contract of the statements' own pathed: a closed fact of a path that is got.
  The contract of the document's SameTexts.
  The document's way to a tree with a node put or taken out, as a function, and that it is setAt or dropAt on a well tree; the state of its loop.
  The contracts of the document's answer for a whole tree: stillroomref1's TreeError.
  Conditions: those that each states.
-/
import Derived.Test.YtpjjpmikhjlgnaaGreatDoorM12
import Derived.Test.YtpjjpmikhjlgnaaGreatDoorM09
import Derived.Test.YtpjjpmikhjlgnaaGreatDoorM03
import Derived.Deep.DrawnRows
import Derived.Deep.QuietTactic
import Derived.BigQuiet
import Derived.Test.YtpjjpmikhjlgnaaGreatDoorM16
import Derived.Test.YtpjjpmikhjlgnaaGreatDoorM15
import Derived.Test.YtpjjpmikhjlgnaaGreatDoorM05
import Derived.Test.YtpjjpmikhjlgnaaGreatDoorM07
namespace Go.Proofs.YtpjjpmikhjlgnaaGreatDoor
open Go.RowKit
attribute [local go_sem ↓] Go.wp_at_zero Go.wp_at_succ

theorem pDir_lies (w : World) (b B : Nat) (hb : b < B) (hr : w.heap[b]? = some (.cells #[.string { data := #[97] }, .string { data := #[102, 105, 108, 101] }, .string { data := #[120, 121] }, .bool false, .slice none 0 0] 65 (0, 0))) : Lies w B 2 aDir.kids (.slice (some ⟨b, 0, none⟩) 1 1) := by
  refine ⟨_, _, rfl, by decide, fun i x hx => ?_⟩
  have hi : i = 0 := by
    have := (List.getElem?_eq_some_iff.1 hx).1
    simp [aDir] at this
    omega
  subst hi
  have ex : x = ({ data := #[97] }, aFile) := by simpa [aDir] using hx.symm
  subst ex
  refine ⟨b, 0, .slice none 0 0, rfl, hb, by decide, ?_, ?_, ?_, ?_, ?_, ?_⟩
  · rw [cell_of_row w _ _ _ _ _ hr]; rfl
  · rw [cell_of_row w _ _ _ _ _ hr]; rfl
  · rw [cell_of_row w _ _ _ _ _ hr]; rfl
  · rw [cell_of_row w _ _ _ _ _ hr]; rfl
  · rw [cell_of_row w _ _ _ _ _ hr]; rfl
  · exact ⟨none, 0, rfl, by decide, fun i x hx => by simp [aFile] at hx⟩
theorem pDir_well : treeErr 2 aDir = none := by kernel_rfl
theorem pDir_ok : OkItems (pre 2 ByteArray.empty 0 aDir) := fun x hx => by
  have e : pre 2 ByteArray.empty 0 aDir = [(ByteArray.empty, 0, aDir), (ByteArray.empty ++ slash ++ { data := #[97] }, 1, aFile)] := rfl
  rw [e] at hx
  simp only [List.mem_cons, List.not_mem_nil, or_false] at hx
  rcases hx with rfl | rfl
  · exact ⟨by decide, by decide, by decide⟩
  · exact ⟨by decide, by decide, by decide⟩
theorem pDir_get : getR 2 aDir { data := #[47, 97] } = .ok aFile := by
  refine getR_some (l := [{ data := #[97] }]) pDir_well ?_ ?_
  · kernel_rfl
  · kernel_rfl

set_option maxRecDepth 100000 in
set_option maxHeartbeats 2000000 in
theorem pathed_any (a : Nat → Addr) (w : World) (S : PSen a w) : Calls Tryz.prog 5 #[] w fun e w' => e = .returned (.bool true) ∧ Below w.heap.size w w' := by
  obtain ⟨W1, hW1⟩ : ∃ W1, W1 = (w.alloc (.cells #[.string { data := #[97] }, .string { data := #[102, 105, 108, 101] }, .string { data := #[120, 121] }, .bool false, .slice none 0 0] 65)).alloc (.cells #[.string { data := #[100, 105, 114] }, .string { data := #[] }, .bool false, .slice (some ⟨w.heap.size, 0, none⟩) 1 1] 24) := ⟨_, rfl⟩
  have hW : Below w.heap.size w W1 := by rw [hW1]; exact ((Below.refl _ _).alloc (Nat.le_refl _) _).alloc (by simp) _
  have hz : W1.heap.size = w.heap.size + 2 := by rw [hW1]; simp
  have hr : W1.heap[w.heap.size]? = some (.cells #[.string { data := #[97] }, .string { data := #[102, 105, 108, 101] }, .string { data := #[120, 121] }, .bool false, .slice none 0 0] 65 (0, 0)) := by
    rw [hW1, Below.heap_alloc _ _ _ (by simp)]; exact row_alloc' _ _ _
  have HG : Hid (Calls Tryz.prog 12 #[.agg #[.string { data := #[100, 105, 114] }, .string { data := #[] }, .bool false, .slice (some ⟨w.heap.size, 0, none⟩) 1 1], .string { data := #[47, 97] }] W1 (GetPost a 2 aDir { data := #[47, 97] } W1)) :=
    get_any a 2 W1.heap.size aDir (.slice (some ⟨w.heap.size, 0, none⟩) 1 1) { data := #[47, 97] } W1 (S.below hW) (Nat.le_refl _) (pDir_lies W1 w.heap.size _ (by omega) hr) (alive_ck _ 0 (by omega) pDir_ok) (by decide)
  have HW : Hid _ := hW
  rw [hW1] at HG
  clear hW hz hr S
  go_enter Tryz.func5, Tryz.ntmps5
  go_wp2_with fail
  refine Calls.mono HG.out ?_
  rw [← hW1]
  clear HG
  rintro e w2 ⟨hb2, ⟨er, h, _⟩ | ⟨k, u, d', h, _, rfl, hl⟩⟩
  · rw [pDir_get] at h; cases h
  · rw [pDir_get] at h
    injection h with h
    subst h
    obtain ⟨ra, rc, rfl⟩ := hl.form
    have HB : Hid (∀ o, Below w.heap.size w (w2.alloc o)) := fun o => (HW.out.trans (hb2.mono HW.out.size)).alloc (by have := HW.out.size; have := hb2.size; omega) o
    have kd : aFile.kind = { data := #[102, 105, 108, 101] } := rfl
    have kt : aFile.data = { data := #[120, 121] } := rfl
    have kx : aFile.exec = false := rfl
    rw [kd, kt, kx]
    clear hl hb2 kd kt kx
    go_wp2_with fail
    go_ret
    exact ⟨rfl, HB.out _⟩
end Go.Proofs.YtpjjpmikhjlgnaaGreatDoor
namespace Go.Proofs.YtpjjpmikhjlgnaaGreatDoor
open Go.RowKit
attribute [local go_sem ↓] Go.wp_at_zero Go.wp_at_succ

/-! ### Lists of texts -/
theorem eqTo_succ {a b : List ByteArray} {k : Nat} {x y : ByteArray} (hx : a[k]? = some x) (hy : b[k]? = some y) : eqTo a b (k + 1) = (eqTo a b k && (x.toList == y.toList)) := by
  unfold eqTo
  rw [List.range_succ, List.all_append]
  simp [hx, hy]
theorem eqTo_mono {a b : List ByteArray} {k n : Nat} (h : k ≤ n) (hf : eqTo a b k = false) : eqTo a b n = false := by
  unfold eqTo at *
  rw [List.all_eq_false] at *
  obtain ⟨j, hj, hp⟩ := hf
  exact ⟨j, List.mem_range.2 (by have := List.mem_range.1 hj; omega), hp⟩

set_option maxHeartbeats 1000000 in
theorem sameTexts_any (va vb : Value) (a b : List ByteArray) (w : World) (ha : Texts w va a) (hb : Texts w vb b) (hla : a.length ≤ 1000000000) :
    Calls Tryz.prog 11 #[va, vb] w fun e w' => e = .returned (.bool (textsEq a b)) ∧ Below w.heap.size w w' := by
  obtain ⟨ada, ca, rfl, ha⟩ := ha
  obtain ⟨adb, cb, rfl, hb⟩ := hb
  have HA : Hid _ := ha
  have HB : Hid _ := hb
  clear ha hb
  by_cases hl : a.length = b.length
  · have hl' : ((a.length : Int) != (b.length : Int)) = false := by simp; omega
    have HE : Hid (textsEq a b = eqTo a b a.length) := show _ = _ by unfold textsEq; rw [decide_eq_true hl]; rfl
    have HLL : Hid _ := hl
    clear hl
    go_enter Tryz.func11, Tryz.ntmps11
    go_wp2_with fail
    clear hl'
    go_loopw [5] (fun i wr => ∃ k m : Nat, k ≤ a.length ∧ i = .int .i64 k ∧ wr = w.drewN m ∧ eqTo a b k = true) (fun i _ => a.length - (intOf i).toNat)
    case atStart => exact ⟨0, 0, Nat.zero_le _, rfl, rfl, rfl⟩
    case round =>
      obtain ⟨k, m, hk, rfl, rfl, hq⟩ := hrel
      have HQ : Hid _ := hq
      clear hq
      by_cases hlt : k < a.length
      · obtain ⟨x, hx⟩ : ∃ x, a[k]? = some x := ⟨a[k], List.getElem?_eq_getElem hlt⟩
        have hltb : k < b.length := by have := HLL.out; omega
        obtain ⟨y, hy⟩ : ∃ y, b[k]? = some y := ⟨b[k], List.getElem?_eq_getElem hltb⟩
        obtain ⟨b1, o1, rfl, c1⟩ := HA.out k x hx
        obtain ⟨b2, o2, rfl, c2⟩ := HB.out k y hy
        have HS : Hid _ := eqTo_succ hx hy
        clear hx hy
        cases hxy : (x.toList == y.toList)
        · have HF : Hid (eqTo a b a.length = false) := eqTo_mono (k := k + 1) (by omega) (by rw [HS.out, hxy]; simp)
          go_wp2_with fail
          go_quiet (fail)
          go_wp2_with fail
          go_ret
          exact ⟨ret_bool (by rw [HE.out, HF.out]), below_drewN (below_drewN (Below.refl _ _) _) _⟩
        · have HT : Hid (eqTo a b (k + 1) = true) := show _ = _ by rw [HS.out, HQ.out, hxy]; rfl
          go_wp2_with fail
          go_quiet (fail)
          go_wp2_with fail
          go_roundw
          case rel => exact ⟨k + 1, _, by omega, by go_num, rfl, HT.out⟩
          case measure => simp [intOf]; omega
      · have HT : Hid (eqTo a b a.length = true) := by
          have e : a.length = k := by omega
          rw [e]; exact HQ.out
        go_wp2_with fail
        go_ret
        exact ⟨ret_bool (by rw [HE.out, HT.out]), below_drewN (Below.refl _ _) _⟩
  · have hl' : ((a.length : Int) != (b.length : Int)) = true := by simp; omega
    have HE : Hid (textsEq a b = false) := show _ = _ by unfold textsEq; rw [decide_eq_false hl]; rfl
    clear hl
    go_enter Tryz.func11, Tryz.ntmps11
    go_wp2_with fail
    go_ret
    exact ⟨ret_bool (by rw [HE.out]), Below.refl _ _⟩
end Go.Proofs.YtpjjpmikhjlgnaaGreatDoor
namespace Go.Proofs.YtpjjpmikhjlgnaaGreatDoor
open Go.RowKit

/-- What setOf tells: none, or the tree. -/
def setS (X : Tree) (dr : Bool) : List ByteArray → Tree → Option Tree
  | [], _ => some X
  | x :: r, t => if isDir t = false then none else
      if thereAt t.kids x = true then
        if (decide (r = []) && dr) = true then some { t with kids := t.kids.eraseIdx (placeOf t.kids x) }
        else match setS X dr r ((kidOf t x).getD zeroT) with
          | none => none
          | some y => some { t with kids := t.kids.set (placeOf t.kids x) (x, y) }
      else if (decide (r = []) && !dr) = true then some { t with kids := t.kids.take (placeOf t.kids x) ++ (x, X) :: t.kids.drop (placeOf t.kids x) } else none
/-- Only dirs have kids, all the way down. -/
def DirsD : Nat → Tree → Prop
  | 0, _ => False
  | d + 1, t => (t.kids ≠ [] → isDir t = true) ∧ ∀ x ∈ t.kids, DirsD d x.2
theorem dir_well {t : Tree} (h : nodeErr t = none) (hne : t.kids ≠ []) : isDir t = true := by
  have hp : 0 < t.kids.length := by
    cases hk : t.kids with
    | nil => exact absurd hk hne
    | cons a b => simp
  unfold nodeErr at h
  split at h
  · unfold fileErr at h
    rw [if_pos hp] at h
    cases h
  · split at h
    · rename_i h2
      exact h2
    · split at h
      · unfold linkErr at h
        rw [if_pos (.inr hp)] at h
        cases h
      · cases h
theorem dirs_tree : ∀ {d : Nat} {p : ByteArray} {k : Nat} {t : Tree}, Fit d t → (∀ x ∈ pre d p k t, nodeErr x.2.2 = none) → DirsD d t
  | 0, _, _, _, h, _ => h
  | d + 1, p, k, t, h, ho => by
    simp only [pre] at ho
    exact ⟨dir_well (ho (p, k, t) List.mem_cons_self), fun y hy => dirs_tree (p := p ++ slash ++ y.1) (k := k + 1) (h y hy) fun x hx => ho x (List.mem_cons_of_mem _ (List.mem_flatMap.2 ⟨y, hy, hx⟩))⟩
theorem dirs_well {d : Nat} {t : Tree} (hf : Fit d t) (h : treeErr d t = none) : DirsD d t := dirs_tree (p := ByteArray.empty) (k := 0) hf fun x hx => ((treeErr_none.1 h).2 x hx).2
theorem kid_there {t : Tree} {x : ByteArray} (h : thereAt t.kids x = true) : ∃ k, kidOf t x = some k ∧ t.kids[placeOf t.kids x]? = some (x, k) := by
  obtain ⟨⟨y, k⟩, hy, e⟩ := there_some h
  simp only at e
  subst e
  refine ⟨k, ?_, hy⟩
  unfold kidOf
  rw [if_pos h, hy]
  rfl
theorem kid_not {t : Tree} {x : ByteArray} (h : thereAt t.kids x = false) : kidOf t x = none := by
  unfold kidOf
  rw [if_neg (by simp [h])]
theorem room_cons {x y : ByteArray} {r : List ByteArray} {t k : Tree} (h : kidOf t x = some k) : roomB (x :: y :: r) t = roomB (y :: r) k := by
  unfold roomB
  rw [List.dropLast_cons_cons]
  simp only [List.isEmpty_cons, Bool.false_or, atR, h]
theorem room_not {x y : ByteArray} {r : List ByteArray} {t : Tree} (h : kidOf t x = none) : roomB (x :: y :: r) t = false := by
  unfold roomB
  rw [List.dropLast_cons_cons]
  simp only [List.isEmpty_cons, Bool.false_or, atR, h]
theorem room_one {x : ByteArray} {t : Tree} : roomB [x] t = isDir t := rfl
theorem setS_put (X : Tree) : ∀ (l : List ByteArray) {d : Nat} {t : Tree}, DirsD d t → setS X false l t = if roomB l t = true then some (setAt X l t) else none
  | [], _, t, _ => rfl
  | [x], 0, t, h => h.elim
  | [x], d + 1, t, h => by
    rw [room_one]
    unfold setS
    cases hd : isDir t with
    | false => rfl
    | true =>
      simp only [if_neg (by simp : ¬ true = false), if_true]
      cases ht : thereAt t.kids x with
      | true => simp [setS, setAt, setKid, ht]
      | false => simp [setAt, setKid, ht]
  | x :: y :: r, 0, t, h => h.elim
  | x :: y :: r, d + 1, t, h => by
    unfold setS
    cases ht : thereAt t.kids x with
    | true =>
      obtain ⟨k, hk, hp⟩ := kid_there ht
      have hm := List.mem_of_getElem? hp
      have hd := h.1 (List.ne_nil_of_mem hm)
      have ih := setS_put X (y :: r) (h.2 _ hm)
      rw [room_cons hk, hd, hk]
      simp only [Option.getD_some] at ih ⊢
      rw [ih]
      cases hr : roomB (y :: r) k with
      | true => simp [setAt, setKid, ht, hk]
      | false => simp
    | false =>
      rw [room_not (kid_not ht)]
      cases isDir t <;> simp
theorem setS_drop (X : Tree) : ∀ (l : List ByteArray) {d : Nat} {t : Tree}, l ≠ [] → DirsD d t → setS X true l t = if (atR l t).isSome = true then some (dropAt l t) else none
  | [], _, t, h, _ => absurd rfl h
  | [x], 0, t, _, h => h.elim
  | [x], d + 1, t, _, h => by
    unfold setS
    cases ht : thereAt t.kids x with
    | true =>
      obtain ⟨k, hk, hp⟩ := kid_there ht
      have hd := h.1 (List.ne_nil_of_mem (List.mem_of_getElem? hp))
      simp [hd, atR, hk, dropAt]
    | false =>
      cases hd : isDir t <;> simp [atR, kid_not ht]
  | x :: y :: r, 0, t, _, h => h.elim
  | x :: y :: r, d + 1, t, _, h => by
    unfold setS
    cases ht : thereAt t.kids x with
    | true =>
      obtain ⟨k, hk, hp⟩ := kid_there ht
      have hm := List.mem_of_getElem? hp
      have hd := h.1 (List.ne_nil_of_mem hm)
      have ih := setS_drop X (y :: r) (by simp) (h.2 _ hm)
      have he : atR (x :: y :: r) t = atR (y :: r) k := by rw [atR, hk]
      rw [he, hd, hk]
      simp only [Option.getD_some] at ih ⊢
      rw [ih]
      cases hr : (atR (y :: r) k).isSome with
      | true => simp [dropAt, setKid, ht, hk]
      | false => simp
    | false =>
      have he : atR (x :: y :: r) t = none := by rw [atR, kid_not ht]
      rw [he]
      cases isDir t <;> simp

theorem place_iff {s : ByteArray} : ∀ {l : List (ByteArray × Tree)}, Rises l → ∀ (i : Nat) (y : ByteArray × Tree), l[i]? = some y → (Op.bytesLess y.1.toList s.toList = true ↔ i < placeOf l s)
  | [], _, i, y, h => by simp at h
  | a :: r, hr, i, y, h => by
    cases ha : Op.bytesLess a.1.toList s.toList with
    | false =>
      have hall : ∀ (k : Nat) (z : ByteArray × Tree), (a :: r)[k]? = some z → Op.bytesLess z.1.toList s.toList = false := fun k z hz => by
        cases k with
        | zero =>
          simp only [List.getElem?_cons_zero, Option.some.injEq] at hz
          subst hz
          exact ha
        | succ k =>
          cases hc : Op.bytesLess z.1.toList s.toList with
          | false => rfl
          | true =>
            have := less_trans (hr 0 (k + 1) a z (by omega) rfl hz) hc
            rw [ha] at this
            cases this
      have h0 : placeOf (a :: r) s = 0 := by
        unfold placeOf
        rw [List.countP_eq_zero]
        intro z hz
        obtain ⟨k, hk, rfl⟩ := List.getElem_of_mem hz
        rw [hall k _ (List.getElem?_eq_getElem hk)]
        decide
      rw [h0, hall i y h]
      simp
    | true =>
      have h1 : placeOf (a :: r) s = placeOf r s + 1 := List.countP_cons_of_pos (p := fun x : ByteArray × Tree => Op.bytesLess x.1.toList s.toList) ha
      rw [h1]
      cases i with
      | zero =>
        simp only [List.getElem?_cons_zero, Option.some.injEq] at h
        subst h
        simp [ha]
      | succ i =>
        have ih := place_iff (s := s) (l := r) (fun i j x y hij hx hy => hr (i + 1) (j + 1) x y (by omega) hx hy) i y h
        rw [ih]
        omega
theorem Lies.toQ {w : World} {B : Nat} {Q : Nat → Prop} (hq : ∀ b, b < B → Q b) : ∀ {d : Nat} {l : List (ByteArray × Tree)} {v : Value}, Lies w B d l v → LiesQ w Q d l v
  | 0, _, _, h => h
  | d + 1, l, v, ⟨ad, cap, e, hlen, hk⟩ => ⟨ad, cap, e, hlen, fun i x hx => by
    obtain ⟨b, off, u, e, h1, h2, h3, h4, h5, h6, h7, h8⟩ := hk i x hx
    exact ⟨b, off, u, e, hq b h1, h2, h3, h4, h5, h6, h7, Lies.toQ hq h8⟩⟩
theorem LiesQ.up {w : World} {Q : Nat → Prop} : ∀ {d e : Nat} {l : List (ByteArray × Tree)} {v : Value}, d ≤ e → LiesQ w Q d l v → LiesQ w Q e l v
  | 0, _, _, _, _, h => h.elim
  | _ + 1, 0, _, _, h, _ => by omega
  | d + 1, e + 1, l, v, hd, ⟨ad, cap, e1, hlen, hk⟩ => ⟨ad, cap, e1, hlen, fun i x hx => by
    obtain ⟨b, off, u, e2, h1, h2, h3, h4, h5, h6, h7, h8⟩ := hk i x hx
    exact ⟨b, off, u, e2, h1, h2, h3, h4, h5, h6, h7, LiesQ.up (by omega) h8⟩⟩
/-- Kids in a row of their own, each lying in blocks that are not the row's. -/
structure RowQ (w : World) (B lo : Nat) (d : Nat) (K : List (ByteArray × Tree)) (v : Value) : Prop where
  row : ∃ us : List Value, us.length = K.length ∧ w.ownsRow lo 65 5 v K.length (kidCells K us) ∧ ∀ (i : Nat) (x : ByteArray × Tree) (u : Value), K[i]? = some x → us[i]? = some u → LiesQ w (fun b => b < B ∨ (lo ≤ b ∧ b < w.heap.size ∧ v.ownBlock ≠ some b)) d x.2.kids u
theorem RowQ.nil (w : World) (B lo d : Nat) : RowQ w B lo d [] (.slice none 0 0) := ⟨[], rfl, World.ownsRow_nil _ _ _ _, fun i x u h => by simp at h⟩
theorem RowQ.below {w w' : World} {B lo d : Nat} {K : List (ByteArray × Tree)} {v : Value} (h : RowQ w B lo d K v) (hlo : B ≤ lo) (hw : lo ≤ w.heap.size) (hb : Below w.heap.size w w') : RowQ w' B lo d K v := by
  obtain ⟨us, h1, h2, h3⟩ := h.row
  refine ⟨us, h1, ownsRow_ext' h2 fun k hk => hb.block k (h2.lt k hk).2, fun i x u hx hu => (h3 i x u hx hu).kept (fun k hk => hb.block k ?_) fun k hk => ?_⟩
  · rcases hk with hk | hk
    · omega
    · exact hk.2.1
  · rcases hk with hk | hk
    · exact .inl hk
    · exact .inr ⟨hk.1, by have := hb.size; omega, hk.2.2⟩
/-- One kid more, by an append. -/
theorem rowQ_more {w wa w5 : World} {B lo d g cap H : Nat} {K : List (ByteArray × Tree)} {v u : Value} {x : ByteArray × Tree} (hlo : B ≤ lo) (hw : lo ≤ w.heap.size) (hba : Below w.heap.size w wa)
    (hx : LiesQ w (fun b => b < B ∨ (lo ≤ b ∧ b < w.heap.size ∧ v.ownBlock ≠ some b)) d x.2.kids u) (us : List Value) (hus : us.length = K.length) (hrow : w.ownsRow lo 65 5 v K.length (kidCells K us))
    (hk : ∀ (i : Nat) (x : ByteArray × Tree) (u : Value), K[i]? = some x → us[i]? = some u → LiesQ w (fun b => b < B ∨ (lo ≤ b ∧ b < w.heap.size ∧ v.ownBlock ≠ some b)) d x.2.kids u)
    (hown : w5.ownsRow lo 65 5 (.slice (some ⟨g, 0, none⟩) (K.length + 1) cap) (K.length + 1) (kidCells K us ++ [.string x.1, .string x.2.kind, .string x.2.data, .bool x.2.exec, u]))
    (hgrow : wa.grownBy w5 v.ownBlock) (hat : v.ownBlock = some g ∨ g = H) (hH : w.heap.size ≤ H) : RowQ w5 B lo d (K ++ [x]) (.slice (some ⟨g, 0, none⟩) (K.length + 1) cap) := by
  have hlt := fun k hk => hrow.lt k hk
  have h5 : ∀ k, k < w.heap.size → v.ownBlock ≠ some k → w5.heap[k]? = w.heap[k]? := fun k hk hne => by
    rw [hgrow.block k (Nat.lt_of_lt_of_le hk hba.size) (fun e => hne e.symm), hba.block k hk]
  have hs5 : w.heap.size ≤ w5.heap.size := Nat.le_trans hba.size hgrow.size
  have hQ : ∀ b, (b < B ∨ (lo ≤ b ∧ b < w.heap.size ∧ v.ownBlock ≠ some b)) → b < w.heap.size ∧ v.ownBlock ≠ some b := fun b hb => by
    rcases hb with hb | hb
    · exact ⟨by omega, fun e => by have := (hlt b e).1; omega⟩
    · exact hb.2
  have hQ2 : ∀ b, (b < B ∨ (lo ≤ b ∧ b < w.heap.size ∧ v.ownBlock ≠ some b)) → (b < B ∨ (lo ≤ b ∧ b < w5.heap.size ∧ (Value.slice (some ⟨g, 0, none⟩) (K.length + 1) cap).ownBlock ≠ some b)) := fun b hb => by
    rcases hb with hb | hb
    · exact .inl hb
    · refine .inr ⟨hb.1, by omega, ?_⟩
      simp only [Value.ownBlock, ne_eq, Option.some.injEq]
      intro e
      rcases hat with h | h
      · exact hb.2.2 (by rw [h, e])
      · omega
  refine ⟨us ++ [u], by simp [hus], ?_, fun i y z hy hz => ?_⟩
  · rw [kidCells_snoc _ _ _ _ hus.symm, List.length_append]
    exact hown
  · by_cases hi : i < K.length
    · rw [List.getElem?_append_left hi] at hy
      rw [List.getElem?_append_left (by omega)] at hz
      exact (hk i y z hy hz).kept (fun k hk => h5 k (hQ k hk).1 (hQ k hk).2) hQ2
    · have hi0 : i = K.length := by
        have := (List.getElem?_eq_some_iff.1 hy).1
        rw [List.length_append, List.length_singleton] at this
        omega
      subst hi0
      rw [List.getElem?_append_right (Nat.le_refl _), Nat.sub_self] at hy
      rw [List.getElem?_append_right (by omega), hus, Nat.sub_self] at hz
      simp only [List.getElem?_cons_zero, Option.some.injEq] at hy hz
      subst hy; subst hz
      exact hx.kept (fun k hk => h5 k (hQ k hk).1 (hQ k hk).2) hQ2
/-- All kids stand in the row: a list of kids that lies. -/
theorem RowQ.lies {w : World} {B lo d : Nat} {K : List (ByteArray × Tree)} {v : Value} (h : RowQ w B lo d K v) (hlen : K.length ≤ 1759218604390) (hs : ∀ x ∈ K, x.1.size ≤ 140737488355328) : LiesQ w (fun b => b < B ∨ (lo ≤ b ∧ b < w.heap.size)) (d + 1) K v := by
  obtain ⟨us, h1, h2, h3⟩ := h.row
  exact LiesQ.made h2 hlen h1 (fun g hg => .inr ⟨(h2.lt g hg).1, (h2.lt g hg).2⟩) hs fun i x u hx hu => (h3 i x u hx hu).kept (fun _ _ => rfl) fun k hk => by
    rcases hk with hk | hk
    · exact .inl hk
    · exact .inr ⟨hk.1, hk.2.1⟩
end Go.Proofs.YtpjjpmikhjlgnaaGreatDoor
namespace Go.Proofs.YtpjjpmikhjlgnaaGreatDoor
open Go.RowKit
attribute [local go_sem ↓] Go.wp_at_zero Go.wp_at_succ

theorem ck_state : ∀ (l : List (ByteArray × Nat × Tree)) (n : Nat), (runs ck n l).2 = none → runs ck n l = (n + l.length, none)
  | [], n, _ => rfl
  | x :: l, n, h => by
    have e : ck n x = (n + 1, (ck n x).2) := rfl
    simp only [runs] at h ⊢
    rw [e] at h ⊢
    cases he : (ck n x).2 with
    | some er => rw [he] at h; simp at h
    | none =>
      rw [he] at h
      simp only at h ⊢
      rw [ck_state l (n + 1) h, List.length_cons]
      congr 1
      omega
theorem ck_step {l : List (ByteArray × Nat × Tree)} {j : Nat} {x : ByteArray × Nat × Tree} (h : errOf (l.take j) = none) (hx : l[j]? = some x) : errOf (l.take (j + 1)) = (ck j x).2 := by
  have hj : j < l.length := (List.getElem?_eq_some_iff.1 hx).1
  have he : l[j] = x := (List.getElem?_eq_some_iff.1 hx).2
  have hs := ck_state _ 0 h
  rw [List.length_take, Nat.min_eq_left (by omega), Nat.zero_add] at hs
  unfold errOf at *
  rw [List.take_succ_eq_append_getElem hj, he, runs_append _ _ _ h, hs]
  simp only [runs]
  have e : ck j x = (j + 1, (ck j x).2) := rfl
  rw [e]
  cases (ck j x).2 <;> rfl
theorem ck_hit {l : List (ByteArray × Nat × Tree)} {j e : Nat} (h : errOf (l.take j) = some e) : errOf l = some e := by
  have := errOf_more h (l.drop j)
  rw [List.take_append_drop] at this
  exact this
theorem list_len {most deep : Nat} {t : Tree} : 1 ≤ (listOf most deep t).length := by
  have := listTo_monos (most := most) (deep := deep) (l := [(ByteArray.empty, 0, t)]) 0 (most + 1) (by omega)
  simpa [listOf, listTo] using this
/-- Data in bounds, all the way down. -/
def DatM (M : Nat) : Nat → Tree → Prop
  | 0, _ => False
  | d + 1, t => t.data.size ≤ M ∧ ∀ x ∈ t.kids, DatM M d x.2
abbrev Dat : Nat → Tree → Prop := DatM 2001
theorem dat_of : ∀ {d : Nat} {p : ByteArray} {k : Nat} {t : Tree}, Fit d t → (∀ x ∈ pre d p k t, x.2.2.data.size ≤ 2001) → Dat d t
  | 0, _, _, _, h, _ => h
  | d + 1, p, k, t, h, ho => by
    simp only [pre] at ho
    refine ⟨ho (p, k, t) List.mem_cons_self, fun y hy => ?_⟩
    exact dat_of (p := p ++ slash ++ y.1) (k := k + 1) (h y hy) fun x hx => ho x (List.mem_cons_of_mem _ (List.mem_flatMap.2 ⟨y, hy, hx⟩))
theorem list_dat {M most deep d : Nat} {t : Tree} (h : DatM M d t) : ∀ i, ∀ x ∈ listTo most deep [(ByteArray.empty, 0, t)] i, ∃ e, DatM M e x.2.2
  | 0, x, hx => by
    simp only [listTo, List.mem_singleton] at hx
    subst hx
    exact ⟨d, h⟩
  | i + 1, x, hx => by
    have ih := list_dat (most := most) (deep := deep) h i
    simp only [listTo, grow] at hx
    split at hx
    · exact ih x hx
    · rename_i z hz
      split at hx
      · exact ih x hx
      · rcases List.mem_append.1 hx with hx | hx
        · rcases List.mem_append.1 hx with hx | hx
          · exact ih x (List.mem_of_mem_take hx)
          · unfold kidsOf at hx
            obtain ⟨y, hy, rfl⟩ := List.mem_map.1 hx
            obtain ⟨e, he⟩ := ih z (List.mem_of_getElem? hz)
            cases e with
            | zero => exact he.elim
            | succ e => exact ⟨e, he.2 y (List.mem_of_mem_take hy)⟩
        · exact ih x (List.mem_of_mem_drop hx)
theorem dat_size {M e : Nat} {t : Tree} (h : DatM M e t) : t.data.size ≤ M := by
  cases e with
  | zero => exact h.elim
  | succ e => exact h.1

set_option maxRecDepth 100000 in
set_option maxHeartbeats 4000000 in
theorem treeError_any {M : Nat} (B d d' : Nat) (t : Tree) (u : Value) (w : World) (hB : B ≤ w.heap.size) (hl : Lies w B d t.kids u) (hdat : DatM M d' t) (hM : M ≤ 1000000 := by decide) :
    Calls Tryz.prog 40 #[.agg #[.string t.kind, .string t.data, .bool t.exec, u]] w fun e w' => e = .returned (.int .i64 (num (errOf (listOf 200 8 t)))) ∧ Below w.heap.size w w' := by
  obtain ⟨ta, tc, rfl⟩ := hl.form
  have hW : ∀ o, Below w.heap.size w (w.alloc o) := fun o => (Below.refl _ _).alloc (Nat.le_refl _) o
  have hcall := fun o => listOf_any B d 200 8 t (.slice ta t.kids.length tc) (w.alloc o) (by simp; omega) (hl.below (hW o) hB) (by omega) (by omega)
  have HCALL : Hid (∀ o, Calls Tryz.prog 30 #[.agg #[.string t.kind, .string t.data, .bool t.exec, .slice ta t.kids.length tc], .int .i64 200, .int .i64 8] (w.alloc o) fun e w' => ∃ L v, e = .returned v ∧ ListAt (w.alloc o) 200 8 B t (200 + 1) L v w') := hcall
  have HW : Hid _ := hW
  obtain ⟨l, hll⟩ : ∃ l, l = listOf 200 8 t := ⟨_, rfl⟩
  have HDAT : Hid (∀ x ∈ l, ∃ e, DatM M e x.2.2) := by
    rw [hll]
    exact list_dat (most := 200) (deep := 8) hdat (200 + 1)
  have HLL : Hid (l.length ≤ 1000000) := by
    have h1 := listTo_len (most := 200) (deep := 8) (l := [(ByteArray.empty, 0, t)]) (200 + 1)
    rw [hll]
    show (listTo 200 8 [(ByteArray.empty, 0, t)] (200 + 1)).length ≤ _
    simp only [List.length_cons, List.length_nil] at h1
    omega
  rw [← hll]
  have HL0 : Hid (l = listOf 200 8 t) := hll
  clear hcall hW hl hdat hll
  go_enter Tryz.func40, Tryz.ntmps40
  go_wp2_with fail
  refine Calls.mono (HCALL.out _) ?_
  rintro e w1 ⟨L, v, rfl, A⟩
  obtain ⟨va, vc, rfl⟩ : ∃ va vc, v = .slice va L.length vc := by
    rcases A.own.2 with ⟨h, h'⟩ | ⟨g, cap, cur, h, _⟩
    · exact ⟨none, 0, by rw [h, h']⟩
    · exact ⟨_, _, h⟩
  have hbw : Below w.heap.size w w1 := (HW.out _).trans (A.below.mono (by simp))
  have HLO : Hid (L.map (·.1) = l) := A.strip.trans HL0.out.symm
  have hLl : L.length ≤ 1000000 := by
    have h2 := congrArg List.length HLO.out
    rw [List.length_map] at h2
    rw [h2]
    exact HLL.out
  clear HL0
  have HA : Hid _ := A
  clear A
  go_wp2_with fail
  go_loopw [4] (fun i wr => ∃ j : Nat, j ≤ L.length ∧ i = .int .i64 j ∧ Below w1.heap.size w1 wr ∧ errOf ((L.map (·.1)).take j) = none) (fun i _ => L.length - (intOf i).toNat)
  case atStart => exact ⟨0, Nat.zero_le _, rfl, Below.refl _ _, by simp [errOf, runs]⟩
  case round =>
    obtain ⟨j, hj, rfl, hb, herr⟩ := hrel
    obtain ⟨wo, rfl⟩ : ∃ wo, wo = wr := ⟨wr, rfl⟩
    have HERR : Hid _ := herr
    clear herr
    have hbwo : Below w.heap.size w wo := hbw.trans (hb.mono hbw.size)
    by_cases hlt : j < L.length
    · obtain ⟨x, hx⟩ : ∃ x, L[j]? = some x := ⟨L[j], List.getElem?_eq_getElem hlt⟩
      obtain ⟨⟨p, k, tx⟩, ux⟩ := x
      have hmem := List.mem_of_getElem? hx
      obtain ⟨dx, hlx⟩ := HA.out.lies _ hmem
      simp only at hlx
      obtain ⟨xa, xc, rfl⟩ := hlx.form
      have hxs : (L.map (·.1))[j]? = some (p, k, tx) := by rw [List.getElem?_map, hx]; rfl
      have hds : tx.data.size ≤ maxLen := by
        obtain ⟨e, he⟩ := HDAT.out (p, k, tx) (by
          have := List.mem_of_getElem? hxs
          rw [HLO.out] at this
          exact this)
        have := dat_size he
        simp only at this
        unfold maxLen
        omega
      obtain ⟨g, cg, hg⟩ : ∃ g cg, Value.slice va L.length vc = .slice (some ⟨g, 0, none⟩) L.length cg := by
        obtain ⟨g, cg, h, _⟩ := HA.out.own.form (by omega)
        exact ⟨g, cg, h⟩
      simp only [Value.slice.injEq] at hg
      obtain ⟨rfl, _, rfl⟩ := hg
      have hcs := HA.out.own.cells (g := g) rfl
      have hgl := (HA.out.own.lt g rfl).2
      have hadd : ∀ o, (⟨g, 0, none⟩ : Addr).add o = ⟨g, o, none⟩ := fun o => by unfold Addr.add; split <;> simp_all
      have hcell : ∀ o v, (itCells L)[o]? = some v → wo.cell? ⟨g, o, none⟩ = some v := fun o v h => by
        rw [hb.cell (p := ⟨g, o, none⟩) hgl]
        have := hcs o v h
        rw [hadd] at this
        exact this
      obtain ⟨y0, y1, y2, y3, y4, y5⟩ := itCells_at hx
      have c0 := hcell _ _ y0
      have c1 := hcell _ _ y1
      have c2 := hcell _ _ y2
      have c3 := hcell _ _ y3
      have c4 := hcell _ _ y4
      have c5 := hcell _ _ y5
      simp only at c0 c1 c2 c3 c4 c5
      have hkb : k ≤ 9 := by
        have := (HA.out.path _ hmem).2
        simp only at this
        omega
      have HST : Hid (errOf ((L.map (·.1)).take (j + 1)) = (ck j (p, k, tx)).2) := ck_step HERR.out hxs
      have HND : Hid (Calls Tryz.prog 63 #[.agg #[.string tx.kind, .string tx.data, .bool tx.exec, .slice xa tx.kids.length xc]] wo fun e w' => e = .returned (.int .i64 (num (nodeErr tx))) ∧ Below wo.heap.size wo w') := by
        cases dx with
        | zero => exact absurd hlx (by simp [Lies])
        | succ dx => exact nodeError_any B dx tx _ wo (by have := hbwo.size; omega) (hlx.below hb (by have := hbw.size; omega)) hds
      clear hcs hadd hcell y0 y1 y2 y3 y4 y5 hx hlx hxs hmem hds
      by_cases h8 : 8 < k
      · have HE : Hid (errOf l = some 8) := show _ = _ by
          rw [← HLO.out]
          refine ck_hit (j := j + 1) ?_
          rw [HST.out]
          unfold ck
          simp only
          rw [if_pos h8]
        go_wp2_with fail
        go_ret
        exact ⟨ret_int (by rw [HE.out]; rfl), hbwo⟩
      · by_cases h7 : 200 ≤ j
        · have HE : Hid (errOf l = some 7) := show _ = _ by
            rw [← HLO.out]
            refine ck_hit (j := j + 1) ?_
            rw [HST.out]
            unfold ck
            simp only
            rw [if_neg h8, if_pos (by omega)]
          go_wp2_with fail
          go_ret
          exact ⟨ret_int (by rw [HE.out]; rfl), hbwo⟩
        · have HC : Hid ((ck j (p, k, tx)).2 = nodeErr tx) := show _ = _ by
            unfold ck
            simp only
            rw [if_neg h8, if_neg (by omega)]
          cases hne : nodeErr tx with
          | some er =>
            have HE : Hid (errOf l = some er) := show _ = _ by
              rw [← HLO.out]
              refine ck_hit (j := j + 1) ?_
              rw [HST.out, HC.out, hne]
            have HNS : Hid (num (nodeErr tx) = (er : Int) + 1) := show _ = _ by rw [hne]; rfl
            clear hne
            go_wp2_with fail
            refine Calls.mono HND.out ?_
            rintro e w2 ⟨rfl, hb2⟩
            rw [HNS.out]
            go_wp2_with fail
            go_ret
            exact ⟨ret_int (by rw [HE.out]; rfl), hbwo.trans (hb2.mono hbwo.size)⟩
          | none =>
            have HN : Hid (errOf ((L.map (·.1)).take (j + 1)) = none) := show _ = _ by rw [HST.out, HC.out, hne]
            have HNS : Hid (num (nodeErr tx) = 0) := show _ = _ by rw [hne]; rfl
            clear hne
            go_wp2_with fail
            refine Calls.mono HND.out ?_
            rintro e w2 ⟨rfl, hb2⟩
            rw [HNS.out]
            go_wp2_with fail
            go_roundw
            case rel => exact ⟨j + 1, by omega, by go_num, hb.trans (hb2.mono hb.size), HN.out⟩
            case measure => simp [intOf]; omega
    · have HE : Hid (errOf l = none) := show _ = _ by
        have := HERR.out
        rw [List.take_of_length_le (by simp; omega)] at this
        rw [← HLO.out]
        exact this
      go_wp2_with fail
      go_ret
      exact ⟨ret_int (by rw [HE.out]; rfl), hbwo⟩
end Go.Proofs.YtpjjpmikhjlgnaaGreatDoor
