/-
  What Diff and Apply tell, in plain mathematics; one change more.
  Conditions: those that each states.
-/
import Derived.Test.YtadienkgamdooaaGreatDoorLeafs
import Derived.Test.YtadienkgamdooaaGreatDoorSen
import Derived.Deep.RegionHeld3
import Derived.Deep.DrawnRows
import Derived.WalkSmall
import Derived.BigQuiet
import Derived.Deep.QuietTactic
import Derived.Test.YtadienkgamdooaaGreatDoorYPut
import Derived.Test.YtadienkgamdooaaGreatDoorDropM
import Derived.Test.YtadienkgamdooaaGreatDoorOCopy
namespace Go.Proofs.YtadienkgamdooaaGreatDoor
open Go.RowKit
attribute [local go_sem ↓] Go.wp_at_zero Go.wp_at_succ

set_option maxHeartbeats 2000000 in
theorem same_any (B : Nat) : ∀ (d : Nat) (s t : Tree) (us ut : Value) (w : World), B ≤ w.heap.size → Lies w B d s.kids us → Lies w B d t.kids ut →
    Calls Tryz.prog 32 #[.agg #[.string s.kind, .string s.data, .bool s.exec, us], .agg #[.string t.kind, .string t.data, .bool t.exec, ut]] w fun e w' => e = .returned (.bool (sameB d s t)) ∧ Below w.heap.size w w' := by
  intro d
  induction d with
  | zero => intro s t us ut w _ hl; exact absurd hl (by simp [Lies])
  | succ d ih =>
    intro s t us ut w hB hl hl'
    have hlo := hl.open
    have hlo' := hl'.open
    obtain ⟨sa, sc, rfl⟩ := hl.form
    obtain ⟨ta, tc, rfl⟩ := hl'.form
    have HW : Hid (∀ o o', Below w.heap.size w ((w.alloc o).alloc o')) := fun o o' => ((Below.refl _ _).alloc (Nat.le_refl _) o).alloc (by simp) o'
    cases hk : (s.kind.toList == t.kind.toList)
    · have hk' : (s.kind.toList != t.kind.toList) = true := by simp only [bne, hk]; rfl
      have HE : Hid (sameB (d + 1) s t = false) := show _ = _ by rw [sameB_succ]; unfold headSame; rw [hk]; simp
      clear hl hl' ih
      go_enter Tryz.func32, Tryz.ntmps32
      go_wp2_with fail
      go_ret
      exact ⟨ret_bool (by rw [HE.out]), HW.out _ _⟩
    cases hd : (s.data.toList == t.data.toList)
    · have hk' : (s.kind.toList != t.kind.toList) = false := by simp only [bne, hk]; rfl
      have hd' : (s.data.toList != t.data.toList) = true := by simp only [bne, hd]; rfl
      have HE : Hid (sameB (d + 1) s t = false) := show _ = _ by rw [sameB_succ]; unfold headSame; rw [hk, hd]; simp
      clear hl hl' ih
      go_enter Tryz.func32, Tryz.ntmps32
      go_wp2_with fail
      go_ret
      exact ⟨ret_bool (by rw [HE.out]), HW.out _ _⟩
    cases hx : (s.exec == t.exec)
    · have hk' : (s.kind.toList != t.kind.toList) = false := by simp only [bne, hk]; rfl
      have hd' : (s.data.toList != t.data.toList) = false := by simp only [bne, hd]; rfl
      have hx' : (s.exec != t.exec) = true := by simp only [bne, hx]; rfl
      have HE : Hid (sameB (d + 1) s t = false) := show _ = _ by rw [sameB_succ]; unfold headSame; rw [hk, hd, hx]; simp
      clear hl hl' ih
      go_enter Tryz.func32, Tryz.ntmps32
      go_wp2_with fail
      go_ret
      exact ⟨ret_bool (by rw [HE.out]), HW.out _ _⟩
    cases hn : (s.kids.length == t.kids.length)
    · have hk' : (s.kind.toList != t.kind.toList) = false := by simp only [bne, hk]; rfl
      have hd' : (s.data.toList != t.data.toList) = false := by simp only [bne, hd]; rfl
      have hx' : (s.exec != t.exec) = false := by simp only [bne, hx]; rfl
      have hn' : ((s.kids.length : Int) != (t.kids.length : Int)) = true := by simp at hn ⊢; omega
      have HE : Hid (sameB (d + 1) s t = false) := show _ = _ by rw [sameB_succ]; unfold headSame; rw [hk, hd, hx, hn]; simp
      clear hl hl' ih
      go_enter Tryz.func32, Tryz.ntmps32
      go_wp2_with fail
      go_ret
      exact ⟨ret_bool (by rw [HE.out]), HW.out _ _⟩
    have HE : Hid (sameB (d + 1) s t = sameTo d s t s.kids.length) := show _ = _ by rw [sameB_succ]; unfold headSame; rw [hk, hd, hx, hn]; rfl
    have hk' : (s.kind.toList != t.kind.toList) = false := by simp only [bne, hk]; rfl
    have hd' : (s.data.toList != t.data.toList) = false := by simp only [bne, hd]; rfl
    have hx' : (s.exec != t.exec) = false := by simp only [bne, hx]; rfl
    have hn' : ((s.kids.length : Int) != (t.kids.length : Int)) = false := by simp at hn ⊢; omega
    have HN : Hid (s.kids.length = t.kids.length) := show _ = _ by simpa using hn
    have HL : Hid _ := hlo
    have HL' : Hid _ := hlo'
    have HIH : Hid _ := ih
    have hlen := hlo.1
    clear hlo hlo' ih hl hl' hn
    go_enter Tryz.func32, Tryz.ntmps32
    go_wp2_with fail
    clear hk hk' hd hd' hx hx' hn'
    go_loopw [38] (fun i wr => ∃ j : Nat, j ≤ s.kids.length ∧ i = .int .i64 j ∧ Below w.heap.size w wr ∧ wr.cell? ⟨w.heap.size + 1, 3, none⟩ = some (.slice ta t.kids.length tc) ∧ w.heap.size + 1 < wr.heap.size ∧ sameTo d s t j = true) (fun i _ => s.kids.length - (intOf i).toNat)
    case atStart => exact ⟨0, Nat.zero_le _, rfl, HW.out _ _, by simp, by simp, rfl⟩
    case round =>
      obtain ⟨j, hj, rfl, hb, hbox, hsz, hall⟩ := hrel
      have HA : Hid (sameTo d s t j = true) := hall
      clear hall
      by_cases hlt : j < s.kids.length
      · have hlt' : j < t.kids.length := by have := HN.out; omega
        obtain ⟨x, hx⟩ : ∃ x, s.kids[j]? = some x := ⟨s.kids[j], List.getElem?_eq_getElem hlt⟩
        obtain ⟨y, hy⟩ : ∃ y, t.kids[j]? = some y := ⟨t.kids[j], List.getElem?_eq_getElem hlt'⟩
        obtain ⟨b, off, rfl, ux, K0⟩ : ∃ b off, sa = some ⟨b, off, none⟩ ∧ ∃ u, KidAt w B d b off j x u := by
          rcases HL.out.2 with ⟨h0, _⟩ | ⟨b, off, cp, e, _, hk⟩
          · rw [h0] at hlt; exact absurd hlt (by simp)
          · simp only [Value.slice.injEq] at e
            exact ⟨b, off, e.1, hk j x hx⟩
        obtain ⟨b', off', rfl, uy, L0⟩ : ∃ b off, ta = some ⟨b, off, none⟩ ∧ ∃ u, KidAt w B d b off j y u := by
          rcases HL'.out.2 with ⟨h0, _⟩ | ⟨b, off, cp, e, _, hk⟩
          · rw [h0] at hlt'; exact absurd hlt' (by simp)
          · simp only [Value.slice.injEq] at e
            exact ⟨b, off, e.1, hk j y hy⟩
        have K := K0.below hb hB
        have L := L0.below hb hB
        obtain ⟨xa, xc, rfl⟩ := K.lies.form
        obtain ⟨ya, yc, rfl⟩ := L.lies.form
        have n0 := K.name
        have n1 := K.kind
        have n2 := K.data
        have n3 := K.exec
        have n4 := K.kids
        have l0 := L.name
        have l1 := L.kind
        have l2 := L.data
        have l3 := L.exec
        have l4 := L.kids
        have lb : b' < wr.heap.size := by have := L.lt; have := hb.size; omega
        have HS : Hid _ := sameTo_succ (d := d) hx hy
        have hj0 : (0 : Int) ≤ (j : Int) := by omega
        have hj1 : (j : Int) < (t.kids.length : Int) := by omega
        have HBr : Hid (B ≤ wr.heap.size) := by have := hb.size; exact (show B ≤ wr.heap.size by omega)
        have HC : Hid (∀ w3, Below wr.heap.size wr w3 → Calls Tryz.prog 32 #[.agg #[.string x.2.kind, .string x.2.data, .bool x.2.exec, .slice xa x.2.kids.length xc], .agg #[.string y.2.kind, .string y.2.data, .bool y.2.exec, .slice ya y.2.kids.length yc]] w3 fun e w' => e = .returned (.bool (sameB d x.2 y.2)) ∧ Below w3.heap.size w3 w' ∧ Below wr.heap.size wr w') :=
          fun w3 h3 => (HIH.out x.2 y.2 (.slice xa x.2.kids.length xc) (.slice ya y.2.kids.length yc) w3 (by have := HBr.out; have := h3.size; omega) (K.lies.below h3 HBr.out) (L.lies.below h3 HBr.out)).mono fun e w' ⟨h1, h2⟩ => ⟨h1, h2, h3.trans (h2.mono h3.size)⟩
        clear K L K0 L0 hx hy
        cases hnm : (x.1.toList == y.1.toList)
        · have HF : Hid (sameTo d s t s.kids.length = false) := sameTo_mono (k := j + 1) (by omega) (by rw [HS.out, hnm]; simp)
          go_wp2_with fail
          go_quiet (fail)
          go_wp2_with fail
          go_ret
          exact ⟨ret_bool (by rw [HE.out, HF.out]), below_drewN (hb.alloc hb.size _) _⟩
        · cases hsm : sameB d x.2 y.2
          · have HF : Hid (sameTo d s t s.kids.length = false) := sameTo_mono (k := j + 1) (by omega) (by rw [HS.out, hnm, hsm]; simp)
            go_wp2_with fail
            go_region_held3 (fun w' => w'.cell? ⟨wr.heap.size, 0, none⟩ = some (.string x.1) ∧ w'.cell? ⟨wr.heap.size, 1, none⟩ = some (.string x.2.kind) ∧ w'.cell? ⟨wr.heap.size, 2, none⟩ = some (.string x.2.data) ∧ w'.cell? ⟨wr.heap.size, 3, none⟩ = some (.bool x.2.exec) ∧ w'.cell? ⟨wr.heap.size, 4, none⟩ = some (.slice xa x.2.kids.length xc) ∧
                w'.cell? ⟨w.heap.size + 1, 3, none⟩ = some (.slice (some ⟨b', off', none⟩) t.kids.length tc) ∧ w'.cell? ⟨b', off' + j * 5, none⟩ = some (.string y.1) ∧ w'.cell? ⟨b', off' + j * 5 + 1, none⟩ = some (.string y.2.kind) ∧ w'.cell? ⟨b', off' + j * 5 + 2, none⟩ = some (.string y.2.data) ∧ w'.cell? ⟨b', off' + j * 5 + 3, none⟩ = some (.bool y.2.exec) ∧ w'.cell? ⟨b', off' + j * 5 + 4, none⟩ = some (.slice ya y.2.kids.length yc))
              (first
                | go_keep
                | (go_split_ands
                   refine ⟨?_, ?_, ?_, ?_, ?_, ?_, ?_, ?_, ?_, ?_, ?_⟩ <;> (rw [hb4.cell (by first | (simp; done) | (simp; omega))]; assumption)))
              ((go_at_call 32; refine Calls.mono (HC.out _ (by go_grown)) ?_; rintro e w4 ⟨rfl, hb4, hb5⟩))
            go_wp2_with fail
            go_ret
            exact ⟨ret_bool (by rw [HE.out, HF.out]), hb.trans (hb5.mono hb.size)⟩
          · have HT : Hid (sameTo d s t (j + 1) = true) := show _ = _ by rw [HS.out, hnm, hsm, HA.out]; rfl
            go_wp2_with fail
            go_region_held3 (fun w' => w'.cell? ⟨wr.heap.size, 0, none⟩ = some (.string x.1) ∧ w'.cell? ⟨wr.heap.size, 1, none⟩ = some (.string x.2.kind) ∧ w'.cell? ⟨wr.heap.size, 2, none⟩ = some (.string x.2.data) ∧ w'.cell? ⟨wr.heap.size, 3, none⟩ = some (.bool x.2.exec) ∧ w'.cell? ⟨wr.heap.size, 4, none⟩ = some (.slice xa x.2.kids.length xc) ∧
                w'.cell? ⟨w.heap.size + 1, 3, none⟩ = some (.slice (some ⟨b', off', none⟩) t.kids.length tc) ∧ w'.cell? ⟨b', off' + j * 5, none⟩ = some (.string y.1) ∧ w'.cell? ⟨b', off' + j * 5 + 1, none⟩ = some (.string y.2.kind) ∧ w'.cell? ⟨b', off' + j * 5 + 2, none⟩ = some (.string y.2.data) ∧ w'.cell? ⟨b', off' + j * 5 + 3, none⟩ = some (.bool y.2.exec) ∧ w'.cell? ⟨b', off' + j * 5 + 4, none⟩ = some (.slice ya y.2.kids.length yc))
              (first
                | go_keep
                | (go_split_ands
                   refine ⟨?_, ?_, ?_, ?_, ?_, ?_, ?_, ?_, ?_, ?_, ?_⟩ <;> (rw [hb4.cell (by first | (simp; done) | (simp; omega))]; assumption)))
              ((go_at_call 32; refine Calls.mono (HC.out _ (by go_grown)) ?_; rintro e w4 ⟨rfl, hb4, hb5⟩))
            go_wp2_with fail
            go_roundw
            case rel =>
              refine ⟨j + 1, by omega, by go_num, hb.trans (hb5.mono hb.size), ?_, by have := hb5.size; omega, HT.out⟩
              rw [hb5.cell (p := ⟨w.heap.size + 1, 3, none⟩) hsz]
              exact hbox
            case measure => simp [intOf]; omega
      · have HM : Hid (sameTo d s t s.kids.length = true) := by
          have e : s.kids.length = j := by omega
          rw [e]; exact HA.out
        go_wp2_with fail
        go_ret
        exact ⟨ret_bool (by rw [HE.out, HM.out]), hb⟩
end Go.Proofs.YtadienkgamdooaaGreatDoor
namespace Go.Proofs.YtadienkgamdooaaGreatDoor
open Go.RowKit

/-- A change. -/
structure Chg where
  kind : ByteArray
  path : ByteArray
  node : Tree
def addB : ByteArray := { data := #[97, 100, 100] }
def editB : ByteArray := { data := #[101, 100, 105, 116] }
def dropB : ByteArray := { data := #[100, 114, 111, 112] }
def lessB (x y : ByteArray) : Bool := Op.bytesLess x.toList y.toList
/-- Changes between the kids of two dirs at names ns; f tells of two kids of one name. -/
def diffK (f : ByteArray → Tree → Tree → List Chg) (ns : List ByteArray) : List (ByteArray × Tree) → List (ByteArray × Tree) → List Chg
  | [], [] => []
  | x :: a, [] => ⟨dropB, tellP (ns ++ [x.1]), zeroT⟩ :: diffK f ns a []
  | [], y :: b => ⟨addB, tellP (ns ++ [y.1]), y.2⟩ :: diffK f ns [] b
  | x :: a, y :: b => if lessB x.1 y.1 = true then ⟨dropB, tellP (ns ++ [x.1]), zeroT⟩ :: diffK f ns a (y :: b) else if lessB y.1 x.1 = true then ⟨addB, tellP (ns ++ [y.1]), y.2⟩ :: diffK f ns (x :: a) b else f x.1 x.2 y.2 ++ diffK f ns a b
termination_by a b => a.length + b.length
/-- Changes between two nodes at names ns. -/
def diffN : Nat → List ByteArray → Tree → Tree → List Chg
  | 0, _, _, _ => []
  | d + 1, ns, a, b => if isDir a = true ∧ isDir b = true then diffK (fun x s t => diffN d (ns ++ [x]) s t) ns a.kids b.kids else if sameB (d + 1) a b = true then [] else [⟨editB, tellP ns, b⟩]
/-! ### Trees that are well, level by level -/
def WN : Nat → Tree → Prop
  | 0, _ => False
  | n + 1, t => nodeErr t = none ∧ ∀ x ∈ t.kids, WN n x.2
def cnt : Nat → Tree → Nat
  | 0, _ => 0
  | n + 1, t => 1 + (t.kids.map fun x => cnt n x.2).sum
def cnts (n : Nat) (l : List (ByteArray × Tree)) : Nat := (l.map fun x => cnt n x.2).sum
theorem cnt_succ (n : Nat) (t : Tree) : cnt (n + 1) t = 1 + cnts n t.kids := rfl
theorem cnts_append (n : Nat) (l m : List (ByteArray × Tree)) : cnts n (l ++ m) = cnts n l + cnts n m := by simp [cnts]
theorem cnts_cons (n : Nat) (x : ByteArray × Tree) (l : List (ByteArray × Tree)) : cnts n (x :: l) = cnt n x.2 + cnts n l := by simp [cnts]
theorem WN.fit : ∀ {n : Nat} {t : Tree}, WN n t → Fit n t
  | 0, _, h => h
  | _ + 1, _, h => fun x hx => WN.fit (h.2 x hx)
theorem cnt_pre : ∀ {n : Nat} {p : ByteArray} {k : Nat} {t : Tree}, (pre n p k t).length = cnt n t
  | 0, _, _, _ => rfl
  | n + 1, p, k, t => by
    simp only [pre, List.length_cons, List.length_flatMap, cnt]
    rw [Nat.add_comm]
    congr 2
    exact List.map_congr_left fun x _ => cnt_pre
theorem WN.all : ∀ {n k : Nat} {p : ByteArray} {t : Tree}, WN n t → k + n = 9 → ∀ x ∈ pre n p k t, x.2.1 ≤ 8 ∧ nodeErr x.2.2 = none
  | 0, _, _, _, h, _, _, _ => h.elim
  | n + 1, k, p, t, h, hk, x, hx => by
    simp only [pre] at hx
    rcases List.mem_cons.1 hx with rfl | hx
    · exact ⟨by simp only; omega, h.1⟩
    · obtain ⟨y, hy, hx⟩ := List.mem_flatMap.1 hx
      exact WN.all (h.2 y hy) (by omega) x hx
theorem WN.of : ∀ {d n k : Nat} {p : ByteArray} {t : Tree}, Fit d t → k + n = 9 → (∀ x ∈ pre d p k t, x.2.1 ≤ 8 ∧ nodeErr x.2.2 = none) → WN n t
  | 0, _, _, _, _, h, _, _ => h.elim
  | d + 1, n, k, p, t, hf, hk, h => by
    simp only [pre] at h
    have h0 := h (p, k, t) List.mem_cons_self
    cases n with
    | zero => simp only at h0; omega
    | succ n => exact ⟨h0.2, fun y hy => WN.of (d := d) (k := k + 1) (p := p ++ slash ++ y.1) (hf y hy) (by omega) fun x hx => h x (List.mem_cons_of_mem _ (List.mem_flatMap.2 ⟨y, hy, hx⟩))⟩
/-- Well: nine levels, at most two hundred nodes. -/
theorem well_iff {d : Nat} {t : Tree} (hf : Fit d t) : treeErr d t = none ↔ WN 9 t ∧ cnt 9 t ≤ 200 := by
  constructor
  · intro h
    obtain ⟨h1, h2⟩ := treeErr_none.1 h
    have hw : WN 9 t := WN.of hf (by omega) h2
    refine ⟨hw, ?_⟩
    rw [← cnt_pre (p := ByteArray.empty) (k := 0)]
    rcases Nat.le_total d 9 with hd | hd
    · rw [pre_up hf hd]; exact h1
    · rw [← pre_up hw.fit hd]; exact h1
  · rintro ⟨h1, h2⟩
    rw [← cnt_pre (p := ByteArray.empty) (k := 0)] at h2
    have h9 : treeErr 9 t = none := treeErr_none.2 ⟨h2, h1.all (by omega)⟩
    rcases Nat.le_total d 9 with hd | hd
    · rw [← treeErr_up hf hd]; exact h9
    · rw [treeErr_up h1.fit hd]; exact h9
/-! ### A node at a path, and another one there -/
theorem set_set {A B : Tree} : ∀ {p : List ByteArray} {t k : Tree}, atR p t = some k → setAt B p (setAt A p t) = setAt B p t
  | [], _, _, _ => rfl
  | z :: r, t, k, h => by
    simp only [atR] at h
    cases hq : kidOf t z with
    | none => rw [hq] at h; cases h
    | some q =>
      rw [hq] at h
      simp only at h
      have hs := kid_set_there (setAt A r q) hq
      simp only [setAt, hq, Option.getD_some, hs.1, setKid_twice, set_set h]
theorem set_in {X Z : Tree} {l : List ByteArray} : ∀ {p : List ByteArray} {t k : Tree}, atR p t = some k → setAt X (p ++ l) (setAt Z p t) = setAt (setAt X l Z) p t
  | [], _, _, _ => rfl
  | z :: r, t, k, h => by
    simp only [atR] at h
    cases hq : kidOf t z with
    | none => rw [hq] at h; cases h
    | some q =>
      rw [hq] at h
      simp only at h
      have hs := kid_set_there (setAt Z r q) hq
      simp only [List.cons_append, setAt, hq, Option.getD_some, hs.1, setKid_twice, set_in h]
theorem at_in {Z : Tree} {l : List ByteArray} : ∀ {p : List ByteArray} {t k : Tree}, atR p t = some k → atR (p ++ l) (setAt Z p t) = atR l Z
  | [], _, _, _ => rfl
  | z :: r, t, k, h => by
    simp only [atR] at h
    cases hq : kidOf t z with
    | none => rw [hq] at h; cases h
    | some q =>
      rw [hq] at h
      simp only at h
      have hs := kid_set_there (setAt Z r q) hq
      simp only [List.cons_append, setAt, hq, Option.getD_some, atR, hs.1]
      exact at_in h
theorem drop_cons (z : ByteArray) (l : List ByteArray) (hl : l ≠ []) (t : Tree) : dropAt (z :: l) t = { t with kids := setKid t.kids z (dropAt l ((kidOf t z).getD zeroT)) } := by
  cases l with
  | nil => exact absurd rfl hl
  | cons y l => rfl
theorem drop_in {Z : Tree} {l : List ByteArray} (hl : l ≠ []) : ∀ {p : List ByteArray} {t k : Tree}, atR p t = some k → dropAt (p ++ l) (setAt Z p t) = setAt (dropAt l Z) p t
  | [], _, _, _ => rfl
  | z :: r, t, k, h => by
    simp only [atR] at h
    cases hq : kidOf t z with
    | none => rw [hq] at h; cases h
    | some q =>
      rw [hq] at h
      simp only at h
      have hs := kid_set_there (setAt Z r q) hq
      rw [List.cons_append, drop_cons z (r ++ l) (by simp [hl])]
      simp only [setAt, hq, Option.getD_some, hs.1, setKid_twice, drop_in hl h]
end Go.Proofs.YtadienkgamdooaaGreatDoor
namespace Go.Proofs.YtadienkgamdooaaGreatDoor
open Go.RowKit

theorem less_tri : ∀ {a b : List UInt8}, Op.bytesLess a b = false → Op.bytesLess b a = false → a = b
  | [], [], _, _ => rfl
  | [], _ :: _, h, _ => by simp [Op.bytesLess] at h
  | _ :: _, [], _, h => by simp [Op.bytesLess] at h
  | a :: x, b :: y, h1, h2 => by
    simp only [Op.bytesLess, Bool.or_eq_false_iff, decide_eq_false_iff_not, Bool.and_eq_false_iff] at h1 h2
    have e : a = b := UInt8.le_antisymm (UInt8.not_lt.1 h2.1) (UInt8.not_lt.1 h1.1)
    subst e
    have g1 : Op.bytesLess x y = false := by rcases h1.2 with h | h; simp at h; exact h
    have g2 : Op.bytesLess y x = false := by rcases h2.2 with h | h; simp at h; exact h
    rw [less_tri g1 g2]
theorem lessB_tri {x y : ByteArray} (h1 : lessB x y = false) (h2 : lessB y x = false) : x = y := ba_ext (less_tri h1 h2)
theorem less_not_back {a b : List UInt8} (h : Op.bytesLess a b = true) : Op.bytesLess b a = false := by
  cases h2 : Op.bytesLess b a with
  | false => rfl
  | true => have := less_trans h h2; rw [less_irrefl] at this; cases this
theorem ba_eqT {x y : ByteArray} (h : (x.toList == y.toList) = true) : x = y := ba_ext (by simpa using h)
/-- Two that are the same are one. -/
theorem sameT_eq : ∀ (d : Nat) (s t : Tree), sameB d s t = true → s = t
  | 0, _, _, h => by simp [sameB] at h
  | d + 1, s, t, h => by
    rw [sameB_succ] at h
    simp only [Bool.and_eq_true, headSame] at h
    obtain ⟨⟨⟨⟨h1, h2⟩, h3⟩, h4⟩, h5⟩ := h
    obtain ⟨sk, sd, sx, sl⟩ := s
    obtain ⟨tk, td, tx, tl⟩ := t
    simp only at h1 h2 h3 h4 h5
    have hl : sl.length = tl.length := by simpa using h4
    have hk : sl = tl := by
      apply List.ext_getElem hl
      intro i hi hi'
      unfold sameTo at h5
      have := List.all_eq_true.1 h5 i (List.mem_range.2 hi)
      simp only [List.getElem?_eq_getElem hi, List.getElem?_eq_getElem hi', Bool.and_eq_true] at this
      exact Prod.ext (ba_eqT this.1) (sameT_eq d _ _ this.2)
    rw [ba_eqT h1, ba_eqT h2, hk, show sx = tx by simpa using h3]
theorem rises_pair {l : List (ByteArray × Tree)} : Rises l ↔ l.Pairwise fun x y => Op.bytesLess x.1.toList y.1.toList = true := by
  rw [List.pairwise_iff_getElem]
  constructor
  · intro h i j hi hj hij
    exact h i j _ _ hij (List.getElem?_eq_getElem hi) (List.getElem?_eq_getElem hj)
  · intro h i j x y hij hx hy
    obtain ⟨hi, rfl⟩ := List.getElem?_eq_some_iff.1 hx
    obtain ⟨hj, rfl⟩ := List.getElem?_eq_some_iff.1 hy
    exact h i j hi hj hij
theorem rises_map {l m : List (ByteArray × Tree)} (h : l.map (·.1) = m.map (·.1)) (hr : Rises l) : Rises m := by
  rw [rises_pair] at hr ⊢
  have e : ∀ l : List (ByteArray × Tree), (l.Pairwise fun x y => Op.bytesLess x.1.toList y.1.toList = true) ↔ (l.map (·.1)).Pairwise fun x y => Op.bytesLess x.toList y.toList = true := fun l => by rw [List.pairwise_map]
  rw [e, ← h, ← e]
  exact hr
/-- Of a dir, other kids. -/
theorem node_dir {t : Tree} {K : List (ByteArray × Tree)} (h : nodeErr t = none) (hd : isDir t = true) (hn : ∀ x ∈ K, nameB x.1 = true) (hr : Rises K) : nodeErr { t with kids := K } = none := by
  have hf : isFile t = false := by
    unfold isDir at hd
    unfold isFile
    rw [beq_iff_eq] at hd
    rw [hd]
    rfl
  unfold nodeErr at h
  rw [if_neg (by rw [hf]; decide), if_pos hd] at h
  have e1 : isFile { t with kids := K } = false := hf
  have e2 : isDir { t with kids := K } = true := hd
  unfold nodeErr
  rw [if_neg (by rw [e1]; decide), if_pos e2]
  unfold dirErr at h ⊢
  simp only
  split at h
  · cases h
  · rename_i h1
    rw [if_neg h1, if_pos (List.all_eq_true.2 hn), if_pos (risesTo_of hr)]
theorem dir_names {t : Tree} (h : nodeErr t = none) (hd : isDir t = true) : (∀ x ∈ t.kids, nameB x.1 = true) ∧ t.data = ByteArray.empty ∧ t.exec = false := by
  have hf : isFile t = false := by
    unfold isDir at hd
    unfold isFile
    rw [beq_iff_eq] at hd
    rw [hd]
    rfl
  unfold nodeErr at h
  rw [if_neg (by rw [hf]; decide), if_pos hd] at h
  unfold dirErr at h
  split at h
  · cases h
  · rename_i h1
    simp only [not_or] at h1
    split at h
    · rename_i h2
      refine ⟨fun x hx => List.all_eq_true.1 h2 x hx, ?_, by simpa using h1.2⟩
      have h3 : t.data.toList = [] := by
        cases hh : t.data.toList with
        | nil => rfl
        | cons a b => rw [hh] at h1; simp at h1
      exact ba_ext (by rw [h3, ba_toList]; rfl)
    · cases h
/-! ### Apply, change by change -/
def applyR (dc : Nat) (t : Tree) (c : Chg) : Except Nat Tree :=
  if (c.kind.toList == [97, 100, 100]) = true then (match getR 9 t c.path with
    | .ok _ => .error 6
    | .error _ => putR 9 (9 + 1 + dc) t c.path c.node)
  else if (c.kind.toList == [101, 100, 105, 116]) = true then (match getR 9 t c.path with
    | .error e => .error e
    | .ok _ => putR 9 (9 + 1 + dc) t c.path c.node)
  else if (c.kind.toList == [100, 114, 111, 112]) = true then (if sameB dc c.node zeroT = true then dropR 9 t c.path else .error 2)
  else .error 3
def appliesR (dc : Nat) : Nat → Tree → List Chg → Except (Nat × Nat) Tree
  | _, t, [] => .ok t
  | i, t, c :: l => match applyR dc t c with
    | .error e => .error (i, e)
    | .ok t' => appliesR dc (i + 1) t' l
theorem applies_append {dc : Nat} : ∀ {l m : List Chg} {i : Nat} {t t' : Tree}, appliesR dc i t l = .ok t' → appliesR dc i t (l ++ m) = appliesR dc (i + l.length) t' m
  | [], m, i, t, t', h => by
    simp only [appliesR, Except.ok.injEq] at h
    subst h
    rfl
  | c :: l, m, i, t, t', h => by
    simp only [List.cons_append, appliesR] at h ⊢
    cases hc : applyR dc t c with
    | error e => rw [hc] at h; cases h
    | ok t2 =>
      rw [hc] at h
      simp only at h ⊢
      rw [applies_append h, List.length_cons]
      congr 1
      omega
theorem zero_fit {dc : Nat} (h : 1 ≤ dc) : Fit dc zeroT := by
  cases dc with
  | zero => omega
  | succ dc => exact fun x hx => by simp [zeroT] at hx
/-- A place in a tree: what may stand there. -/
structure Ctx (p : List ByteArray) (T : Tree) (d M : Nat) : Prop where
  here : ∃ k, atR p T = some k
  deep : p.length + d = 9
  names : p.all nameB = true
  room : ∀ Z, roomB p (setAt Z p T) = true
  well : ∀ Z, WN d Z → cnt d Z ≤ M → WN 9 (setAt Z p T) ∧ cnt 9 (setAt Z p T) ≤ 200
theorem Ctx.err {p : List ByteArray} {T Z : Tree} {d M e : Nat} (C : Ctx p T d M) (hZ : WN d Z) (hc : cnt d Z ≤ M) (he : 9 ≤ e) : treeErr e (setAt Z p T) = none :=
  (well_iff ((C.well Z hZ hc).1.fit.up he)).2 (C.well Z hZ hc)
theorem tell_at {p : List ByteArray} (h8 : p.length ≤ 8) (hn : p.all nameB = true) : splitR (tellP p) = some p := tell_split h8 hn
theorem Ctx.edit {p : List ByteArray} {T a b : Tree} {d M dc : Nat} (C : Ctx p T d M) (ha : WN d a) (hb : WN d b) (hca : cnt d a ≤ M) (hcb : cnt d b ≤ M) : applyR dc (setAt a p T) ⟨editB, tellP p, b⟩ = .ok (setAt b p T) := by
  obtain ⟨k, hk⟩ := C.here
  have hd : 1 ≤ d := by
    cases d with
    | zero => exact ha.elim
    | succ d => omega
  have hsp := tell_at (by have := C.deep; omega) C.names
  have h9 := C.err ha hca (Nat.le_refl 9)
  have e1 : (editB.toList == [97, 100, 100]) = false := by rw [ba_toList]; rfl
  have e2 : (editB.toList == [101, 100, 105, 116]) = true := by rw [ba_toList]; rfl
  have hg : getR 9 (setAt a p T) (tellP p) = .ok a := getR_some h9 hsp (at_set_there hk)
  have hp := putR_ok (X := b) (e := 9 + 1 + dc) h9 hsp (C.room a) (by rw [set_set hk]; exact C.err hb hcb (by omega))
  unfold applyR
  simp only
  rw [if_neg (by rw [e1]; decide), if_pos e2, hg]
  simp only
  rw [hp, set_set hk]
theorem names_snoc {p : List ByteArray} {x : ByteArray} (h : p.all nameB = true) (hx : nameB x = true) : (p ++ [x]).all nameB = true := by
  rw [List.all_append, h]
  simpa using hx
theorem Ctx.drop {p : List ByteArray} {T Z k : Tree} {d M dc : Nat} {x : ByteArray} (C : Ctx p T (d + 2) M) (hZ : WN (d + 2) Z) (hc : cnt (d + 2) Z ≤ M) (hdc : 1 ≤ dc) (hx : nameB x = true) (hk : kidOf Z x = some k) : applyR dc (setAt Z p T) ⟨dropB, tellP (p ++ [x]), zeroT⟩ = .ok (setAt (dropAt [x] Z) p T) := by
  obtain ⟨q, hq⟩ := C.here
  have hsp := tell_at (p := p ++ [x]) (by have := C.deep; simp; omega) (names_snoc C.names hx)
  have h9 := C.err hZ hc (Nat.le_refl 9)
  have e1 : (dropB.toList == [97, 100, 100]) = false := by rw [ba_toList]; rfl
  have e2 : (dropB.toList == [101, 100, 105, 116]) = false := by rw [ba_toList]; rfl
  have e3 : (dropB.toList == [100, 114, 111, 112]) = true := by rw [ba_toList]; rfl
  have hat : atR (p ++ [x]) (setAt Z p T) = some k := by
    rw [at_in hq]
    simp only [atR, hk]
  unfold applyR
  simp only
  rw [if_neg (by rw [e1]; decide), if_neg (by rw [e2]; decide), if_pos e3, if_pos (sameB_refl (zero_fit hdc)), dropR_ok h9 hsp hat, drop_in (by simp) hq]
theorem Ctx.add {p : List ByteArray} {T Z X : Tree} {d M dc : Nat} {x : ByteArray} (C : Ctx p T (d + 2) M) (hZ : WN (d + 2) Z) (hc : cnt (d + 2) Z ≤ M) (hdir : isDir Z = true) (hx : nameB x = true) (hk : kidOf Z x = none) (hZ' : WN (d + 2) (setAt X [x] Z)) (hc' : cnt (d + 2) (setAt X [x] Z) ≤ M) :
    applyR dc (setAt Z p T) ⟨addB, tellP (p ++ [x]), X⟩ = .ok (setAt (setAt X [x] Z) p T) := by
  obtain ⟨q, hq⟩ := C.here
  have hsp := tell_at (p := p ++ [x]) (by have := C.deep; simp; omega) (names_snoc C.names hx)
  have h9 := C.err hZ hc (Nat.le_refl 9)
  have e1 : (addB.toList == [97, 100, 100]) = true := by rw [ba_toList]; rfl
  have hat : atR (p ++ [x]) (setAt Z p T) = none := by
    rw [at_in hq]
    simp only [atR, hk]
  have hr : roomB (p ++ [x]) (setAt Z p T) = true := by
    rw [roomB_snoc, at_set_there hq]
    exact hdir
  have hp := putR_ok (X := X) (e := 9 + 1 + dc) h9 hsp hr (by rw [set_in hq]; exact C.err hZ' hc' (by omega))
  unfold applyR
  simp only
  rw [if_pos e1, getR_none h9 hsp hat]
  simp only
  rw [hp, set_in hq]
/-! ### The kids of a dir, one by one -/
/-- Taken out of the middle. -/
theorem drop_mid {a : Tree} {dn ra : List (ByteArray × Tree)} {x : ByteArray × Tree} (hr : Rises (dn ++ x :: ra)) : kidOf { a with kids := dn ++ x :: ra } x.1 = some x.2 ∧ dropAt [x.1] { a with kids := dn ++ x :: ra } = { a with kids := dn ++ ra } := by
  have hx : (dn ++ x :: ra)[dn.length]? = some x := by
    rw [List.getElem?_append_right (Nat.le_refl _), Nat.sub_self]
    rfl
  refine ⟨(kid_mem (t := { a with kids := dn ++ x :: ra }) hr).2 (by simp), ?_⟩
  simp only [dropAt]
  rw [place_at hr hx, List.eraseIdx_append_of_length_le (Nat.le_refl _), Nat.sub_self]
  rfl
/-- Turned, in the middle. -/
theorem set_mid {a X : Tree} {dn ra : List (ByteArray × Tree)} {x : ByteArray × Tree} (hr : Rises (dn ++ x :: ra)) : setAt X [x.1] { a with kids := dn ++ x :: ra } = { a with kids := dn ++ (x.1, X) :: ra } := by
  have hx : (dn ++ x :: ra)[dn.length]? = some x := by
    rw [List.getElem?_append_right (Nat.le_refl _), Nat.sub_self]
    rfl
  simp only [setAt]
  unfold setKid
  rw [if_pos (there_at hr hx), place_at hr hx, List.set_append_right _ _ (Nat.le_refl _), Nat.sub_self]
  rfl
theorem Ctx.kid {p : List ByteArray} {T a : Tree} {d M : Nat} {dn ra : List (ByteArray × Tree)} {x : ByteArray × Tree} (C : Ctx p T (d + 2) M) (ha : nodeErr a = none) (hd : isDir a = true) (hr : Rises (dn ++ x :: ra)) (hn : ∀ z ∈ dn ++ x :: ra, nameB z.1 = true) (hw : ∀ z ∈ dn ++ ra, WN (d + 1) z.2) (m : Nat) (hm : 1 + cnts (d + 1) dn + m + cnts (d + 1) ra ≤ M) :
    Ctx (p ++ [x.1]) (setAt { a with kids := dn ++ x :: ra } p T) (d + 1) m := by
  obtain ⟨q, hq⟩ := C.here
  have hset : ∀ Z, setAt Z (p ++ [x.1]) (setAt { a with kids := dn ++ x :: ra } p T) = setAt { a with kids := dn ++ (x.1, Z) :: ra } p T := fun Z => by rw [set_in hq, set_mid hr]
  refine ⟨⟨x.2, by rw [at_in hq]; simp only [atR, (drop_mid hr).1]⟩, by have := C.deep; simp; omega, names_snoc C.names (hn x (by simp)), fun Z => ?_, fun Z hZ hc => ?_⟩
  · rw [hset, roomB_snoc, at_set_there hq]
    exact hd
  · rw [hset]
    refine C.well _ ⟨node_dir ha hd (fun z hz => ?_) (rises_map (l := dn ++ x :: ra) (by simp) hr), fun z hz => ?_⟩ ?_
    · have hz' : z ∈ dn ++ (x.1, Z) :: ra := hz
      simp only [List.mem_append, List.mem_cons] at hz'
      rcases hz' with h | rfl | h
      · exact hn z (by simp [h])
      · exact hn x (by simp)
      · exact hn z (by simp [h])
    · have hz' : z ∈ dn ++ (x.1, Z) :: ra := hz
      simp only [List.mem_append, List.mem_cons] at hz'
      rcases hz' with h | rfl | h
      · exact hw z (by simp [h])
      · exact hZ
      · exact hw z (by simp [h])
    · rw [cnt_succ]
      show 1 + cnts (d + 1) (dn ++ (x.1, Z) :: ra) ≤ M
      rw [cnts_append, cnts_cons]
      simp only
      omega
end Go.Proofs.YtadienkgamdooaaGreatDoor
namespace Go.Proofs.YtadienkgamdooaaGreatDoor
open Go.RowKit

theorem diffK_same {f : ByteArray → Tree → Tree → List Chg} {ns : List ByteArray} : ∀ (A : List (ByteArray × Tree)), (∀ x ∈ A, f x.1 x.2 x.2 = []) → diffK f ns A A = []
  | [], _ => by rw [diffK]
  | x :: A, h => by
    have e : lessB x.1 x.1 = false := less_irrefl _
    rw [diffK, if_neg (by rw [e]; decide), if_neg (by rw [e]; decide), h x (by simp), diffK_same A fun y hy => h y (List.mem_cons_of_mem _ hy)]
    rfl
theorem diffN_same : ∀ (d : Nat) (ns : List ByteArray) (a : Tree), WN d a → diffN d ns a a = []
  | 0, _, _, h => h.elim
  | d + 1, ns, a, h => by
    rw [diffN]
    split
    · exact diffK_same a.kids fun x hx => diffN_same d (ns ++ [x.1]) x.2 (h.2 x hx)
    · rw [if_pos (sameB_refl h.fit)]
theorem WN.ok : ∀ {n : Nat} {t : Tree}, WN n t → OkT n t
  | 0, _, h => h
  | _ + 1, _, h => ⟨by have := (node_bounds h.1).1; omega, fun x hx => ⟨by have := (node_bounds h.1).2 x hx; omega, WN.ok (h.2 x hx)⟩⟩
/-- What a change says. -/
structure Says (c : Chg) (ns : List ByteArray) (d : Nat) (a b : Tree) (r : List ByteArray) : Prop where
  path : c.path = tellP (ns ++ r)
  short : r.length + 1 ≤ d
  names : r.all nameB = true
  node : OkT 9 c.node
  what : (c.kind = addB ∧ atR r a = none ∧ ∃ k, atR r b = some k) ∨ (c.kind = dropB ∧ (∃ k, atR r a = some k) ∧ atR r b = none) ∨ (c.kind = editB ∧ ∃ s t, atR r a = some s ∧ atR r b = some t ∧ s ≠ t)
end Go.Proofs.YtadienkgamdooaaGreatDoor
namespace Go.Proofs.YtadienkgamdooaaGreatDoor
open Go.RowKit
attribute [local go_sem ↓] Go.wp_at_zero Go.wp_at_succ

theorem infoCh : (Tryz.prog.info? 51).map (fun i => (i.zero, i.size, i.bytes)) = some (some (.agg #[.string { data := #[] }, .string { data := #[] }, .string { data := #[] }, .string { data := #[] }, .bool false, .slice none 0 0]), 6, 96) := by kernel_rfl
/-- The cells of changes, each with its node's kids' slice. -/
def chCells : List Chg → List Value → List Value
  | c :: l, u :: us => .string c.kind :: .string c.path :: .string c.node.kind :: .string c.node.data :: .bool c.node.exec :: u :: chCells l us
  | _, _ => []
theorem chCells_snoc : ∀ (l : List Chg) (us : List Value) (c : Chg) (u : Value), l.length = us.length → chCells (l ++ [c]) (us ++ [u]) = chCells l us ++ [.string c.kind, .string c.path, .string c.node.kind, .string c.node.data, .bool c.node.exec, u]
  | [], [], c, u, _ => rfl
  | y :: l, v :: us, c, u, h => by simp only [List.cons_append, chCells]; rw [chCells_snoc l us c u (by simpa using h)]
  | [], _ :: _, _, _, h => by simp at h
  | _ :: _, [], _, _, h => by simp at h
/-- A list of changes behind a pointer. -/
structure ChSt (lb d : Nat) (l : List Chg) (v : Value) (us : List Value) (w : World) : Prop where
  cell : w.heap[lb]? = some (.cells #[v] 25 (0, 0))
  len : us.length = l.length
  own : w.ownsRow (lb + 1) 51 6 v l.length (chCells l us)
  kids : ∀ (i : Nat) (c : Chg) (u : Value), l[i]? = some c → us[i]? = some u → LiesQ w (fun b => lb < b ∧ b < w.heap.size ∧ v.ownBlock ≠ some b) d c.node.kids u
/-- One change more. -/
theorem ch_next {lb d : Nat} {l : List Chg} {v u' : Value} {us : List Value} {w w2 wa w5 w6 : World} {c : Chg} {g cap H : Nat} (C : ChSt lb d l v us w) (hb2 : Below w.heap.size w w2) (hu' : LiesQ w2 (fun b => w.heap.size ≤ b ∧ b < w2.heap.size) d c.node.kids u') (hba : Below w2.heap.size w2 wa)
    (hown1 : w5.ownsRow (lb + 1) 51 6 (.slice (some ⟨g, 0, none⟩) (l.length + 1) cap) (l.length + 1) (chCells l us ++ [.string c.kind, .string c.path, .string c.node.kind, .string c.node.data, .bool c.node.exec, u']))
    (hgrow : wa.grownBy w5 v.ownBlock) (hat : v.ownBlock = some g ∨ g = H) (hH : w2.heap.size ≤ H) (h6 : w6 = w5.setCell ⟨lb, 0, none⟩ (.slice (some ⟨g, 0, none⟩) (l.length + 1) cap)) :
    ChSt lb d (l ++ [c]) (.slice (some ⟨g, 0, none⟩) (l.length + 1) cap) (us ++ [u']) w6 ∧ Below lb w w6 := by
  have hbr := lt_of_row C.cell
  have hlt := fun k hk => C.own.lt k hk
  have h5 : ∀ k, k < w2.heap.size → v.ownBlock ≠ some k → w5.heap[k]? = w2.heap[k]? := fun k hk hne => by
    rw [hgrow.block k (Nat.lt_of_lt_of_le hk hba.size) (fun e => hne e.symm), hba.block k hk]
  have h5r : ∀ k, k < w.heap.size → v.ownBlock ≠ some k → w5.heap[k]? = w.heap[k]? := fun k hk hne => by
    rw [h5 k (Nat.lt_of_lt_of_le hk hb2.size) hne, hb2.block k hk]
  have hs5 : w2.heap.size ≤ w5.heap.size := Nat.le_trans hba.size hgrow.size
  have h6b : ∀ k, k ≠ lb → w6.heap[k]? = w5.heap[k]? := fun k hk => by rw [h6]; exact Below.heap_setCell _ _ _ _ hk
  have hs6 : w6.heap.size = w5.heap.size := by rw [h6]; simp [World.setCell]
  have hs2 := hb2.size
  have hcell5 : w5.heap[lb]? = some (.cells #[v] 25 (0, 0)) := by
    rw [h5r _ hbr (fun e => by have := (hlt _ e).1; omega)]; exact C.cell
  have hgl : lb + 1 ≤ g := by
    rcases hat with h | h
    · exact (hlt g h).1
    · omega
  refine ⟨⟨?_, by simp [C.len], ?_, ?_⟩, ?_⟩
  · rw [h6]
    simp [World.setCell, Array.getElem?_modify, hcell5]
  · rw [List.length_append, List.length_singleton, chCells_snoc _ _ _ _ C.len.symm]
    refine ownsRow_ext' hown1 fun k hk => h6b k ?_
    simp only [Value.ownBlock, Option.some.injEq] at hk
    omega
  · intro i y u hy hu
    by_cases hi : i < us.length
    · rw [List.getElem?_append_left hi] at hu
      rw [List.getElem?_append_left (by rw [← C.len]; exact hi)] at hy
      refine (C.kids i y u hy hu).kept (fun k hk => (h6b k (by omega)).trans (h5r k hk.2.1 hk.2.2)) (fun k hk => ⟨hk.1, by omega, ?_⟩)
      simp only [Value.ownBlock, ne_eq, Option.some.injEq]
      rcases hat with h | h
      · intro e; exact hk.2.2 (by rw [h, e])
      · have := hk.2.1; omega
    · have hle : us.length ≤ i := by omega
      rw [List.getElem?_append_right hle] at hu
      have hi0 : i - us.length = 0 := by
        rcases Nat.eq_zero_or_pos (i - us.length) with h | h
        · exact h
        · rw [List.getElem?_eq_none (by simp; omega)] at hu; cases hu
      rw [hi0] at hu
      simp only [List.getElem?_cons_zero, Option.some.injEq] at hu
      have hij : i = l.length := by have := C.len; omega
      subst hij
      rw [List.getElem?_append_right (Nat.le_refl _), Nat.sub_self] at hy
      simp only [List.getElem?_cons_zero, Option.some.injEq] at hy
      subst hy; subst hu
      refine hu'.kept (fun k hk => (h6b k (by omega)).trans (h5 k hk.2 (fun e => by have := (hlt k e).2; omega))) (fun k hk => ⟨by omega, by omega, ?_⟩)
      simp only [Value.ownBlock, ne_eq, Option.some.injEq]
      rcases hat with h | h
      · have := (hlt g h).2; omega
      · omega
  · refine ⟨?_, ?_, ?_, by omega, fun k hk => ?_⟩
    · rw [h6]; exact hgrow.os.trans (hba.os.trans hb2.os)
    · rw [h6]; exact hgrow.tape.trans (hba.tape.trans hb2.tape)
    · rw [h6]; exact hgrow.output.trans (hba.output.trans hb2.output)
    · rw [h6b k (by omega), h5r k (by omega) (fun e => by have := (hlt k e).1; omega)]

set_option maxRecDepth 100000 in
set_option maxHeartbeats 4000000 in
theorem tell_any (lb d : Nat) (l : List Chg) (v : Value) (us : List Value) (kd path : ByteArray) (n : Tree) (u : Value) (w : World) (C : ChSt lb d l v us w) (hl : Lies w lb d n.kids u) (hlen : l.length ≤ 1000000) :
    Calls Tryz.prog 33 #[.pointer (some ⟨lb, 0, none⟩), .string kd, .string path, .agg #[.string n.kind, .string n.data, .bool n.exec, u]] w fun e w' => e = .returned (.tuple #[]) ∧ (∃ v' us', ChSt lb d (l ++ [⟨kd, path, n⟩]) v' us' w') ∧ Below lb w w' := by
  obtain ⟨xa, xc, rfl⟩ := hl.form
  obtain ⟨va, vc, rfl⟩ : ∃ va vc, v = .slice va l.length vc := by
    rcases C.own.2 with ⟨e, e0⟩ | ⟨g, cap, cur, e, _⟩
    · exact ⟨none, 0, by rw [e, e0]⟩
    · exact ⟨_, _, e⟩
  obtain ⟨i0, hi0, hz0, hz1, hz2⟩ := info_parts infoCh
  have lw : lb < w.heap.size := lt_of_row C.cell
  have hA1 : Below w.heap.size w (w.alloc (.cells #[.string n.kind, .string n.data, .bool n.exec, .slice xa n.kids.length xc] 24)) := (Below.refl _ _).alloc (Nat.le_refl _) _
  have hrow1 := row_alloc' w #[.string n.kind, .string n.data, .bool n.exec, .slice xa n.kids.length xc] 24
  have hz1' : (w.alloc (.cells #[.string n.kind, .string n.data, .bool n.exec, .slice xa n.kids.length xc] 24)).heap.size = w.heap.size + 1 := by simp
  have HC : Hid (∀ w', Below (w.alloc (.cells #[.string n.kind, .string n.data, .bool n.exec, .slice xa n.kids.length xc] 24)).heap.size (w.alloc (.cells #[.string n.kind, .string n.data, .bool n.exec, .slice xa n.kids.length xc] 24)) w' → Calls Tryz.prog 23 #[.agg #[.string n.kind, .string n.data, .bool n.exec, .slice xa n.kids.length xc]] w' fun e w'' => ∃ u', e = .returned (.agg #[.string n.kind, .string n.data, .bool n.exec, u']) ∧ LiesQ w'' (fun b => w'.heap.size ≤ b ∧ b < w''.heap.size) d n.kids u' ∧ Below w'.heap.size w' w'') := fun w' h =>
    copy_any lb d n (.slice xa n.kids.length xc) w' (by have := h.size; omega) (hl.below (hA1.trans (h.mono (by omega))) (by omega))
  have HS : Hid (∀ w', Below (w.alloc (.cells #[.string n.kind, .string n.data, .bool n.exec, .slice xa n.kids.length xc] 24)).heap.size (w.alloc (.cells #[.string n.kind, .string n.data, .bool n.exec, .slice xa n.kids.length xc] 24)) w' → ((fun w' => w'.cell? ⟨w.heap.size, 0, none⟩ = some (.string n.kind) ∧ w'.cell? ⟨w.heap.size, 1, none⟩ = some (.string n.data) ∧ w'.cell? ⟨w.heap.size, 2, none⟩ = some (.bool n.exec) ∧ w'.cell? ⟨w.heap.size, 3, none⟩ = some (.slice xa n.kids.length xc)) w' : Prop)) := fun w' h => by
    have hk : w'.heap[w.heap.size]? = some (.cells #[.string n.kind, .string n.data, .bool n.exec, .slice xa n.kids.length xc] 24 (0, 0)) := (h.block _ (by omega)).trans hrow1
    refine ⟨?_, ?_, ?_, ?_⟩
    all_goals (rw [cell_of_row w' _ _ _ _ _ hk]; rfl)
  have HLB : Hid (∀ w', Below w.heap.size w w' → w'.heap[lb]? = some (.cells #[.slice va l.length vc] 25 (0, 0))) := fun w' h => (h.block lb lw).trans C.cell
  have HG3 : Hid (∀ w', Below (w.alloc (.cells #[.string n.kind, .string n.data, .bool n.exec, .slice xa n.kids.length xc] 24)).heap.size (w.alloc (.cells #[.string n.kind, .string n.data, .bool n.exec, .slice xa n.kids.length xc] 24)) w' → w'.cell? ⟨lb, 0, none⟩ = some (.slice va l.length vc)) := fun w' h => by
    rw [cell_of_row w' _ _ _ _ _ (HLB.out w' (hA1.trans (h.mono (by omega))))]; rfl
  have HO : Hid (ChSt lb d l (.slice va l.length vc) us w) := C
  have HA1 : Hid _ := hA1
  clear C hA1 hrow1 hl
  go_enter Tryz.func33, Tryz.ntmps33
  go_upto_region 1 with fail
  refine wp_region_held_drew (S := fun w' => w'.cell? ⟨w.heap.size, 0, none⟩ = some (.string n.kind) ∧ w'.cell? ⟨w.heap.size, 1, none⟩ = some (.string n.data) ∧ w'.cell? ⟨w.heap.size, 2, none⟩ = some (.bool n.exec) ∧ w'.cell? ⟨w.heap.size, 3, none⟩ = some (.slice xa n.kids.length xc)) (by kernel_rfl) (HS.out _ (Below.refl _ _).drew) (fun hHeld => ?_)
  refine wpAnyH_take (i := 0) (v := .pointer (some ⟨lb, 0, none⟩)) rfl (by kernel_rfl) (by kernel_rfl) (by kernel_rfl) (fun _ _ _ h => h) (Or.inl ⟨by rfl, ?_⟩) hHeld ?_
  · intro w hSw; (try dsimp only at hSw); simp only [List.getElem_toArray, List.getElem_cons_zero]; go_simp
  simp only [List.getElem_toArray, List.getElem_cons_zero, Act.put, List.setIfInBounds_toArray, List.set_cons_zero, List.set_cons_succ]
  refine wpAnyH_take (i := 1) (v := .pointer (some ⟨lb, 0, none⟩)) rfl (by kernel_rfl) (by kernel_rfl) (by kernel_rfl) (fun _ _ _ h => h) (Or.inl ⟨by rfl, ?_⟩) hHeld ?_
  · intro w hSw; (try dsimp only at hSw); simp only [tkB]; go_simp
  simp only [tkB, Act.put, tkS]
  refine wpAnyH_take (i := 2) (v := .pointer (some ⟨lb, 0, none⟩)) rfl (by kernel_rfl) (by kernel_rfl) (by kernel_rfl) (fun _ _ _ h => h) (Or.inl ⟨by rfl, ?_⟩) hHeld ?_
  · intro w hSw; (try dsimp only at hSw); simp only [tkB]; go_simp
  simp only [tkB, Act.put, tkS]
  refine wpAnyH_take (i := 4) (v := .string kd) rfl (by kernel_rfl) (by kernel_rfl) (by kernel_rfl) (fun _ _ _ h => h) (Or.inl ⟨by rfl, ?_⟩) hHeld ?_
  · intro w hSw; (try dsimp only at hSw); simp only [tkB]; go_simp
  simp only [tkB, Act.put, tkS]
  refine wpAnyH_take (i := 5) (v := .string path) rfl (by kernel_rfl) (by kernel_rfl) (by kernel_rfl) (fun _ _ _ h => h) (Or.inl ⟨by rfl, ?_⟩) hHeld ?_
  · intro w hSw; (try dsimp only at hSw); simp only [tkB]; go_simp
  simp only [tkB, Act.put, tkS]
  refine wpAnyH_take (i := 6) (v := .agg #[.string n.kind, .string n.data, .bool n.exec, .slice xa n.kids.length xc]) rfl (by kernel_rfl) (by kernel_rfl) (by kernel_rfl) (fun _ _ _ h => h) (Or.inl ⟨by rfl, ?_⟩) hHeld ?_
  · intro w hSw; (try dsimp only at hSw); simp only [tkB]; go_simp
  simp only [tkB, Act.put, tkS]
  refine wpAnyH_ready (rs := [3, 7]) (by kernel_rfl) (by simp) ?_
  refine AllReadyH.cons rfl (fun K' hK => ?_) (AllReadyH.cons rfl (fun K' hK => ?_) AllReadyH.nil)
  · skip
    simp only [tkB]
    have c13 := HG3.out _ ((Below.refl _ _).drew)
    go_simp
    go_wp2_with fail
    clear c13
    refine hK.out _ _ (HS.out _ ((Below.refl _ _).drew)) (fun hHeld' => ?_)
    clear hK K' hHeld
    have hHeld := hHeld'
    clear hHeld'
    refine wpAnyH_ready (rs := [7]) (by kernel_rfl) (by simp) ?_
    refine AllReadyH.cons rfl (fun K' hK => ?_) AllReadyH.nil
    simp only [tkB]
    go_simp
    refine Calls.mono (HC.out _ (Below.refl _ _).drew) ?_
    rintro e wx ⟨u', rfl, hq, hb2⟩
    obtain ⟨ya, yc, rfl⟩ := hq.form
    have HB2 : Hid (Below (w.alloc (.cells #[.string n.kind, .string n.data, .bool n.exec, .slice xa n.kids.length xc] 24)).heap.size (w.alloc (.cells #[.string n.kind, .string n.data, .bool n.exec, .slice xa n.kids.length xc] 24)) wx) := (Below.refl _ _).drew.trans hb2
    have HBR : Hid (Below w.heap.size w wx) := HA1.out.trans (HB2.out.mono (by omega))
    have HQ : Hid (LiesQ wx (fun b => w.heap.size ≤ b ∧ b < wx.heap.size) d n.kids (.slice ya n.kids.length yc)) := LiesQ.kept (fun _ _ => rfl) (fun k hk => ⟨by have h := hk.1; have h2 : (w.alloc (.cells #[.string n.kind, .string n.data, .bool n.exec, .slice xa n.kids.length xc] 24)).drew.heap.size = w.heap.size + 1 := hz1'; omega, hk.2⟩) hq
    have hzx := HB2.out.size
    clear hq hb2
    go_wp2_with fail
    refine hK.out _ _ (HS.out _ HB2.out) (fun hHeld' => ?_)
    clear hK K' hHeld
    have hHeld := hHeld'
    clear hHeld'
    refine wpAnyH_take (i := 8) (v := .agg #[.string kd, .string path, .string n.kind, .string n.data, .bool n.exec, .slice ya n.kids.length yc]) rfl (by kernel_rfl) (by kernel_rfl) (by kernel_rfl) (fun _ _ _ h => h) (Or.inl ⟨by rfl, ?_⟩) hHeld ?_
    · intro w hSw; (try dsimp only at hSw); simp only [tkB]; go_simp
    simp only [tkB, Act.put, tkS]
    refine wpAnyH_ready (rs := [9]) (by kernel_rfl) (by simp) ?_
    refine AllReadyH.cons rfl (fun K' hK => ?_) AllReadyH.nil
    simp only [tkB]
    go_simp
    go_wp2_with fail
    have HBA : Hid (Below (w.alloc (.cells #[.string n.kind, .string n.data, .bool n.exec, .slice xa n.kids.length xc] 24)).heap.size (w.alloc (.cells #[.string n.kind, .string n.data, .bool n.exec, .slice xa n.kids.length xc] 24)) (wx.alloc (.cells #[.string kd, .string path, .string n.kind, .string n.data, .bool n.exec, .slice ya n.kids.length yc] 51))) := HB2.out.alloc HB2.out.size _
    have HOW : Hid ((wx.alloc (.cells #[.string kd, .string path, .string n.kind, .string n.data, .bool n.exec, .slice ya n.kids.length yc] 51)).ownsRow (lb + 1) 51 6 (.slice va l.length vc) l.length (chCells l us)) := World.ownsRow.alloc (ownsRow_ext' HO.out.own fun k hk => HBR.out.block k (HO.out.own.lt k hk).2) _
    have HN2 : Hid ((wx.alloc (.cells #[.string kd, .string path, .string n.kind, .string n.data, .bool n.exec, .slice ya n.kids.length yc] 51)).heap[wx.heap.size]? = some (.cells #[.string kd, .string path, .string n.kind, .string n.data, .bool n.exec, .slice ya n.kids.length yc] 51 (0, 0))) := row_alloc' wx #[.string kd, .string path, .string n.kind, .string n.data, .bool n.exec, .slice ya n.kids.length yc] 51
    refine hK.out _ _ (HS.out _ HBA.out) (fun hHeld' => ?_)
    clear hK K' hHeld
    have hHeld := hHeld'
    clear hHeld'
    refine wpAnyH_ready (rs := [10]) (by kernel_rfl) (by simp) ?_
    refine AllReadyH.cons rfl (fun K' hK => ?_) AllReadyH.nil
    refine step_append_lies _ (by rfl) _ _ _ (by rfl) (lb + 1) 51 i0 _ 6 96 Tryz.underlying25 hi0 hz0 hz1 hz2 rfl (by omega) (.slice va l.length vc) l.length (chCells l us) (by rfl) HOW.out ⟨wx.heap.size, 0, none⟩ 1 1 [.string kd, .string path, .string n.kind, .string n.data, .bool n.exec, .slice ya n.kids.length yc] (by rfl) (by rfl) (World.news_of_block (cs := #[.string kd, .string path, .string n.kind, .string n.data, .bool n.exec, .slice ya n.kids.length yc]) (t := 51) (fr := (0, 0)) HN2.out) (by simp [Value.oneCell']) (by omega) (by unfold maxLen; omega) (by omega) (by simp; omega) (wx.heap.size + 1) (by simp) ?_
    intro g cap w5 hown5 hgrow hat hlt5
    have hz5 := hgrow.size
    have HOWN5 : Hid _ := hown5
    have HGROW : Hid _ := hgrow
    have HAT : Hid _ := hat
    have hH5 : ∀ k, k < wx.heap.size + 1 → (Value.slice va l.length vc).ownBlock ≠ some k → w5.heap[k]? = (wx.alloc (.cells #[.string kd, .string path, .string n.kind, .string n.data, .bool n.exec, .slice ya n.kids.length yc] 51)).heap[k]? := fun k hk hne => hgrow.block k (by simp; omega) (fun e => hne e.symm)
    have a1 : (Value.slice va l.length vc).ownBlock ≠ some lb := fun e => by have := (HO.out.own.lt _ e).1; omega
    have a2 : (Value.slice va l.length vc).ownBlock ≠ some w.heap.size := fun e => by have := (HO.out.own.lt _ e).2; omega
    have e1 := hH5 lb (by omega) a1
    have e2 := hH5 w.heap.size (by omega) a2
    have k2 : ∀ o, w5.cell? ⟨w.heap.size, o, none⟩ = (wx.alloc (.cells #[.string kd, .string path, .string n.kind, .string n.data, .bool n.exec, .slice ya n.kids.length yc] 51)).cell? ⟨w.heap.size, o, none⟩ := fun o => World.cell?_of_block e2
    have HS5 : Hid ((fun w' => w'.cell? ⟨w.heap.size, 0, none⟩ = some (.string n.kind) ∧ w'.cell? ⟨w.heap.size, 1, none⟩ = some (.string n.data) ∧ w'.cell? ⟨w.heap.size, 2, none⟩ = some (.bool n.exec) ∧ w'.cell? ⟨w.heap.size, 3, none⟩ = some (.slice xa n.kids.length xc)) w5 : Prop) := by
      have h := HS.out _ HBA.out
      simp only [← k2] at h
      exact h
    have hb5 : w5.heap[lb]? = some (.cells #[.slice va l.length vc] 25 (0, 0)) := by
      rw [e1, Below.heap_alloc _ _ _ (by omega)]; exact HLB.out _ HBR.out
    have f53 : w5.frozen? ⟨lb, 0, none⟩ = false := free_of_row hb5 0
    have c53 : w5.cell? ⟨lb, 0, none⟩ = some (.slice va l.length vc) := by rw [cell_of_row w5 _ _ _ _ _ hb5]; rfl
    have hneq : w.heap.size ≠ lb := by omega
    have HS6 : Hid (∀ v, ((fun w' => w'.cell? ⟨w.heap.size, 0, none⟩ = some (.string n.kind) ∧ w'.cell? ⟨w.heap.size, 1, none⟩ = some (.string n.data) ∧ w'.cell? ⟨w.heap.size, 2, none⟩ = some (.bool n.exec) ∧ w'.cell? ⟨w.heap.size, 3, none⟩ = some (.slice xa n.kids.length xc)) (w5.setCell ⟨lb, 0, none⟩ v) : Prop)) := fun v => by
      have h := HS5.out
      have k3 : ∀ o, (w5.setCell ⟨lb, 0, none⟩ v).cell? ⟨w.heap.size, o, none⟩ = w5.cell? ⟨w.heap.size, o, none⟩ := fun o => World.cell?_of_block (Below.heap_setCell _ _ _ _ hneq)
      simp only [← k3] at h
      exact h
    have HNX : Hid _ := ch_next (c := ⟨kd, path, n⟩) HO.out HBR.out HQ.out (wa := (wx.alloc (.cells #[.string kd, .string path, .string n.kind, .string n.data, .bool n.exec, .slice ya n.kids.length yc] 51))) ((Below.refl _ _).alloc (Nat.le_refl _) _) HOWN5.out HGROW.out HAT.out (by omega) rfl
    clear hown5 hgrow hat hH5 a1 a2 e1 e2 k2 hb5
    refine hK.out _ _ HS5.out (fun hHeld' => ?_)
    clear hK K' hHeld
    have hHeld := hHeld'
    clear hHeld'
    refine wpAnyH_take (i := 11) (v := .pointer (some ⟨lb, 0, none⟩)) rfl (by kernel_rfl) (by kernel_rfl) (by kernel_rfl) (fun _ _ _ h => h) (Or.inl ⟨by rfl, ?_⟩) hHeld ?_
    · intro w hSw; (try dsimp only at hSw); simp only [tkB]; go_simp
    simp only [tkB, Act.put, tkS]
    refine wpAnyH_ready (rs := [12]) (by kernel_rfl) (by simp) ?_
    refine AllReadyH.cons rfl (fun K' hK => ?_) AllReadyH.nil
    simp only [tkB]
    go_simp
    go_wp2_with fail
    refine hK.out _ _ (HS6.out _) (fun hHeld' => ?_)
    clear hK K' hHeld
    have hHeld := hHeld'
    clear hHeld'
    refine wpAnyH_done (by kernel_rfl) ?_ _
    go_wp2_with fail
    go_returns
    exact ⟨rfl, ⟨_, _, HNX.out.1⟩, HNX.out.2⟩
  · skip
    simp only [tkB]
    go_simp
    refine Calls.mono (HC.out _ (Below.refl _ _).drew) ?_
    rintro e wx ⟨u', rfl, hq, hb2⟩
    obtain ⟨ya, yc, rfl⟩ := hq.form
    have HB2 : Hid (Below (w.alloc (.cells #[.string n.kind, .string n.data, .bool n.exec, .slice xa n.kids.length xc] 24)).heap.size (w.alloc (.cells #[.string n.kind, .string n.data, .bool n.exec, .slice xa n.kids.length xc] 24)) wx) := (Below.refl _ _).drew.trans hb2
    have HBR : Hid (Below w.heap.size w wx) := HA1.out.trans (HB2.out.mono (by omega))
    have HQ : Hid (LiesQ wx (fun b => w.heap.size ≤ b ∧ b < wx.heap.size) d n.kids (.slice ya n.kids.length yc)) := LiesQ.kept (fun _ _ => rfl) (fun k hk => ⟨by have h := hk.1; have h2 : (w.alloc (.cells #[.string n.kind, .string n.data, .bool n.exec, .slice xa n.kids.length xc] 24)).drew.heap.size = w.heap.size + 1 := hz1'; omega, hk.2⟩) hq
    have hzx := HB2.out.size
    clear hq hb2
    go_wp2_with fail
    refine hK.out _ _ (HS.out _ HB2.out) (fun hHeld' => ?_)
    clear hK K' hHeld
    have hHeld := hHeld'
    clear hHeld'
    refine wpAnyH_take (i := 8) (v := .agg #[.string kd, .string path, .string n.kind, .string n.data, .bool n.exec, .slice ya n.kids.length yc]) rfl (by kernel_rfl) (by kernel_rfl) (by kernel_rfl) (fun _ _ _ h => h) (Or.inl ⟨by rfl, ?_⟩) hHeld ?_
    · intro w hSw; (try dsimp only at hSw); simp only [tkB]; go_simp
    simp only [tkB, Act.put, tkS]
    refine wpAnyH_ready (rs := [3, 9]) (by kernel_rfl) (by simp) ?_
    refine AllReadyH.cons rfl (fun K' hK => ?_) (AllReadyH.cons rfl (fun K' hK => ?_) AllReadyH.nil)
    · skip
      simp only [tkB]
      have c13 := HG3.out _ (HB2.out)
      go_simp
      go_wp2_with fail
      clear c13
      refine hK.out _ _ (HS.out _ (HB2.out)) (fun hHeld' => ?_)
      clear hK K' hHeld
      have hHeld := hHeld'
      clear hHeld'
      refine wpAnyH_ready (rs := [9]) (by kernel_rfl) (by simp) ?_
      refine AllReadyH.cons rfl (fun K' hK => ?_) AllReadyH.nil
      simp only [tkB]
      go_simp
      go_wp2_with fail
      have HBA : Hid (Below (w.alloc (.cells #[.string n.kind, .string n.data, .bool n.exec, .slice xa n.kids.length xc] 24)).heap.size (w.alloc (.cells #[.string n.kind, .string n.data, .bool n.exec, .slice xa n.kids.length xc] 24)) (wx.alloc (.cells #[.string kd, .string path, .string n.kind, .string n.data, .bool n.exec, .slice ya n.kids.length yc] 51))) := HB2.out.alloc HB2.out.size _
      have HOW : Hid ((wx.alloc (.cells #[.string kd, .string path, .string n.kind, .string n.data, .bool n.exec, .slice ya n.kids.length yc] 51)).ownsRow (lb + 1) 51 6 (.slice va l.length vc) l.length (chCells l us)) := World.ownsRow.alloc (ownsRow_ext' HO.out.own fun k hk => HBR.out.block k (HO.out.own.lt k hk).2) _
      have HN2 : Hid ((wx.alloc (.cells #[.string kd, .string path, .string n.kind, .string n.data, .bool n.exec, .slice ya n.kids.length yc] 51)).heap[wx.heap.size]? = some (.cells #[.string kd, .string path, .string n.kind, .string n.data, .bool n.exec, .slice ya n.kids.length yc] 51 (0, 0))) := row_alloc' wx #[.string kd, .string path, .string n.kind, .string n.data, .bool n.exec, .slice ya n.kids.length yc] 51
      refine hK.out _ _ (HS.out _ HBA.out) (fun hHeld' => ?_)
      clear hK K' hHeld
      have hHeld := hHeld'
      clear hHeld'
      refine wpAnyH_ready (rs := [10]) (by kernel_rfl) (by simp) ?_
      refine AllReadyH.cons rfl (fun K' hK => ?_) AllReadyH.nil
      refine step_append_lies _ (by rfl) _ _ _ (by rfl) (lb + 1) 51 i0 _ 6 96 Tryz.underlying25 hi0 hz0 hz1 hz2 rfl (by omega) (.slice va l.length vc) l.length (chCells l us) (by rfl) HOW.out ⟨wx.heap.size, 0, none⟩ 1 1 [.string kd, .string path, .string n.kind, .string n.data, .bool n.exec, .slice ya n.kids.length yc] (by rfl) (by rfl) (World.news_of_block (cs := #[.string kd, .string path, .string n.kind, .string n.data, .bool n.exec, .slice ya n.kids.length yc]) (t := 51) (fr := (0, 0)) HN2.out) (by simp [Value.oneCell']) (by omega) (by unfold maxLen; omega) (by omega) (by simp; omega) (wx.heap.size + 1) (by simp) ?_
      intro g cap w5 hown5 hgrow hat hlt5
      have hz5 := hgrow.size
      have HOWN5 : Hid _ := hown5
      have HGROW : Hid _ := hgrow
      have HAT : Hid _ := hat
      have hH5 : ∀ k, k < wx.heap.size + 1 → (Value.slice va l.length vc).ownBlock ≠ some k → w5.heap[k]? = (wx.alloc (.cells #[.string kd, .string path, .string n.kind, .string n.data, .bool n.exec, .slice ya n.kids.length yc] 51)).heap[k]? := fun k hk hne => hgrow.block k (by simp; omega) (fun e => hne e.symm)
      have a1 : (Value.slice va l.length vc).ownBlock ≠ some lb := fun e => by have := (HO.out.own.lt _ e).1; omega
      have a2 : (Value.slice va l.length vc).ownBlock ≠ some w.heap.size := fun e => by have := (HO.out.own.lt _ e).2; omega
      have e1 := hH5 lb (by omega) a1
      have e2 := hH5 w.heap.size (by omega) a2
      have k2 : ∀ o, w5.cell? ⟨w.heap.size, o, none⟩ = (wx.alloc (.cells #[.string kd, .string path, .string n.kind, .string n.data, .bool n.exec, .slice ya n.kids.length yc] 51)).cell? ⟨w.heap.size, o, none⟩ := fun o => World.cell?_of_block e2
      have HS5 : Hid ((fun w' => w'.cell? ⟨w.heap.size, 0, none⟩ = some (.string n.kind) ∧ w'.cell? ⟨w.heap.size, 1, none⟩ = some (.string n.data) ∧ w'.cell? ⟨w.heap.size, 2, none⟩ = some (.bool n.exec) ∧ w'.cell? ⟨w.heap.size, 3, none⟩ = some (.slice xa n.kids.length xc)) w5 : Prop) := by
        have h := HS.out _ HBA.out
        simp only [← k2] at h
        exact h
      have hb5 : w5.heap[lb]? = some (.cells #[.slice va l.length vc] 25 (0, 0)) := by
        rw [e1, Below.heap_alloc _ _ _ (by omega)]; exact HLB.out _ HBR.out
      have f53 : w5.frozen? ⟨lb, 0, none⟩ = false := free_of_row hb5 0
      have c53 : w5.cell? ⟨lb, 0, none⟩ = some (.slice va l.length vc) := by rw [cell_of_row w5 _ _ _ _ _ hb5]; rfl
      have hneq : w.heap.size ≠ lb := by omega
      have HS6 : Hid (∀ v, ((fun w' => w'.cell? ⟨w.heap.size, 0, none⟩ = some (.string n.kind) ∧ w'.cell? ⟨w.heap.size, 1, none⟩ = some (.string n.data) ∧ w'.cell? ⟨w.heap.size, 2, none⟩ = some (.bool n.exec) ∧ w'.cell? ⟨w.heap.size, 3, none⟩ = some (.slice xa n.kids.length xc)) (w5.setCell ⟨lb, 0, none⟩ v) : Prop)) := fun v => by
        have h := HS5.out
        have k3 : ∀ o, (w5.setCell ⟨lb, 0, none⟩ v).cell? ⟨w.heap.size, o, none⟩ = w5.cell? ⟨w.heap.size, o, none⟩ := fun o => World.cell?_of_block (Below.heap_setCell _ _ _ _ hneq)
        simp only [← k3] at h
        exact h
      have HNX : Hid _ := ch_next (c := ⟨kd, path, n⟩) HO.out HBR.out HQ.out (wa := (wx.alloc (.cells #[.string kd, .string path, .string n.kind, .string n.data, .bool n.exec, .slice ya n.kids.length yc] 51))) ((Below.refl _ _).alloc (Nat.le_refl _) _) HOWN5.out HGROW.out HAT.out (by omega) rfl
      clear hown5 hgrow hat hH5 a1 a2 e1 e2 k2 hb5
      refine hK.out _ _ HS5.out (fun hHeld' => ?_)
      clear hK K' hHeld
      have hHeld := hHeld'
      clear hHeld'
      refine wpAnyH_take (i := 11) (v := .pointer (some ⟨lb, 0, none⟩)) rfl (by kernel_rfl) (by kernel_rfl) (by kernel_rfl) (fun _ _ _ h => h) (Or.inl ⟨by rfl, ?_⟩) hHeld ?_
      · intro w hSw; (try dsimp only at hSw); simp only [tkB]; go_simp
      simp only [tkB, Act.put, tkS]
      refine wpAnyH_ready (rs := [12]) (by kernel_rfl) (by simp) ?_
      refine AllReadyH.cons rfl (fun K' hK => ?_) AllReadyH.nil
      simp only [tkB]
      go_simp
      go_wp2_with fail
      refine hK.out _ _ (HS6.out _) (fun hHeld' => ?_)
      clear hK K' hHeld
      have hHeld := hHeld'
      clear hHeld'
      refine wpAnyH_done (by kernel_rfl) ?_ _
      go_wp2_with fail
      go_returns
      exact ⟨rfl, ⟨_, _, HNX.out.1⟩, HNX.out.2⟩
    · skip
      simp only [tkB]
      go_simp
      go_wp2_with fail
      have HBA : Hid (Below (w.alloc (.cells #[.string n.kind, .string n.data, .bool n.exec, .slice xa n.kids.length xc] 24)).heap.size (w.alloc (.cells #[.string n.kind, .string n.data, .bool n.exec, .slice xa n.kids.length xc] 24)) (wx.alloc (.cells #[.string kd, .string path, .string n.kind, .string n.data, .bool n.exec, .slice ya n.kids.length yc] 51))) := HB2.out.alloc HB2.out.size _
      have HOW : Hid ((wx.alloc (.cells #[.string kd, .string path, .string n.kind, .string n.data, .bool n.exec, .slice ya n.kids.length yc] 51)).ownsRow (lb + 1) 51 6 (.slice va l.length vc) l.length (chCells l us)) := World.ownsRow.alloc (ownsRow_ext' HO.out.own fun k hk => HBR.out.block k (HO.out.own.lt k hk).2) _
      have HN2 : Hid ((wx.alloc (.cells #[.string kd, .string path, .string n.kind, .string n.data, .bool n.exec, .slice ya n.kids.length yc] 51)).heap[wx.heap.size]? = some (.cells #[.string kd, .string path, .string n.kind, .string n.data, .bool n.exec, .slice ya n.kids.length yc] 51 (0, 0))) := row_alloc' wx #[.string kd, .string path, .string n.kind, .string n.data, .bool n.exec, .slice ya n.kids.length yc] 51
      refine hK.out _ _ (HS.out _ HBA.out) (fun hHeld' => ?_)
      clear hK K' hHeld
      have hHeld := hHeld'
      clear hHeld'
      refine wpAnyH_ready (rs := [3]) (by kernel_rfl) (by simp) ?_
      refine AllReadyH.cons rfl (fun K' hK => ?_) AllReadyH.nil
      simp only [tkB]
      have c13 := HG3.out _ (HBA.out)
      go_simp
      go_wp2_with fail
      clear c13
      refine hK.out _ _ (HS.out _ (HBA.out)) (fun hHeld' => ?_)
      clear hK K' hHeld
      have hHeld := hHeld'
      clear hHeld'
      refine wpAnyH_ready (rs := [10]) (by kernel_rfl) (by simp) ?_
      refine AllReadyH.cons rfl (fun K' hK => ?_) AllReadyH.nil
      refine step_append_lies _ (by rfl) _ _ _ (by rfl) (lb + 1) 51 i0 _ 6 96 Tryz.underlying25 hi0 hz0 hz1 hz2 rfl (by omega) (.slice va l.length vc) l.length (chCells l us) (by rfl) HOW.out ⟨wx.heap.size, 0, none⟩ 1 1 [.string kd, .string path, .string n.kind, .string n.data, .bool n.exec, .slice ya n.kids.length yc] (by rfl) (by rfl) (World.news_of_block (cs := #[.string kd, .string path, .string n.kind, .string n.data, .bool n.exec, .slice ya n.kids.length yc]) (t := 51) (fr := (0, 0)) HN2.out) (by simp [Value.oneCell']) (by omega) (by unfold maxLen; omega) (by omega) (by simp; omega) (wx.heap.size + 1) (by simp) ?_
      intro g cap w5 hown5 hgrow hat hlt5
      have hz5 := hgrow.size
      have HOWN5 : Hid _ := hown5
      have HGROW : Hid _ := hgrow
      have HAT : Hid _ := hat
      have hH5 : ∀ k, k < wx.heap.size + 1 → (Value.slice va l.length vc).ownBlock ≠ some k → w5.heap[k]? = (wx.alloc (.cells #[.string kd, .string path, .string n.kind, .string n.data, .bool n.exec, .slice ya n.kids.length yc] 51)).heap[k]? := fun k hk hne => hgrow.block k (by simp; omega) (fun e => hne e.symm)
      have a1 : (Value.slice va l.length vc).ownBlock ≠ some lb := fun e => by have := (HO.out.own.lt _ e).1; omega
      have a2 : (Value.slice va l.length vc).ownBlock ≠ some w.heap.size := fun e => by have := (HO.out.own.lt _ e).2; omega
      have e1 := hH5 lb (by omega) a1
      have e2 := hH5 w.heap.size (by omega) a2
      have k2 : ∀ o, w5.cell? ⟨w.heap.size, o, none⟩ = (wx.alloc (.cells #[.string kd, .string path, .string n.kind, .string n.data, .bool n.exec, .slice ya n.kids.length yc] 51)).cell? ⟨w.heap.size, o, none⟩ := fun o => World.cell?_of_block e2
      have HS5 : Hid ((fun w' => w'.cell? ⟨w.heap.size, 0, none⟩ = some (.string n.kind) ∧ w'.cell? ⟨w.heap.size, 1, none⟩ = some (.string n.data) ∧ w'.cell? ⟨w.heap.size, 2, none⟩ = some (.bool n.exec) ∧ w'.cell? ⟨w.heap.size, 3, none⟩ = some (.slice xa n.kids.length xc)) w5 : Prop) := by
        have h := HS.out _ HBA.out
        simp only [← k2] at h
        exact h
      have hb5 : w5.heap[lb]? = some (.cells #[.slice va l.length vc] 25 (0, 0)) := by
        rw [e1, Below.heap_alloc _ _ _ (by omega)]; exact HLB.out _ HBR.out
      have f53 : w5.frozen? ⟨lb, 0, none⟩ = false := free_of_row hb5 0
      have c53 : w5.cell? ⟨lb, 0, none⟩ = some (.slice va l.length vc) := by rw [cell_of_row w5 _ _ _ _ _ hb5]; rfl
      have hneq : w.heap.size ≠ lb := by omega
      have HS6 : Hid (∀ v, ((fun w' => w'.cell? ⟨w.heap.size, 0, none⟩ = some (.string n.kind) ∧ w'.cell? ⟨w.heap.size, 1, none⟩ = some (.string n.data) ∧ w'.cell? ⟨w.heap.size, 2, none⟩ = some (.bool n.exec) ∧ w'.cell? ⟨w.heap.size, 3, none⟩ = some (.slice xa n.kids.length xc)) (w5.setCell ⟨lb, 0, none⟩ v) : Prop)) := fun v => by
        have h := HS5.out
        have k3 : ∀ o, (w5.setCell ⟨lb, 0, none⟩ v).cell? ⟨w.heap.size, o, none⟩ = w5.cell? ⟨w.heap.size, o, none⟩ := fun o => World.cell?_of_block (Below.heap_setCell _ _ _ _ hneq)
        simp only [← k3] at h
        exact h
      have HNX : Hid _ := ch_next (c := ⟨kd, path, n⟩) HO.out HBR.out HQ.out (wa := (wx.alloc (.cells #[.string kd, .string path, .string n.kind, .string n.data, .bool n.exec, .slice ya n.kids.length yc] 51))) ((Below.refl _ _).alloc (Nat.le_refl _) _) HOWN5.out HGROW.out HAT.out (by omega) rfl
      clear hown5 hgrow hat hH5 a1 a2 e1 e2 k2 hb5
      refine hK.out _ _ HS5.out (fun hHeld' => ?_)
      clear hK K' hHeld
      have hHeld := hHeld'
      clear hHeld'
      refine wpAnyH_take (i := 11) (v := .pointer (some ⟨lb, 0, none⟩)) rfl (by kernel_rfl) (by kernel_rfl) (by kernel_rfl) (fun _ _ _ h => h) (Or.inl ⟨by rfl, ?_⟩) hHeld ?_
      · intro w hSw; (try dsimp only at hSw); simp only [tkB]; go_simp
      simp only [tkB, Act.put, tkS]
      refine wpAnyH_ready (rs := [12]) (by kernel_rfl) (by simp) ?_
      refine AllReadyH.cons rfl (fun K' hK => ?_) AllReadyH.nil
      simp only [tkB]
      go_simp
      go_wp2_with fail
      refine hK.out _ _ (HS6.out _) (fun hHeld' => ?_)
      clear hK K' hHeld
      have hHeld := hHeld'
      clear hHeld'
      refine wpAnyH_done (by kernel_rfl) ?_ _
      go_wp2_with fail
      go_returns
      exact ⟨rfl, ⟨_, _, HNX.out.1⟩, HNX.out.2⟩
end Go.Proofs.YtadienkgamdooaaGreatDoor
