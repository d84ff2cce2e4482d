/-
  The contract of pack.Text.
  Conditions: the sentinels and the library's table of powers of ten hold what their texts lay; the tree lies in memory below B and can be checked; its text stays below 2 to the 47 bytes.
-/
import Derived.Test.YtilkjafggfdjeaaDoorPackX
import Derived.Test.YtilkjafggfdjeaaDoorCheck
namespace Go.Proofs.YtilkjafggfdjeaaDoor
open Go.RowKit
attribute [local go_sem ↓] Go.wp_at_zero Go.wp_at_succ

theorem Tab.up {B C : Nat} {w : World} (h : Tab B w) (hC : B ≤ C) : Tab C w := fun w' hb => h w' (hb.mono hC)
/-- The text of a tree that is well; of any other: nothing. -/
def textOf (d : Nat) (t : Tree) : List UInt8 := match treeErr d t with
  | none => textT d t
  | some _ => []
theorem textOf_well {d : Nat} {t : Tree} (h : treeErr d t = none) : textOf d t = textT d t := by unfold textOf; rw [h]
theorem textOf_not {d e : Nat} {t : Tree} (h : treeErr d t = some e) : textOf d t = [] := by unfold textOf; rw [h]
theorem ret_str {k l : ByteArray} (h : k = l) : Ending.returned (.string k) = .returned (.string l) := by rw [h]

set_option maxRecDepth 100000 in
set_option maxHeartbeats 2000000 in
theorem text_any (a : Nat → Addr) (d B : Nat) (t : Tree) (u : Value) (w : World) (S : SentsB a B w) (hB : B ≤ w.heap.size) (hl : Lies w B d t.kids u) (hal : Alive ck ckOk 0 (pre d ByteArray.empty 0 t)) (hT : Tab B w) (hlen : treeErr d t = none → (textT d t).length ≤ 140737488355328) :
    Calls Tryd.prog 28 #[.agg #[.string t.kind, .string t.data, .bool t.exec, u]] w fun e w' => e = .returned (.string (bs (textOf d t))) ∧ Below w.heap.size w w' := by
  obtain ⟨ta, tc, rfl⟩ := hl.form
  have hA : ∀ o, Below w.heap.size w (w.alloc o) := fun o => (Below.refl _ _).alloc (Nat.le_refl _) o
  have HCK : Hid (∀ o, Calls Tryd.prog 15 #[.agg #[.string t.kind, .string t.data, .bool t.exec, .slice ta t.kids.length tc]] (w.alloc o) fun e w' => e = .returned (errV a (treeErr d t)) ∧ Below (w.alloc o).heap.size (w.alloc o) w') := fun o =>
    check_any a d B t _ (w.alloc o) (S.below (hA o) hB) (by simp; omega) (hl.below (hA o) hB) hal
  have HROW : Hid (∀ (c : Array Value) (T : TypeId), (w.alloc (.cells c T)).heap[w.heap.size]? = some (.cells c T (0, 0))) := row_alloc' w
  have HA : Hid _ := hA
  have HLI : Hid (Lies w B d t.kids (.slice ta t.kids.length tc)) := hl
  have HT : Hid (Tab B w) := hT
  clear hA S hl hal hT
  go_enter Tryd.func28, Tryd.ntmps28
  go_wp2_with fail
  refine Calls.mono (HCK.out _) ?_
  rintro e w1 ⟨rfl, hb1⟩
  have hz := hb1.size
  simp only [World.size_alloc] at hz
  have HB1 : Hid (Below w.heap.size w w1) := (HA.out _).trans (hb1.mono (by simp))
  have hrow := (hb1.block w.heap.size (by simp)).trans (HROW.out #[.string t.kind, .string t.data, .bool t.exec, .slice ta t.kids.length tc] 24)
  obtain ⟨q0, q1, q2, q3⟩ := row4w hrow
  have l0 : w.heap.size < w1.heap.size := by omega
  cases ht : treeErr d t with
  | some er =>
    have HE : Hid (textOf d t = []) := textOf_not ht
    unfold errV
    clear hb1 hrow HCK HROW HA
    go_wp2_with fail
    go_ret
    exact ⟨ret_str (by rw [HE.out]; rfl), HB1.out⟩
  | none =>
    have HE : Hid (textOf d t = textT d t) := textOf_well ht
    have hA2 : ∀ o, Below w1.heap.size w1 (w1.alloc o) := fun o => (Below.refl _ _).alloc (Nat.le_refl _) o
    have HA2 : Hid _ := hA2
    have HI : Hid (Lib.IsBuilderF 74 5 w1.heap.size w1.heap.size (Lib.byteCells []) (w1.alloc (.cells #[.pointer none, .slice none 0 0] 74))) := .inl ⟨Nat.le_refl _, .slice none 0 0, row_alloc' _ _ _, ⟨rfl, .inl ⟨rfl, rfl⟩⟩, by simp [Value.ownBlock]⟩
    have HWN : Hid _ := wNode_any w1.heap.size w1.heap.size d t (.slice ta t.kids.length tc) [] (w1.alloc (.cells #[.pointer none, .slice none 0 0] 74)) HI.out (by simp) (Tab.up (Tab.on HT.out ((HB1.out.trans ((hA2 _).mono (by omega))).mono hB)) (by omega)) ((HLI.out.below (HB1.out.trans ((hA2 _).mono (by omega))) hB).up (by omega) (Nat.le_refl _)) (by simpa using hlen ht)
    unfold errV
    clear hb1 hrow HCK HROW HA hA2
    go_wp2_with fail
    refine Calls.mono HWN.out ?_
    rintro e w2 ⟨rfl, W2⟩
    rw [List.nil_append] at W2
    have hz2 : w1.heap.size + 1 ≤ w2.heap.size := by have := W2.below.size; simp at this; omega
    have HST : Hid _ := string_any w1.heap.size w1.heap.size (textT d t) w2 W2.is (by omega)
    have HB2 : Hid (Below w.heap.size w w2) := HB1.out.trans (((HA2.out _).trans W2.below).mono (by omega))
    clear W2 HWN
    go_wp2_with fail
    refine Calls.mono HST.out ?_
    rintro e w3 ⟨rfl, _, hb3, _⟩
    have HB3 : Hid (Below w.heap.size w w3) := HB2.out.trans (hb3.mono (by omega))
    clear hb3
    go_wp2_with fail
    go_ret
    exact ⟨ret_str (by rw [HE.out]; rfl), HB3.out⟩
end Go.Proofs.YtilkjafggfdjeaaDoor
