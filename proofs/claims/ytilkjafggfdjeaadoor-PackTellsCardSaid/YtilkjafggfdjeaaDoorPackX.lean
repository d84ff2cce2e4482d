/-
  The contract of package pack's writeNode: a tree's text goes behind what the builder holds.
  Conditions: the builder lies in a block of its own from B on, the tree below B; the library's table of powers of ten holds what its text lays; the text stays below 2 to the 47 bytes.
-/
import Derived.Test.YtilkjafggfdjeaaDoorPackW
namespace Go.Proofs.YtilkjafggfdjeaaDoor
open Go.RowKit
attribute [local go_sem ↓] Go.wp_at_zero Go.wp_at_succ

theorem Wr.row {B b k : Nat} {l : List UInt8} {w w' : World} {cs : Array Value} {T : TypeId} (h : Wr B b l w w') (hr : w.heap[k]? = some (.cells cs T (0, 0))) (hk : k ≠ b) (hT : T ≠ 5) : w'.heap[k]? = some (.cells cs T (0, 0)) :=
  h.others k _ hr (fun e => hk (Option.some.inj e)) (fun c fz e => hT (by injection e))
theorem isB_lt {T e : TypeId} {B b : Nat} {l : List Value} {w : World} (h : Lib.IsBuilderF T e B b l w) : b < w.heap.size := h.elim (fun x => x.lt) (fun x => x.lt)
theorem Tab.on {B : Nat} {w w' : World} (h : Tab B w) (hb : Below B w w') : Tab B w' := Lib.TabBelow.on h hb
theorem row4w {w : World} {h : Nat} {x0 x1 x2 x3 : Value} {t : TypeId} (hr : w.heap[h]? = some (.cells #[x0, x1, x2, x3] t (0, 0))) : w.cell? ⟨h, 0, none⟩ = some x0 ∧ w.cell? ⟨h, 1, none⟩ = some x1 ∧ w.cell? ⟨h, 2, none⟩ = some x2 ∧ w.cell? ⟨h, 3, none⟩ = some x3 := by
  refine ⟨?_, ?_, ?_, ?_⟩
  all_goals (rw [cell_of_row w _ _ _ _ _ hr]; rfl)
theorem row5w {w : World} {h : Nat} {x0 x1 x2 x3 x4 : Value} {t : TypeId} (hr : w.heap[h]? = some (.cells #[x0, x1, x2, x3, x4] t (0, 0))) : w.cell? ⟨h, 0, none⟩ = some x0 ∧ w.cell? ⟨h, 1, none⟩ = some x1 ∧ w.cell? ⟨h, 2, none⟩ = some x2 ∧ w.cell? ⟨h, 3, none⟩ = some x3 ∧ w.cell? ⟨h, 4, none⟩ = some x4 := by
  refine ⟨?_, ?_, ?_, ?_, ?_⟩
  all_goals (rw [cell_of_row w _ _ _ _ _ hr]; rfl)
/-- The text of kids. -/
def kidsT (d : Nat) (l : List (ByteArray × Tree)) : List UInt8 := l.flatMap fun x => bytesT x.1 ++ textT d x.2
theorem kidsT_next {d j : Nat} {l : List (ByteArray × Tree)} {x : ByteArray × Tree} (h : l[j]? = some x) : kidsT d (l.take (j + 1)) = kidsT d (l.take j) ++ (bytesT x.1 ++ textT d x.2) := flat_take h _
theorem kidsT_len {d j : Nat} {l : List (ByteArray × Tree)} {x : ByteArray × Tree} (h : l[j]? = some x) : (kidsT d (l.take j)).length + ((bytesT x.1).length + (textT d x.2).length) ≤ (kidsT d l).length := by
  have := congrArg List.length (flat_split h (fun x => bytesT x.1 ++ textT d x.2))
  simp only [List.length_append] at this
  unfold kidsT
  omega

set_option maxRecDepth 100000 in
set_option maxHeartbeats 2000000 in
theorem wNode_any (B b : Nat) : ∀ (d : Nat) (t : Tree) (u : Value) (l : List UInt8) (w : World), Lib.IsBuilderF 74 5 B b (Lib.byteCells l) w → B ≤ w.heap.size → Tab B w → Lies w B d t.kids u → l.length + (textT d t).length ≤ 140737488355328 →
    Calls Tryd.prog 50 #[.pointer (some ⟨b, 0, none⟩), .agg #[.string t.kind, .string t.data, .bool t.exec, u]] w fun e w' => e = .returned (.tuple #[]) ∧ Wr B b (l ++ textT d t) w w' := by
  intro d
  induction d with
  | zero => intro t u l w _ _ _ hl; exact absurd hl (by simp [Lies])
  | succ d ih =>
    intro t u l w hI hB hT hl hlen
    obtain ⟨ta, tc, rfl⟩ := hl.form
    have hbw := isB_lt hI
    have hA : ∀ o, Below w.heap.size w (w.alloc o) := fun o => (Below.refl _ _).alloc (Nat.le_refl _) o
    have HWA : Hid (∀ o, Wr B b l w (w.alloc o)) := fun o => Wr.start hI (hA o) hB
    have HL : Hid (∀ o, Calls Tryd.prog 64 #[.agg #[.string t.kind, .string t.data, .bool t.exec, .slice ta t.kids.length tc]] (w.alloc o) fun e w' => e = .returned (.int .u8 ((letterOf t).toNat : Int)) ∧ Below (w.alloc o).heap.size (w.alloc o) w') := fun o => letter_any t ta tc _
    have HROW : Hid (∀ (c : Array Value) (T : TypeId), (w.alloc (.cells c T)).heap[w.heap.size]? = some (.cells c T (0, 0))) := row_alloc' w
    have HT : Hid _ := hT
    have HLI : Hid (Lies w B (d + 1) t.kids (.slice ta t.kids.length tc)) := hl
    have HIH : Hid _ := ih
    have hkl : t.kids.length ≤ 1759218604390 := hl.open.1
    clear hA hT hl ih hI
    go_enter Tryd.func50, Tryd.ntmps50
    go_wp2_with fail
    refine Calls.mono (HL.out _) ?_
    rintro e w1 ⟨rfl, hb1⟩
    have hz1 := hb1.size
    simp only [World.size_alloc] at hz1
    have HW1 : Hid (Wr B b l (w.alloc (.cells #[.string t.kind, .string t.data, .bool t.exec, .slice ta t.kids.length tc] 24)) w1) := Wr.start (HWA.out _).is hb1 (by simp; omega)
    have HWB : Hid _ := writeByte_any B b (Lib.byteCells l) ((letterOf t).toNat : Int) w1 HW1.out.is (by rw [Lib.byteCells_length]; simp only [textT, List.length_cons] at hlen; omega) (by omega)
    clear hb1 HL
    go_wp2_with fail
    refine Calls.mono HWB.out ?_
    rintro e w2 ⟨rfl, hAt, hb2, hk2⟩
    rw [cells_snoc] at hAt
    have W2 : Wr B b (l ++ [letterOf t]) (w.alloc (.cells #[.string t.kind, .string t.data, .bool t.exec, .slice ta t.kids.length tc] 24)) w2 := HW1.out.trans ⟨.inr hAt, hb2, hk2⟩
    have hrow2 := W2.row (HROW.out #[.string t.kind, .string t.data, .bool t.exec, .slice ta t.kids.length tc] 24) (by omega) (by decide)
    obtain ⟨q0, q1, q2, q3⟩ := row4w hrow2
    have W2' : Wr B b (l ++ [letterOf t]) w w2 := (HWA.out _).trans W2
    have HW2 : Hid _ := W2
    have HW2' : Hid _ := W2'
    have hz2 : w.heap.size + 1 ≤ w2.heap.size := by have := W2.below.size; simp at this; omega
    have hT2 : Tab B w2 := HT.out.on W2'.below
    cases hd : t.kind.toList == [100, 105, 114]
    · have HTX : Hid (textT (d + 1) t = letterOf t :: bytesT t.data) := show _ = _ by simp only [textT, isDir, hd, Bool.false_eq_true, if_false]
      have hd' : (t.kind.toList != [100, 105, 114]) = true := by simp only [bne, hd, Bool.not_false]
      have hle := congrArg List.length HTX.out
      simp only [List.length_cons] at hle
      have HBY : Hid _ := wByt_any B b t.data (l ++ [letterOf t]) w2 W2.is (by omega) hT2 (by simp only [List.length_append, List.length_cons, List.length_nil]; omega)
      clear hAt hb2 hk2 hrow2 W2 W2' hT2 HWB HW1 HIH
      go_wp2_with fail
      refine Calls.mono HBY.out ?_
      rintro e w3 ⟨rfl, W3⟩
      have HW3 : Hid (Wr B b (l ++ textT (d + 1) t) w w3) := by
        have := HW2'.out.trans W3
        rw [List.append_assoc, List.singleton_append] at this
        rw [HTX.out]
        exact this
      clear W3 HBY
      go_wp2_with fail
      refine bodyPost_ret (v := .tuple #[]) (by simp [results, Tryd.results50]) rfl ?_
      exact ⟨rfl, HW3.out⟩
    · have HTX : Hid (textT (d + 1) t = letterOf t :: (numT t.kids.length ++ kidsT d t.kids)) := show _ = _ by simp only [textT, isDir, hd, if_true, kidsT]
      have hd' : (t.kind.toList != [100, 105, 114]) = false := by simp only [bne, hd, Bool.not_true]
      have hle := congrArg List.length HTX.out
      simp only [List.length_cons, List.length_append] at hle
      have HNU : Hid _ := wNum_any B b t.kids.length (l ++ [letterOf t]) w2 W2.is (by omega) hT2 (by omega) (by simp only [List.length_append, List.length_cons, List.length_nil]; omega)
      clear hAt hb2 hk2 hrow2 W2 W2' hT2 HWB HW1
      go_wp2_with fail
      refine Calls.mono HNU.out ?_
      rintro e w3 ⟨rfl, W3⟩
      have W3a : Wr B b (l ++ [letterOf t] ++ numT t.kids.length) (w.alloc (.cells #[.string t.kind, .string t.data, .bool t.exec, .slice ta t.kids.length tc] 24)) w3 := HW2.out.trans W3
      have hrow3 := W3a.row (HROW.out #[.string t.kind, .string t.data, .bool t.exec, .slice ta t.kids.length tc] 24) (by omega) (by decide)
      obtain ⟨p0, p1, p2, p3⟩ := row4w hrow3
      have HW3 : Hid (Wr B b (l ++ [letterOf t] ++ numT t.kids.length) w w3) := HW2'.out.trans W3
      clear W3 W3a hrow3 HNU q0 q1 q2 q3
      go_wp2_with fail
      go_loopw [25] (fun i wr => ∃ j : Nat, j ≤ t.kids.length ∧ i = .int .i64 j ∧ Wr B b (l ++ [letterOf t] ++ numT t.kids.length ++ kidsT d (t.kids.take j)) w wr) (fun i _ => t.kids.length - (intOf i).toNat)
      case atStart => exact ⟨0, Nat.zero_le _, rfl, by simpa [kidsT] using HW3.out⟩
      case round =>
        obtain ⟨j, hj, rfl, Wj⟩ := hrel
        have HWJ : Hid _ := Wj
        have hzr : w.heap.size ≤ wr.heap.size := Wj.below.size
        by_cases hlt : j < t.kids.length
        · obtain ⟨x, hx⟩ : ∃ x, t.kids[j]? = some x := ⟨t.kids[j], List.getElem?_eq_getElem hlt⟩
          obtain ⟨kb, off, rfl, ux, K0⟩ : ∃ kb off, ta = some ⟨kb, off, none⟩ ∧ ∃ u, KidAt w B d kb off j x u := by
            rcases (Lies.open HLI.out).2 with ⟨h0, _⟩ | ⟨kb, off, cp, e, _, hk⟩
            · rw [h0] at hlt; exact absurd hlt (by simp)
            · simp only [Value.slice.injEq] at e
              exact ⟨kb, off, e.1, hk j x hx⟩
          have K := K0.below Wj.below (Nat.le_refl _)
          obtain ⟨xa, xc, rfl⟩ := K.lies.form
          have n0 := K.name
          have n1 := K.kind
          have n2 := K.data
          have n3 := K.exec
          have n4 := K.kids
          have lb : kb < wr.heap.size := by have := K.lt; omega
          have hj0 : (0 : Int) ≤ (j : Int) := by omega
          have hj1 : (j : Int) < (t.kids.length : Int) := by omega
          have hkt := kidsT_len (d := d) hx
          have hxl : (bytesT x.1).length + (textT d x.2).length + (l ++ [letterOf t] ++ numT t.kids.length ++ kidsT d (t.kids.take j)).length ≤ 140737488355328 := by
            simp only [List.length_append, List.length_cons, List.length_nil]
            omega
          have hbr := isB_lt Wj.is
          have HKN : Hid _ := kidsT_next (d := d) hx
          have HKL : Hid _ := K.lies
          have hA : ∀ o, Wr B b (l ++ [letterOf t] ++ numT t.kids.length ++ kidsT d (t.kids.take j)) wr (wr.alloc o) := fun o => Wr.start Wj.is ((Below.refl _ _).alloc (Nat.le_refl _) o) (by omega)
          have HA : Hid _ := hA
          have HBY : Hid (∀ o, Calls Tryd.prog 65 #[.pointer (some ⟨b, 0, none⟩), .string x.1] (wr.alloc o) fun e w' => e = .returned (.tuple #[]) ∧ Wr B b (l ++ [letterOf t] ++ numT t.kids.length ++ kidsT d (t.kids.take j) ++ bytesT x.1) (wr.alloc o) w') := fun o =>
            wByt_any B b x.1 _ (wr.alloc o) (hA o).is (by simp; omega) (HT.out.on (Wj.below.trans (hA o).below)) (by omega)
          have HROW2 : Hid (∀ (c : Array Value) (T : TypeId), (wr.alloc (.cells c T)).heap[wr.heap.size]? = some (.cells c T (0, 0))) := row_alloc' wr
          clear K K0 hx hkt hA Wj
          go_wp2_with fail
          refine Calls.mono (HBY.out _) ?_
          rintro e w4 ⟨rfl, W4⟩
          have hrow4 := W4.row (HROW2.out #[.string x.1, .string x.2.kind, .string x.2.data, .bool x.2.exec, .slice xa x.2.kids.length xc] 40) (by omega) (by decide)
          obtain ⟨m0, m1, m2, m3, m4⟩ := row5w hrow4
          have hz4 : wr.heap.size + 1 ≤ w4.heap.size := by have := W4.below.size; simp at this; omega
          have W4' : Wr B b (l ++ [letterOf t] ++ numT t.kids.length ++ kidsT d (t.kids.take j) ++ bytesT x.1) wr w4 := (HA.out _).trans W4
          have HW4 : Hid _ := W4'
          have HND : Hid _ := HIH.out x.2 (.slice xa x.2.kids.length xc) _ w4 W4.is (by omega) (HT.out.on (HWJ.out.below.trans W4'.below)) (HKL.out.below W4'.below (Nat.le_refl _)) (by simp only [List.length_append] at hxl ⊢; omega)
          clear W4 W4' hrow4 HBY
          go_wp2_with fail
          refine Calls.mono HND.out ?_
          rintro e w5 ⟨rfl, W5⟩
          have HW5 : Hid (Wr B b (l ++ [letterOf t] ++ numT t.kids.length ++ kidsT d (t.kids.take (j + 1))) w w5) := by
            have h5 := HWJ.out.trans (HW4.out.trans W5)
            rw [List.append_assoc _ (bytesT x.1), List.append_assoc _ (kidsT d (t.kids.take j)), ← HKN.out] at h5
            exact h5
          clear W5 HND
          go_wp2_with fail
          go_roundw
          case rel => exact ⟨j + 1, by omega, by go_num, HW5.out⟩
          case measure => simp [intOf]; omega
        · have HE : Hid (Wr B b (l ++ textT (d + 1) t) w wr) := by
            have h := Wj
            have e : l ++ [letterOf t] ++ numT t.kids.length ++ kidsT d t.kids = l ++ letterOf t :: (numT t.kids.length ++ kidsT d t.kids) := by simp
            rw [List.take_of_length_le (by omega), e, ← HTX.out] at h
            exact h
          clear Wj
          go_wp2_with fail
          go_end0
          exact ⟨rfl, HE.out⟩
end Go.Proofs.YtilkjafggfdjeaaDoor
