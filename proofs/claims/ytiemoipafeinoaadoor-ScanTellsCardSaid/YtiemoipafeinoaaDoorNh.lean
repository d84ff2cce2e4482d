/-
  The contract of the document's answer for a tree's mentions: stillroomref3's RefsIn.
  Conditions: the tree and the names lie in memory, and are small.
-/
import Derived.Test.YtiemoipafeinoaaDoorNf
import Derived.Test.YtiemoipafeinoaaDoorNg
import Derived.Test.YtiemoipafeinoaaDoorRefIt
namespace Go.Proofs.YtiemoipafeinoaaDoor
open Go.RowKit Go.Maps
attribute [local go_sem ↓] Go.wp_at_zero Go.wp_at_succ

theorem dir_none {t : Tree} (h : nodeErr t = none) (hd : isDir t = true) : t.data.data.toList = [] := by
  have hf : isFile t = false := by
    unfold isDir at hd
    unfold isFile
    rw [beq_iff_eq.1 hd]; decide
  rw [nodeErr, if_neg (by simp [hf]), if_pos hd] at h
  unfold dirErr at h
  split at h
  · cases h
  · rename_i hn
    cases he : t.data.toList.isEmpty with
    | false => exact absurd (.inl he) hn
    | true => rw [← ba_toList2]; exact List.isEmpty_iff.1 he
/-- What the first items mention. -/
def itM (l : List (ByteArray × Nat × Tree)) (i : Nat) : List ByteArray := (l.take i).flatMap fun x => mn x.2.2.data.data.toList
theorem itM_succ {l : List (ByteArray × Nat × Tree)} {i : Nat} {x : ByteArray × Nat × Tree} (h : l[i]? = some x) : itM l (i + 1) = itM l i ++ mn x.2.2.data.data.toList := by
  obtain ⟨hi, e⟩ := List.getElem?_eq_some_iff.1 h
  unfold itM
  rw [List.take_succ_eq_append_getElem hi, List.flatMap_append, e]
  simp
theorem itM_dir {l : List (ByteArray × Nat × Tree)} {i : Nat} {x : ByteArray × Nat × Tree} (h : l[i]? = some x) (hn : nodeErr x.2.2 = none) (hd : isDir x.2.2 = true) : itM l (i + 1) = itM l i := by
  rw [itM_succ h, dir_none hn hd]; simp [mn, ms]
/-- A list that takes others' names in. -/
def InJ (r xs : List ByteArray) (k : Nat) (q : List ByteArray) : Prop := Rising q ∧ ∀ y, y ∈ q ↔ y ∈ r ∨ y ∈ xs.take k
theorem InJ.start {r xs : List ByteArray} (h : Rising r) : InJ r xs 0 r := ⟨h, fun y => by simp⟩
theorem InJ.next {r xs q : List ByteArray} {k : Nat} {y : ByteArray} (h : InJ r xs k q) (hy : xs[k]? = some y) : InJ r xs (k + 1) (withR q y) := ⟨rising_withR h.1, fun z => by
  obtain ⟨hk, e⟩ := List.getElem?_eq_some_iff.1 hy
  rw [mem_withR, h.2, List.take_succ_eq_append_getElem hk, List.mem_append, e, List.mem_singleton]
  constructor
  · rintro (h | h | h)
    · exact .inr (.inr h)
    · exact .inl h
    · exact .inr (.inl h)
  · rintro (h | h | h)
    · exact .inr (.inl h)
    · exact .inr (.inr h)
    · exact .inl h⟩
theorem InJ.done {names M N r xs q : List ByteArray} {k : Nat} (h : InJ r xs k q) (hk : xs.length ≤ k) (h1 : IsFd names M r) (h2 : IsFd names N xs) : IsFd names (M ++ N) q := ⟨h.1, fun z => by
  rw [h.2, List.take_of_length_le hk, h1.2, h2.2, List.mem_append]
  constructor
  · rintro (⟨a, b⟩ | ⟨a, b⟩)
    · exact ⟨a, .inl b⟩
    · exact ⟨a, .inr b⟩
  · rintro ⟨a, b | b⟩
    · exact .inl ⟨a, b⟩
    · exact .inr ⟨a, b⟩⟩
theorem InJ.len {names M N r xs q : List ByteArray} {k : Nat} (h : InJ r xs k q) (h1 : IsFd names M r) (h2 : IsFd names N xs) : q.length ≤ names.length := nodup_len (h.1.imp fun h e => bl_ne h e) fun z hz => by
  rcases (h.2 z).1 hz with a | a
  · exact ((h1.2 z).1 a).1
  · exact ((h2.2 z).1 (List.mem_of_mem_take a)).1
set_option maxRecDepth 100000 in
set_option maxHeartbeats 2000000 in
theorem refsIn_any (d B : Nat) (t : Tree) (u v : Value) (names : List ByteArray) (w : World) (hB : B ≤ w.heap.size) (hl : Lies w B d t.kids u) (hok : OkItems (pre d ByteArray.empty 0 t)) (hv : Texts w v names) (hln : names.length ≤ 1000) :
    Calls Tryd.prog 13 #[.agg #[.string t.kind, .string t.data, .bool t.exec, u], v] w fun e w' => (∃ r va vc, e = .returned (.slice va r.length vc) ∧ r.length ≤ 1000 ∧ Hid (IsFd names (refM d t) r ∧ Texts w' (.slice va r.length vc) r)) ∧ Below w.heap.size w w' := by
  have hfit := Lies.fit hl
  obtain ⟨ta, tc, rfl⟩ := hl.form
  obtain ⟨ad, cap, rfl, _⟩ := id hv
  obtain ⟨w1, hw1⟩ : ∃ w1, w1 = w.alloc (.cells #[.string t.kind, .string t.data, .bool t.exec, .slice ta t.kids.length tc] 24) := ⟨_, rfl⟩
  have b1 : Below w.heap.size w w1 := by rw [hw1]; exact (Below.refl _ _).alloc (Nat.le_refl _) _
  have q1 : w1.heap[w.heap.size]? = some (.cells #[.string t.kind, .string t.data, .bool t.exec, .slice ta t.kids.length tc] 24 (0, 0)) := by rw [hw1]; exact heap_alloc_last _ _
  have HTE : Hid (Calls Tryd.prog 27 #[.agg #[.string t.kind, .string t.data, .bool t.exec, .slice ta t.kids.length tc]] w1 fun e w' => e = .returned (.int .i64 (num (treeErr d t))) ∧ Below w1.heap.size w1 w') := by
    have h := treeError_any B d d t (.slice ta t.kids.length tc) w1 (Nat.le_trans hB b1.size) (hl.below b1 hB) (dat_of hfit fun x hx => (hok x hx).2.2)
    rw [list_errs hfit] at h
    exact h
  have HL : Hid (Lies w1 B d t.kids (.slice ta t.kids.length tc)) := hl.below b1 hB
  have HV : Hid (Texts w1 (.slice ad names.length cap) names) := hv.below b1
  have HOK : Hid (OkItems (pre d ByteArray.empty 0 t)) := hok
  have HFIT : Hid (Fit d t) := hfit
  have HB1 : Hid (Below w.heap.size w w1) := b1
  have HQ1 : Hid (w1.heap[w.heap.size]? = some (.cells #[.string t.kind, .string t.data, .bool t.exec, .slice ta t.kids.length tc] 24 (0, 0))) := q1
  have HW1 : Hid (w1 = w.alloc (.cells #[.string t.kind, .string t.data, .bool t.exec, .slice ta t.kids.length tc] 24)) := hw1
  clear hl hok hv b1 q1 hw1 hfit
  go_enter Tryd.func13, Tryd.ntmps13
  go_wp2_with fail
  rw [← HW1.out]
  refine Calls.mono HTE.out ?_
  clear HTE
  rintro e w2 ⟨rfl, hb2⟩
  have HB2 : Hid (Below w.heap.size w w2) := HB1.out.trans (hb2.mono HB1.out.size)
  cases hte : treeErr d t with
  | some c =>
    have HF : Hid (IsFd names (refM d t) []) := by unfold refM; rw [if_neg (by rw [hte]; simp)]; exact fd_nil _
    have hnum : (0 : Int) < num (some c) := by show (0 : Int) < (c : Int) + 1; omega
    obtain ⟨z, hz⟩ : ∃ z, z = num (some c) := ⟨_, rfl⟩
    rw [← hz] at hnum ⊢
    clear hte hz
    go_wp2_with fail
    go_ret
    exact ⟨⟨[], none, 0, rfl, by simp, HF.out, ⟨none, 0, rfl, fun i x h => by simp at h⟩⟩, HB2.out⟩
  | none =>
    rw [show num none = 0 from rfl]
    obtain ⟨l, hll⟩ : ∃ l, l = listOf 200 8 t := ⟨_, rfl⟩
    have hpl : l = pre d ByteArray.empty 0 t := hll.trans (well_list HFIT.out hte)
    have HF : Hid (refM d t = itM l l.length) := by
      show _ = _
      unfold refM itM
      rw [if_pos hte, List.take_length, hpl, ← allM_pre]
    have HNE : Hid (∀ x ∈ l, nodeErr x.2.2 = none ∧ x.2.2.data.size ≤ 2001) := fun x hx => by
      rw [hpl] at hx
      exact ⟨((treeErr_none.1 hte).2 x hx).2, (HOK.out x hx).2.2⟩
    have hlen : l.length ≤ 200 := by rw [hpl]; exact (treeErr_none.1 hte).1
    have q2 : w2.heap[w.heap.size]? = some (.cells #[.string t.kind, .string t.data, .bool t.exec, .slice ta t.kids.length tc] 24 (0, 0)) := (hb2.block _ (lt_of_row HQ1.out)).trans HQ1.out
    have y0 : w2.cell? ⟨w.heap.size, 0, none⟩ = some (.string t.kind) := by rw [cell_of_row _ _ _ _ _ _ q2]; rfl
    have y1 : w2.cell? ⟨w.heap.size, 1, none⟩ = some (.string t.data) := by rw [cell_of_row _ _ _ _ _ _ q2]; rfl
    have y2 : w2.cell? ⟨w.heap.size, 2, none⟩ = some (.bool t.exec) := by rw [cell_of_row _ _ _ _ _ _ q2]; rfl
    have y3 : w2.cell? ⟨w.heap.size, 3, none⟩ = some (.slice ta t.kids.length tc) := by rw [cell_of_row _ _ _ _ _ _ q2]; rfl
    have HIT : Hid _ := itemsOf_any B d t (.slice ta t.kids.length tc) w2 l hll (Nat.le_trans hB HB2.out.size) (HL.out.below hb2 (Nat.le_trans hB HB1.out.size))
    have HV2 : Hid (Texts w2 (.slice ad names.length cap) names) := HV.out.below hb2
    clear hte hb2 HL HQ1 HV HFIT HOK hpl hll q2
    go_wp2_with fail
    refine Calls.mono HIT.out ?_
    clear HIT y0 y1 y2 y3
    rintro e w3 ⟨g, gc, rfl, hg, hT, hb3⟩
    have HTO : Hid (ToldAt l g w3) := hT
    have HB3 : Hid (Below w.heap.size w w3) := HB2.out.trans (hb3.mono HB2.out.size)
    have HV3 : Hid (Texts w3 (.slice ad names.length cap) names) := HV2.out.below hb3
    have HG : Hid (g < w3.heap.size) := hg
    clear hT hb3 HV2 hg
    go_wp2_with fail
    go_loopw [5, 7] (fun o i wr => ∃ (j : Nat) (r : List ByteArray) (va : Option Addr) (vc : Nat), i = .int .i64 j ∧ o = .slice va r.length vc ∧ j ≤ l.length ∧ Hid (IsFd names (itM l j) r ∧ TxR wr (.slice va r.length vc) r ∧ Below w3.heap.size w3 wr)) (fun _ i _ => l.length - (intOf i).toNat)
    case atStart => exact ⟨0, [], none, 0, rfl, rfl, Nat.zero_le _, fd_nil _, TxR.nil _, Below.refl _ _⟩
    case round =>
      obtain ⟨j, r, va, vc, rfl, rfl, hj, HI⟩ := hrel
      by_cases hlt : j < l.length
      · obtain ⟨x, hx⟩ : ∃ x, l[j]? = some x := ⟨l[j], List.getElem?_eq_getElem hlt⟩
        obtain ⟨_, p2, p3⟩ := HTO.out j x hx
        have c2 : wr.cell? ⟨g, j * 6 + 2, none⟩ = _ := (HI.out.2.2.cell (p := ⟨g, j * 6 + 2, none⟩) HG.out).trans p2
        have c3 : wr.cell? ⟨g, j * 6 + 3, none⟩ = _ := (HI.out.2.2.cell (p := ⟨g, j * 6 + 3, none⟩) HG.out).trans p3
        have hj0 : (0 : Int) ≤ (j : Int) := by omega
        have hj1 : (j : Int) < (l.length : Int) := by omega
        have HN : Hid (nodeErr x.2.2 = none ∧ x.2.2.data.size ≤ 2001) := HNE.out x (List.mem_of_getElem? hx)
        have HX : Hid (l[j]? = some x) := hx
        clear p2 p3 hx
        cases hd : (x.2.2.kind.toList == [100, 105, 114]) with
        | true =>
          have HI2 : Hid (IsFd names (itM l (j + 1)) r ∧ TxR wr (.slice va r.length vc) r ∧ Below w3.heap.size w3 wr) := ⟨by rw [itM_dir HX.out HN.out.1 hd]; exact HI.out.1, HI.out.2⟩
          go_wp2_with fail
          go_roundw
          case rel => exact ⟨j + 1, r, va, vc, by go_num, rfl, by omega, HI2⟩
          case measure => simp [intOf]; omega
        | false =>
          have HFI : Hid _ := findIn_any x.2.2.data (.slice ad names.length cap) names wr (HV3.out.below HI.out.2.2) hln (by have := HN.out.2; omega)
          go_wp2_with fail
          refine Calls.mono HFI.out ?_
          clear HFI
          rintro e w5 ⟨⟨xs, xa, xc, rfl, hxl, HXS⟩, hb5⟩
          have HI5 : Hid (IsFd names (itM l j) r ∧ TxR w5 (.slice va r.length vc) r ∧ Below w3.heap.size w3 w5) := ⟨HI.out.1, HI.out.2.1.below hb5, HI.out.2.2.trans (hb5.mono HI.out.2.2.size)⟩
          have HXT : Hid (Texts w5 (.slice xa xs.length xc) xs) := HXS.out.2.1
          have HXF : Hid (IsFd names (mn x.2.2.data.data.toList) xs) := HXS.out.1
          clear hb5 HI HXS c2 c3
          go_wp2_with fail
          go_loopw [5, 9] (fun o i wq => ∃ (k : Nat) (q : List ByteArray) (qa : Option Addr) (qc : Nat), i = .int .i64 k ∧ o = .slice qa q.length qc ∧ k ≤ xs.length ∧ Hid (InJ r xs k q ∧ TxR wq (.slice qa q.length qc) q ∧ Below w5.heap.size w5 wq)) (fun _ i _ => xs.length - (intOf i).toNat)
          case atStart => exact ⟨0, r, va, vc, rfl, rfl, Nat.zero_le _, InJ.start HI5.out.1.1, HI5.out.2.1, Below.refl _ _⟩
          case round =>
            obtain ⟨k, q, qa, qc, rfl, rfl, hk, HJ⟩ := hrel
            rename World => wq
            by_cases hltk : k < xs.length
            · obtain ⟨y, hy⟩ : ∃ y, xs[k]? = some y := ⟨xs[k], List.getElem?_eq_getElem hltk⟩
              obtain ⟨ad', cap', e, hc⟩ := HXT.out.below HJ.out.2.2
              simp only [Value.slice.injEq] at e
              obtain ⟨rfl, _, rfl⟩ := e
              obtain ⟨b1, o1, rfl, c1⟩ := hc k y hy
              have hk0 : (0 : Int) ≤ (k : Int) := by omega
              have hk1 : (k : Int) < (xs.length : Int) := by omega
              have HWI : Hid _ := with_any y (.slice qa q.length qc) q wq HJ.out.2.1 (by have := HJ.out.1.len HI5.out.1 HXF.out; omega)
              have HJN : Hid (InJ r xs (k + 1) (withR q y)) := HJ.out.1.next hy
              have HBQ : Hid (Below w5.heap.size w5 wq) := HJ.out.2.2
              clear hc hy HJ
              go_wp2_with fail
              refine Calls.mono HWI.out ?_
              clear HWI c1
              rintro e w7 ⟨⟨va2, vc2, rfl, hT7⟩, hb7⟩
              have HJ2 : Hid (InJ r xs (k + 1) (withR q y) ∧ TxR w7 (.slice va2 (withR q y).length vc2) (withR q y) ∧ Below w5.heap.size w5 w7) := ⟨HJN.out, hT7, HBQ.out.trans (hb7.mono HBQ.out.size)⟩
              clear hT7 hb7 HJN HBQ
              go_wp2_with fail
              go_roundw
              case rel => exact ⟨k + 1, _, va2, vc2, by go_num, rfl, by omega, HJ2⟩
              case measure => simp [intOf]; omega
            · have HI2 : Hid (IsFd names (itM l (j + 1)) q ∧ TxR wq (.slice qa q.length qc) q ∧ Below w3.heap.size w3 wq) := ⟨by rw [itM_succ HX.out]; exact HJ.out.1.done (by omega) HI5.out.1 HXF.out, HJ.out.2.1, HI5.out.2.2.trans (HJ.out.2.2.mono HI5.out.2.2.size)⟩
              go_wp2_with fail
              go_roundw
              case rel => exact ⟨j + 1, q, qa, qc, by go_num, rfl, by omega, HI2⟩
              case measure => simp [intOf]; omega
      · have e : j = l.length := by omega
        have HE : Hid (IsFd names (refM d t) r ∧ Texts wr (.slice va r.length vc) r) := ⟨by rw [HF.out, ← e]; exact HI.out.1, HI.out.2.1.1⟩
        have HLE : Hid (r.length ≤ 1000) := Nat.le_trans HI.out.1.len hln
        have HB5 : Hid (Below w.heap.size w wr) := HB3.out.trans (HI.out.2.2.mono HB3.out.size)
        clear HI e
        go_wp2_with fail
        go_ret
        exact ⟨⟨r, va, vc, rfl, HLE.out, HE⟩, HB5.out⟩
end Go.Proofs.YtiemoipafeinoaaDoor
