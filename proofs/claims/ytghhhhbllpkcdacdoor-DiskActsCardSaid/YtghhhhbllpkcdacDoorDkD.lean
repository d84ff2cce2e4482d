/-
  The contracts of package disk's Barrier and Crash, and of the law's own copy of numbers.
  Conditions: the disk lies in memory.
-/
import Derived.Test.YtghhhhbllpkcdacDoorDkB
namespace Go.Proofs.YtghhhhbllpkcdacDoor
open Go.RowKit

set_option maxRecDepth 100000 in
theorem bar1_any (i : Nat) (W : World) : Calls Tryd.prog 25 (#[.int .i64 (i : Int)] ++ #[]) W fun e W' => e = .returned (.bool true) ∧ W' = W := by
  show Calls Tryd.prog 25 #[.int .i64 (i : Int)] W _
  go_enter Tryd.func25, Tryd.ntmps25
  go_wp2_with fail
  go_ret
  exact ⟨rfl, rfl⟩
set_option maxRecDepth 100000 in
set_option maxHeartbeats 1000000 in
theorem barrier_any {bb : Nat} {va : Option Addr} {vc : Nat} {bl : List (List UInt8)} {wt : List (Nat × List UInt8)} (w : World) (D : DkAt w bb va vc bl wt) (hwl : wt.length ≤ 100000) :
    Calls Tryd.prog 7 #[.pointer (some ⟨bb + 1, 0, none⟩)] w fun e w' => e = .returned (.tuple #[]) ∧ DkAt w' bb none 0 (setl (fun _ => true) wt bl wt.length) [] ∧ DkBut bb va w w' := by
  have HS := settle_any 25 #[] (fun _ => true) w D hwl (enters_of Tryd.func25 (by kernel_rfl) rfl) (fun i W _ _ => bar1_any i W)
  clear D
  go_enter Tryd.func7, Tryd.ntmps7
  go_wp2_with (go_at_call 24; refine HS.mono ?_; rintro e w1 ⟨rfl, hD, hB⟩)
  go_returns
  exact ⟨rfl, hD, hB⟩

/-- Numbers in memory. -/
def IntsAt (w : World) (v : Value) (l : List Int) : Prop := ∃ ad cap, v = .slice ad l.length cap ∧ ∀ i x, l[i]? = some x → ∃ b off, ad = some ⟨b, off, none⟩ ∧ w.cell? ⟨b, off + i, none⟩ = some (.int .i64 x)
theorem IntsAt.nil (w : World) : IntsAt w (.slice none 0 0) [] := ⟨none, 0, rfl, fun i x h => by simp at h⟩
theorem IntsAt.below {w w' : World} {v : Value} {l : List Int} (h : IntsAt w v l) (hb : Below w.heap.size w w') : IntsAt w' v l := by
  obtain ⟨ad, cap, e, hc⟩ := h
  refine ⟨ad, cap, e, fun i x hx => ?_⟩
  obtain ⟨b, off, e2, h2⟩ := hc i x hx
  exact ⟨b, off, e2, by rw [hb.cell (p := ⟨b, off + i, none⟩) (World.block_lt_of_cell? w _ h2)]; exact h2⟩
/-- Which are kept, by the first j numbers. -/
def kpL (n : Nat) (keep : List Int) : Nat → List Bool
  | 0 => List.replicate n false
  | j + 1 => match keep[j]? with
    | some x => if 0 ≤ x ∧ x < (n : Int) then (kpL n keep j).set x.toNat true else kpL n keep j
    | none => kpL n keep j
theorem kpL_len (n : Nat) (keep : List Int) : ∀ j, (kpL n keep j).length = n
  | 0 => by simp [kpL]
  | j + 1 => by
    unfold kpL
    cases keep[j]? with
    | none => exact kpL_len n keep j
    | some x => by_cases h : 0 ≤ x ∧ x < (n : Int) <;> simp [h, kpL_len n keep j]
def keptB (n : Nat) (keep : List Int) (i : Nat) : Bool := (kpL n keep keep.length)[i]?.getD false
theorem infoBo : (Tryd.prog.info? 4).map (fun i => (i.zero, i.size, i.bytes)) = some (some (.bool false), 1, 1) := by kernel_rfl
theorem infoIn : (Tryd.prog.info? 3).map (fun i => (i.zero, i.size, i.bytes)) = some (some (.int .i64 0), 1, 8) := by kernel_rfl

set_option maxRecDepth 100000 in
set_option maxHeartbeats 1000000 in
theorem cr1_any (B0 B1 n i : Nat) (kl : List Bool) (W : World) (hn : kl.length = n) (hi : i < n) (h0 : W.heap[B0]? = some (.cells (kl.map Value.bool).toArray 4 (0, 0))) (h1 : W.heap[B1]? = some (.cells #[.slice (some ⟨B0, 0, none⟩) n n] 65 (0, 0))) :
    Calls Tryd.prog 28 (#[.int .i64 (i : Int)] ++ #[.pointer (some ⟨B1, 0, none⟩)]) W fun e W' => e = .returned (.bool (kl[i]?.getD false)) ∧ W' = W := by
  show Calls Tryd.prog 28 #[.int .i64 (i : Int), .pointer (some ⟨B1, 0, none⟩)] W _
  have c1 : W.cell? ⟨B1, 0, none⟩ = some (.slice (some ⟨B0, 0, none⟩) n n) := by rw [cell_of_row _ _ _ _ _ _ h1]; rfl
  have c0 : W.cell? ⟨B0, i, none⟩ = some (.bool (kl[i]?.getD false)) := by
    rw [cell_of_row _ _ _ _ _ _ h0]
    have hik : i < kl.length := by omega
    simp [hik]
  clear h0 h1 hn
  go_enter Tryd.func28, Tryd.ntmps28
  go_wp2_with fail
  go_ret
  exact ⟨rfl, rfl⟩

set_option maxRecDepth 100000 in
set_option maxHeartbeats 1000000 in
theorem crash_any {bb : Nat} {va : Option Addr} {vc : Nat} {bl : List (List UInt8)} {wt : List (Nat × List UInt8)} (v : Value) (keep : List Int) (w : World) (D : DkAt w bb va vc bl wt) (hwl : wt.length ≤ 100000) (hv : IntsAt w v keep) (hkl : keep.length ≤ 100000) :
    Calls Tryd.prog 9 #[.pointer (some ⟨bb + 1, 0, none⟩), v] w fun e w' => e = .returned (.tuple #[]) ∧ DkAt w' bb none 0 (setl (keptB wt.length keep) wt bl wt.length) [] ∧ DkBut bb va w w' := by
  obtain ⟨ad, cap, rfl, hcs⟩ := hv
  have HCS : Hid (∀ i x, keep[i]? = some x → ∃ b off, ad = some ⟨b, off, none⟩ ∧ w.cell? ⟨b, off + i, none⟩ = some (.int .i64 x)) := hcs
  have HW := waits_any w D
  have HD : Hid (DkAt w bb va vc bl wt) := D
  obtain ⟨i0, hi0, hz0, hz1, hz2⟩ := info_parts infoBo
  obtain ⟨n, hn⟩ : ∃ n, n = wt.length := ⟨_, rfl⟩
  rw [← hn] at HW
  have HN : Hid (n = wt.length) := hn
  have hnl : n ≤ 100000 := by omega
  have HM : (Instr.makeSlice 65 (.int .i64 (n : Int)) (.int .i64 (n : Int))).run Tryd.prog w = .ok (.slice (some ⟨w.heap.size, 0, none⟩) n n) (w.alloc (.cells ((List.replicate n false).map Value.bool).toArray 4)) := by
    have := run_make (P := Tryd.prog) w 65 4 i0 _ Tryd.underlying65 hi0 hz0 .i64 .i64 n n (by omega) (Int.le_refl _) (by rw [hz2]; omega) (by omega)
    simp only [Int.toNat_natCast] at this
    rw [this, hz1]
    congr 3
    apply Array.ext
    · simp [size_madeCells]
    · intro i h1 h2
      simp [madeCells, Value.cells, Nat.mod_one]
  obtain ⟨C0, hC0⟩ : ∃ C0, C0 = ((List.replicate n false).map Value.bool).toArray := ⟨_, rfl⟩
  rw [← hC0] at HM
  have HC0 : Hid (C0 = ((List.replicate n false).map Value.bool).toArray) := hC0
  clear D hcs hn hC0
  go_enter Tryd.func9, Tryd.ntmps9
  go_wp2_with (go_at_call 10; refine HW.mono ?_; rintro e w1 ⟨rfl, hw⟩; rw [hw]; clear hw)
  go_loopw [12] (fun i wr => ∃ j : Nat, j ≤ keep.length ∧ i = .int .i64 j ∧ wr.heap[w.heap.size]? = some (.cells ((kpL n keep j).map Value.bool).toArray 4 (0, 0)) ∧ wr.heap[w.heap.size + 1]? = some (.cells #[.slice (some ⟨w.heap.size, 0, none⟩) n n] 65 (0, 0)) ∧ Below w.heap.size w wr) (fun i _ => keep.length - (intOf i).toNat)
  case atStart =>
    refine ⟨0, Nat.zero_le _, rfl, ?_, ?_, ((Below.refl _ w).alloc (Nat.le_refl _) _).alloc (by simp) _⟩
    · rw [Below.heap_alloc _ _ _ (by simp), heap_alloc_last, HC0.out]; rfl
    · have h := heap_alloc_last (w.alloc (.cells C0 4)) (.cells #[.slice (some ⟨w.heap.size, 0, none⟩) n n] 65)
      rw [World.size_alloc] at h
      exact h
  case round =>
    obtain ⟨j, hj, rfl, h0, h1, hb⟩ := hrel
    have H0 : Hid _ := h0
    have H1 : Hid _ := h1
    have HB : Hid _ := hb
    have hsw := hb.size
    have hs1 : w.heap.size + 1 < wr.heap.size := (Array.getElem?_eq_some_iff.1 h1).1
    have c1 : wr.cell? ⟨w.heap.size + 1, 0, none⟩ = some (.slice (some ⟨w.heap.size, 0, none⟩) n n) := by rw [cell_of_row _ _ _ _ _ _ h1]; rfl
    by_cases hlt : j < keep.length
    · obtain ⟨x, HX⟩ : ∃ x, Hid (keep[j]? = some x) := ⟨_, List.getElem?_eq_getElem hlt⟩
      obtain ⟨b, off, rfl, hcx⟩ := HCS.out j x HX.out
      have cx : wr.cell? ⟨b, off + j, none⟩ = some (.int .i64 x) := by rw [hb.cell (p := ⟨b, off + j, none⟩) (World.block_lt_of_cell? w _ hcx)]; exact hcx
      have hne : ¬ (0 ≤ x ∧ x < (n : Int)) → Hid (kpL n keep (j + 1) = kpL n keep j) := fun hx => by
        show (match keep[j]? with | some x => if 0 ≤ x ∧ x < (n : Int) then (kpL n keep j).set x.toNat true else kpL n keep j | none => kpL n keep j) = _
        rw [HX.out]; exact if_neg hx
      by_cases hx0 : 0 ≤ x
      · obtain ⟨m, rfl⟩ : ∃ m : Nat, x = m := ⟨x.toNat, by omega⟩
        by_cases hxn : (m : Int) < (n : Int)
        · have hml : m < (kpL n keep j).length := by rw [kpL_len]; omega
          obtain ⟨y, cm⟩ : ∃ y, wr.cell? ⟨w.heap.size, m, none⟩ = some (.bool y) := ⟨(kpL n keep j)[m], by rw [cell_of_row _ _ _ _ _ _ h0]; simp [hml]⟩
          have fm : wr.frozen? ⟨w.heap.size, m, none⟩ = false := frz h0 m
          have HN1 : Hid (kpL n keep (j + 1) = (kpL n keep j).set m true) := by
            show (match keep[j]? with | some x => if 0 ≤ x ∧ x < (n : Int) then (kpL n keep j).set x.toNat true else kpL n keep j | none => kpL n keep j) = _
            rw [HX.out]; exact if_pos ⟨hx0, hxn⟩
          clear h0 h1 hb hcx hne hml
          go_wp2_with fail
          refine ⟨⟨j + 1, by omega, by simp, ?_, ?_, HB.out.setCell (p := ⟨w.heap.size, m, none⟩) (Nat.le_refl _) _⟩, by simp [intOf]; omega⟩
          · rw [row_setCell H0.out, HN1.out]
            simp [List.map_set]
          · rw [Below.heap_setCell _ _ _ _ (show w.heap.size + 1 ≠ w.heap.size by omega)]; exact H1.out
        · have HN1 := hne (fun h => hxn h.2)
          clear h0 h1 hb hcx hne
          go_wp2_with fail
          exact ⟨⟨j + 1, by omega, by simp, by rw [HN1.out]; exact H0.out, H1.out, HB.out⟩, by simp [intOf]; omega⟩
      · have HN1 := hne (fun h => hx0 h.1)
        clear h0 h1 hb hcx hne
        go_wp2_with fail
        exact ⟨⟨j + 1, by omega, by simp, by rw [HN1.out]; exact H0.out, H1.out, HB.out⟩, by simp [intOf]; omega⟩
    · obtain rfl : j = keep.length := by omega
      have Dr : DkAt wr bb va vc bl wt := HD.out.below (Nat.le_refl _) hb
      have hlD := HD.out.lt
      have HS := settle_any 28 #[.pointer (some ⟨w.heap.size + 1, 0, none⟩)] (keptB n keep) wr Dr hwl (enters_of Tryd.func28 (by kernel_rfl) rfl) (fun i W hi hW => by
        have hva : ∀ k, w.heap.size ≤ k → ∀ a : Addr, va = some a → k ≠ a.block := fun k hk a ha => by have := (HD.out.low a ha).2.1; omega
        exact cr1_any w.heap.size (w.heap.size + 1) n i (kpL n keep keep.length) W (kpL_len _ _ _) (by rw [HN.out]; exact hi) ((hW.block _ (by omega) (by omega) (by omega) (hva _ (Nat.le_refl _))).trans H0.out) ((hW.block _ (by omega) (by omega) (by omega) (hva _ (by omega))).trans H1.out))
      clear h0 h1 hb Dr
      go_wp2_with (go_at_call 24; refine HS.mono ?_; rintro e w3 ⟨rfl, hD, hB⟩)
      go_returns
      exact ⟨rfl, by rw [← HN.out]; rw [HN.out] at hD ⊢; exact hD, (DkBut.of_below HB.out).trans hB⟩

set_option maxRecDepth 100000 in
set_option maxHeartbeats 1000000 in
theorem ownInts_any (v : Value) (l : List Int) (w : World) (hv : IntsAt w v l) (hl : l.length ≤ 100000) :
    Calls Tryd.prog 13 #[v] w fun e w' => ∃ v', e = .returned v' ∧ IntsAt w' v' l ∧ Below w.heap.size w w' := by
  obtain ⟨ad, cap, rfl, hcs⟩ := hv
  obtain ⟨i0, hi0, hz0, hz1, hz2⟩ := info_parts infoIn
  have HCS : Hid (∀ i x, l[i]? = some x → ∃ b off, ad = some ⟨b, off, none⟩ ∧ w.cell? ⟨b, off + i, none⟩ = some (.int .i64 x)) := hcs
  clear hcs
  cases l with
  | nil =>
    cases ad with
    | none =>
      go_enter Tryd.func13, Tryd.ntmps13
      go_wp2_with fail
      go_ret
      exact ⟨_, rfl, IntsAt.nil _, Below.refl _ _⟩
    | some a =>
      go_enter Tryd.func13, Tryd.ntmps13
      go_wp2_with fail
      go_ret
      exact ⟨_, rfl, IntsAt.nil _, Below.refl _ _⟩
  | cons y l =>
    obtain ⟨b, off, rfl, _⟩ := HCS.out 0 y rfl
    obtain ⟨m, hm⟩ : ∃ m, m = (y :: l).length := ⟨_, rfl⟩
    have HM : Hid (m = (y :: l).length) := hm
    rw [← hm] at hl ⊢
    have hm0 : 0 < m := by rw [hm]; simp
    have HN : Hid (((y :: l).map (Value.int .i64)).length = m * 1) := by show _ = _; rw [hm]; simp
    have HC : Hid (∀ j u, ((y :: l).map (Value.int .i64))[j]? = some u → w.cell? ((⟨b, off, none⟩ : Addr).add j) = some u) := fun j u hu => by
      rw [List.getElem?_map] at hu
      cases e : (y :: l)[j]? with
      | none => rw [e] at hu; cases hu
      | some z =>
        rw [e] at hu
        simp only [Option.map_some, Option.some.injEq] at hu
        obtain ⟨b', off', e', h'⟩ := HCS.out j z e
        cases e'
        rw [Addr.add_mid, h', hu]
    have HO : Hid (∀ u ∈ (y :: l).map (Value.int .i64), u.oneCell' = true) := fun u hu => by
      obtain ⟨z, _, rfl⟩ := List.mem_map.1 hu
      rfl
    clear hm
    go_enter Tryd.func13, Tryd.ntmps13
    go_wp2_with (at_builtin; refine wpList_append_own _ (by rfl) (.tmp 4) (.tmp 5) 23 (by rfl) w.heap.size 3 i0 _ 1 8 Tryd.underlying23 hi0 hz0 hz1 hz2 rfl (by omega) (.slice none 0 0) 0 [] (by rfl) (World.ownsRow_nil _ _ _ _) ⟨b, off, none⟩ m cap ((y :: l).map (Value.int .i64)) (by rfl) HN.out HC.out HO.out (by unfold maxLen; omega) (by omega) (Nat.le_refl _) ?_; intro v' w1 hown hgrow _)
    go_ret
    refine ⟨v', rfl, ?_, ⟨hgrow.os, hgrow.tape, hgrow.output, hgrow.size, fun k hk => hgrow.block k hk (by simp [Value.ownBlock])⟩⟩
    rw [Nat.zero_add, List.nil_append] at hown
    rcases hown.2 with ⟨_, e⟩ | ⟨g, cap', cur, e, _, h2, _, _, _, h6⟩
    · omega
    · refine ⟨some ⟨g, 0, none⟩, cap', by rw [← HM.out]; exact e, fun i x hx => ⟨g, 0, rfl, ?_⟩⟩
      have hi := (List.getElem?_eq_some_iff.1 hx).1
      rw [cell_of_row _ _ _ _ _ _ h2, ← Array.getElem?_toList, Nat.zero_add]
      have : cur.toList[i]? = (cur.toList.take (m * 1))[i]? := by rw [List.getElem?_take_of_lt (by rw [HM.out]; omega)]
      rw [this, h6, List.getElem?_map, hx]; rfl
end Go.Proofs.YtghhhhbllpkcdacDoor
