/-
  The contracts of the document's disk: Read, Put, Crash.
  Conditions: the disk lies in memory.
-/
import Derived.Test.YtnmknngpihjhnaaGreatDoorMkS
import Derived.Deep.RegionHeld3
import Derived.Deep.AppendLies
namespace Go.Proofs.YtnmknngpihjhnaaGreatDoor
open Go.RowKit

theorem rdR_next {bl : List (List UInt8)} {wt : List (Nat × List UInt8)} {k j : Nat} {x : Nat × List UInt8} (h : wt[j]? = some x) : rdR bl (wt.take (j + 1)) k = if x.1 = k then x.2 else rdR bl (wt.take j) k := by
  obtain ⟨hj, e⟩ := List.getElem?_eq_some_iff.1 h
  unfold rdR
  rw [List.take_succ_eq_append_getElem hj, e, List.reverse_append]
  simp only [List.reverse_singleton, List.singleton_append, List.find?_cons]
  by_cases hx : x.1 = k
  · simp [hx]
  · have : (x.1 == k) = false := by simpa using hx
    rw [this, if_neg hx]

set_option maxRecDepth 100000 in
set_option maxHeartbeats 1000000 in
theorem readM_any {mb : Nat} {la : Option Addr} {lc : Nat} {wa : Option Addr} {wcp : Nat} {bl : List (List UInt8)} {wt : List (Nat × List UInt8)} (k : Nat) (b : List UInt8) (w : World) (M : MkAt w mb la lc wa wcp bl wt) (hk : bl[k]? = some b) (hwl : wt.length ≤ 100000) :
    Calls Tryz.prog 60 #[.pointer (some ⟨mb, 0, none⟩), .int .i64 (k : Int)] w fun e w' => e = .returned (.string (sB (rdR bl wt k))) ∧ w' = w := by
  obtain ⟨c1, c2, _⟩ := M.cells
  have HM : Hid (MkAt w mb la lc wa wcp bl wt) := M
  obtain ⟨g, rfl, cl, _⟩ := M.l_at hk
  have hkl := (List.getElem?_eq_some_iff.1 hk).1
  have cl' : w.cell? ⟨g, k, none⟩ = some (.string (sB b)) := cl
  have H0 : Hid (b = rdR bl (wt.take 0) k) := by show _ = _; simp [rdR, hk]
  clear M hk cl
  go_enter Tryz.func60, Tryz.ntmps60
  go_wp2_with fail
  go_loopw [5, 6] (fun p i wr => ∃ (j : Nat) (y : List UInt8), j ≤ wt.length ∧ i = .int .i64 j ∧ p = .string (sB y) ∧ Hid (y = rdR bl (wt.take j) k) ∧ wr = w) (fun _ i _ => wt.length - (intOf i).toNat)
  case atStart => exact ⟨0, b, Nat.zero_le _, rfl, rfl, H0, rfl⟩
  case round =>
    obtain ⟨j, y, hj, rfl, rfl, HY, rfl⟩ := hrel
    by_cases hlt : j < wt.length
    · obtain ⟨x, HX⟩ : ∃ x, Hid (wt[j]? = some x) := ⟨_, List.getElem?_eq_getElem hlt⟩
      obtain ⟨gw, rfl, q0, q1, _⟩ := HM.out.w_at HX.out
      have q1' : wr.cell? ⟨gw, j * 2 + 1, none⟩ = some (.string (sB x.2)) := q1
      have HN := rdR_next (bl := bl) (k := k) HX.out
      clear q1
      by_cases hx : x.1 = k
      · have hb : ((x.1 : Int) == (k : Int)) = true := by rw [hx]; exact beq_self_eq_true _
        rw [if_pos hx] at HN
        have HN' : Hid (rdR bl (wt.take (j + 1)) k = x.2) := HN
        clear HN hx
        go_wp2_with fail
        exact ⟨⟨j + 1, x.2, by omega, by simp, rfl, (by show _ = _; rw [HN'.out]), (by first | rfl | trivial)⟩, by simp [intOf]; omega⟩
      · have hb : ((x.1 : Int) == (k : Int)) = false := beq_eq_false_iff_ne.2 (by omega)
        rw [if_neg hx] at HN
        have HN' : Hid (rdR bl (wt.take (j + 1)) k = rdR bl (wt.take j) k) := HN
        clear HN
        go_wp2_with fail
        exact ⟨⟨j + 1, y, by omega, by simp, rfl, (by show _ = _; rw [HN'.out, HY.out]), (by first | rfl | trivial)⟩, by simp [intOf]; omega⟩
    · obtain rfl : j = wt.length := by omega
      go_wp2_with fail
      go_ret
      refine ⟨?_, rfl⟩
      show Ending.returned (Value.string (sB y)) = _
      rw [HY.out, List.take_length]

theorem infoMW : (Tryz.prog.info? 107).map (fun i => (i.zero, i.size, i.bytes)) = some (some (.agg #[.int .i64 0, .string { data := #[] }]), 2, 24) := by kernel_rfl
/-- One write more waits. -/
theorem put_end {mb : Nat} {la : Option Addr} {lc : Nat} {wa : Option Addr} {wcp : Nat} {bl : List (List UInt8)} {wt : List (Nat × List UInt8)} {x : Nat × List UInt8} {w wa1 w5 w6 : World} {g cap : Nat} (M : MkAt w mb la lc wa wcp bl wt)
    (hown : w5.ownsRow (mb + 1) 107 2 (.slice (some ⟨g, 0, none⟩) (wt.length + 1) cap) (wt.length + 1) (wt.flatMap mw ++ mw x)) (hba : Below w.heap.size w wa1) (hgrow : wa1.grownBy w5 (Value.slice wa wt.length wcp).ownBlock)
    (h6 : w6 = w5.setCell ⟨mb, 1, none⟩ (.slice (some ⟨g, 0, none⟩) (wt.length + 1) cap)) :
    MkAt w6 mb la lc (some ⟨g, 0, none⟩) cap bl (wt ++ [x]) ∧ MkBut mb la wa w w6 := by
  have hlt := M.lt
  have hob : ∀ k, k < w.heap.size → (∀ a, wa = some a → k ≠ a.block) → w5.heap[k]? = w.heap[k]? := fun k hk hne => by
    rw [hgrow.block k (Nat.lt_of_lt_of_le hk hba.size) (fun e => ?_), hba.block k hk]
    cases wa with
    | none => simp [Value.ownBlock] at e
    | some a => exact hne a rfl (by simpa [Value.ownBlock] using e)
  have h6b : ∀ k, k ≠ mb → w6.heap[k]? = w5.heap[k]? := fun k hk => by rw [h6]; exact Below.heap_setCell _ _ _ _ hk
  have hg : mb + 1 ≤ g := (hown.lt g rfl).1
  have hd : w5.heap[mb]? = w.heap[mb]? := hob _ (by omega) (fun a ha => by have := (M.lowW ha).1; omega)
  refine ⟨⟨?_, ?_, ?_⟩, ⟨?_, ?_, ?_, ?_, fun k hk k1 k2 k3 => ?_⟩⟩
  · rw [h6, row_setCell (hd.trans M.disk)]
    simp
  · refine own_ext M.lrow fun k hk => ?_
    cases la with
    | none => simp [Value.ownBlock] at hk
    | some a =>
      have hk' : a.block = k := by simpa [Value.ownBlock] using hk
      have hl := M.lowL (a := a) rfl
      rw [h6b k (by omega), hob k (by omega) (fun b hb e => M.ne (a := a) rfl hb (by omega))]
  · rw [List.length_append, List.length_singleton, List.flatMap_append, List.flatMap_singleton]
    refine own_ext hown fun k hk => h6b k ?_
    have hk' : g = k := by simpa [Value.ownBlock] using hk
    omega
  · rw [h6]; exact hgrow.os.trans hba.os
  · rw [h6]; exact hgrow.tape.trans hba.tape
  · rw [h6]; exact hgrow.output.trans hba.output
  · have : w6.heap.size = w5.heap.size := by rw [h6]; simp [World.setCell]
    have := hgrow.size
    have := hba.size
    omega
  · rw [h6b k k1, hob k hk k3]

set_option maxRecDepth 100000 in
set_option maxHeartbeats 1000000 in
theorem put_any {mb : Nat} {la : Option Addr} {lc : Nat} {wa : Option Addr} {wcp : Nat} {bl : List (List UInt8)} {wt : List (Nat × List UInt8)} (k : Nat) (s : List UInt8) (w : World) (M : MkAt w mb la lc wa wcp bl wt) (hwl : wt.length ≤ 100000) :
    Calls Tryz.prog 66 #[.pointer (some ⟨mb, 0, none⟩), .int .i64 (k : Int), .string (sB s)] w fun e w' => e = .returned (.tuple #[]) ∧ ∃ wa' wcp', MkAt w' mb la lc wa' wcp' bl (wt ++ [(k, s)]) ∧ MkBut mb la wa w w' := by
  obtain ⟨c1, c2, c3⟩ := M.cells
  have f1 := c3 1
  have HM : Hid (MkAt w mb la lc wa wcp bl wt) := M
  have hlt := M.lt
  have hltE : mb < w.heap.size + 1 := by omega
  have hneE : ¬ mb = w.heap.size := by omega
  obtain ⟨i0, hi0, hz0, hz1, hz2⟩ := info_parts infoMW
  have HOW : Hid ((w.alloc (.cells #[.int .i64 (k : Int), .string (sB s)] 107)).ownsRow (mb + 1) 107 2 (.slice wa wt.length wcp) wt.length (wt.flatMap mw)) := World.ownsRow.alloc M.wrow _
  clear M c3
  go_enter Tryz.func66, Tryz.ntmps66
  go_wp2_with (at_builtin; refine wpList_append_own _ (by rfl) (.tmp 10) (.tmp 14) 65 (by rfl) (mb + 1) 107 i0 _ 2 24 Tryz.underlying65 hi0 hz0 hz1 hz2 rfl (by omega) (.slice wa wt.length wcp) wt.length (wt.flatMap mw) (by rfl) HOW.out ⟨w.heap.size, 0, none⟩ 1 1 (mw (k, s)) (by rfl) (by rfl) (World.news_of_block (cs := #[.int .i64 (k : Int), .string (sB s)]) (t := 107) (fr := (0, 0)) (heap_alloc_last w _)) (by simp [mw, sV, Value.oneCell']) (by unfold maxLen; omega) (by omega) (by simp; omega) ?_; intro v' w4 hown4 hgrow _; have c4 : w4.cell? ⟨mb, 1, none⟩ = some (.slice wa wt.length wcp) := (by rw [World.cell?_of_block (hgrow.block mb (by simp; omega) (fun e => by have := (World.ownsRow.lt HM.out.wrow _ e.symm).1; omega)), World.cell?_of_block (Below.heap_alloc _ _ _ hlt)]; exact c2); have f4 : w4.frozen? ⟨mb, 1, none⟩ = false := (by simp [World.frozen?, hgrow.block mb (by simp; omega) (fun e => by have := (World.ownsRow.lt HM.out.wrow _ e.symm).1; omega), Below.heap_alloc _ _ _ hlt, HM.out.disk]); obtain ⟨g, cap, hv'⟩ : ∃ g cap, v' = .slice (some ⟨g, 0, none⟩) (wt.length + 1) cap := (by
    rcases hown4.2 with ⟨_, e0⟩ | ⟨g, cap, cur, e, _⟩
    · omega
    · exact ⟨_, _, e⟩); subst hv')
  go_returns
  obtain ⟨h1, h2⟩ := put_end (x := (k, s)) HM.out hown4 ((Below.refl _ w).alloc (Nat.le_refl _) _) hgrow rfl
  exact ⟨rfl, _, _, h1, h2⟩
end Go.Proofs.YtnmknngpihjhnaaGreatDoor
