/-
  The contract of package disk's Rot.
  Conditions: the disk lies in memory.
-/
import Derived.Test.YtnmknngpihjhnaaGreatDoorDkB
namespace Go.Proofs.YtnmknngpihjhnaaGreatDoor
open Go.RowKit

theorem DkBut.of_heap {bb : Nat} {va : Option Addr} {w w1 w' : World} (h : DkBut bb va w w1) (e : w'.heap = w1.heap) (e1 : w'.os = w1.os) (e2 : w'.tape = w1.tape) (e3 : w'.output = w1.output) : DkBut bb va w w' :=
  ⟨e1.trans h.os, e2.trans h.tape, e3.trans h.output, by rw [e]; exact h.size, fun k a b c d => by rw [e]; exact h.block k a b c d⟩
theorem set_same {β : Type} {l : List β} {j : Nat} {x : β} (h : l[j]? = some x) : l.set j x = l := by
  apply List.ext_getElem?
  intro i
  rw [List.getElem?_set]
  by_cases e : j = i
  · subst e
    rw [if_pos rfl, h, if_pos (List.getElem?_eq_some_iff.1 h).1]
  · rw [if_neg e]
/-- A write with a bit turned, if it is of that block. -/
def rotX (k bit : Nat) (x : Nat × List UInt8) : Nat × List UInt8 := if x.1 = k then (x.1, turnL x.2 bit) else x
def rotJ (wt : List (Nat × List UInt8)) (k bit j : Nat) : List (Nat × List UInt8) := (wt.take j).map (rotX k bit) ++ wt.drop j
theorem rotJ_len (wt : List (Nat × List UInt8)) (k bit j : Nat) : (rotJ wt k bit j).length = wt.length := by simp [rotJ]; omega
theorem rotJ_at {wt : List (Nat × List UInt8)} {k bit j : Nat} {x : Nat × List UInt8} (h : wt[j]? = some x) : (rotJ wt k bit j)[j]? = some x := by
  have hj := (List.getElem?_eq_some_iff.1 h).1
  unfold rotJ
  rw [List.getElem?_append_right (by simp; omega)]
  simp [Nat.min_eq_left (Nat.le_of_lt hj), h]
theorem rotJ_next {wt : List (Nat × List UInt8)} {k bit j : Nat} {x : Nat × List UInt8} (h : wt[j]? = some x) : rotJ wt k bit (j + 1) = (rotJ wt k bit j).set j (rotX k bit x) := by
  obtain ⟨hj, e⟩ := List.getElem?_eq_some_iff.1 h
  unfold rotJ
  rw [List.set_append_right _ _ (by simp; omega)]
  have hl : j - ((wt.take j).map (rotX k bit)).length = 0 := by simp; omega
  rw [hl, List.drop_eq_getElem_cons hj, List.set_cons_zero, List.take_succ_eq_append_getElem hj, e]
  simp

set_option maxRecDepth 100000 in
set_option maxHeartbeats 2000000 in
theorem rot_any {bb : Nat} {va : Option Addr} {vc : Nat} {bl : List (List UInt8)} {wt : List (Nat × List UInt8)} (k bit : Nat) (b : List UInt8) (w : World) (D : DkAt w bb va vc bl wt) (hk : bl[k]? = some b) (hbit : bit < 128) (hwl : wt.length ≤ 100000) :
    Calls Tryz.prog 24 #[.pointer (some ⟨bb + 1, 0, none⟩), .int .i64 (k : Int), .int .i64 (bit : Int)] w fun e w' => e = .returned .nilIface ∧ DkAt w' bb va vc (bl.set k (turnL b bit)) (wt.map (rotX k bit)) ∧ DkBut bb va w w' := by
  have HH := has_any (k : Int) w D
  have hkl := (List.getElem?_eq_some_iff.1 hk).1
  rw [hasB_yes (by omega) (by omega)] at HH
  obtain ⟨c1, c2, _⟩ := D.cells
  have HT := turn_any bb (k * 16) bit b (D.bl16 b (List.mem_of_getElem? hk)) hbit w (D.block_range hk) (D.block_there hk)
  have HD1 : Hid (DkAt (w.setCell ⟨bb, k * 16 + bit / 8, none⟩ (.int .u8 ((turnB (b[bit / 8]?.getD 0) bit).toNat : Int))) bb va vc (bl.set k (turnL b bit)) wt) := D.set_byte hk (by omega) _
  clear D
  go_enter Tryz.func24, Tryz.ntmps24
  go_wp2_with (first
    | (go_at_call 47; refine HH.mono ?_; rintro e w' ⟨rfl, hw⟩; rw [hw]; clear hw)
    | (go_at_call 48; refine HT.mono ?_; rintro e w1 ⟨rfl, hh1, ho1, ht1, hp1⟩; have HD2 : Hid (DkAt w1 bb va vc (bl.set k (turnL b bit)) wt) := HD1.out.ext fun _ _ => (by rw [hh1]); have HB2 : Hid (DkBut bb va w w1) := DkBut.of_heap (DkAt.but_byte _ _) hh1 ho1 ht1 hp1; clear hh1 ho1 ht1 hp1 HT c1 c2; have d1 := HD2.out.cells.1; have d2 := HD2.out.cells.2.1))
  clear d1 d2 HH
  go_loopw [35] (fun i wr => ∃ j : Nat, j ≤ wt.length ∧ i = .int .i64 j ∧ DkAt wr bb va vc (bl.set k (turnL b bit)) (rotJ wt k bit j) ∧ DkBut bb va w wr) (fun i _ => wt.length - (intOf i).toNat)
  case atStart => exact ⟨0, Nat.zero_le _, rfl, HD2.out, HB2.out⟩
  case round =>
    obtain ⟨j, hj, rfl, D, hbut⟩ := hrel
    have HDr : Hid _ := D
    have HBUT : Hid _ := hbut
    have d2 : wr.cell? ⟨bb + 1, 1, none⟩ = some (.slice va wt.length vc) := by rw [← rotJ_len wt k bit j]; exact D.cells.2.1
    by_cases hlt : j < wt.length
    · obtain ⟨x, HX⟩ : ∃ x, Hid (wt[j]? = some x) := ⟨_, List.getElem?_eq_getElem hlt⟩
      obtain ⟨ga, rfl, hr, hth⟩ := D.write_range (rotJ_at HX.out)
      have hx16 := D.wt16 x (List.mem_of_getElem? (rotJ_at HX.out))
      have cx : wr.cell? ⟨ga, j * 17, none⟩ = some (.int .i64 (x.1 : Int)) := hr 0 _ rfl
      clear D hbut
      by_cases hxk : x.1 = k
      · have hb : ((x.1 : Int) == (k : Int)) = true := by rw [hxk]; exact beq_self_eq_true _
        have HT := turn_any ga (j * 17 + 1) bit x.2 hx16.2 hbit wr (fun i v hi => by
          have := hr (i + 1) v (by simpa [wc] using hi)
          rw [Nat.add_assoc, Nat.add_comm 1 i]; exact this) (fun i hi => by
          have := hth (i + 1) (by omega)
          rw [Nat.add_assoc, Nat.add_comm 1 i]; exact this)
        have HD3 : Hid (DkAt (wr.setCell ⟨ga, j * 17 + 1 + bit / 8, none⟩ (.int .u8 ((turnB (x.2[bit / 8]?.getD 0) bit).toNat : Int))) bb (some ⟨ga, 0, none⟩) vc (bl.set k (turnL b bit)) (rotJ wt k bit (j + 1))) := by
          rw [rotJ_next HX.out, rotX, if_pos hxk]
          exact HDr.out.set_wait (rotJ_at HX.out) rfl (by omega) _
        have HXK : Hid (x.1 = k) := hxk
        clear hr hth hxk
        go_wp2_with (go_at_call 48; refine HT.mono ?_; rintro e w3 ⟨rfl, hh1, ho1, ht1, hp1⟩; have HD4 : Hid (DkAt w3 bb (some ⟨ga, 0, none⟩) vc (bl.set k (turnL b bit)) (rotJ wt k bit (j + 1))) := HD3.out.ext fun _ _ => (by rw [hh1]); have HB4 : Hid (DkBut bb (some ⟨ga, 0, none⟩) w w3) := HBUT.out.trans (DkBut.of_heap (DkAt.but_wait rfl _ _) hh1 ho1 ht1 hp1); clear hh1 ho1 ht1 hp1 HT)
        exact ⟨⟨j + 1, by omega, by simp, HD4.out, HB4.out⟩, by simp [intOf]; omega⟩
      · have hb : ((x.1 : Int) == (k : Int)) = false := beq_eq_false_iff_ne.2 (by omega)
        have e : Hid (rotJ wt k bit (j + 1) = rotJ wt k bit j) := by
          show _ = _
          rw [rotJ_next HX.out, rotX, if_neg hxk]
          exact set_same (rotJ_at HX.out)
        clear hr hth
        go_wp2_with fail
        exact ⟨⟨j + 1, by omega, by simp, by rw [e.out]; exact HDr.out, HBUT.out⟩, by simp [intOf]; omega⟩
    · obtain rfl : j = wt.length := by omega
      clear D hbut
      go_wp2_with fail
      go_ret
      refine ⟨rfl, ?_, HBUT.out⟩
      have e : rotJ wt k bit wt.length = wt.map (rotX k bit) := by simp [rotJ]
      rw [← e]; exact HDr.out
set_option maxRecDepth 100000 in
set_option maxHeartbeats 2000000 in
theorem rot_not {bb : Nat} {va : Option Addr} {vc : Nat} {bl : List (List UInt8)} {wt : List (Nat × List UInt8)} (k bit : Int) (er : Value) (w : World) (D : DkAt w bb va vc bl wt) (hk : ¬ (hasB bl.length k = true ∧ 0 ≤ bit ∧ bit < 128)) (hE : w.cell? ⟨3, 0, none⟩ = some er) :
    Calls Tryz.prog 24 #[.pointer (some ⟨bb + 1, 0, none⟩), .int .i64 k, .int .i64 bit] w fun e w' => e = .returned er ∧ w' = w := by
  have HH := has_any k w D
  clear D
  cases hh : hasB bl.length k with
  | false =>
    rw [hh] at HH
    clear hk
    go_enter Tryz.func24, Tryz.ntmps24
    go_wp2_with (go_at_call 47; refine HH.mono ?_; rintro e w' ⟨rfl, hw⟩; rw [hw]; clear hw)
    go_ret
    exact ⟨rfl, rfl⟩
  | true =>
    rw [hh] at HH
    by_cases h0 : bit < 0
    · clear hk
      go_enter Tryz.func24, Tryz.ntmps24
      go_wp2_with (go_at_call 47; refine HH.mono ?_; rintro e w' ⟨rfl, hw⟩; rw [hw]; clear hw)
      go_ret
      exact ⟨rfl, rfl⟩
    · have h1 : ¬ bit < 128 := fun h => hk ⟨hh, by omega, h⟩
      clear hk
      go_enter Tryz.func24, Tryz.ntmps24
      go_wp2_with (go_at_call 47; refine HH.mono ?_; rintro e w' ⟨rfl, hw⟩; rw [hw]; clear hw)
      go_ret
      exact ⟨rfl, rfl⟩
end Go.Proofs.YtnmknngpihjhnaaGreatDoor
