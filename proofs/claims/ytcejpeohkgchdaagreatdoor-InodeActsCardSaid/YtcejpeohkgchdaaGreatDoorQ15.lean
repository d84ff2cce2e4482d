/-
  The contracts of the document's Is, IsUsed, Free, NeedOf and All.
  The contract of the document's Crash.
  Conditions: those that each states.
-/
import Derived.Test.YtcejpeohkgchdaaGreatDoorQ14
import Derived.BigRegion
namespace Go.Proofs.YtcejpeohkgchdaaGreatDoor
open Go.RowKit

/-- What a block's owner has to do with the blocks of the disk. -/
structure MOk (tab : List (Option Ino)) : Prop where
  len : tab.length ≤ 1000
  blocks : ∀ k x, slotT tab k = some x → x.blocks.length ≤ 1000
section
variable {w w' : World} {B mt md : Nat} {la : Option Addr} {lc : Nat} {ia : Option Addr} {ic : Nat} {bl : List (List UInt8)} {tab : List (Option Ino)} {vs : List Value}
set_option maxRecDepth 100000 in
set_option maxHeartbeats 1000000 in
theorem m_is (k : Int) (w : World) (M : MtAt w B mt md la lc ia ic bl tab vs) :
    Calls Tryz.prog 16 #[.pointer (some ⟨mt, 0, none⟩), .int .i64 k] w fun e w' => e = .returned (.bool (slotI tab k).isSome) ∧ w' = w := by
  obtain ⟨_, c1, _⟩ := M.cells
  by_cases h0 : 0 ≤ k
  · by_cases h1 : k < (tab.length : Int)
    · obtain ⟨j, rfl⟩ : ∃ j : Nat, k = (j : Int) := ⟨k.toNat, by omega⟩
      have hj : j < tab.length := by omega
      obtain ⟨v, g, _, rfl, hc, _⟩ := M.slot (List.getElem?_eq_getElem hj)
      have c0 : w.cell? ⟨g, j * 6, none⟩ = some (.bool (slotI tab (j : Int)).isSome) := by
        rw [slotI_nat, slotT_of (List.getElem?_eq_getElem hj)]
        have h := hc 0
        rw [Nat.add_zero] at h
        apply h
        cases tab[j] <;> rfl
      generalize (slotI tab (j : Int)).isSome = r at *
      have hn : ¬ (j : Int) < 0 := by omega
      have hge : ¬ (tab.length : Int) ≤ (j : Int) := by omega
      clear M hc h0
      go_enter Tryz.func16, Tryz.ntmps16
      go_wp2_with fail
      go_ret
      exact ⟨rfl, rfl⟩
    · have e : slotI tab k = none := by
        unfold slotI
        rw [if_pos h0]
        unfold slotT
        rw [List.getElem?_eq_none (by omega)]; rfl
      rw [e]
      have hn : ¬ k < 0 := by omega
      have hge : (tab.length : Int) ≤ k := by omega
      clear M h0 h1 e
      go_enter Tryz.func16, Tryz.ntmps16
      go_wp2_with fail
      go_ret
      exact ⟨rfl, rfl⟩
  · have e : slotI tab k = none := by unfold slotI; rw [if_neg h0]
    rw [e]
    have hn : k < 0 := by omega
    clear M h0 e
    go_enter Tryz.func16, Tryz.ntmps16
    go_wp2_with fail
    go_ret
    exact ⟨rfl, rfl⟩
def usedTo (tab : List (Option Ino)) (b j : Nat) : Bool := usedM (tab.take j) b
theorem usedTo_next {b j : Nat} {o : Option Ino} (h : tab[j]? = some o) : usedTo tab b (j + 1) = (usedTo tab b j || usedM [o] b) := by
  obtain ⟨hj, e⟩ := List.getElem?_eq_some_iff.1 h
  unfold usedTo usedM
  rw [List.take_succ_eq_append_getElem hj, List.any_append, e]
theorem hasTo_ints (l : List Nat) (b : Nat) : hasTo (ints l) (b : Int) (ints l).length = l.contains b := by
  unfold hasTo
  rw [List.take_length, Bool.eq_iff_iff]
  simp only [ints, List.any_map, List.any_eq_true, Function.comp, beq_iff_eq, List.contains_iff_mem]
  exact ⟨fun ⟨x, hx, h⟩ => by rw [← Int.ofNat.inj h]; exact hx, fun h => ⟨b, h, rfl⟩⟩
set_option maxRecDepth 100000 in
set_option maxHeartbeats 1000000 in
theorem m_used (b : Nat) (w : World) (M : MtAt w B mt md la lc ia ic bl tab vs) (O : MOk tab) :
    Calls Tryz.prog 107 #[.pointer (some ⟨mt, 0, none⟩), .int .i64 (b : Int)] w fun e w' => e = .returned (.bool (usedM tab b)) ∧ w' = w := by
  obtain ⟨_, c1, _⟩ := M.cells
  have HM : Hid _ := M
  have hl := O.len
  have HO : Hid _ := O
  clear M O
  go_enter Tryz.func107, Tryz.ntmps107
  go_wp2_with fail
  go_loopw [5] (fun i wr => ∃ j : Nat, j ≤ tab.length ∧ i = .int .i64 j ∧ wr = w ∧ usedTo tab b j = false) (fun i _ => tab.length - (intOf i).toNat)
  case atStart => exact ⟨0, Nat.zero_le _, rfl, rfl, rfl⟩
  case round =>
    obtain ⟨j, hj, rfl, rfl, hu⟩ := hrel
    have HU : Hid (usedTo tab b j = false) := hu
    clear hu
    by_cases hlt : j < tab.length
    · obtain ⟨o, ho⟩ : ∃ o, tab[j]? = some o := ⟨_, List.getElem?_eq_getElem hlt⟩
      obtain ⟨v, g, hv, rfl, hc, _⟩ := MtAt.slot HM.out ho
      have HN : Hid (usedTo tab b (j + 1) = usedM [o] b) := by show _ = _; rw [usedTo_next ho, HU.out]; rfl
      cases o with
      | none =>
        have c0 : wr.cell? ⟨g, j * 6, none⟩ = some (.bool false) := hc 0 _ rfl
        clear hc ho hv
        go_wp2_with fail
        exact ⟨⟨j + 1, by omega, by simp, by first | rfl | trivial, by rw [HN.out]; rfl⟩, by simp [intOf]; omega⟩
      | some x =>
        have c0 : wr.cell? ⟨g, j * 6, none⟩ = some (.bool true) := hc 0 _ rfl
        have c4 : wr.cell? ⟨g, j * 6 + 4, none⟩ = some v := hc 4 _ rfl
        have iv := MtAt.its HM.out j x v ho hv
        have HH := hasInts_any v (ints x.blocks) (b : Int) wr iv.at (by rw [ints_len]; have := MOk.blocks HO.out j x (slotT_of ho); omega)
        rw [hasTo_ints] at HH
        have HN2 : Hid (usedTo tab b (j + 1) = x.blocks.contains b) := by show _ = _; rw [HN.out]; simp [usedM]
        have HALL : Hid (x.blocks.contains b = true → usedM tab b = true) := fun h => usedM_iff.2 ⟨j, x, slotT_of ho, by simpa using h⟩
        clear hc ho hv iv
        generalize x.blocks.contains b = r at *
        cases r with
        | true =>
          have HT : Hid (usedM tab b = true) := HALL.out rfl
          go_wp2_with (go_at_call 149; refine HH.mono ?_; rintro e w2 ⟨rfl, hw⟩; rw [hw]; clear hw)
          go_ret
          exact ⟨by rw [HT.out]; rfl, rfl⟩
        | false =>
          go_wp2_with (go_at_call 149; refine HH.mono ?_; rintro e w2 ⟨rfl, hw⟩; rw [hw]; clear hw)
          exact ⟨⟨j + 1, by omega, by simp, by first | rfl | trivial, HN2.out⟩, by simp [intOf]; omega⟩
    · obtain rfl : j = tab.length := by omega
      have HF : Hid (usedM tab b = false) := by have := HU.out; unfold usedTo at this; rwa [List.take_length] at this
      go_wp2_with fail
      go_ret
      exact ⟨by rw [HF.out]; rfl, rfl⟩
set_option maxRecDepth 100000 in
theorem m_need (s : Nat) (hs : s ≤ 100000) (w : World) : Calls Tryz.prog 93 #[.int .i64 (s : Int)] w fun e w' => e = .returned (.int .i64 (needN s : Int)) ∧ w' = w := by
  have h16 : ∀ j : Nat, j < needN s ↔ (0 : Int) < (s : Int) - 16 * (j : Int) := fun j => by unfold needN; omega
  have HH : Hid _ := h16
  have hnd : needN s ≤ 10000 := by unfold needN; omega
  clear h16
  generalize needN s = nd at *
  go_enter Tryz.func93, Tryz.ntmps93
  go_wp2_with fail
  go_loopw [0, 3] (fun b n wr => ∃ j : Nat, j ≤ nd ∧ b = .int .i64 ((s : Int) - 16 * (j : Int)) ∧ n = .int .i64 j ∧ wr = w) (fun _ n _ => nd - (intOf n).toNat)
  case atStart => exact ⟨0, Nat.zero_le _, by simp, rfl, rfl⟩
  case round =>
    obtain ⟨j, hj, rfl, rfl, rfl⟩ := hrel
    by_cases hlt : j < nd
    · have hp := (HH.out j).1 hlt
      go_wp2_with fail
      exact ⟨⟨j + 1, by omega, by simp; omega, by simp, by first | rfl | trivial⟩, by simp [intOf]; omega⟩
    · obtain rfl : j = nd := by omega
      have hp : ¬ (0 : Int) < (s : Int) - 16 * (j : Int) := fun h => absurd ((HH.out j).2 h) (by omega)
      go_wp2_with fail
      go_ret
      exact ⟨rfl, rfl⟩
theorem freeM_next (tab : List (Option Ino)) (n : Nat) : freeM tab (n + 1) = if usedM tab n then freeM tab n else freeM tab n ++ [n] := by
  unfold freeM
  rw [List.range_succ, List.filter_append]
  cases h : usedM tab n <;> simp [h]
theorem freeM_len (tab : List (Option Ino)) (n : Nat) : (freeM tab n).length ≤ n := by
  unfold freeM
  exact Nat.le_trans (List.length_filter_le _ _) (by simp)
def allM (tab : List (Option Ino)) (n : Nat) : List Nat := (List.range n).filter fun k => (slotT tab k).isSome
theorem allM_next (tab : List (Option Ino)) (n : Nat) : allM tab (n + 1) = if (slotT tab n).isSome then allM tab n ++ [n] else allM tab n := by
  unfold allM
  rw [List.range_succ, List.filter_append]
  cases h : (slotT tab n).isSome <;> simp [h]
theorem allM_len (tab : List (Option Ino)) (n : Nat) : (allM tab n).length ≤ n := by
  unfold allM
  exact Nat.le_trans (List.length_filter_le _ _) (by simp)
theorem MkAt.lcell {w : World} {md : Nat} {la wa : Option Addr} {lc wcp : Nat} {bl : List (List UInt8)} {wt : List (Nat × List UInt8)} (M : MkAt w md la lc wa wcp bl wt) : w.cell? ⟨md, 0, none⟩ = some (.slice la bl.length lc) := by
  rw [cell_of_row _ _ _ _ _ _ M.disk]; rfl
set_option maxRecDepth 100000 in
set_option maxHeartbeats 2000000 in
theorem m_free (w : World) (M : MtAt w B mt md la lc ia ic bl tab vs) (O : MOk tab) (hbl : bl.length ≤ 512) :
    Calls Tryz.prog 61 #[.pointer (some ⟨mt, 0, none⟩)] w fun e w' => ∃ v, e = .returned v ∧ OwnI w' w.heap.size v (freeM tab bl.length) ∧ Below w.heap.size w w' := by
  obtain ⟨i0, hi0, hz0, hz1, hz2⟩ := info_parts infoIn
  have HM : Hid _ := M
  have HUS : Hid (∀ (b : Nat) (W : World), Below w.heap.size w W → Calls Tryz.prog 107 #[.pointer (some ⟨mt, 0, none⟩), .int .i64 (b : Int)] W fun e w' => e = .returned (.bool (usedM tab b)) ∧ w' = W) := fun b W hW => m_used b W (M.below hW) O
  have HCL : Hid (∀ W, Below w.heap.size w W → (W.cell? ⟨mt, 0, none⟩ = some (.pointer (some ⟨md, 0, none⟩)) ∧ W.cell? ⟨md, 0, none⟩ = some (.slice la bl.length lc))) := fun W hW => ⟨(M.below hW).cells.1, (M.below hW).disk.lcell⟩
  clear M O
  generalize bl.length = N at *
  go_enter Tryz.func61, Tryz.ntmps61
  go_wp2_with fail
  go_loopw [3, 4] (fun l i wr => ∃ j : Nat, j ≤ N ∧ i = .int .i64 j ∧ OwnI wr w.heap.size l (freeM tab j) ∧ Below w.heap.size w wr) (fun _ i _ => N - (intOf i).toNat)
  case atStart => exact ⟨0, Nat.zero_le _, rfl, OwnI.nil _ _, Below.refl _ _⟩
  case round =>
    obtain ⟨j, hj, rfl, ho, hb⟩ := hrel
    have HO : Hid (OwnI wr w.heap.size u3 (freeM tab j)) := ho
    have HB : Hid (Below w.heap.size w wr) := hb
    obtain ⟨c0, c1⟩ := HCL.out wr hb
    by_cases hlt : j < N
    · have HN : Hid (freeM tab (j + 1) = if usedM tab j then freeM tab j else freeM tab j ++ [j]) := freeM_next tab j
      have HC := HUS.out j wr hb
      have hwl := freeM_len tab j
      clear ho hb
      cases hp : usedM tab j with
      | false =>
        rw [hp] at HC HN
        have hsz := HB.out.size
        obtain ⟨m, xs, HMm, HO1⟩ : ∃ m xs, Hid (m = (freeM tab j).length ∧ xs = (ints (freeM tab j)).map (Value.int .i64)) ∧ Hid (∀ X, (wr.alloc X).ownsRow w.heap.size 3 1 u3 m xs) := ⟨_, _, ⟨rfl, rfl⟩, fun X => OwnI.alloc HO.out X⟩
        have hm5 : m ≤ 512 := by rw [HMm.out.1]; omega
        go_wp2_with (first
          | (go_at_call 107; refine HC.mono ?_; rintro e w2 ⟨rfl, hw⟩; rw [hw]; clear hw)
          | (at_builtin; refine wpList_append_own _ (by rfl) (.tmp 23) (.tmp 25) 36 (by rfl) w.heap.size 3 i0 _ 1 8 Tryz.underlying36 hi0 hz0 hz1 hz2 rfl (by omega) _ m _ (by rfl) (HO1.out _) ⟨wr.heap.size, 0, none⟩ 1 1 [.int .i64 (j : Int)] (by rfl) rfl (cell_one_new _ _ _) (fun u hu => by rw [List.mem_singleton.1 hu]; rfl) (by unfold maxLen; omega) (by omega) (by rw [World.size_alloc]; omega) ?_; intro v' w3 hown hgrow _))
        refine ⟨⟨j + 1, by omega, by simp, ?_, (HB.out.alloc hsz _).grown hgrow (by rw [World.size_alloc]; omega) (fun k hk => (World.ownsRow.lt HO.out k hk).1)⟩, by simp [intOf]; omega⟩
        rw [HN.out]
        obtain ⟨e1, e2⟩ := HMm.out
        rw [e1, e2] at hown
        unfold OwnI
        simpa [ints] using hown
      | true =>
        rw [hp] at HC HN
        go_wp2_with (go_at_call 107; refine HC.mono ?_; rintro e w2 ⟨rfl, hw⟩; rw [hw]; clear hw)
        refine ⟨⟨j + 1, by omega, by simp, by rw [HN.out]; exact HO.out, HB.out⟩, by simp [intOf]; omega⟩
    · obtain rfl : j = N := by omega
      clear ho hb
      go_wp2_with fail
      go_ret
      exact ⟨_, rfl, HO.out, HB.out⟩
set_option maxRecDepth 100000 in
set_option maxHeartbeats 2000000 in
theorem m_all (w : World) (M : MtAt w B mt md la lc ia ic bl tab vs) (hl : tab.length ≤ 1000) :
    Calls Tryz.prog 62 #[.pointer (some ⟨mt, 0, none⟩)] w fun e w' => ∃ v, e = .returned v ∧ OwnI w' w.heap.size v (allM tab tab.length) ∧ Below w.heap.size w w' := by
  obtain ⟨i0, hi0, hz0, hz1, hz2⟩ := info_parts infoIn
  have HM : Hid _ := M
  have HCL : Hid (∀ W, Below w.heap.size w W → (W.cell? ⟨mt, 1, none⟩ = some (.slice ia tab.length ic) ∧ ∀ j, j < tab.length → ∃ g, ia = some ⟨g, 0, none⟩ ∧ W.cell? ⟨g, j * 6, none⟩ = some (.bool (slotT tab j).isSome))) := fun W hW => ⟨(M.below hW).cells.2.1, fun j hj => by
    obtain ⟨v, g, _, e, hc, _⟩ := (M.below hW).slot (List.getElem?_eq_getElem hj)
    refine ⟨g, e, ?_⟩
    rw [slotT_of (List.getElem?_eq_getElem hj)]
    have h := hc 0
    rw [Nat.add_zero] at h
    apply h
    cases tab[j] <;> rfl⟩
  clear M
  obtain ⟨N, HNN⟩ : ∃ N, Hid (N = tab.length) := ⟨_, (rfl : tab.length = _)⟩
  rw [← HNN.out] at HCL hl ⊢
  go_enter Tryz.func62, Tryz.ntmps62
  go_wp2_with fail
  go_loopw [3, 4] (fun l i wr => ∃ j : Nat, j ≤ N ∧ i = .int .i64 j ∧ OwnI wr w.heap.size l (allM tab j) ∧ Below w.heap.size w wr) (fun _ i _ => N - (intOf i).toNat)
  case atStart => exact ⟨0, Nat.zero_le _, rfl, OwnI.nil _ _, Below.refl _ _⟩
  case round =>
    obtain ⟨j, hj, rfl, ho, hb⟩ := hrel
    have HO : Hid (OwnI wr w.heap.size u3 (allM tab j)) := ho
    have HB : Hid (Below w.heap.size w wr) := hb
    obtain ⟨c0, hcs⟩ := HCL.out wr hb
    by_cases hlt : j < N
    · obtain ⟨g, rfl, c1⟩ := hcs j hlt
      have HN : Hid (allM tab (j + 1) = if (slotT tab j).isSome then allM tab j ++ [j] else allM tab j) := allM_next tab j
      have hwl := allM_len tab j
      clear ho hb hcs
      cases hp : (slotT tab j).isSome with
      | true =>
        rw [hp] at c1 HN
        have hsz := HB.out.size
        obtain ⟨m, xs, HMm, HO1⟩ : ∃ m xs, Hid (m = (allM tab j).length ∧ xs = (ints (allM tab j)).map (Value.int .i64)) ∧ Hid (∀ X, (wr.alloc X).ownsRow w.heap.size 3 1 u3 m xs) := ⟨_, _, ⟨rfl, rfl⟩, fun X => OwnI.alloc HO.out X⟩
        have hm5 : m ≤ 1000 := by rw [HMm.out.1]; omega
        clear hp
        go_wp2_with (at_builtin; refine wpList_append_own _ (by rfl) (.tmp 22) (.tmp 24) 36 (by rfl) w.heap.size 3 i0 _ 1 8 Tryz.underlying36 hi0 hz0 hz1 hz2 rfl (by omega) _ m _ (by rfl) (HO1.out _) ⟨wr.heap.size, 0, none⟩ 1 1 [.int .i64 (j : Int)] (by rfl) rfl (cell_one_new _ _ _) (fun u hu => by rw [List.mem_singleton.1 hu]; rfl) (by unfold maxLen; omega) (by omega) (by rw [World.size_alloc]; omega) ?_; intro v' w3 hown hgrow _)
        refine ⟨⟨j + 1, by omega, by simp, ?_, (HB.out.alloc hsz _).grown hgrow (by rw [World.size_alloc]; omega) (fun k hk => (World.ownsRow.lt HO.out k hk).1)⟩, by simp [intOf]; omega⟩
        rw [HN.out]
        obtain ⟨e1, e2⟩ := HMm.out
        rw [e1, e2] at hown
        unfold OwnI
        simpa [ints] using hown
      | false =>
        rw [hp] at c1 HN
        clear hp
        go_wp2_with fail
        refine ⟨⟨j + 1, by omega, by simp, by rw [HN.out]; exact HO.out, HB.out⟩, by simp [intOf]; omega⟩
    · obtain rfl : j = N := by omega
      clear ho hb hcs
      go_wp2_with fail
      go_ret
      exact ⟨_, rfl, HO.out, HB.out⟩
end
end Go.Proofs.YtcejpeohkgchdaaGreatDoor
namespace Go.Proofs.YtcejpeohkgchdaaGreatDoor
open Go.RowKit

theorem setl_step {keep : Nat → Bool} {wt : List (Nat × List UInt8)} {bl : List (List UInt8)} {j : Nat} {x : Nat × List UInt8} (h : wt[j]? = some x) : setl keep wt bl (j + 1) = if keep j then (setl keep wt bl j).set x.1 x.2 else setl keep wt bl j := by
  show (match wt[j]? with | some x => if keep j then (setl keep wt bl j).set x.1 x.2 else setl keep wt bl j | none => setl keep wt bl j) = _
  rw [h]
theorem setl_congr {k1 k2 : Nat → Bool} {wt : List (Nat × List UInt8)} {bl : List (List UInt8)} : ∀ j, (∀ i, i < j → k1 i = k2 i) → setl k1 wt bl j = setl k2 wt bl j
  | 0, _ => rfl
  | j + 1, h => by
    have ih := setl_congr (wt := wt) (bl := bl) j (fun i hi => h i (by omega))
    unfold setl
    rw [ih, h j (by omega)]

def keepAll (all : Bool) (keep : List Int) (i : Nat) : Bool := all || hasTo keep (i : Int) keep.length
set_option maxRecDepth 100000 in
set_option maxHeartbeats 2000000 in
theorem crashM_any {mb : Nat} {la : Option Addr} {lc : Nat} {wa : Option Addr} {wcp : Nat} {bl : List (List UInt8)} {wt : List (Nat × List UInt8)} (v : Value) (keep : List Int) (all : Bool) (w : World) (M : MkAt w mb la lc wa wcp bl wt) (hwl : wt.length ≤ 100000) (hwt : ∀ x ∈ wt, x.1 < bl.length) (hv : ∀ W, MkBut mb la wa w W → IntsAt W v keep) (hkl : keep.length ≤ 100000) :
    Calls Tryz.prog 138 #[.pointer (some ⟨mb, 0, none⟩), v, .bool all] w fun e w' => e = .returned (.tuple #[]) ∧ MkAt w' mb la lc none 0 (setl (keepAll all keep) wt bl wt.length) [] ∧ MkBut mb la wa w w' := by
  have HM : Hid (MkAt w mb la lc wa wcp bl wt) := M
  have HV : Hid (∀ W, MkBut mb la wa w W → IntsAt W v keep) := hv
  obtain ⟨ka, kc, rfl, _⟩ := hv w (MkBut.of_below (Below.refl _ _))
  obtain ⟨kf, HKF⟩ : ∃ kf : Nat → Bool, kf = keepAll all keep := ⟨_, rfl⟩
  rw [← HKF]
  have HKF : Hid (kf = keepAll all keep) := HKF
  have HWT : Hid (∀ x ∈ wt, x.1 < bl.length) := hwt
  clear M hv hwt
  go_enter Tryz.func138, Tryz.ntmps138
  go_wp2_with fail
  go_loopw [6] (fun i wr => ∃ j : Nat, j ≤ wt.length ∧ i = .int .i64 j ∧ MkAt wr mb la lc wa wcp (setl kf wt bl j) wt ∧ MkBut mb la wa w wr) (fun i _ => wt.length - (intOf i).toNat)
  case atStart => exact ⟨0, Nat.zero_le _, rfl, HM.out, MkBut.of_below (Below.refl _ _)⟩
  case round =>
    obtain ⟨j, hj, rfl, M, hbut⟩ := hrel
    have HMr : Hid _ := M
    have HB : Hid _ := hbut
    obtain ⟨c1, c2, c3⟩ := M.cells
    have f1 := c3 1
    have HC1 : Hid _ := c1
    clear c3 c1
    by_cases hlt : j < wt.length
    · obtain ⟨x, HX⟩ : ∃ x, Hid (wt[j]? = some x) := ⟨_, List.getElem?_eq_getElem hlt⟩
      obtain ⟨gw, rfl, q0, q1, _⟩ := M.w_at HX.out
      have HQ0 : Hid _ := q0
      have HQ1 : Hid (wr.cell? ⟨gw, j * 2 + 1, none⟩ = some (.string (sB x.2))) := q1
      have HH := hasInts_any _ keep (j : Int) wr (HV.out wr hbut) hkl
      have HS := setl_step (keep := kf) (bl := bl) HX.out
      have hkj : kf j = (all || hasTo keep (j : Int) keep.length) := by rw [HKF.out]; rfl
      clear M hbut q0 q1
      cases hk : kf j with
      | false =>
        rw [hk] at HS hkj
        have HS' : Hid (setl kf wt bl (j + 1) = setl kf wt bl j) := HS
        obtain ⟨rfl, hh⟩ : all = false ∧ hasTo keep (j : Int) keep.length = false := by
          cases all with
          | true => exact absurd hkj (by simp)
          | false => exact ⟨rfl, (by simpa using hkj.symm)⟩
        rw [hh] at HH
        clear HS hkj hh
        go_wp2_with (go_at_call 149; refine HH.mono ?_; rintro e w' ⟨rfl, hw⟩; rw [hw]; clear hw)
        exact ⟨⟨j + 1, by omega, by simp, by rw [HS'.out]; exact HMr.out, HB.out⟩, by simp [intOf]; omega⟩
      | true =>
        rw [hk, if_pos rfl] at HS
        have HS' : Hid (setl kf wt bl (j + 1) = (setl kf wt bl j).set x.1 x.2) := HS
        have hxl := HWT.out x (List.mem_of_getElem? HX.out)
        obtain ⟨BL, HBL⟩ : ∃ BL, Hid (BL = setl kf wt bl j) := ⟨_, (rfl : setl kf wt bl j = _)⟩
        have hBl : BL.length = bl.length := by rw [HBL.out, setl_len]
        have c1 : wr.cell? ⟨mb, 0, none⟩ = some (.slice la BL.length lc) := by rw [HBL.out]; exact HC1.out
        obtain ⟨gl, rfl, cl, fl⟩ := HMr.out.l_at (k := x.1) (b := (setl kf wt bl j)[x.1]'(by rw [setl_len]; exact hxl)) (List.getElem?_eq_getElem _)
        obtain ⟨old, cl'⟩ : ∃ old, wr.cell? ⟨gl, x.1, none⟩ = some (.string old) := ⟨_, cl⟩
        have q0 := HQ0.out
        have q1 := HQ1.out
        have HE : Hid (MkAt (wr.setCell ⟨gl, x.1, none⟩ (.string (sB x.2))) mb (some ⟨gl, 0, none⟩) lc (some ⟨gw, 0, none⟩) wcp (setl kf wt bl (j + 1)) wt) := by rw [HS'.out]; exact HMr.out.set_l rfl x.2
        have HEB : Hid (MkBut mb (some ⟨gl, 0, none⟩) (some ⟨gw, 0, none⟩) w (wr.setCell ⟨gl, x.1, none⟩ (.string (sB x.2)))) := HB.out.trans (MkAt.but_l rfl _ _)
        clear HS cl
        have hxl2 : x.1 < BL.length := by omega
        cases all with
        | true =>
          clear HH hkj
          go_wp2_with fail
          go_region
          go_wp2_with fail
          exact ⟨⟨j + 1, by omega, by simp, HE.out.ext fun _ _ => rfl, MkBut.of_heap HEB.out rfl rfl rfl rfl⟩, by simp [intOf]; omega⟩
        | false =>
          have hh : hasTo keep (j : Int) keep.length = true := by rw [hk] at hkj; simpa using hkj.symm
          rw [hh] at HH
          clear hkj hh
          go_wp2_with (go_at_call 149; refine HH.mono ?_; rintro e w' ⟨rfl, hw⟩; rw [hw]; clear hw)
          go_region
          go_wp2_with fail
          exact ⟨⟨j + 1, by omega, by simp, HE.out.ext fun _ _ => rfl, MkBut.of_heap HEB.out rfl rfl rfl rfl⟩, by simp [intOf]; omega⟩
    · obtain rfl : j = wt.length := by omega
      clear M hbut
      go_wp2_with fail
      go_returns
      exact ⟨rfl, HMr.out.forget, HB.out.trans (MkAt.but_forget _ _)⟩
end Go.Proofs.YtcejpeohkgchdaaGreatDoor
