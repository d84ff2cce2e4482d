/-
  The contracts of package disk's Read and settle.
  A space of blocks: what is free, taken and given back, as functions on lists; a space in memory.
  Numbers in memory: as cells, and in a row of their own; the contract of the law's own copy of numbers.
  Conditions: those that each states.
-/
import Derived.Test.YtcejpeohkgchdaaDoorK03
import Derived.Laws.IdiomStrings
import Derived.Below
import Derived.Laws.AppendOwn
import Derived.Deep.WholeRow
import Derived.Test.YtcejpeohkgchdaaDoorProg
import Derived.WalkKit
import Derived.Deep.MidRow
import Derived.LoopN
import Derived.BigQuiet
import Derived.KernelRfl
import Derived.Handy
namespace Go.Proofs.YtcejpeohkgchdaaDoor
open Go.RowKit

theorem rdR_mem {bl : List (List UInt8)} {wt : List (Nat × List UInt8)} {k : Nat} {b : List UInt8} (hk : bl[k]? = some b) : rdR bl wt k = b ∨ (k, rdR bl wt k) ∈ wt := by
  unfold rdR
  cases h : wt.reverse.find? (fun x => x.1 == k) with
  | none => left; simp [hk]
  | some x =>
    right
    have h1 := List.find?_some h
    have h2 := List.mem_of_find?_eq_some h
    have e : x.1 = k := by simpa using h1
    rw [← e]
    simpa using h2
theorem rdR_len {w : World} {bb : Nat} {va : Option Addr} {vc : Nat} {bl : List (List UInt8)} {wt : List (Nat × List UInt8)} (D : DkAt w bb va vc bl wt) {k : Nat} {b : List UInt8} (hk : bl[k]? = some b) : (rdR bl wt k).length = 16 := by
  rcases rdR_mem (wt := wt) hk with h | h
  · rw [h]; exact D.bl16 b (List.mem_of_getElem? hk)
  · exact (D.wt16 _ h).2

set_option maxRecDepth 100000 in
set_option maxHeartbeats 2000000 in
theorem read_any {bb : Nat} {va : Option Addr} {vc : Nat} {bl : List (List UInt8)} {wt : List (Nat × List UInt8)} (k : Nat) (b : List UInt8) (w : World) (D : DkAt w bb va vc bl wt) (hk : bl[k]? = some b) (hwl : wt.length ≤ 100000) :
    Calls Tryd.prog 37 #[.pointer (some ⟨bb + 1, 0, none⟩), .int .i64 (k : Int)] w fun e w' => e = .returned (.tuple #[.string ⟨(rdR bl wt k).toArray⟩, .nilIface]) ∧ Below w.heap.size w w' := by
  have HH := has_any (k : Int) w D
  have hkl := (List.getElem?_eq_some_iff.1 hk).1
  rw [hasB_yes (by omega) (by omega)] at HH
  have HL := last_any k b w D hk hwl
  have h16 := rdR_len D hk
  obtain ⟨l, hl⟩ : ∃ l, l = rdR bl wt k := ⟨_, rfl⟩
  rw [← hl] at h16 HL ⊢
  have HI : Hid ((Tryd.prog.info? 102).map (·.size) = some (bc l).length) := by show _ = _; rw [bc_len, h16]; exact info62
  have HCV : ∀ W : World, (convert 85 9 (.slice (some ⟨W.heap.size, 0, none⟩) 16 16)).run Tryd.prog (W.alloc (.cells (bc l).toArray 102)) = .ok (.string ⟨l.toArray⟩) (W.alloc (.cells (bc l).toArray 102)) := fun W => by
    have := run_convert_bytes_back (P := Tryd.prog) (W.alloc (.cells (bc l).toArray 102)) 85 9 5 ⟨W.heap.size, 0, none⟩ 16 l Tryd.underlying85 Tryd.underlying5 Tryd.underlying9 (fun j hj => by
      rw [Addr.add_mid, cell_of_row _ _ _ _ _ _ (heap_alloc_last W _)]
      simp [bc, hj])
    rw [h16] at this
    exact this
  have hl16 : Hid (16 = (bc l).length) := by show _ = _; rw [bc_len, h16]
  clear D hl hk
  go_enter Tryd.func37, Tryd.ntmps37
  go_wp2_with (first
    | (go_at_call 44; refine HH.mono ?_; rintro e w' ⟨rfl, hw⟩; rw [hw]; clear hw)
    | (go_at_call 51; refine HL.mono ?_; rintro e w1 ⟨rfl, hb1⟩)
    | refine wpList_store_new (by rfl) 102 102 _ _ (by rfl) _ (bc l) (by rfl) (by rfl) hl16.out HI.out (bc_one _) ?_)
  go_ret2
  exact ⟨rfl, hb1.alloc hb1.size _⟩
set_option maxRecDepth 100000 in
set_option maxHeartbeats 2000000 in
theorem read_not {bb : Nat} {va : Option Addr} {vc : Nat} {bl : List (List UInt8)} {wt : List (Nat × List UInt8)} (k : Int) (er : Value) (w : World) (D : DkAt w bb va vc bl wt) (hk : hasB bl.length k = false) (hE : w.cell? ⟨0, 0, none⟩ = some er) :
    Calls Tryd.prog 37 #[.pointer (some ⟨bb + 1, 0, none⟩), .int .i64 k] w fun e w' => e = .returned (.tuple #[.string { data := #[] }, er]) ∧ Below w.heap.size w w' := by
  have HH := has_any k w D
  rw [hk] at HH
  clear D
  go_enter Tryd.func37, Tryd.ntmps37
  go_wp2_with (go_at_call 44; refine HH.mono ?_; rintro e w' ⟨rfl, hw⟩; rw [hw]; clear hw)
  go_quiet (fail)
  go_wp2_with fail
  go_ret2
  exact ⟨rfl, ⟨rfl, rfl, rfl, Nat.le_refl _, fun _ _ => rfl⟩⟩

/-- Blocks behind the writes that stay, as far as the first i of them. -/
def setl (keep : Nat → Bool) (wt : List (Nat × List UInt8)) (bl : List (List UInt8)) : Nat → List (List UInt8)
  | 0 => bl
  | i + 1 => match wt[i]? with
    | some x => if keep i then (setl keep wt bl i).set x.1 x.2 else setl keep wt bl i
    | none => setl keep wt bl i
theorem setl_len (keep : Nat → Bool) (wt : List (Nat × List UInt8)) (bl : List (List UInt8)) : ∀ i, (setl keep wt bl i).length = bl.length
  | 0 => rfl
  | i + 1 => by
    unfold setl
    cases wt[i]? with
    | none => exact setl_len keep wt bl i
    | some x => by_cases h : keep i <;> simp [h, setl_len keep wt bl i]

set_option maxRecDepth 100000 in
set_option maxHeartbeats 2000000 in
theorem settle_any {bb : Nat} {va : Option Addr} {vc : Nat} {bl : List (List UInt8)} {wt : List (Nat × List UInt8)} (g : Nat) (lb : Array Value) (keep : Nat → Bool) (w : World) (D : DkAt w bb va vc bl wt) (hwl : wt.length ≤ 100000)
    (eg : ∀ args w, (callFunc g args).run Tryd.prog w = .ok (.enter g args) w)
    (HF : ∀ (i : Nat) (W : World), i < wt.length → DkBut bb va w W → Calls Tryd.prog g (#[.int .i64 (i : Int)] ++ lb) W fun e W' => e = .returned (.bool (keep i)) ∧ W' = W) :
    Calls Tryd.prog 45 #[.pointer (some ⟨bb + 1, 0, none⟩), .func (.func g) #[] lb] w fun e w' => e = .returned (.tuple #[]) ∧ DkAt w' bb none 0 (setl keep wt bl wt.length) [] ∧ DkBut bb va w w' := by
  obtain ⟨c1, c2, _⟩ := D.cells
  have HD : Hid (DkAt w bb va vc bl wt) := D
  have HFF : Hid (∀ (i : Nat) (W : World), i < wt.length → DkBut bb va w W → Calls Tryd.prog g (#[.int .i64 (i : Int)] ++ lb) W fun e W' => e = .returned (.bool (keep i)) ∧ W' = W) := HF
  clear D HF
  go_enter Tryd.func45, Tryd.ntmps45
  go_wp2_with fail
  clear c1 c2
  go_loopw [13] (fun i wr => ∃ j : Nat, j ≤ wt.length ∧ i = .int .i64 j ∧ DkAt wr bb va vc (setl keep wt bl j) wt ∧ DkBut bb va w wr) (fun i _ => wt.length - (intOf i).toNat)
  case atStart => exact ⟨0, Nat.zero_le _, rfl, HD.out, DkBut.of_below (Below.refl _ _)⟩
  case round =>
    obtain ⟨j, hj, rfl, D, hbut⟩ := hrel
    have HDr : Hid _ := D
    have HBUT : Hid _ := hbut
    by_cases hlt : j < wt.length
    · obtain ⟨x, HX⟩ : ∃ x, Hid (wt[j]? = some x) := ⟨_, List.getElem?_eq_getElem hlt⟩
      obtain ⟨ga, rfl, hr, _⟩ := D.write_range HX.out
      have hx16 := D.wt16 x (List.mem_of_getElem? HX.out)
      have HR : Hid (wr.rangeAt ga (j * 17) (wc x)) := hr
      have h17 : Hid ((Tryd.prog.info? 104).map (·.size) = some (wc x).length) := by show _ = _; rw [wc_len, hx16.2]; exact info67
      have hl17 : Hid (17 = (wc x).length) := by show _ = _; rw [wc_len, hx16.2]
      clear D hbut hr
      have HC := HFF.out j (wr.alloc (.cells (wc x).toArray 104)) hlt (HBUT.out.trans (DkBut.of_below ((Below.refl _ _).alloc (Nat.le_refl _) _)))
      cases hkeep : keep j with
      | false =>
        rw [hkeep] at HC
        go_wp2_with (first
          | refine wpList_load_mid (by rfl) 104 _ (by rfl) ga (j * 17) (by rfl) (wc x) _ HR.out Tryd.underlying104 rfl h17.out ?_
          | refine wpList_store_new (by rfl) 104 104 _ _ (by rfl) _ (wc x) (by rfl) (by rfl) hl17.out h17.out (wc_one _) ?_
          | (refine HC.mono ?_; rintro e w' ⟨rfl, hw⟩; rw [hw]; clear hw))
        refine ⟨⟨j + 1, by omega, by simp, ?_, HBUT.out.trans (DkBut.of_below ((Below.refl _ _).alloc (Nat.le_refl _) _))⟩, by simp [intOf]; omega⟩
        have e : setl keep wt bl (j + 1) = setl keep wt bl j := by
          show (match wt[j]? with | some x => if keep j then (setl keep wt bl j).set x.1 x.2 else setl keep wt bl j | none => setl keep wt bl j) = _
          rw [HX.out, hkeep]; rfl
        rw [e]
        exact HDr.out.below (Nat.le_refl _) ((Below.refl _ _).alloc (Nat.le_refl _) _)
      | true =>
        rw [hkeep] at HC
        obtain ⟨BL, HBL⟩ : ∃ BL, Hid (BL = setl keep wt bl j) := ⟨_, (rfl : setl keep wt bl j = _)⟩
        have HDB : Hid (DkAt wr bb (some ⟨ga, 0, none⟩) vc BL wt) := by rw [HBL.out]; exact HDr.out
        have hxl : x.1 < BL.length := by rw [HBL.out, setl_len]; have := (HD.out.wt16 x (List.mem_of_getElem? HX.out)).1; exact this
        have hltw := HDB.out.lt
        have DA : DkAt (wr.alloc (.cells (wc x).toArray 104)) bb (some ⟨ga, 0, none⟩) vc BL wt := HDB.out.below (Nat.le_refl _) ((Below.refl _ _).alloc (Nat.le_refl _) _)
        have hxb : BL[x.1]? = some BL[x.1] := List.getElem?_eq_getElem hxl
        have HI : Hid ((Tryd.prog.info? 102).map (·.size) = some (bc x.2).length) := by show _ = _; rw [bc_len, hx16.2]; exact info62
        have HSW : Hid ((wr.alloc (.cells (wc x).toArray 104)).drew.cell? ⟨bb + 1, 0, none⟩ = some (.slice (some ⟨bb, 0, none⟩) BL.length BL.length) ∧ (wr.alloc (.cells (wc x).toArray 104)).drew.cell? ⟨wr.heap.size, 0, none⟩ = some (.int .i64 (x.1 : Int)) ∧ (wr.alloc (.cells (wc x).toArray 104)).drew.rangeAt wr.heap.size 1 (bc x.2)) := by
          refine ⟨DA.cells.1, ?_, (World.rangeAt_drew _ _ _ _).2 fun i v hi => ?_⟩
          · have := cell_of_row _ _ 0 _ _ _ (heap_alloc_last wr (.cells (wc x).toArray 104)); exact this
          · rw [cell_of_row _ _ _ _ _ _ (heap_alloc_last wr (.cells (wc x).toArray 104))]
            simp only [wc, List.getElem?_toArray]
            rw [Nat.add_comm, List.getElem?_cons_succ]; exact hi
        have HTH : Hid ((wr.alloc (.cells (wc x).toArray 104)).drew.there bb (x.1 * 16) (bc x.2).toArray.size) := by
          show World.there _ _ _ _
          rw [World.there_drew]
          simp only [List.size_toArray, bc_len, hx16.2]
          exact DA.block_there hxb
        have HS7 : Hid (((wr.alloc (.cells (wc x).toArray 104)).drew.setCells bb (x.1 * 16) (bc x.2)).cell? ⟨bb + 1, 0, none⟩ = some (.slice (some ⟨bb, 0, none⟩) BL.length BL.length) ∧ ((wr.alloc (.cells (wc x).toArray 104)).drew.setCells bb (x.1 * 16) (bc x.2)).cell? ⟨wr.heap.size, 0, none⟩ = some (.int .i64 (x.1 : Int)) ∧ ((wr.alloc (.cells (wc x).toArray 104)).drew.setCells bb (x.1 * 16) (bc x.2)).rangeAt wr.heap.size 1 (bc x.2)) := by
          obtain ⟨g1, g2, g3⟩ := HSW.out
          refine ⟨?_, ?_, World.rangeAt_setCells_apart g3 _ _ _ (.inl (by omega))⟩
          · rw [World.cell?_of_block (block_setCells (show bb + 1 ≠ bb by omega) _ _ _)]; exact g1
          · rw [World.cell?_of_block (block_setCells (show wr.heap.size ≠ bb by omega) _ _ _)]; exact g2
        have HE : Hid (DkAt ((wr.alloc (.cells (wc x).toArray 104)).drew.setCells bb (x.1 * 16) (bc x.2)) bb (some ⟨ga, 0, none⟩) vc (BL.set x.1 x.2) wt) := DkAt.set_block (DA.ext (w' := (wr.alloc (.cells (wc x).toArray 104)).drew) fun _ _ => rfl) hxb hx16.2
        have HEB : Hid (DkBut bb (some ⟨ga, 0, none⟩) w ((wr.alloc (.cells (wc x).toArray 104)).drew.setCells bb (x.1 * 16) (bc x.2))) := (HBUT.out.trans (DkBut.of_below ((Below.refl _ _).alloc (Nat.le_refl _) _).drew)).trans (DkAt.but_block _ _)
        clear DA hxb hltw
        go_wp2_with (first
          | refine wpList_load_mid (by rfl) 104 _ (by rfl) ga (j * 17) (by rfl) (wc x) _ HR.out Tryd.underlying104 rfl h17.out ?_
          | refine wpList_store_new (by rfl) 104 104 _ _ (by rfl) _ (wc x) (by rfl) (by rfl) hl17.out h17.out (wc_one _) ?_
          | (refine HC.mono ?_; rintro e w' ⟨rfl, hw⟩; rw [hw]; clear hw))
        refine wp_region_held_drew (S := fun w' => w'.cell? ⟨bb + 1, 0, none⟩ = some (.slice (some ⟨bb, 0, none⟩) BL.length BL.length) ∧ w'.cell? ⟨wr.heap.size, 0, none⟩ = some (.int .i64 (x.1 : Int)) ∧ w'.rangeAt wr.heap.size 1 (bc x.2)) (by kernel_rfl) (HSW.out) (fun hHeld => ?_)
        refine wpAnyH_take (i := 0) (v := .pointer (some ⟨bb + 1, 0, none⟩)) rfl (by kernel_rfl) (by kernel_rfl) (by kernel_rfl) (fun _ _ _ h => h) (Or.inl ⟨by rfl, ?_⟩) hHeld ?_
        · intro w hSw; (try dsimp only at hSw); simp only [List.getElem_toArray, List.getElem_cons_zero]; go_simp
        simp only [List.getElem_toArray, List.getElem_cons_zero, Act.put, List.setIfInBounds_toArray, List.set_cons_zero, List.set_cons_succ]
        refine wpAnyH_take (i := 1) (v := .pointer (some ⟨bb + 1, 0, none⟩)) rfl (by kernel_rfl) (by kernel_rfl) (by kernel_rfl) (fun _ _ _ h => h) (Or.inl ⟨by rfl, ?_⟩) hHeld ?_
        · intro w hSw; (try dsimp only at hSw); simp only [List.getElem_toArray, List.getElem_cons_zero, List.getElem_cons_succ]; go_simp
        simp only [List.getElem_toArray, List.getElem_cons_zero, List.getElem_cons_succ, Act.put, List.setIfInBounds_toArray, List.set_cons_zero, List.set_cons_succ]
        refine wpAnyH_take (i := 2) (v := .pointer (some ⟨bb + 1, 0, none⟩)) rfl (by kernel_rfl) (by kernel_rfl) (by kernel_rfl) (fun _ _ _ h => h) (Or.inl ⟨by rfl, ?_⟩) hHeld ?_
        · intro w hSw; (try dsimp only at hSw); simp only [List.getElem_toArray, List.getElem_cons_zero, List.getElem_cons_succ]; go_simp
        simp only [List.getElem_toArray, List.getElem_cons_zero, List.getElem_cons_succ, Act.put, List.setIfInBounds_toArray, List.set_cons_zero, List.set_cons_succ]
        refine wpAnyH_take (i := 3) (v := .slice (some ⟨bb, 0, none⟩) BL.length BL.length) rfl (by kernel_rfl) (by kernel_rfl) (by kernel_rfl) (fun _ _ _ h => h) (Or.inl ⟨by rfl, ?_⟩) hHeld ?_
        · intro w hSw; (try dsimp only at hSw); simp only [List.getElem_toArray, List.getElem_cons_zero, List.getElem_cons_succ]; go_simp
        simp only [List.getElem_toArray, List.getElem_cons_zero, List.getElem_cons_succ, Act.put, List.setIfInBounds_toArray, List.set_cons_zero, List.set_cons_succ]
        refine wpAnyH_take (i := 4) (v := .pointer (some ⟨wr.heap.size, 0, none⟩)) rfl (by kernel_rfl) (by kernel_rfl) (by kernel_rfl) (fun _ _ _ h => h) (Or.inl ⟨by rfl, ?_⟩) hHeld ?_
        · intro w hSw; (try dsimp only at hSw); simp only [List.getElem_toArray, List.getElem_cons_zero, List.getElem_cons_succ]; go_simp
        simp only [List.getElem_toArray, List.getElem_cons_zero, List.getElem_cons_succ, Act.put, List.setIfInBounds_toArray, List.set_cons_zero, List.set_cons_succ]
        refine wpAnyH_take (i := 5) (v := .int .i64 (x.1 : Int)) rfl (by kernel_rfl) (by kernel_rfl) (by kernel_rfl) (fun _ _ _ h => h) (Or.inl ⟨by rfl, ?_⟩) hHeld ?_
        · intro w hSw; (try dsimp only at hSw); simp only [List.getElem_toArray, List.getElem_cons_zero, List.getElem_cons_succ]; go_simp
        simp only [List.getElem_toArray, List.getElem_cons_zero, List.getElem_cons_succ, Act.put, List.setIfInBounds_toArray, List.set_cons_zero, List.set_cons_succ]
        refine wpAnyH_take (i := 6) (v := .pointer (some ⟨wr.heap.size, 1, none⟩)) rfl (by kernel_rfl) (by kernel_rfl) (by kernel_rfl) (fun _ _ _ h => h) (Or.inl ⟨by rfl, ?_⟩) hHeld ?_
        · intro w hSw; (try dsimp only at hSw); simp only [List.getElem_toArray, List.getElem_cons_zero, List.getElem_cons_succ]; go_simp
        simp only [List.getElem_toArray, List.getElem_cons_zero, List.getElem_cons_succ, Act.put, List.setIfInBounds_toArray, List.set_cons_zero, List.set_cons_succ]
        refine wpAnyH_take (i := 7) (v := .agg (bc x.2).toArray) rfl (by kernel_rfl) (by kernel_rfl) (by kernel_rfl) (fun _ _ _ h => h) (yieldsIf_load_mid (by rfl) 102 _ (by rfl) wr.heap.size 1 (by rfl) (bc x.2) _ (fun w h => h.2.2) Tryd.underlying102 rfl HI.out) hHeld ?_
        simp only [List.getElem_toArray, List.getElem_cons_zero, List.getElem_cons_succ, Act.put, List.setIfInBounds_toArray, List.set_cons_zero, List.set_cons_succ]
        refine wpAnyH_take (i := 8) (v := .pointer (some ⟨bb, x.1 * 16, none⟩)) rfl (by kernel_rfl) (by kernel_rfl) (by kernel_rfl) (fun _ _ _ h => h) (Or.inl ⟨by rfl, ?_⟩) hHeld ?_
        · intro w hSw; (try dsimp only at hSw); simp only [List.getElem_toArray, List.getElem_cons_zero, List.getElem_cons_succ]; go_simp
        simp only [List.getElem_toArray, List.getElem_cons_zero, List.getElem_cons_succ, Act.put, List.setIfInBounds_toArray, List.set_cons_zero, List.set_cons_succ]
        refine wpAnyH_ready (rs := [9]) (by kernel_rfl) (by simp) ?_
        refine AllReadyH.cons rfl (fun K' hK' => ?_) AllReadyH.nil
        refine step_store_mid (by rfl) 102 _ _ (by rfl) bb (x.1 * 16) (bc x.2).toArray (by rfl) (by rfl) HTH.out (by simpa using HI.out) (all_oneCell_toArray (bc_one x.2)) ?_
        simp only [List.getElem_toArray, List.getElem_cons_zero, List.getElem_cons_succ, Act.put]
        refine hK'.out _ _ HS7.out (fun hHeld' => ?_)
        clear hK' K' hHeld
        have hHeld := hHeld'
        clear hHeld'
        refine wpAnyH_done (by kernel_rfl) ?_ _
        go_wp2_with fail
        refine ⟨⟨j + 1, by omega, by simp, ?_, HEB.out⟩, by simp [intOf]; omega⟩
        have e : setl keep wt bl (j + 1) = BL.set x.1 x.2 := by
          show (match wt[j]? with | some x => if keep j then (setl keep wt bl j).set x.1 x.2 else setl keep wt bl j | none => setl keep wt bl j) = _
          rw [HX.out, hkeep, HBL.out]; rfl
        rw [e]
        exact HE.out
    · obtain rfl : j = wt.length := by omega
      obtain ⟨c1, c2, c3⟩ := D.cells
      clear D hbut
      go_wp2_with fail
      go_returns
      exact ⟨rfl, HDr.out.forget, HBUT.out.trans (DkAt.but_forget _)⟩
end Go.Proofs.YtcejpeohkgchdaaDoor
namespace Go.Proofs.YtcejpeohkgchdaaDoor
open Go.RowKit

/-- The blocks below n that are wanted by what is used. -/
def whereR (p : Bool → Bool) (u : List Bool) (n : Nat) : List Nat := (List.range n).filter fun k => p (u[k]?.getD false)
def freeR (u : List Bool) : List Nat := whereR (fun b => !b) u u.length
def usedR (u : List Bool) : List Nat := whereR id u u.length
def markR (u : List Bool) (b : Bool) : List Nat → List Bool
  | [] => u
  | k :: l => markR (u.set k b) b l
/-- Can these be given back, one by one? -/
def giveR (u : List Bool) : List Nat → Bool
  | [] => true
  | k :: l => u[k]?.getD false && giveR (u.set k false) l
theorem whereR_next (p : Bool → Bool) (u : List Bool) (n : Nat) : whereR p u (n + 1) = if p (u[n]?.getD false) then whereR p u n ++ [n] else whereR p u n := by
  unfold whereR
  rw [List.range_succ, List.filter_append]
  by_cases h : p (u[n]?.getD false) = true <;> simp [h]
theorem whereR_lt {p : Bool → Bool} {u : List Bool} {n k : Nat} (h : k ∈ whereR p u n) : k < n := by
  unfold whereR at h
  simpa using (List.mem_filter.1 h).1
theorem whereR_len (p : Bool → Bool) (u : List Bool) (n : Nat) : (whereR p u n).length ≤ n := by
  unfold whereR
  exact Nat.le_trans (List.length_filter_le _ _) (by simp)
theorem whereR_nodup (p : Bool → Bool) (u : List Bool) (n : Nat) : (whereR p u n).Nodup := List.Pairwise.filter _ List.nodup_range
theorem mem_free {u : List Bool} {k : Nat} : k ∈ freeR u ↔ u[k]? = some false := by
  unfold freeR whereR
  simp only [List.mem_filter, List.mem_range, Bool.not_eq_true']
  constructor
  · rintro ⟨h1, h2⟩
    rw [List.getElem?_eq_getElem h1] at h2 ⊢
    simpa using h2
  · intro h
    exact ⟨(List.getElem?_eq_some_iff.1 h).1, by rw [h]; rfl⟩
theorem mem_used {u : List Bool} {k : Nat} : k ∈ usedR u ↔ u[k]? = some true := by
  unfold usedR whereR
  simp only [List.mem_filter, List.mem_range, id]
  constructor
  · rintro ⟨h1, h2⟩
    rw [List.getElem?_eq_getElem h1] at h2 ⊢
    simpa using h2
  · intro h
    exact ⟨(List.getElem?_eq_some_iff.1 h).1, by rw [h]; rfl⟩
theorem free_used_len (u : List Bool) : (freeR u).length + (usedR u).length = u.length := by
  have : ∀ n, (whereR (fun b => !b) u n).length + (whereR id u n).length = n := by
    intro n
    induction n with
    | zero => simp [whereR]
    | succ n ih =>
      rw [whereR_next, whereR_next]
      cases u[n]?.getD false <;> simp <;> omega
  exact this u.length
theorem markR_len (b : Bool) : ∀ (l : List Nat) (u : List Bool), (markR u b l).length = u.length
  | [], _ => rfl
  | k :: l, u => by rw [markR, markR_len b l]; simp
theorem markR_not {b : Bool} : ∀ {l : List Nat} {u : List Bool} {k : Nat}, k ∉ l → (markR u b l)[k]? = u[k]?
  | [], _, _, _ => rfl
  | j :: l, u, k, h => by
    have hne : j ≠ k := fun e => h (by rw [e]; exact List.mem_cons_self)
    rw [markR, markR_not (fun hk => h (List.mem_cons_of_mem _ hk)), List.getElem?_set_ne hne]
theorem markR_in {b : Bool} : ∀ {l : List Nat} {u : List Bool} {k : Nat}, k ∈ l → k < u.length → (markR u b l)[k]? = some b
  | j :: l, u, k, h, hk => by
    rw [markR]
    by_cases hl : k ∈ l
    · exact markR_in hl (by simpa using hk)
    · rw [markR_not hl]
      rcases List.mem_cons.1 h with rfl | h
      · rw [List.getElem?_set_self hk]
      · exact absurd h hl
theorem markR_snoc (b : Bool) : ∀ (l : List Nat) (u : List Bool) (k : Nat), markR u b (l ++ [k]) = (markR u b l).set k b
  | [], _, _ => rfl
  | j :: l, u, k => by rw [List.cons_append, markR, markR, markR_snoc b l]
theorem giveR_snoc : ∀ (l : List Nat) (u : List Bool) (k : Nat), giveR u (l ++ [k]) = (giveR u l && (markR u false l)[k]?.getD false)
  | [], u, k => by simp [giveR, markR]
  | j :: l, u, k => by rw [List.cons_append, giveR, giveR, giveR_snoc l, markR, Bool.and_assoc]
theorem giveR_iff : ∀ (l : List Nat) (u : List Bool), giveR u l = true ↔ l.Nodup ∧ ∀ k ∈ l, u[k]? = some true
  | [], u => by simp [giveR]
  | j :: l, u => by
    rw [giveR, Bool.and_eq_true, giveR_iff l, List.nodup_cons]
    constructor
    · rintro ⟨h1, h2, h3⟩
      have hj : u[j]? = some true := by
        cases h : u[j]? with
        | none => rw [h] at h1; cases h1
        | some b => rw [h] at h1; simpa using h1
      have hjl := (List.getElem?_eq_some_iff.1 hj).1
      have hn : j ∉ l := fun hm => by
        have := h3 j hm
        rw [List.getElem?_set_self hjl] at this
        cases this
      refine ⟨⟨hn, h2⟩, fun k hk => ?_⟩
      rcases List.mem_cons.1 hk with rfl | hk
      · exact hj
      · have := h3 k hk
        have hne : j ≠ k := fun e => hn (by rw [e]; exact hk)
        rwa [List.getElem?_set_ne hne] at this
    · rintro ⟨⟨h1, h2⟩, h3⟩
      refine ⟨by rw [h3 j List.mem_cons_self]; rfl, h2, fun k hk => ?_⟩
      have hne : j ≠ k := fun e => h1 (by rw [e]; exact hk)
      rw [List.getElem?_set_ne hne]
      exact h3 k (List.mem_cons_of_mem _ hk)

/-- Marks in a row of their own. -/
def RowB (w : World) (b cap : Nat) (u : List Bool) : Prop := w.ownsRow 0 4 1 (.slice (some ⟨b, 0, none⟩) u.length cap) u.length (u.map Value.bool)
namespace RowB
variable {w w' : World} {b cap : Nat} {u : List Bool}
theorem of_owns {B : Nat} (h : w.ownsRow B 4 1 (.slice (some ⟨b, 0, none⟩) u.length cap) u.length (u.map Value.bool)) : RowB w b cap u := by
  refine ⟨h.1, ?_⟩
  rcases h.2 with ⟨h, _⟩ | ⟨g, c, cur, e, _, h1⟩
  · simp at h
  · exact .inr ⟨g, c, cur, e, Nat.zero_le _, h1⟩
theorem row (S : RowB w b cap u) : ∃ cur, w.heap[b]? = some (.cells cur 4 (0, 0)) ∧ u.length ≤ cap ∧ cap ≤ maxLen ∧ cur.size = cap ∧ cur.toList.take u.length = u.map Value.bool := by
  rcases S.2 with ⟨h, _⟩ | ⟨g, c, cur, e, _, h1, h2, h3, h4, h5⟩
  · simp at h
  · simp only [Value.slice.injEq, Option.some.injEq, Addr.mk.injEq, true_and, and_true] at e
    obtain ⟨rfl, rfl⟩ := e
    exact ⟨cur, h1, h2, h3, by rw [h4, Nat.mul_one], by rw [← h5, Nat.mul_one]⟩
theorem mark (S : RowB w b cap u) {k : Nat} {x : Bool} (h : u[k]? = some x) : w.cell? ⟨b, k, none⟩ = some (.bool x) := by
  obtain ⟨cur, h1, _, _, _, h5⟩ := S.row
  have hk := (List.getElem?_eq_some_iff.1 h).1
  rw [cell_of_row _ _ _ _ _ _ h1, ← Array.getElem?_toList]
  have : cur.toList[k]? = (cur.toList.take u.length)[k]? := by rw [List.getElem?_take_of_lt hk]
  rw [this, h5, List.getElem?_map, h]; rfl
theorem frozen (S : RowB w b cap u) (k : Nat) : w.frozen? ⟨b, k, none⟩ = false := by
  obtain ⟨cur, h1, _⟩ := S.row
  simp [World.frozen?, h1]
theorem lt (S : RowB w b cap u) : b < w.heap.size := by
  obtain ⟨cur, h1, _⟩ := S.row
  exact (Array.getElem?_eq_some_iff.1 h1).1
theorem keep (S : RowB w b cap u) (hb : w'.heap[b]? = w.heap[b]?) : RowB w' b cap u := by
  refine ⟨S.1, ?_⟩
  rcases S.2 with ⟨h, _⟩ | ⟨g, c, cur, e, h0, h1, h2⟩
  · simp at h
  · simp only [Value.slice.injEq, Option.some.injEq, Addr.mk.injEq, true_and, and_true] at e
    obtain ⟨rfl, rfl⟩ := e
    exact .inr ⟨b, cap, cur, rfl, h0, by rw [hb]; exact h1, h2⟩
theorem below (S : RowB w b cap u) (hb : Below w.heap.size w w') : RowB w' b cap u := S.keep (hb.block _ S.lt)
theorem ne (S : RowB w b cap u) {k : Nat} {cur : Array Value} {t : TypeId} {f : Nat × Nat} (h : w.heap[k]? = some (.cells cur t f)) (ht : t ≠ 4) : k ≠ b := fun e => by
  obtain ⟨cur', h1, _⟩ := S.row
  rw [e, h1] at h
  simp only [Option.some.injEq, Obj.cells.injEq] at h
  exact ht h.2.1.symm
theorem set (S : RowB w b cap u) (k : Nat) (x : Bool) : RowB (w.setCell ⟨b, k, none⟩ (.bool x)) b cap (u.set k x) := by
  obtain ⟨cur, h1, h2, h3, h4, h5⟩ := S.row
  have hr : (w.setCell ⟨b, k, none⟩ (.bool x)).heap[b]? = some (.cells (cur.toList.set k (.bool x)).toArray 4 (0, 0)) := by
    simp [World.setCell, Array.getElem?_modify, h1]
    apply Array.ext'; simp
  refine ⟨by simp, .inr ⟨b, cap, _, by simp, Nat.zero_le _, hr, by simpa using h2, h3, by simpa using h4, ?_⟩⟩
  simp only [List.length_set, Nat.mul_one, List.take_set]
  rw [h5, List.map_set]
end RowB
/-- A space in memory: itself in block p, its marks in block b. -/
structure SpAt (w : World) (p b cap : Nat) (u : List Bool) : Prop where
  box : w.heap[p]? = some (.cells #[.slice (some ⟨b, 0, none⟩) u.length cap] 96 (0, 0))
  own : RowB w b cap u
namespace SpAt
variable {w w' : World} {p b cap : Nat} {u : List Bool}
theorem row (S : SpAt w p b cap u) : ∃ cur, w.heap[b]? = some (.cells cur 4 (0, 0)) ∧ u.length ≤ cap ∧ cap ≤ maxLen ∧ cur.size = cap ∧ cur.toList.take u.length = u.map Value.bool := S.own.row
theorem cell (S : SpAt w p b cap u) : w.cell? ⟨p, 0, none⟩ = some (.slice (some ⟨b, 0, none⟩) u.length cap) := by rw [cell_of_row _ _ _ _ _ _ S.box]; rfl
theorem mark (S : SpAt w p b cap u) {k : Nat} {x : Bool} (h : u[k]? = some x) : w.cell? ⟨b, k, none⟩ = some (.bool x) := S.own.mark h
theorem frozen (S : SpAt w p b cap u) (k : Nat) : w.frozen? ⟨b, k, none⟩ = false := S.own.frozen k
theorem lt (S : SpAt w p b cap u) : p < w.heap.size ∧ b < w.heap.size := ⟨(Array.getElem?_eq_some_iff.1 S.box).1, S.own.lt⟩
theorem keep (S : SpAt w p b cap u) (hp : w'.heap[p]? = w.heap[p]?) (hb : w'.heap[b]? = w.heap[b]?) : SpAt w' p b cap u := ⟨by rw [hp]; exact S.box, S.own.keep hb⟩
theorem below (S : SpAt w p b cap u) (hb : Below w.heap.size w w') : SpAt w' p b cap u := S.keep (hb.block _ S.lt.1) (hb.block _ S.lt.2)
theorem ne (S : SpAt w p b cap u) : p ≠ b := S.own.ne S.box (by decide)
theorem set (S : SpAt w p b cap u) (k : Nat) (x : Bool) : SpAt (w.setCell ⟨b, k, none⟩ (.bool x)) p b cap (u.set k x) :=
  ⟨by rw [Below.heap_setCell _ _ _ _ S.ne, List.length_set]; exact S.box, S.own.set k x⟩
end SpAt
end Go.Proofs.YtcejpeohkgchdaaDoor
namespace Go.Proofs.YtcejpeohkgchdaaDoor
open Go.RowKit

/-- Numbers in memory. -/
def IntsAt (w : World) (v : Value) (l : List Int) : Prop := ∃ ad cap, v = .slice ad l.length cap ∧ ∀ i x, l[i]? = some x → ∃ b off, ad = some ⟨b, off, none⟩ ∧ w.cell? ⟨b, off + i, none⟩ = some (.int .i64 x)
theorem IntsAt.nil (w : World) : IntsAt w (.slice none 0 0) [] := ⟨none, 0, rfl, fun i x h => by simp at h⟩
theorem IntsAt.below {w w' : World} {v : Value} {l : List Int} (h : IntsAt w v l) (hb : Below w.heap.size w w') : IntsAt w' v l := by
  obtain ⟨ad, cap, e, hc⟩ := h
  refine ⟨ad, cap, e, fun i x hx => ?_⟩
  obtain ⟨b, off, e2, h2⟩ := hc i x hx
  exact ⟨b, off, e2, by rw [hb.cell (p := ⟨b, off + i, none⟩) (World.block_lt_of_cell? w _ h2)]; exact h2⟩
/-- Numbers in a row of their own. -/
def IntsT (w : World) (v : Value) (l : List Int) : Prop := ∃ ad cap, v = .slice ad l.length cap ∧ (l ≠ [] → ∃ b off cur, ad = some ⟨b, off, none⟩ ∧ w.heap[b]? = some (.cells cur 3 (0, 0)) ∧ ∀ i x, l[i]? = some x → cur[off + i]? = some (.int .i64 x))
def ints (l : List Nat) : List Int := l.map Int.ofNat
theorem IntsT.nil (w : World) (ad : Option Addr) (c : Nat) : IntsT w (.slice ad 0 c) [] := ⟨ad, c, rfl, fun h => absurd rfl h⟩
theorem IntsT.keep {w w' : World} {v : Value} {l : List Int} (h : IntsT w v l) (hb : ∀ (b : Nat) (cur : Array Value), w.heap[b]? = some (Obj.cells cur 3 (0, 0)) → w'.heap[b]? = w.heap[b]?) : IntsT w' v l := by
  obtain ⟨ad, cap, e, h1⟩ := h
  refine ⟨ad, cap, e, fun hl => ?_⟩
  obtain ⟨b, off, cur, e2, e3, e4⟩ := h1 hl
  exact ⟨b, off, cur, e2, by rw [hb b cur e3]; exact e3, e4⟩
theorem IntsT.below {w w' : World} {v : Value} {l : List Int} (h : IntsT w v l) (hb : Below w.heap.size w w') : IntsT w' v l :=
  h.keep fun b _ e => hb.block b (Array.getElem?_eq_some_iff.1 e).1
theorem IntsT.of_owns {w : World} {base : Nat} {v : Value} {l : List Int} (h : w.ownsRow base 3 1 v l.length (l.map (Value.int .i64))) : IntsT w v l := by
  rcases h.2 with ⟨rfl, hn⟩ | ⟨g, cap, cur, rfl, _, hg, _, _, _, ht⟩
  · have : l = [] := List.eq_nil_of_length_eq_zero hn
    subst this
    exact IntsT.nil _ _ _
  · refine ⟨some ⟨g, 0, none⟩, cap, rfl, fun _ => ⟨g, 0, cur, rfl, hg, fun i x hx => ?_⟩⟩
    have hi := (List.getElem?_eq_some_iff.1 hx).1
    have : cur.toList[i]? = (cur.toList.take (l.length * 1))[i]? := by rw [List.getElem?_take_of_lt (by omega)]
    rw [Nat.zero_add, ← Array.getElem?_toList, this, ht, List.getElem?_map, hx]; rfl
theorem IntsT.at {w : World} {v : Value} {l : List Int} (h : IntsT w v l) : IntsAt w v l := by
  obtain ⟨ad, cap, e, h1⟩ := h
  refine ⟨ad, cap, e, fun i x hx => ?_⟩
  obtain ⟨b, off, cur, e2, e3, e4⟩ := h1 (fun hl => by rw [hl] at hx; simp at hx)
  exact ⟨b, off, e2, by rw [cell_of_row _ _ _ _ _ _ e3]; exact e4 i x hx⟩
/-- Numbers in a row of one's own. -/
def OwnI (w : World) (B : Nat) (v : Value) (l : List Nat) : Prop := w.ownsRow B 3 1 v l.length ((ints l).map (Value.int .i64))
theorem OwnI.nil (w : World) (B : Nat) : OwnI w B (.slice none 0 0) [] := World.ownsRow_nil _ _ _ _
theorem OwnI.alloc {w : World} {B : Nat} {v : Value} {l : List Nat} (h : OwnI w B v l) (o : Obj) : OwnI (w.alloc o) B v l := World.ownsRow.alloc h o
theorem OwnI.t {w : World} {B : Nat} {v : Value} {l : List Nat} (h : OwnI w B v l) : IntsT w v (ints l) := by
  refine IntsT.of_owns (base := B) ?_
  rw [show (ints l).length = l.length by simp [ints]]
  exact h
theorem OwnI.keep {w w' : World} {B : Nat} {v : Value} {l : List Nat} (h : OwnI w B v l) (hb : ∀ (b : Nat) (cur : Array Value), w.heap[b]? = some (Obj.cells cur 3 (0, 0)) → w'.heap[b]? = w.heap[b]?) : OwnI w' B v l := by
  refine ⟨h.1, ?_⟩
  rcases h.2 with h2 | ⟨g, cap, cur, e, e1, e2, e3⟩
  · exact .inl h2
  · exact .inr ⟨g, cap, cur, e, e1, by rw [hb g cur e2]; exact e2, e3⟩
theorem infoBo : (Tryd.prog.info? 4).map (fun i => (i.zero, i.size, i.bytes)) = some (some (.bool false), 1, 1) := by kernel_rfl
theorem infoSt : (Tryd.prog.info? 9).map (fun i => (i.zero, i.size, i.bytes)) = some (some (.string { data := #[] }), 1, 16) := by kernel_rfl
theorem infoIn : (Tryd.prog.info? 3).map (fun i => (i.zero, i.size, i.bytes)) = some (some (.int .i64 0), 1, 8) := by kernel_rfl

end Go.Proofs.YtcejpeohkgchdaaDoor
