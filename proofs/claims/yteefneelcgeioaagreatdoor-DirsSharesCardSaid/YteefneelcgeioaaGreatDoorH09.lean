/-
  The contracts of package disk's Read and settle.
  Conditions: those that each states.
-/
import Derived.Test.YteefneelcgeioaaGreatDoorH08
import Derived.Laws.IdiomStrings
namespace Go.Proofs.YteefneelcgeioaaGreatDoor
open Go.RowKit

theorem rdR_mem {bl : List (List UInt8)} {wt : List (Nat × List UInt8)} {k : Nat} {b : List UInt8} (hk : bl[k]? = some b) : rdR bl wt k = b ∨ (k, rdR bl wt k) ∈ wt := by
  unfold rdR
  cases h : wt.reverse.find? (fun x => x.1 == k) with
  | none => left; simp [hk]
  | some x =>
    right
    have h1 := List.find?_some h
    have h2 := List.mem_of_find?_eq_some h
    have e : x.1 = k := by simpa using h1
    rw [← e]
    simpa using h2
theorem rdR_len {w : World} {bb : Nat} {va : Option Addr} {vc : Nat} {bl : List (List UInt8)} {wt : List (Nat × List UInt8)} (D : DkAt w bb va vc bl wt) {k : Nat} {b : List UInt8} (hk : bl[k]? = some b) : (rdR bl wt k).length = 16 := by
  rcases rdR_mem (wt := wt) hk with h | h
  · rw [h]; exact D.bl16 b (List.mem_of_getElem? hk)
  · exact (D.wt16 _ h).2

set_option maxRecDepth 100000 in
set_option maxHeartbeats 2000000 in
theorem read_any {bb : Nat} {va : Option Addr} {vc : Nat} {bl : List (List UInt8)} {wt : List (Nat × List UInt8)} (k : Nat) (b : List UInt8) (w : World) (D : DkAt w bb va vc bl wt) (hk : bl[k]? = some b) (hwl : wt.length ≤ 100000) :
    Calls Tryz.prog 78 #[.pointer (some ⟨bb + 1, 0, none⟩), .int .i64 (k : Int)] w fun e w' => e = .returned (.tuple #[.string ⟨(rdR bl wt k).toArray⟩, .nilIface]) ∧ Below w.heap.size w w' := by
  have HH := has_any (k : Int) w D
  have hkl := (List.getElem?_eq_some_iff.1 hk).1
  rw [hasB_yes (by omega) (by omega)] at HH
  have HL := last_any k b w D hk hwl
  have h16 := rdR_len D hk
  obtain ⟨l, hl⟩ : ∃ l, l = rdR bl wt k := ⟨_, rfl⟩
  rw [← hl] at h16 HL ⊢
  have HI : Hid ((Tryz.prog.info? 179).map (·.size) = some (bc l).length) := by show _ = _; rw [bc_len, h16]; exact info62
  have HCV : ∀ W : World, (convert 147 9 (.slice (some ⟨W.heap.size, 0, none⟩) 16 16)).run Tryz.prog (W.alloc (.cells (bc l).toArray 179)) = .ok (.string ⟨l.toArray⟩) (W.alloc (.cells (bc l).toArray 179)) := fun W => by
    have := run_convert_bytes_back (P := Tryz.prog) (W.alloc (.cells (bc l).toArray 179)) 147 9 5 ⟨W.heap.size, 0, none⟩ 16 l Tryz.underlying147 Tryz.underlying5 Tryz.underlying9 (fun j hj => by
      rw [Addr.add_mid, cell_of_row _ _ _ _ _ _ (heap_alloc_last W _)]
      simp [bc, hj])
    rw [h16] at this
    exact this
  have hl16 : Hid (16 = (bc l).length) := by show _ = _; rw [bc_len, h16]
  clear D hl hk
  go_enter Tryz.func78, Tryz.ntmps78
  go_wp2_with (first
    | (go_at_call 102; refine HH.mono ?_; rintro e w' ⟨rfl, hw⟩; rw [hw]; clear hw)
    | (go_at_call 103; refine HL.mono ?_; rintro e w1 ⟨rfl, hb1⟩)
    | refine wpList_store_new (by rfl) 179 179 _ _ (by rfl) _ (bc l) (by rfl) (by rfl) hl16.out HI.out (bc_one _) ?_)
  go_ret2
  exact ⟨rfl, hb1.alloc hb1.size _⟩
set_option maxRecDepth 100000 in
set_option maxHeartbeats 2000000 in
theorem read_not {bb : Nat} {va : Option Addr} {vc : Nat} {bl : List (List UInt8)} {wt : List (Nat × List UInt8)} (k : Int) (er : Value) (w : World) (D : DkAt w bb va vc bl wt) (hk : hasB bl.length k = false) (hE : w.cell? ⟨6, 0, none⟩ = some er) :
    Calls Tryz.prog 78 #[.pointer (some ⟨bb + 1, 0, none⟩), .int .i64 k] w fun e w' => e = .returned (.tuple #[.string { data := #[] }, er]) ∧ Below w.heap.size w w' := by
  have HH := has_any k w D
  rw [hk] at HH
  clear D
  go_enter Tryz.func78, Tryz.ntmps78
  go_wp2_with (go_at_call 102; refine HH.mono ?_; rintro e w' ⟨rfl, hw⟩; rw [hw]; clear hw)
  go_quiet (fail)
  go_wp2_with fail
  go_ret2
  exact ⟨rfl, ⟨rfl, rfl, rfl, Nat.le_refl _, fun _ _ => rfl⟩⟩

/-- Blocks behind the writes that stay, as far as the first i of them. -/
def setl (keep : Nat → Bool) (wt : List (Nat × List UInt8)) (bl : List (List UInt8)) : Nat → List (List UInt8)
  | 0 => bl
  | i + 1 => match wt[i]? with
    | some x => if keep i then (setl keep wt bl i).set x.1 x.2 else setl keep wt bl i
    | none => setl keep wt bl i
theorem setl_len (keep : Nat → Bool) (wt : List (Nat × List UInt8)) (bl : List (List UInt8)) : ∀ i, (setl keep wt bl i).length = bl.length
  | 0 => rfl
  | i + 1 => by
    unfold setl
    cases wt[i]? with
    | none => exact setl_len keep wt bl i
    | some x => by_cases h : keep i <;> simp [h, setl_len keep wt bl i]

set_option maxRecDepth 100000 in
set_option maxHeartbeats 2000000 in
theorem settle_any {bb : Nat} {va : Option Addr} {vc : Nat} {bl : List (List UInt8)} {wt : List (Nat × List UInt8)} (g : Nat) (lb : Array Value) (keep : Nat → Bool) (w : World) (D : DkAt w bb va vc bl wt) (hwl : wt.length ≤ 100000)
    (eg : ∀ args w, (callFunc g args).run Tryz.prog w = .ok (.enter g args) w)
    (HF : ∀ (i : Nat) (W : World), i < wt.length → DkBut bb va w W → Calls Tryz.prog g (#[.int .i64 (i : Int)] ++ lb) W fun e W' => e = .returned (.bool (keep i)) ∧ W' = W) :
    Calls Tryz.prog 130 #[.pointer (some ⟨bb + 1, 0, none⟩), .func (.func g) #[] lb] w fun e w' => e = .returned (.tuple #[]) ∧ DkAt w' bb none 0 (setl keep wt bl wt.length) [] ∧ DkBut bb va w w' := by
  obtain ⟨c1, c2, _⟩ := D.cells
  have HD : Hid (DkAt w bb va vc bl wt) := D
  have HFF : Hid (∀ (i : Nat) (W : World), i < wt.length → DkBut bb va w W → Calls Tryz.prog g (#[.int .i64 (i : Int)] ++ lb) W fun e W' => e = .returned (.bool (keep i)) ∧ W' = W) := HF
  clear D HF
  go_enter Tryz.func130, Tryz.ntmps130
  go_wp2_with fail
  clear c1 c2
  go_loopw [13] (fun i wr => ∃ j : Nat, j ≤ wt.length ∧ i = .int .i64 j ∧ DkAt wr bb va vc (setl keep wt bl j) wt ∧ DkBut bb va w wr) (fun i _ => wt.length - (intOf i).toNat)
  case atStart => exact ⟨0, Nat.zero_le _, rfl, HD.out, DkBut.of_below (Below.refl _ _)⟩
  case round =>
    obtain ⟨j, hj, rfl, D, hbut⟩ := hrel
    have HDr : Hid _ := D
    have HBUT : Hid _ := hbut
    by_cases hlt : j < wt.length
    · obtain ⟨x, HX⟩ : ∃ x, Hid (wt[j]? = some x) := ⟨_, List.getElem?_eq_getElem hlt⟩
      obtain ⟨ga, rfl, hr, _⟩ := D.write_range HX.out
      have hx16 := D.wt16 x (List.mem_of_getElem? HX.out)
      have HR : Hid (wr.rangeAt ga (j * 17) (wc x)) := hr
      have h17 : Hid ((Tryz.prog.info? 210).map (·.size) = some (wc x).length) := by show _ = _; rw [wc_len, hx16.2]; exact info67
      have hl17 : Hid (17 = (wc x).length) := by show _ = _; rw [wc_len, hx16.2]
      clear D hbut hr
      have HC := HFF.out j (wr.alloc (.cells (wc x).toArray 210)) hlt (HBUT.out.trans (DkBut.of_below ((Below.refl _ _).alloc (Nat.le_refl _) _)))
      cases hkeep : keep j with
      | false =>
        rw [hkeep] at HC
        go_wp2_with (first
          | refine wpList_load_mid (by rfl) 210 _ (by rfl) ga (j * 17) (by rfl) (wc x) _ HR.out Tryz.underlying210 rfl h17.out ?_
          | refine wpList_store_new (by rfl) 210 210 _ _ (by rfl) _ (wc x) (by rfl) (by rfl) hl17.out h17.out (wc_one _) ?_
          | (refine HC.mono ?_; rintro e w' ⟨rfl, hw⟩; rw [hw]; clear hw))
        refine ⟨⟨j + 1, by omega, by simp, ?_, HBUT.out.trans (DkBut.of_below ((Below.refl _ _).alloc (Nat.le_refl _) _))⟩, by simp [intOf]; omega⟩
        have e : setl keep wt bl (j + 1) = setl keep wt bl j := by
          show (match wt[j]? with | some x => if keep j then (setl keep wt bl j).set x.1 x.2 else setl keep wt bl j | none => setl keep wt bl j) = _
          rw [HX.out, hkeep]; rfl
        rw [e]
        exact HDr.out.below (Nat.le_refl _) ((Below.refl _ _).alloc (Nat.le_refl _) _)
      | true =>
        rw [hkeep] at HC
        obtain ⟨BL, HBL⟩ : ∃ BL, Hid (BL = setl keep wt bl j) := ⟨_, (rfl : setl keep wt bl j = _)⟩
        have HDB : Hid (DkAt wr bb (some ⟨ga, 0, none⟩) vc BL wt) := by rw [HBL.out]; exact HDr.out
        have hxl : x.1 < BL.length := by rw [HBL.out, setl_len]; have := (HD.out.wt16 x (List.mem_of_getElem? HX.out)).1; exact this
        have hltw := HDB.out.lt
        have DA : DkAt (wr.alloc (.cells (wc x).toArray 210)) bb (some ⟨ga, 0, none⟩) vc BL wt := HDB.out.below (Nat.le_refl _) ((Below.refl _ _).alloc (Nat.le_refl _) _)
        have hxb : BL[x.1]? = some BL[x.1] := List.getElem?_eq_getElem hxl
        have HI : Hid ((Tryz.prog.info? 179).map (·.size) = some (bc x.2).length) := by show _ = _; rw [bc_len, hx16.2]; exact info62
        have HSW : Hid ((wr.alloc (.cells (wc x).toArray 210)).drew.cell? ⟨bb + 1, 0, none⟩ = some (.slice (some ⟨bb, 0, none⟩) BL.length BL.length) ∧ (wr.alloc (.cells (wc x).toArray 210)).drew.cell? ⟨wr.heap.size, 0, none⟩ = some (.int .i64 (x.1 : Int)) ∧ (wr.alloc (.cells (wc x).toArray 210)).drew.rangeAt wr.heap.size 1 (bc x.2)) := by
          refine ⟨DA.cells.1, ?_, (World.rangeAt_drew _ _ _ _).2 fun i v hi => ?_⟩
          · have := cell_of_row _ _ 0 _ _ _ (heap_alloc_last wr (.cells (wc x).toArray 210)); exact this
          · rw [cell_of_row _ _ _ _ _ _ (heap_alloc_last wr (.cells (wc x).toArray 210))]
            simp only [wc, List.getElem?_toArray]
            rw [Nat.add_comm, List.getElem?_cons_succ]; exact hi
        have HTH : Hid ((wr.alloc (.cells (wc x).toArray 210)).drew.there bb (x.1 * 16) (bc x.2).toArray.size) := by
          show World.there _ _ _ _
          rw [World.there_drew]
          simp only [List.size_toArray, bc_len, hx16.2]
          exact DA.block_there hxb
        have HS7 : Hid (((wr.alloc (.cells (wc x).toArray 210)).drew.setCells bb (x.1 * 16) (bc x.2)).cell? ⟨bb + 1, 0, none⟩ = some (.slice (some ⟨bb, 0, none⟩) BL.length BL.length) ∧ ((wr.alloc (.cells (wc x).toArray 210)).drew.setCells bb (x.1 * 16) (bc x.2)).cell? ⟨wr.heap.size, 0, none⟩ = some (.int .i64 (x.1 : Int)) ∧ ((wr.alloc (.cells (wc x).toArray 210)).drew.setCells bb (x.1 * 16) (bc x.2)).rangeAt wr.heap.size 1 (bc x.2)) := by
          obtain ⟨g1, g2, g3⟩ := HSW.out
          refine ⟨?_, ?_, World.rangeAt_setCells_apart g3 _ _ _ (.inl (by omega))⟩
          · rw [World.cell?_of_block (block_setCells (show bb + 1 ≠ bb by omega) _ _ _)]; exact g1
          · rw [World.cell?_of_block (block_setCells (show wr.heap.size ≠ bb by omega) _ _ _)]; exact g2
        have HE : Hid (DkAt ((wr.alloc (.cells (wc x).toArray 210)).drew.setCells bb (x.1 * 16) (bc x.2)) bb (some ⟨ga, 0, none⟩) vc (BL.set x.1 x.2) wt) := DkAt.set_block (DA.ext (w' := (wr.alloc (.cells (wc x).toArray 210)).drew) fun _ _ => rfl) hxb hx16.2
        have HEB : Hid (DkBut bb (some ⟨ga, 0, none⟩) w ((wr.alloc (.cells (wc x).toArray 210)).drew.setCells bb (x.1 * 16) (bc x.2))) := (HBUT.out.trans (DkBut.of_below ((Below.refl _ _).alloc (Nat.le_refl _) _).drew)).trans (DkAt.but_block _ _)
        clear DA hxb hltw
        go_wp2_with (first
          | refine wpList_load_mid (by rfl) 210 _ (by rfl) ga (j * 17) (by rfl) (wc x) _ HR.out Tryz.underlying210 rfl h17.out ?_
          | refine wpList_store_new (by rfl) 210 210 _ _ (by rfl) _ (wc x) (by rfl) (by rfl) hl17.out h17.out (wc_one _) ?_
          | (refine HC.mono ?_; rintro e w' ⟨rfl, hw⟩; rw [hw]; clear hw))
        refine wp_region_held_drew (S := fun w' => w'.cell? ⟨bb + 1, 0, none⟩ = some (.slice (some ⟨bb, 0, none⟩) BL.length BL.length) ∧ w'.cell? ⟨wr.heap.size, 0, none⟩ = some (.int .i64 (x.1 : Int)) ∧ w'.rangeAt wr.heap.size 1 (bc x.2)) (by kernel_rfl) (HSW.out) (fun hHeld => ?_)
        refine wpAnyH_take (i := 0) (v := .pointer (some ⟨bb + 1, 0, none⟩)) rfl (by kernel_rfl) (by kernel_rfl) (by kernel_rfl) (fun _ _ _ h => h) (Or.inl ⟨by rfl, ?_⟩) hHeld ?_
        · intro w hSw; (try dsimp only at hSw); simp only [List.getElem_toArray, List.getElem_cons_zero]; go_simp
        simp only [List.getElem_toArray, List.getElem_cons_zero, Act.put, List.setIfInBounds_toArray, List.set_cons_zero, List.set_cons_succ]
        refine wpAnyH_take (i := 1) (v := .pointer (some ⟨bb + 1, 0, none⟩)) rfl (by kernel_rfl) (by kernel_rfl) (by kernel_rfl) (fun _ _ _ h => h) (Or.inl ⟨by rfl, ?_⟩) hHeld ?_
        · intro w hSw; (try dsimp only at hSw); simp only [List.getElem_toArray, List.getElem_cons_zero, List.getElem_cons_succ]; go_simp
        simp only [List.getElem_toArray, List.getElem_cons_zero, List.getElem_cons_succ, Act.put, List.setIfInBounds_toArray, List.set_cons_zero, List.set_cons_succ]
        refine wpAnyH_take (i := 2) (v := .pointer (some ⟨bb + 1, 0, none⟩)) rfl (by kernel_rfl) (by kernel_rfl) (by kernel_rfl) (fun _ _ _ h => h) (Or.inl ⟨by rfl, ?_⟩) hHeld ?_
        · intro w hSw; (try dsimp only at hSw); simp only [List.getElem_toArray, List.getElem_cons_zero, List.getElem_cons_succ]; go_simp
        simp only [List.getElem_toArray, List.getElem_cons_zero, List.getElem_cons_succ, Act.put, List.setIfInBounds_toArray, List.set_cons_zero, List.set_cons_succ]
        refine wpAnyH_take (i := 3) (v := .slice (some ⟨bb, 0, none⟩) BL.length BL.length) rfl (by kernel_rfl) (by kernel_rfl) (by kernel_rfl) (fun _ _ _ h => h) (Or.inl ⟨by rfl, ?_⟩) hHeld ?_
        · intro w hSw; (try dsimp only at hSw); simp only [List.getElem_toArray, List.getElem_cons_zero, List.getElem_cons_succ]; go_simp
        simp only [List.getElem_toArray, List.getElem_cons_zero, List.getElem_cons_succ, Act.put, List.setIfInBounds_toArray, List.set_cons_zero, List.set_cons_succ]
        refine wpAnyH_take (i := 4) (v := .pointer (some ⟨wr.heap.size, 0, none⟩)) rfl (by kernel_rfl) (by kernel_rfl) (by kernel_rfl) (fun _ _ _ h => h) (Or.inl ⟨by rfl, ?_⟩) hHeld ?_
        · intro w hSw; (try dsimp only at hSw); simp only [List.getElem_toArray, List.getElem_cons_zero, List.getElem_cons_succ]; go_simp
        simp only [List.getElem_toArray, List.getElem_cons_zero, List.getElem_cons_succ, Act.put, List.setIfInBounds_toArray, List.set_cons_zero, List.set_cons_succ]
        refine wpAnyH_take (i := 5) (v := .int .i64 (x.1 : Int)) rfl (by kernel_rfl) (by kernel_rfl) (by kernel_rfl) (fun _ _ _ h => h) (Or.inl ⟨by rfl, ?_⟩) hHeld ?_
        · intro w hSw; (try dsimp only at hSw); simp only [List.getElem_toArray, List.getElem_cons_zero, List.getElem_cons_succ]; go_simp
        simp only [List.getElem_toArray, List.getElem_cons_zero, List.getElem_cons_succ, Act.put, List.setIfInBounds_toArray, List.set_cons_zero, List.set_cons_succ]
        refine wpAnyH_take (i := 6) (v := .pointer (some ⟨wr.heap.size, 1, none⟩)) rfl (by kernel_rfl) (by kernel_rfl) (by kernel_rfl) (fun _ _ _ h => h) (Or.inl ⟨by rfl, ?_⟩) hHeld ?_
        · intro w hSw; (try dsimp only at hSw); simp only [List.getElem_toArray, List.getElem_cons_zero, List.getElem_cons_succ]; go_simp
        simp only [List.getElem_toArray, List.getElem_cons_zero, List.getElem_cons_succ, Act.put, List.setIfInBounds_toArray, List.set_cons_zero, List.set_cons_succ]
        refine wpAnyH_take (i := 7) (v := .agg (bc x.2).toArray) rfl (by kernel_rfl) (by kernel_rfl) (by kernel_rfl) (fun _ _ _ h => h) (yieldsIf_load_mid (by rfl) 179 _ (by rfl) wr.heap.size 1 (by rfl) (bc x.2) _ (fun w h => h.2.2) Tryz.underlying179 rfl HI.out) hHeld ?_
        simp only [List.getElem_toArray, List.getElem_cons_zero, List.getElem_cons_succ, Act.put, List.setIfInBounds_toArray, List.set_cons_zero, List.set_cons_succ]
        refine wpAnyH_take (i := 8) (v := .pointer (some ⟨bb, x.1 * 16, none⟩)) rfl (by kernel_rfl) (by kernel_rfl) (by kernel_rfl) (fun _ _ _ h => h) (Or.inl ⟨by rfl, ?_⟩) hHeld ?_
        · intro w hSw; (try dsimp only at hSw); simp only [List.getElem_toArray, List.getElem_cons_zero, List.getElem_cons_succ]; go_simp
        simp only [List.getElem_toArray, List.getElem_cons_zero, List.getElem_cons_succ, Act.put, List.setIfInBounds_toArray, List.set_cons_zero, List.set_cons_succ]
        refine wpAnyH_ready (rs := [9]) (by kernel_rfl) (by simp) ?_
        refine AllReadyH.cons rfl (fun K' hK' => ?_) AllReadyH.nil
        refine step_store_mid (by rfl) 179 _ _ (by rfl) bb (x.1 * 16) (bc x.2).toArray (by rfl) (by rfl) HTH.out (by simpa using HI.out) (all_oneCell_toArray (bc_one x.2)) ?_
        simp only [List.getElem_toArray, List.getElem_cons_zero, List.getElem_cons_succ, Act.put]
        refine hK'.out _ _ HS7.out (fun hHeld' => ?_)
        clear hK' K' hHeld
        have hHeld := hHeld'
        clear hHeld'
        refine wpAnyH_done (by kernel_rfl) ?_ _
        go_wp2_with fail
        refine ⟨⟨j + 1, by omega, by simp, ?_, HEB.out⟩, by simp [intOf]; omega⟩
        have e : setl keep wt bl (j + 1) = BL.set x.1 x.2 := by
          show (match wt[j]? with | some x => if keep j then (setl keep wt bl j).set x.1 x.2 else setl keep wt bl j | none => setl keep wt bl j) = _
          rw [HX.out, hkeep, HBL.out]; rfl
        rw [e]
        exact HE.out
    · obtain rfl : j = wt.length := by omega
      obtain ⟨c1, c2, c3⟩ := D.cells
      clear D hbut
      go_wp2_with fail
      go_returns
      exact ⟨rfl, HDr.out.forget, HBUT.out.trans (DkAt.but_forget _)⟩
end Go.Proofs.YteefneelcgeioaaGreatDoor
