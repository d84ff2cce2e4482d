/-
  The contracts of package disk's Read and settle.
  The contracts of package space's fault, Take and Give, and of slices.ContainsFunc.
  Conditions: those that each states.
-/
import Derived.Test.YteefneelcgeioaaGreatDoorQ05
import Derived.Laws.IdiomStrings
import Derived.Test.YteefneelcgeioaaGreatDoorQ04
namespace Go.Proofs.YteefneelcgeioaaGreatDoor
open Go.RowKit

theorem rdR_mem {bl : List (List UInt8)} {wt : List (Nat × List UInt8)} {k : Nat} {b : List UInt8} (hk : bl[k]? = some b) : rdR bl wt k = b ∨ (k, rdR bl wt k) ∈ wt := by
  unfold rdR
  cases h : wt.reverse.find? (fun x => x.1 == k) with
  | none => left; simp [hk]
  | some x =>
    right
    have h1 := List.find?_some h
    have h2 := List.mem_of_find?_eq_some h
    have e : x.1 = k := by simpa using h1
    rw [← e]
    simpa using h2
theorem rdR_len {w : World} {bb : Nat} {va : Option Addr} {vc : Nat} {bl : List (List UInt8)} {wt : List (Nat × List UInt8)} (D : DkAt w bb va vc bl wt) {k : Nat} {b : List UInt8} (hk : bl[k]? = some b) : (rdR bl wt k).length = 16 := by
  rcases rdR_mem (wt := wt) hk with h | h
  · rw [h]; exact D.bl16 b (List.mem_of_getElem? hk)
  · exact (D.wt16 _ h).2

set_option maxRecDepth 100000 in
set_option maxHeartbeats 2000000 in
theorem read_any {bb : Nat} {va : Option Addr} {vc : Nat} {bl : List (List UInt8)} {wt : List (Nat × List UInt8)} (k : Nat) (b : List UInt8) (w : World) (D : DkAt w bb va vc bl wt) (hk : bl[k]? = some b) (hwl : wt.length ≤ 100000) :
    Calls Tryz.prog 78 #[.pointer (some ⟨bb + 1, 0, none⟩), .int .i64 (k : Int)] w fun e w' => e = .returned (.tuple #[.string ⟨(rdR bl wt k).toArray⟩, .nilIface]) ∧ Below w.heap.size w w' := by
  have HH := has_any (k : Int) w D
  have hkl := (List.getElem?_eq_some_iff.1 hk).1
  rw [hasB_yes (by omega) (by omega)] at HH
  have HL := last_any k b w D hk hwl
  have h16 := rdR_len D hk
  obtain ⟨l, hl⟩ : ∃ l, l = rdR bl wt k := ⟨_, rfl⟩
  rw [← hl] at h16 HL ⊢
  have HI : Hid ((Tryz.prog.info? 179).map (·.size) = some (bc l).length) := by show _ = _; rw [bc_len, h16]; exact info62
  have HCV : ∀ W : World, (convert 147 9 (.slice (some ⟨W.heap.size, 0, none⟩) 16 16)).run Tryz.prog (W.alloc (.cells (bc l).toArray 179)) = .ok (.string ⟨l.toArray⟩) (W.alloc (.cells (bc l).toArray 179)) := fun W => by
    have := run_convert_bytes_back (P := Tryz.prog) (W.alloc (.cells (bc l).toArray 179)) 147 9 5 ⟨W.heap.size, 0, none⟩ 16 l Tryz.underlying147 Tryz.underlying5 Tryz.underlying9 (fun j hj => by
      rw [Addr.add_mid, cell_of_row _ _ _ _ _ _ (heap_alloc_last W _)]
      simp [bc, hj])
    rw [h16] at this
    exact this
  have hl16 : Hid (16 = (bc l).length) := by show _ = _; rw [bc_len, h16]
  clear D hl hk
  go_enter Tryz.func78, Tryz.ntmps78
  go_wp2_with (first
    | (go_at_call 102; refine HH.mono ?_; rintro e w' ⟨rfl, hw⟩; rw [hw]; clear hw)
    | (go_at_call 103; refine HL.mono ?_; rintro e w1 ⟨rfl, hb1⟩)
    | refine wpList_store_new (by rfl) 179 179 _ _ (by rfl) _ (bc l) (by rfl) (by rfl) hl16.out HI.out (bc_one _) ?_)
  go_ret2
  exact ⟨rfl, hb1.alloc hb1.size _⟩
set_option maxRecDepth 100000 in
set_option maxHeartbeats 2000000 in
theorem read_not {bb : Nat} {va : Option Addr} {vc : Nat} {bl : List (List UInt8)} {wt : List (Nat × List UInt8)} (k : Int) (er : Value) (w : World) (D : DkAt w bb va vc bl wt) (hk : hasB bl.length k = false) (hE : w.cell? ⟨6, 0, none⟩ = some er) :
    Calls Tryz.prog 78 #[.pointer (some ⟨bb + 1, 0, none⟩), .int .i64 k] w fun e w' => e = .returned (.tuple #[.string { data := #[] }, er]) ∧ Below w.heap.size w w' := by
  have HH := has_any k w D
  rw [hk] at HH
  clear D
  go_enter Tryz.func78, Tryz.ntmps78
  go_wp2_with (go_at_call 102; refine HH.mono ?_; rintro e w' ⟨rfl, hw⟩; rw [hw]; clear hw)
  go_quiet (fail)
  go_wp2_with fail
  go_ret2
  exact ⟨rfl, ⟨rfl, rfl, rfl, Nat.le_refl _, fun _ _ => rfl⟩⟩

/-- Blocks behind the writes that stay, as far as the first i of them. -/
def setl (keep : Nat → Bool) (wt : List (Nat × List UInt8)) (bl : List (List UInt8)) : Nat → List (List UInt8)
  | 0 => bl
  | i + 1 => match wt[i]? with
    | some x => if keep i then (setl keep wt bl i).set x.1 x.2 else setl keep wt bl i
    | none => setl keep wt bl i
theorem setl_len (keep : Nat → Bool) (wt : List (Nat × List UInt8)) (bl : List (List UInt8)) : ∀ i, (setl keep wt bl i).length = bl.length
  | 0 => rfl
  | i + 1 => by
    unfold setl
    cases wt[i]? with
    | none => exact setl_len keep wt bl i
    | some x => by_cases h : keep i <;> simp [h, setl_len keep wt bl i]

set_option maxRecDepth 100000 in
set_option maxHeartbeats 2000000 in
theorem settle_any {bb : Nat} {va : Option Addr} {vc : Nat} {bl : List (List UInt8)} {wt : List (Nat × List UInt8)} (g : Nat) (lb : Array Value) (keep : Nat → Bool) (w : World) (D : DkAt w bb va vc bl wt) (hwl : wt.length ≤ 100000)
    (eg : ∀ args w, (callFunc g args).run Tryz.prog w = .ok (.enter g args) w)
    (HF : ∀ (i : Nat) (W : World), i < wt.length → DkBut bb va w W → Calls Tryz.prog g (#[.int .i64 (i : Int)] ++ lb) W fun e W' => e = .returned (.bool (keep i)) ∧ W' = W) :
    Calls Tryz.prog 130 #[.pointer (some ⟨bb + 1, 0, none⟩), .func (.func g) #[] lb] w fun e w' => e = .returned (.tuple #[]) ∧ DkAt w' bb none 0 (setl keep wt bl wt.length) [] ∧ DkBut bb va w w' := by
  obtain ⟨c1, c2, _⟩ := D.cells
  have HD : Hid (DkAt w bb va vc bl wt) := D
  have HFF : Hid (∀ (i : Nat) (W : World), i < wt.length → DkBut bb va w W → Calls Tryz.prog g (#[.int .i64 (i : Int)] ++ lb) W fun e W' => e = .returned (.bool (keep i)) ∧ W' = W) := HF
  clear D HF
  go_enter Tryz.func130, Tryz.ntmps130
  go_wp2_with fail
  clear c1 c2
  go_loopw [13] (fun i wr => ∃ j : Nat, j ≤ wt.length ∧ i = .int .i64 j ∧ DkAt wr bb va vc (setl keep wt bl j) wt ∧ DkBut bb va w wr) (fun i _ => wt.length - (intOf i).toNat)
  case atStart => exact ⟨0, Nat.zero_le _, rfl, HD.out, DkBut.of_below (Below.refl _ _)⟩
  case round =>
    obtain ⟨j, hj, rfl, D, hbut⟩ := hrel
    have HDr : Hid _ := D
    have HBUT : Hid _ := hbut
    by_cases hlt : j < wt.length
    · obtain ⟨x, HX⟩ : ∃ x, Hid (wt[j]? = some x) := ⟨_, List.getElem?_eq_getElem hlt⟩
      obtain ⟨ga, rfl, hr, _⟩ := D.write_range HX.out
      have hx16 := D.wt16 x (List.mem_of_getElem? HX.out)
      have HR : Hid (wr.rangeAt ga (j * 17) (wc x)) := hr
      have h17 : Hid ((Tryz.prog.info? 210).map (·.size) = some (wc x).length) := by show _ = _; rw [wc_len, hx16.2]; exact info67
      have hl17 : Hid (17 = (wc x).length) := by show _ = _; rw [wc_len, hx16.2]
      clear D hbut hr
      have HC := HFF.out j (wr.alloc (.cells (wc x).toArray 210)) hlt (HBUT.out.trans (DkBut.of_below ((Below.refl _ _).alloc (Nat.le_refl _) _)))
      cases hkeep : keep j with
      | false =>
        rw [hkeep] at HC
        go_wp2_with (first
          | refine wpList_load_mid (by rfl) 210 _ (by rfl) ga (j * 17) (by rfl) (wc x) _ HR.out Tryz.underlying210 rfl h17.out ?_
          | refine wpList_store_new (by rfl) 210 210 _ _ (by rfl) _ (wc x) (by rfl) (by rfl) hl17.out h17.out (wc_one _) ?_
          | (refine HC.mono ?_; rintro e w' ⟨rfl, hw⟩; rw [hw]; clear hw))
        refine ⟨⟨j + 1, by omega, by simp, ?_, HBUT.out.trans (DkBut.of_below ((Below.refl _ _).alloc (Nat.le_refl _) _))⟩, by simp [intOf]; omega⟩
        have e : setl keep wt bl (j + 1) = setl keep wt bl j := by
          show (match wt[j]? with | some x => if keep j then (setl keep wt bl j).set x.1 x.2 else setl keep wt bl j | none => setl keep wt bl j) = _
          rw [HX.out, hkeep]; rfl
        rw [e]
        exact HDr.out.below (Nat.le_refl _) ((Below.refl _ _).alloc (Nat.le_refl _) _)
      | true =>
        rw [hkeep] at HC
        obtain ⟨BL, HBL⟩ : ∃ BL, Hid (BL = setl keep wt bl j) := ⟨_, (rfl : setl keep wt bl j = _)⟩
        have HDB : Hid (DkAt wr bb (some ⟨ga, 0, none⟩) vc BL wt) := by rw [HBL.out]; exact HDr.out
        have hxl : x.1 < BL.length := by rw [HBL.out, setl_len]; have := (HD.out.wt16 x (List.mem_of_getElem? HX.out)).1; exact this
        have hltw := HDB.out.lt
        have DA : DkAt (wr.alloc (.cells (wc x).toArray 210)) bb (some ⟨ga, 0, none⟩) vc BL wt := HDB.out.below (Nat.le_refl _) ((Below.refl _ _).alloc (Nat.le_refl _) _)
        have hxb : BL[x.1]? = some BL[x.1] := List.getElem?_eq_getElem hxl
        have HI : Hid ((Tryz.prog.info? 179).map (·.size) = some (bc x.2).length) := by show _ = _; rw [bc_len, hx16.2]; exact info62
        have HSW : Hid ((wr.alloc (.cells (wc x).toArray 210)).drew.cell? ⟨bb + 1, 0, none⟩ = some (.slice (some ⟨bb, 0, none⟩) BL.length BL.length) ∧ (wr.alloc (.cells (wc x).toArray 210)).drew.cell? ⟨wr.heap.size, 0, none⟩ = some (.int .i64 (x.1 : Int)) ∧ (wr.alloc (.cells (wc x).toArray 210)).drew.rangeAt wr.heap.size 1 (bc x.2)) := by
          refine ⟨DA.cells.1, ?_, (World.rangeAt_drew _ _ _ _).2 fun i v hi => ?_⟩
          · have := cell_of_row _ _ 0 _ _ _ (heap_alloc_last wr (.cells (wc x).toArray 210)); exact this
          · rw [cell_of_row _ _ _ _ _ _ (heap_alloc_last wr (.cells (wc x).toArray 210))]
            simp only [wc, List.getElem?_toArray]
            rw [Nat.add_comm, List.getElem?_cons_succ]; exact hi
        have HTH : Hid ((wr.alloc (.cells (wc x).toArray 210)).drew.there bb (x.1 * 16) (bc x.2).toArray.size) := by
          show World.there _ _ _ _
          rw [World.there_drew]
          simp only [List.size_toArray, bc_len, hx16.2]
          exact DA.block_there hxb
        have HS7 : Hid (((wr.alloc (.cells (wc x).toArray 210)).drew.setCells bb (x.1 * 16) (bc x.2)).cell? ⟨bb + 1, 0, none⟩ = some (.slice (some ⟨bb, 0, none⟩) BL.length BL.length) ∧ ((wr.alloc (.cells (wc x).toArray 210)).drew.setCells bb (x.1 * 16) (bc x.2)).cell? ⟨wr.heap.size, 0, none⟩ = some (.int .i64 (x.1 : Int)) ∧ ((wr.alloc (.cells (wc x).toArray 210)).drew.setCells bb (x.1 * 16) (bc x.2)).rangeAt wr.heap.size 1 (bc x.2)) := by
          obtain ⟨g1, g2, g3⟩ := HSW.out
          refine ⟨?_, ?_, World.rangeAt_setCells_apart g3 _ _ _ (.inl (by omega))⟩
          · rw [World.cell?_of_block (block_setCells (show bb + 1 ≠ bb by omega) _ _ _)]; exact g1
          · rw [World.cell?_of_block (block_setCells (show wr.heap.size ≠ bb by omega) _ _ _)]; exact g2
        have HE : Hid (DkAt ((wr.alloc (.cells (wc x).toArray 210)).drew.setCells bb (x.1 * 16) (bc x.2)) bb (some ⟨ga, 0, none⟩) vc (BL.set x.1 x.2) wt) := DkAt.set_block (DA.ext (w' := (wr.alloc (.cells (wc x).toArray 210)).drew) fun _ _ => rfl) hxb hx16.2
        have HEB : Hid (DkBut bb (some ⟨ga, 0, none⟩) w ((wr.alloc (.cells (wc x).toArray 210)).drew.setCells bb (x.1 * 16) (bc x.2))) := (HBUT.out.trans (DkBut.of_below ((Below.refl _ _).alloc (Nat.le_refl _) _).drew)).trans (DkAt.but_block _ _)
        clear DA hxb hltw
        go_wp2_with (first
          | refine wpList_load_mid (by rfl) 210 _ (by rfl) ga (j * 17) (by rfl) (wc x) _ HR.out Tryz.underlying210 rfl h17.out ?_
          | refine wpList_store_new (by rfl) 210 210 _ _ (by rfl) _ (wc x) (by rfl) (by rfl) hl17.out h17.out (wc_one _) ?_
          | (refine HC.mono ?_; rintro e w' ⟨rfl, hw⟩; rw [hw]; clear hw))
        refine wp_region_held_drew (S := fun w' => w'.cell? ⟨bb + 1, 0, none⟩ = some (.slice (some ⟨bb, 0, none⟩) BL.length BL.length) ∧ w'.cell? ⟨wr.heap.size, 0, none⟩ = some (.int .i64 (x.1 : Int)) ∧ w'.rangeAt wr.heap.size 1 (bc x.2)) (by kernel_rfl) (HSW.out) (fun hHeld => ?_)
        refine wpAnyH_take (i := 0) (v := .pointer (some ⟨bb + 1, 0, none⟩)) rfl (by kernel_rfl) (by kernel_rfl) (by kernel_rfl) (fun _ _ _ h => h) (Or.inl ⟨by rfl, ?_⟩) hHeld ?_
        · intro w hSw; (try dsimp only at hSw); simp only [List.getElem_toArray, List.getElem_cons_zero]; go_simp
        simp only [List.getElem_toArray, List.getElem_cons_zero, Act.put, List.setIfInBounds_toArray, List.set_cons_zero, List.set_cons_succ]
        refine wpAnyH_take (i := 1) (v := .pointer (some ⟨bb + 1, 0, none⟩)) rfl (by kernel_rfl) (by kernel_rfl) (by kernel_rfl) (fun _ _ _ h => h) (Or.inl ⟨by rfl, ?_⟩) hHeld ?_
        · intro w hSw; (try dsimp only at hSw); simp only [List.getElem_toArray, List.getElem_cons_zero, List.getElem_cons_succ]; go_simp
        simp only [List.getElem_toArray, List.getElem_cons_zero, List.getElem_cons_succ, Act.put, List.setIfInBounds_toArray, List.set_cons_zero, List.set_cons_succ]
        refine wpAnyH_take (i := 2) (v := .pointer (some ⟨bb + 1, 0, none⟩)) rfl (by kernel_rfl) (by kernel_rfl) (by kernel_rfl) (fun _ _ _ h => h) (Or.inl ⟨by rfl, ?_⟩) hHeld ?_
        · intro w hSw; (try dsimp only at hSw); simp only [List.getElem_toArray, List.getElem_cons_zero, List.getElem_cons_succ]; go_simp
        simp only [List.getElem_toArray, List.getElem_cons_zero, List.getElem_cons_succ, Act.put, List.setIfInBounds_toArray, List.set_cons_zero, List.set_cons_succ]
        refine wpAnyH_take (i := 3) (v := .slice (some ⟨bb, 0, none⟩) BL.length BL.length) rfl (by kernel_rfl) (by kernel_rfl) (by kernel_rfl) (fun _ _ _ h => h) (Or.inl ⟨by rfl, ?_⟩) hHeld ?_
        · intro w hSw; (try dsimp only at hSw); simp only [List.getElem_toArray, List.getElem_cons_zero, List.getElem_cons_succ]; go_simp
        simp only [List.getElem_toArray, List.getElem_cons_zero, List.getElem_cons_succ, Act.put, List.setIfInBounds_toArray, List.set_cons_zero, List.set_cons_succ]
        refine wpAnyH_take (i := 4) (v := .pointer (some ⟨wr.heap.size, 0, none⟩)) rfl (by kernel_rfl) (by kernel_rfl) (by kernel_rfl) (fun _ _ _ h => h) (Or.inl ⟨by rfl, ?_⟩) hHeld ?_
        · intro w hSw; (try dsimp only at hSw); simp only [List.getElem_toArray, List.getElem_cons_zero, List.getElem_cons_succ]; go_simp
        simp only [List.getElem_toArray, List.getElem_cons_zero, List.getElem_cons_succ, Act.put, List.setIfInBounds_toArray, List.set_cons_zero, List.set_cons_succ]
        refine wpAnyH_take (i := 5) (v := .int .i64 (x.1 : Int)) rfl (by kernel_rfl) (by kernel_rfl) (by kernel_rfl) (fun _ _ _ h => h) (Or.inl ⟨by rfl, ?_⟩) hHeld ?_
        · intro w hSw; (try dsimp only at hSw); simp only [List.getElem_toArray, List.getElem_cons_zero, List.getElem_cons_succ]; go_simp
        simp only [List.getElem_toArray, List.getElem_cons_zero, List.getElem_cons_succ, Act.put, List.setIfInBounds_toArray, List.set_cons_zero, List.set_cons_succ]
        refine wpAnyH_take (i := 6) (v := .pointer (some ⟨wr.heap.size, 1, none⟩)) rfl (by kernel_rfl) (by kernel_rfl) (by kernel_rfl) (fun _ _ _ h => h) (Or.inl ⟨by rfl, ?_⟩) hHeld ?_
        · intro w hSw; (try dsimp only at hSw); simp only [List.getElem_toArray, List.getElem_cons_zero, List.getElem_cons_succ]; go_simp
        simp only [List.getElem_toArray, List.getElem_cons_zero, List.getElem_cons_succ, Act.put, List.setIfInBounds_toArray, List.set_cons_zero, List.set_cons_succ]
        refine wpAnyH_take (i := 7) (v := .agg (bc x.2).toArray) rfl (by kernel_rfl) (by kernel_rfl) (by kernel_rfl) (fun _ _ _ h => h) (yieldsIf_load_mid (by rfl) 179 _ (by rfl) wr.heap.size 1 (by rfl) (bc x.2) _ (fun w h => h.2.2) Tryz.underlying179 rfl HI.out) hHeld ?_
        simp only [List.getElem_toArray, List.getElem_cons_zero, List.getElem_cons_succ, Act.put, List.setIfInBounds_toArray, List.set_cons_zero, List.set_cons_succ]
        refine wpAnyH_take (i := 8) (v := .pointer (some ⟨bb, x.1 * 16, none⟩)) rfl (by kernel_rfl) (by kernel_rfl) (by kernel_rfl) (fun _ _ _ h => h) (Or.inl ⟨by rfl, ?_⟩) hHeld ?_
        · intro w hSw; (try dsimp only at hSw); simp only [List.getElem_toArray, List.getElem_cons_zero, List.getElem_cons_succ]; go_simp
        simp only [List.getElem_toArray, List.getElem_cons_zero, List.getElem_cons_succ, Act.put, List.setIfInBounds_toArray, List.set_cons_zero, List.set_cons_succ]
        refine wpAnyH_ready (rs := [9]) (by kernel_rfl) (by simp) ?_
        refine AllReadyH.cons rfl (fun K' hK' => ?_) AllReadyH.nil
        refine step_store_mid (by rfl) 179 _ _ (by rfl) bb (x.1 * 16) (bc x.2).toArray (by rfl) (by rfl) HTH.out (by simpa using HI.out) (all_oneCell_toArray (bc_one x.2)) ?_
        simp only [List.getElem_toArray, List.getElem_cons_zero, List.getElem_cons_succ, Act.put]
        refine hK'.out _ _ HS7.out (fun hHeld' => ?_)
        clear hK' K' hHeld
        have hHeld := hHeld'
        clear hHeld'
        refine wpAnyH_done (by kernel_rfl) ?_ _
        go_wp2_with fail
        refine ⟨⟨j + 1, by omega, by simp, ?_, HEB.out⟩, by simp [intOf]; omega⟩
        have e : setl keep wt bl (j + 1) = BL.set x.1 x.2 := by
          show (match wt[j]? with | some x => if keep j then (setl keep wt bl j).set x.1 x.2 else setl keep wt bl j | none => setl keep wt bl j) = _
          rw [HX.out, hkeep, HBL.out]; rfl
        rw [e]
        exact HE.out
    · obtain rfl : j = wt.length := by omega
      obtain ⟨c1, c2, c3⟩ := D.cells
      clear D hbut
      go_wp2_with fail
      go_returns
      exact ⟨rfl, HDr.out.forget, HBUT.out.trans (DkAt.but_forget _)⟩
end Go.Proofs.YteefneelcgeioaaGreatDoor
namespace Go.Proofs.YteefneelcgeioaaGreatDoor
open Go.RowKit

/-- A fact that is kept from the walk. -/
theorem any_take_next {α : Type} (pr : α → Bool) {l : List α} {j : Nat} {x : α} (h : l[j]? = some x) : (l.take (j + 1)).any pr = ((l.take j).any pr || pr x) := by
  obtain ⟨hj, e⟩ := List.getElem?_eq_some_iff.1 h
  rw [List.take_succ_eq_append_getElem hj, e]; simp
set_option maxRecDepth 100000 in
set_option maxHeartbeats 2000000 in
theorem indexI_any (g : Nat) (lb : Array Value) (pr : Int → Bool) (v : Value) (l : List Int) (w : World) (hv : IntsAt w v l) (hl : l.length ≤ 100000)
    (eg : ∀ args w, (callFunc g args).run Tryz.prog w = .ok (.enter g args) w)
    (HF : ∀ (x : Int), Calls Tryz.prog g (#[.int .i64 x] ++ lb) w fun e W' => e = .returned (.bool (pr x)) ∧ W' = w) :
    Calls Tryz.prog 132 #[v, .func (.func g) #[] lb] w fun e w' => (∃ r : Int, e = .returned (.int .i64 r) ∧ decide (0 ≤ r) = l.any pr) ∧ w' = w := by
  obtain ⟨ad, vc, rfl, hcs⟩ := hv
  have HCS : Hid (∀ i x, l[i]? = some x → ∃ b off, ad = some ⟨b, off, none⟩ ∧ w.cell? ⟨b, off + i, none⟩ = some (.int .i64 x)) := hcs
  have HFF : Hid (∀ (x : Int), Calls Tryz.prog g (#[.int .i64 x] ++ lb) w fun e W' => e = .returned (.bool (pr x)) ∧ W' = w) := HF
  clear hcs HF
  go_enter Tryz.func132, Tryz.ntmps132
  go_wp2_with fail
  go_loopw [8] (fun i wr => ∃ j : Nat, j ≤ l.length ∧ i = .int .i64 j ∧ wr = w ∧ (l.take j).any pr = false) (fun i _ => l.length - (intOf i).toNat)
  case atStart => exact ⟨0, Nat.zero_le _, rfl, rfl, by simp⟩
  case round =>
    obtain ⟨j, hj, rfl, rfl, ha⟩ := hrel
    have HA : Hid ((l.take j).any pr = false) := ha
    clear ha
    by_cases hlt : j < l.length
    · obtain ⟨x, hx⟩ : ∃ x, l[j]? = some x := ⟨_, List.getElem?_eq_getElem hlt⟩
      obtain ⟨b, off, rfl, c⟩ := HCS.out j x hx
      have HN : Hid ((l.take (j + 1)).any pr = pr x) := by show _ = _; rw [any_take_next pr hx, HA.out]; rfl
      have HX : Hid (x ∈ l) := List.mem_of_getElem? hx
      have HC := HFF.out x
      clear hx
      cases hp : pr x with
      | true =>
        rw [hp] at HC
        have HP : Hid (pr x = true) := hp
        clear hp
        go_wp2_with (refine HC.mono ?_; rintro e w2 ⟨rfl, hw⟩; rw [hw]; clear hw)
        go_ret
        refine ⟨⟨(j : Int), rfl, ?_⟩, rfl⟩
        rw [decide_eq_true (p := (0 : Int) ≤ (j : Int)) (by omega)]
        exact (List.any_eq_true.2 ⟨x, HX.out, HP.out⟩).symm
      | false =>
        rw [hp] at HC HN
        clear hp
        go_wp2_with (refine HC.mono ?_; rintro e w2 ⟨rfl, hw⟩; rw [hw]; clear hw)
        exact ⟨⟨j + 1, by omega, by simp, by first | rfl | trivial, HN.out⟩, by simp [intOf]; omega⟩
    · obtain rfl : j = l.length := by omega
      go_wp2_with fail
      go_ret
      refine ⟨⟨-1, rfl, ?_⟩, rfl⟩
      have := HA.out
      rw [List.take_length] at this
      rw [this]; rfl
theorem containsI_any (g : Nat) (lb : Array Value) (pr : Int → Bool) (v : Value) (l : List Int) (w : World) (hv : IntsAt w v l) (hl : l.length ≤ 100000)
    (eg : ∀ args w, (callFunc g args).run Tryz.prog w = .ok (.enter g args) w)
    (HF : ∀ (x : Int), Calls Tryz.prog g (#[.int .i64 x] ++ lb) w fun e W' => e = .returned (.bool (pr x)) ∧ W' = w) :
    Calls Tryz.prog 110 #[v, .func (.func g) #[] lb] w fun e w' => e = .returned (.bool (l.any pr)) ∧ w' = w := by
  have HC := indexI_any g lb pr v l w hv hl eg HF
  obtain ⟨ad, vc, rfl, _⟩ := hv
  clear HF
  go_enter Tryz.func110, Tryz.ntmps110
  go_wp2_with (go_at_call 132; refine HC.mono ?_; rintro e w2 ⟨⟨r, rfl, hr⟩, hw⟩; rw [hw]; clear hw; (have HR : Hid (decide (0 ≤ r) = l.any pr) := hr); clear hr)
  go_ret
  refine ⟨?_, rfl⟩
  rw [← HR.out]
  rfl
section
variable {p b cap : Nat} {u : List Bool}
/-- Is it no block? -/
def offB (n : Nat) (x : Int) : Bool := decide (x < 0 ∨ (n : Int) ≤ x)
/-- What Give answers. -/
def giveE (u : List Bool) (l : List Int) (eb en : Value) : Value := if l.any (offB u.length) then eb else if giveR u (l.map Int.toNat) then .nilIface else en
set_option maxRecDepth 100000 in
set_option maxHeartbeats 1000000 in
theorem fault1_any (B n c : Nat) (a : Option Addr) (x : Int) (W : World) (h1 : W.cell? ⟨B, 0, none⟩ = some (.slice a n c)) :
    Calls Tryz.prog 111 (#[.int .i64 x] ++ #[.pointer (some ⟨B, 0, none⟩)]) W fun e W' => e = .returned (.bool (offB n x)) ∧ W' = W := by
  show Calls Tryz.prog 111 #[.int .i64 x, .pointer (some ⟨B, 0, none⟩)] W _
  by_cases h : x < 0
  · go_enter Tryz.func111, Tryz.ntmps111
    go_wp2_with fail
    go_ret
    have e : offB n x = true := decide_eq_true (.inl h)
    exact ⟨by rw [e]; rfl, rfl⟩
  · go_enter Tryz.func111, Tryz.ntmps111
    go_wp2_with fail
    go_ret
    have e : offB n x = decide ((n : Int) ≤ x) := decide_eq_decide.2 ⟨fun h' => by rcases h' with h' | h'; omega; exact h', .inr⟩
    exact ⟨by rw [e]; rfl, rfl⟩
theorem take_map_next {α β : Type} (f : α → β) {l : List α} {j : Nat} {x : α} (h : l[j]? = some x) : (l.take (j + 1)).map f = (l.take j).map f ++ [f x] := by
  obtain ⟨hj, e⟩ := List.getElem?_eq_some_iff.1 h
  rw [List.take_succ_eq_append_getElem hj, e]; simp
theorem giveR_no : ∀ (l m : List Nat) (u : List Bool), giveR u l = false → giveR u (l ++ m) = false
  | [], _, _, h => by simp [giveR] at h
  | k :: l, m, u, h => by
    rw [giveR] at h
    rw [List.cons_append, giveR]
    cases hk : u[k]?.getD false with
    | false => rfl
    | true => rw [hk] at h; simp only [Bool.true_and] at h ⊢; exact giveR_no l m _ h
set_option maxRecDepth 100000 in
set_option maxHeartbeats 4000000 in
theorem sp_fault (v : Value) (l : List Int) (eb en : Value) (w : World) (S : SpAt w p b cap u) (hu : u.length ≤ 512) (hv : IntsAt w v l) (hl : l.length ≤ 100000) (hEb : w.cell? ⟨6, 0, none⟩ = some eb) (hEn : w.cell? ⟨1, 0, none⟩ = some en) :
    Calls Tryz.prog 92 #[.pointer (some ⟨p, 0, none⟩), v] w fun e w' => e = .returned (giveE u l eb en) ∧ Below w.heap.size w w' := by
  have HM := sp_marks w S
  have HCB := cloneB_any w S hu
  have HCF : Hid (∀ (w1 : World) (X : Obj) (a : Option Addr) (c : Nat), Below w.heap.size w w1 → X = .cells #[.slice a u.length c] 182 (0, 0) → Calls Tryz.prog 110 #[v, .func (.func 111) #[] #[.pointer (some ⟨w1.heap.size, 0, none⟩)]] (w1.alloc X) fun e w' => e = .returned (.bool (l.any (offB u.length))) ∧ w' = w1.alloc X) := fun w1 X a c hb hX => by
    refine containsI_any 111 _ (offB u.length) v l _ (hv.below (hb.alloc hb.size _)) hl (enters_of Tryz.func111 (by kernel_rfl) rfl) fun x => fault1_any w1.heap.size u.length c a x _ ?_
    rw [hX, cell_of_row _ _ _ _ _ _ (heap_alloc_last w1 _)]; rfl
  obtain ⟨ad, vc, rfl, hcs⟩ := hv
  have HCS : Hid (∀ i x, l[i]? = some x → ∃ b off, ad = some ⟨b, off, none⟩ ∧ w.cell? ⟨b, off + i, none⟩ = some (.int .i64 x)) := hcs
  have hgb : 6 < w.heap.size := World.block_lt_of_cell? w _ hEb
  have hgn : 1 < w.heap.size := World.block_lt_of_cell? w _ hEn
  have HEb : Hid (w.cell? ⟨6, 0, none⟩ = some eb) := hEb
  have HEn : Hid (w.cell? ⟨1, 0, none⟩ = some en) := hEn
  clear S hcs hEb hEn
  cases ha : l.any (offB u.length) with
  | true =>
    rw [ha] at HCF
    have HA : Hid (l.any (offB u.length) = true) := ha
    clear ha
    go_enter Tryz.func92, Tryz.ntmps92
    go_wp2_with (first
      | (go_at_call 109; refine HM.mono ?_; rintro e w1 ⟨rfl, hw⟩; rw [hw]; clear hw)
      | (go_at_call 108; refine HCB.mono ?_; rintro e w1 ⟨g, c, rfl, ho, hb⟩; (have HB : Hid (Below w.heap.size w w1) := hb); clear ho hb)
      | (go_at_call 110; refine (HCF.out w1 _ _ _ HB.out rfl).mono ?_; rintro e w2 ⟨rfl, hw⟩; rw [hw]; clear hw; (have cE : ∀ X, (w1.alloc X).cell? ⟨6, 0, none⟩ = some eb := fun X => by rw [(HB.out.alloc HB.out.size _).cell (p := ⟨6, 0, none⟩) hgb]; exact HEb.out)))
    go_ret
    refine ⟨?_, HB.out.alloc HB.out.size _⟩
    unfold giveE
    rw [HA.out]; rfl
  | false =>
    rw [ha] at HCF
    have HA : Hid (l.any (offB u.length) = false) := ha
    have HIN : Hid (∀ x ∈ l, ∃ k : Nat, x = k ∧ k < u.length) := fun x hx => by
      have h : ¬ (x < 0 ∨ (u.length : Int) ≤ x) := fun h => by
        have := List.any_eq_true.2 ⟨x, hx, (show offB u.length x = true from decide_eq_true h)⟩
        rw [this] at ha; cases ha
      exact ⟨x.toNat, by omega, by omega⟩
    clear ha
    go_enter Tryz.func92, Tryz.ntmps92
    go_wp2_with (first
      | (go_at_call 109; refine HM.mono ?_; rintro e w1 ⟨rfl, hw⟩; rw [hw]; clear hw)
      | (go_at_call 108; refine HCB.mono ?_; rintro e w1 ⟨g, c, rfl, ho, hb⟩; (have HO : Hid (w1.ownsRow w.heap.size 4 1 (.slice (some ⟨g, 0, none⟩) u.length c) u.length (u.map Value.bool)) := ho); (have HB : Hid (Below w.heap.size w w1) := hb); clear ho hb)
      | (go_at_call 110; refine (HCF.out w1 _ _ _ HB.out rfl).mono ?_; rintro e w2 ⟨rfl, hw⟩; rw [hw]; clear hw))
    clear HM HCB HCF
    have hgl := (HO.out.lt g rfl)
    have hsz := HB.out.size
    go_loopw [17] (fun i wr => ∃ j : Nat, j ≤ l.length ∧ i = .int .i64 j ∧ wr.heap[w1.heap.size]? = some (.cells #[.slice (some ⟨g, 0, none⟩) u.length c] 182 (0, 0)) ∧ RowB wr g c (markR u false ((l.take j).map Int.toNat)) ∧ giveR u ((l.take j).map Int.toNat) = true ∧ Below w.heap.size w wr) (fun i _ => l.length - (intOf i).toNat)
    case atStart => exact ⟨0, Nat.zero_le _, rfl, heap_alloc_last _ _, (RowB.of_owns HO.out).below ((Below.refl _ _).alloc (Nat.le_refl _) _), rfl, HB.out.alloc HB.out.size _⟩
    case round =>
      obtain ⟨j, hj, rfl, hbox, R, hgv, hb⟩ := hrel
      have HBX : Hid (wr.heap[w1.heap.size]? = some (.cells #[.slice (some ⟨g, 0, none⟩) u.length c] 182 (0, 0))) := hbox
      have HR : Hid (RowB wr g c (markR u false ((l.take j).map Int.toNat))) := R
      have HG : Hid (giveR u ((l.take j).map Int.toNat) = true) := hgv
      have HBr : Hid (Below w.heap.size w wr) := hb
      by_cases hlt : j < l.length
      · obtain ⟨x, hx⟩ : ∃ x, l[j]? = some x := ⟨_, List.getElem?_eq_getElem hlt⟩
        obtain ⟨xb, xo, rfl, cx0⟩ := HCS.out j x hx
        obtain ⟨k, rfl, hk⟩ := HIN.out x (List.mem_of_getElem? hx)
        have cx : wr.cell? ⟨xb, xo + j, none⟩ = some (.int .i64 (k : Int)) := by rw [hb.cell (p := ⟨xb, xo + j, none⟩) (World.block_lt_of_cell? w _ cx0)]; exact cx0
        have cb : wr.cell? ⟨w1.heap.size, 0, none⟩ = some (.slice (some ⟨g, 0, none⟩) u.length c) := by rw [cell_of_row _ _ _ _ _ _ hbox]; rfl
        have cE : wr.cell? ⟨1, 0, none⟩ = some en := by rw [hb.cell (p := ⟨1, 0, none⟩) hgn]; exact HEn.out
        obtain ⟨y, hy⟩ : ∃ y, (markR u false ((l.take j).map Int.toNat))[k]? = some y := ⟨_, List.getElem?_eq_getElem (by rw [markR_len]; exact hk)⟩
        have cy := R.mark hy
        have fy := R.frozen k
        have HN : Hid ((l.take (j + 1)).map Int.toNat = (l.take j).map Int.toNat ++ [k]) := take_map_next Int.toNat hx
        have HGN : Hid (giveR u ((l.take (j + 1)).map Int.toNat) = y) := by show _ = _; rw [HN.out, giveR_snoc, hgv, hy]; rfl
        have HSP : Hid (l = l.take (j + 1) ++ l.drop (j + 1)) := (List.take_append_drop _ _).symm
        clear hbox R hgv hb hx cx0 hy
        cases y with
        | false =>
          go_wp2_with fail
          go_ret
          refine ⟨?_, HBr.out⟩
          have h1 : giveR u (l.map Int.toNat) = false := by rw [HSP.out, List.map_append]; exact giveR_no _ _ _ HGN.out
          unfold giveE
          rw [HA.out, h1]; rfl
        | true =>
          go_wp2_with fail
          refine ⟨⟨j + 1, by omega, by simp, ?_, ?_, HGN.out, HBr.out.setCell (p := ⟨g, k, none⟩) hgl.1 _⟩, by simp [intOf]; omega⟩
          · rw [Below.heap_setCell _ _ _ _ (show w1.heap.size ≠ g by omega)]; exact HBX.out
          · rw [HN.out, markR_snoc]; exact HR.out.set k false
      · obtain rfl : j = l.length := by omega
        rw [List.take_length] at HG
        clear hbox R hgv hb
        go_wp2_with fail
        go_ret
        refine ⟨?_, HBr.out⟩
        unfold giveE
        rw [HA.out, HG.out]; rfl
theorem grown_of_below {w w1 w2 : World} {b : Option Nat} (h : Below w.heap.size w w1) (h2 : w1.grownBy w2 b) : w.grownBy w2 b :=
  ⟨h2.os.trans h.os, h2.tape.trans h.tape, h2.output.trans h.output, Nat.le_trans h.size h2.size, fun k hk hb => (h2.block k (Nat.lt_of_lt_of_le hk h.size) hb).trans (h.block k hk)⟩
theorem ints_take (l : List Nat) (k : Nat) : (ints l).take k = ints (l.take k) := by simp [ints, List.map_take]
theorem ints_len (l : List Nat) : (ints l).length = l.length := by simp [ints]
theorem ints_toNat (l : List Nat) : (ints l).map Int.toNat = l := by
  unfold ints
  rw [List.map_map]
  exact (List.map_congr_left (fun _ _ => rfl)).trans (List.map_id l)
set_option maxRecDepth 100000 in
set_option maxHeartbeats 2000000 in
theorem sp_take_neg (k : Int) (hk : k < 0) (eb : Value) (w : World) (hEb : w.cell? ⟨6, 0, none⟩ = some eb) :
    Calls Tryz.prog 89 #[.pointer (some ⟨p, 0, none⟩), .int .i64 k] w fun e w' => e = .returned (.tuple #[.slice none 0 0, eb]) ∧ Below w.heap.size w w' := by
  go_enter Tryz.func89, Tryz.ntmps89
  go_wp2_with fail
  go_quiet (fail)
  go_wp2_with fail
  go_ret2
  exact ⟨rfl, ⟨rfl, rfl, rfl, Nat.le_refl _, fun _ _ => rfl⟩⟩
set_option maxRecDepth 100000 in
set_option maxHeartbeats 2000000 in
theorem sp_take_full (k : Int) (hk : ((freeR u).length : Int) < k) (ef : Value) (w : World) (S : SpAt w p b cap u) (hu : u.length ≤ 512) (hEf : w.cell? ⟨0, 0, none⟩ = some ef) :
    Calls Tryz.prog 89 #[.pointer (some ⟨p, 0, none⟩), .int .i64 k] w fun e w' => e = .returned (.tuple #[.slice none 0 0, ef]) ∧ Below w.heap.size w w' := by
  have HF := sp_free w S hu
  have hgf : 0 < w.heap.size := World.block_lt_of_cell? w _ hEf
  have HEf : Hid (w.cell? ⟨0, 0, none⟩ = some ef) := hEf
  clear S hEf
  generalize hn : (freeR u).length = n at hk
  have HN : Hid ((freeR u).length = n) := hn
  clear hn
  have hk0 : ¬ k < 0 := by omega
  go_enter Tryz.func89, Tryz.ntmps89
  go_wp2_with (go_at_call 76; refine HF.mono ?_; rintro e w1 ⟨v, rfl, h1, h2⟩; (obtain ⟨ad, vc, rfl⟩ := own_form h1); (have HB : Hid (Below w.heap.size w w1) := h2); (have cE : w1.cell? ⟨0, 0, none⟩ = some ef := by rw [h2.cell (p := ⟨0, 0, none⟩) hgf]; exact HEf.out); clear h1 h2; rw [HN.out])
  go_quiet (fail)
  go_wp2_with fail
  go_ret2
  have h := HB.out
  exact ⟨rfl, ⟨h.os, h.tape, h.output, h.size, h.block⟩⟩
set_option maxRecDepth 100000 in
set_option maxHeartbeats 2000000 in
theorem sp_take (k : Nat) (hk : k ≤ (freeR u).length) (w : World) (S : SpAt w p b cap u) (hu : u.length ≤ 512) :
    Calls Tryz.prog 89 #[.pointer (some ⟨p, 0, none⟩), .int .i64 (k : Int)] w fun e w' => ∃ v, e = .returned (.tuple #[v, .nilIface]) ∧ OwnI w' w.heap.size v ((freeR u).take k) ∧ SpAt w' p b cap (markR u true ((freeR u).take k)) ∧ w.grownBy w' (some b) := by
  have HF := sp_free w S hu
  have hfl : (freeR u).length ≤ 512 := Nat.le_trans (whereR_len _ _ _) hu
  have HSA : Hid (SpAt w p b cap u) := S
  have HLT : Hid (∀ x ∈ (freeR u).take k, x < u.length) := fun x hx => whereR_lt (List.mem_of_mem_take hx)
  have HCL : Hid (∀ w1 v, Below w.heap.size w w1 → IntsAt w1 v (ints ((freeR u).take k)) → Calls Tryz.prog 47 #[v] w1 fun e w' => ∃ v', e = .returned v' ∧ OwnI w' w.heap.size v' ((freeR u).take k) ∧ Below w.heap.size w w') := fun w1 v hb hv =>
    (cloneI_any v _ w1 hv (by rw [ints_len, List.length_take]; omega)).mono fun e w' ⟨v', he, ho, hb'⟩ => ⟨v', he, by
      rw [ints_len] at ho
      refine ⟨ho.1, ?_⟩
      rcases ho.2 with h | ⟨g, c, cur, e1, e2, e3⟩
      · exact .inl h
      · exact .inr ⟨g, c, cur, e1, Nat.le_trans hb.size e2, e3⟩, hb.trans (hb'.mono hb.size)⟩
  have HMK : Hid (∀ w1 v, Below w.heap.size w w1 → OwnI w1 w.heap.size v ((freeR u).take k) → Calls Tryz.prog 93 #[.pointer (some ⟨p, 0, none⟩), v, .bool true] w1 fun e w' => e = .returned (.tuple #[]) ∧ OwnI w' w.heap.size v ((freeR u).take k) ∧ SpAt w' p b cap (markR u true ((freeR u).take k)) ∧ w.grownBy w' (some b)) := fun w1 v hb ho =>
    (sp_mark true v _ w1 (HSA.out.below hb) ho.t (by rw [List.length_take]; omega) HLT.out).mono fun e w' ⟨he, hS, hg⟩ => ⟨he, by
      obtain ⟨cur, h1, _⟩ := (HSA.out.below hb).row
      refine ho.keep fun q cur' hq => hg.block q (Array.getElem?_eq_some_iff.1 hq).1 (fun e => ?_)
      simp only [Option.some.injEq] at e
      rw [e, h1] at hq
      simp only [Option.some.injEq, Obj.cells.injEq] at hq
      exact absurd hq.2.1 (by decide), hS, grown_of_below hb hg⟩
  clear S
  obtain ⟨F, hF⟩ : ∃ F, F = freeR u := ⟨_, rfl⟩
  rw [← hF] at HF hfl hk HCL HMK ⊢
  clear hF HLT HSA
  go_enter Tryz.func89, Tryz.ntmps89
  go_wp2_with fail
  refine Calls.mono HF ?_
  rintro e w1 ⟨v, rfl, h1, h2⟩
  have HB : Hid (Below w.heap.size w w1) := h2
  have HO : Hid (OwnI w1 w.heap.size v F) := h1
  obtain ⟨ad, vc, rfl⟩ := own_form h1
  clear h1 h2
  have HIA : Hid (∀ vc', IntsAt w1 (.slice ad k vc') (ints (F.take k))) := fun vc' => by
    obtain ⟨ad', c', e, h⟩ := HO.out.t.at
    simp only [Value.slice.injEq] at e
    obtain ⟨rfl, _, _⟩ := e
    refine ⟨ad, vc', by rw [ints_len, List.length_take, Nat.min_eq_left hk], fun i x hx => h i x ?_⟩
    rw [← ints_take] at hx
    have hi : i < k := by have := (List.getElem?_eq_some_iff.1 hx).1; rw [List.length_take] at this; omega
    rwa [List.getElem?_take_of_lt hi] at hx
  have hcp : k ≤ vc := by
    rcases HO.out.2 with ⟨e, e2⟩ | ⟨g, c, cur, e, _, _, h3, _⟩
    · omega
    · simp only [Value.slice.injEq] at e
      omega
  clear HF HO
  cases ad with
  | none =>
    have hk0 : k = 0 := by
      cases k with
      | zero => rfl
      | succ k =>
        obtain ⟨ad', c', e, h⟩ := HIA.out vc
        have hl : (ints (F.take (k + 1))).length = k + 1 := by rw [ints_len, List.length_take, Nat.min_eq_left hk]
        obtain ⟨b', o', e1, _⟩ := h 0 _ (List.getElem?_eq_getElem (by omega))
        simp only [Value.slice.injEq] at e
        rw [← e.1] at e1; cases e1
    subst hk0
    go_wp2_with (first
      | (go_at_call 47; refine (HCL.out w1 _ HB.out (HIA.out _)).mono ?_; rintro e w2 ⟨v', rfl, h1, h2⟩; (have HB2 : Hid (Below w.heap.size w w2) := h2); (have HO2 : Hid (OwnI w2 w.heap.size v' (F.take 0)) := h1); clear h1 h2)
      | (go_at_call 93; refine (HMK.out w2 v' HB2.out HO2.out).mono ?_; rintro e w3 ⟨rfl, h1, h2, h3⟩))
    go_ret2
    exact ⟨v', rfl, h1, h2, h3⟩
  | some a =>
    go_wp2_with (first
      | (go_at_call 47; refine (HCL.out w1 _ HB.out (HIA.out _)).mono ?_; rintro e w2 ⟨v', rfl, h1, h2⟩; (have HB2 : Hid (Below w.heap.size w w2) := h2); (have HO2 : Hid (OwnI w2 w.heap.size v' (F.take k)) := h1); clear h1 h2)
      | (go_at_call 93; refine (HMK.out w2 v' HB2.out HO2.out).mono ?_; rintro e w3 ⟨rfl, h1, h2, h3⟩))
    go_ret2
    exact ⟨v', rfl, h1, h2, h3⟩
set_option maxRecDepth 100000 in
set_option maxHeartbeats 2000000 in
/-- A list that can't be given back. -/
theorem sp_give_not (v : Value) (l : List Int) (pb pn : Value) (w : World) (S : SpAt w p b cap u) (hu : u.length ≤ 512) (hv : IntsAt w v l) (hl : l.length ≤ 100000) (hEb : w.cell? ⟨6, 0, none⟩ = some (.iface 235 pb)) (hEn : w.cell? ⟨1, 0, none⟩ = some (.iface 235 pn))
    (hno : l.any (offB u.length) = true ∨ giveR u (l.map Int.toNat) = false) :
    Calls Tryz.prog 65 #[.pointer (some ⟨p, 0, none⟩), v] w fun e w' => e = .returned (giveE u l (.iface 235 pb) (.iface 235 pn)) ∧ Below w.heap.size w w' := by
  have HF := sp_fault v l _ _ w S hu hv hl hEb hEn
  obtain ⟨q, hq⟩ : ∃ q, giveE u l (.iface 235 pb) (.iface 235 pn) = .iface 235 q := by
    unfold giveE
    cases ha : l.any (offB u.length) with
    | true => exact ⟨pb, rfl⟩
    | false =>
      rcases hno with h | h
      · rw [h] at ha; cases ha
      · exact ⟨pn, by rw [h]; rfl⟩
  rw [hq] at HF ⊢
  obtain ⟨ad, vc, rfl, _⟩ := hv
  clear S hEb hEn hq hno
  go_enter Tryz.func65, Tryz.ntmps65
  go_wp2_with (go_at_call 92; refine HF.mono ?_; rintro e w1 ⟨rfl, h1⟩)
  go_ret
  exact ⟨rfl, h1⟩
set_option maxRecDepth 100000 in
set_option maxHeartbeats 2000000 in
theorem sp_give (v : Value) (l : List Nat) (eb en : Value) (w : World) (S : SpAt w p b cap u) (hu : u.length ≤ 512) (hv : IntsT w v (ints l)) (hl : l.length ≤ 100000) (hEb : w.cell? ⟨6, 0, none⟩ = some eb) (hEn : w.cell? ⟨1, 0, none⟩ = some en)
    (hin : ∀ k ∈ l, k < u.length) (hyes : giveR u l = true) :
    Calls Tryz.prog 65 #[.pointer (some ⟨p, 0, none⟩), v] w fun e w' => e = .returned .nilIface ∧ SpAt w' p b cap (markR u false l) ∧ w.grownBy w' (some b) := by
  have HF := sp_fault v (ints l) _ _ w S hu hv.at (by rw [ints_len]; exact hl) hEb hEn
  have hq : giveE u (ints l) eb en = .nilIface := by
    have ha : (ints l).any (offB u.length) = false := by
      rw [List.any_eq_false]
      intro x hx
      obtain ⟨k, hk, rfl⟩ := List.mem_map.1 hx
      have := hin k hk
      unfold offB
      simp only [decide_eq_true_eq]
      intro h
      have : (Int.ofNat k) = (k : Int) := rfl
      omega
    unfold giveE
    rw [ha, ints_toNat, hyes]; rfl
  rw [hq] at HF
  have HMK : Hid (∀ w1, Below w.heap.size w w1 → Calls Tryz.prog 93 #[.pointer (some ⟨p, 0, none⟩), v, .bool false] w1 fun e w' => e = .returned (.tuple #[]) ∧ SpAt w' p b cap (markR u false l) ∧ w.grownBy w' (some b)) := fun w1 hb =>
    (sp_mark false v l w1 (S.below hb) (hv.below hb) hl hin).mono fun e w' ⟨he, hS, hg⟩ => ⟨he, hS, grown_of_below hb hg⟩
  obtain ⟨ad, vc, rfl, _⟩ := hv
  clear S hEb hEn hq
  go_enter Tryz.func65, Tryz.ntmps65
  go_wp2_with (first
    | (go_at_call 92; refine HF.mono ?_; rintro e w1 ⟨rfl, h1⟩)
    | (go_at_call 93; refine (HMK.out w1 h1).mono ?_; rintro e w2 ⟨rfl, h2, h3⟩))
  go_ret
  exact ⟨rfl, h2, h3⟩
end
end Go.Proofs.YteefneelcgeioaaGreatDoor
