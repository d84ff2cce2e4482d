/-
  The contract of the document's NewDisk.
  Conditions: those that each states.
-/
import Derived.Test.YtcejpeohkgchdaaDoorK14
namespace Go.Proofs.YtcejpeohkgchdaaDoor
open Go.RowKit

/-- One block more. -/
theorem new_end {mb : Nat} {la : Option Addr} {lc j : Nat} {w wa1 w5 w6 : World} {g cap : Nat} (M : MkAt w mb la lc none 0 (List.replicate j zb) [])
    (hown : w5.ownsRow (mb + 1) 9 1 (.slice (some ⟨g, 0, none⟩) (j + 1) cap) (j + 1) ((List.replicate j zb).map sV ++ [.string (zerosB 16)])) (hba : Below w.heap.size w wa1) (hgrow : wa1.grownBy w5 (Value.slice la j lc).ownBlock)
    (h6 : w6 = w5.setCell ⟨mb, 0, none⟩ (.slice (some ⟨g, 0, none⟩) (j + 1) cap)) :
    MkAt w6 mb (some ⟨g, 0, none⟩) cap none 0 (List.replicate (j + 1) zb) [] ∧ Below mb w w6 := by
  have hlt := M.lt
  have hob : ∀ k, k < w.heap.size → (∀ a, la = some a → k ≠ a.block) → w5.heap[k]? = w.heap[k]? := fun k hk hne => by
    rw [hgrow.block k (Nat.lt_of_lt_of_le hk hba.size) (fun e => ?_), hba.block k hk]
    cases la with
    | none => simp [Value.ownBlock] at e
    | some a => exact hne a rfl (by simpa [Value.ownBlock] using e)
  have h6b : ∀ k, k ≠ mb → w6.heap[k]? = w5.heap[k]? := fun k hk => by rw [h6]; exact Below.heap_setCell _ _ _ _ hk
  have hg : mb + 1 ≤ g := (hown.lt g rfl).1
  have hd : w5.heap[mb]? = w.heap[mb]? := hob _ (by omega) (fun a ha => by have := (M.lowL ha).1; omega)
  refine ⟨⟨?_, ?_, ⟨rfl, .inl ⟨rfl, rfl⟩⟩⟩, ⟨?_, ?_, ?_, ?_, fun k hk => ?_⟩⟩
  · rw [h6, row_setCell (hd.trans M.disk)]
    simp
  · have e : (List.replicate (j + 1) zb).map sV = (List.replicate j zb).map sV ++ [.string (zerosB 16)] := by
      rw [List.replicate_succ', List.map_append]; rfl
    rw [e, List.length_replicate]
    refine own_ext hown fun k hk => h6b k ?_
    have hk' : g = k := by simpa [Value.ownBlock] using hk
    omega
  · rw [h6]; exact hgrow.os.trans hba.os
  · rw [h6]; exact hgrow.tape.trans hba.tape
  · rw [h6]; exact hgrow.output.trans hba.output
  · have : w6.heap.size = w5.heap.size := by rw [h6]; simp [World.setCell]
    have := hgrow.size
    have := hba.size
    omega
  · rw [h6b k (by omega), hob k (by omega) (fun a ha => by have := (M.lowL ha).1; omega)]

set_option maxRecDepth 100000 in
set_option maxHeartbeats 2000000 in
theorem newDisk_any (n : Nat) (hn : n ≤ 512) (w : World) :
    Calls Tryd.prog 17 #[.int .i64 (n : Int)] w fun e w' => e = .returned (.pointer (some ⟨w.heap.size, 0, none⟩)) ∧ (∃ la lc, MkAt w' w.heap.size la lc none 0 (List.replicate n zb) []) ∧ Below w.heap.size w w' := by
  obtain ⟨i0, hi0, hz0, hz1, hz2⟩ := info_parts infoSt
  obtain ⟨mb, hmb⟩ : ∃ mb, mb = w.heap.size := ⟨_, rfl⟩
  rw [← hmb]
  have HMB : Hid (mb = w.heap.size) := hmb
  have H0 : Hid (MkAt (w.alloc (.cells #[.slice none 0 0, .slice none 0 0] 81)) mb none 0 none 0 (List.replicate 0 zb) []) := by
    refine ⟨?_, ⟨rfl, .inl ⟨rfl, rfl⟩⟩, ⟨rfl, .inl ⟨rfl, rfl⟩⟩⟩
    rw [hmb]; exact heap_alloc_last w _
  have HB0 : Hid (Below mb w (w.alloc (.cells #[.slice none 0 0, .slice none 0 0] 81))) := by rw [hmb]; exact (Below.refl _ _).alloc (Nat.le_refl _) _
  go_enter Tryd.func17, Tryd.ntmps17
  go_wp2_with fail
  rw [← hmb]
  clear hmb
  go_loopw [4] (fun i wr => ∃ (j : Nat) (la : Option Addr) (lc : Nat), j ≤ n ∧ i = .int .i64 j ∧ MkAt wr mb la lc none 0 (List.replicate j zb) [] ∧ Below mb w wr) (fun i _ => n - (intOf i).toNat)
  case atStart => exact ⟨0, none, 0, Nat.zero_le _, rfl, H0.out, HB0.out⟩
  case round =>
    clear H0 HB0
    obtain ⟨j, la, lc, hj, rfl, M, hB⟩ := hrel
    have HM : Hid _ := M
    have HB : Hid _ := hB
    by_cases hlt : j < n
    · have HBA : Hid (Below wr.heap.size wr (wr.drew.alloc (.cells #[.string (zerosB 16)] 9))) := ((Below.refl _ _).drew).alloc (Nat.le_refl _) _
      have HG : Hid (∀ w', Below wr.heap.size wr w' → w'.cell? ⟨mb, 0, none⟩ = some (.slice la j lc)) := fun w' h => by
        have h2 := (M.below (Nat.le_refl _) h).cells.1
        rw [List.length_replicate] at h2
        exact h2
      have HOW : Hid ((wr.drew.alloc (.cells #[.string (zerosB 16)] 9)).ownsRow (mb + 1) 9 1 (.slice la j lc) j ((List.replicate j zb).map sV)) := by
        have h2 := (M.below (Nat.le_refl _) HBA.out).lrow
        rw [List.length_replicate] at h2
        exact h2
      have HN2 : Hid ((wr.drew.alloc (.cells #[.string (zerosB 16)] 9)).heap[wr.heap.size]? = some (.cells #[.string (zerosB 16)] 9 (0, 0))) := heap_alloc_last wr.drew _
      clear M hB
      go_wp2_with fail
      refine wp_region_held_drew (S := fun _ => True) (by kernel_rfl) (trivial) (fun hHeld => ?_)
      refine wpAnyH_take (i := 0) (v := .pointer (some ⟨mb, 0, none⟩)) rfl (by kernel_rfl) (by kernel_rfl) (by kernel_rfl) (fun _ _ _ h => h) (Or.inl ⟨by rfl, ?_⟩) hHeld ?_
      · intro w hSw; (try dsimp only at hSw); simp only [List.getElem_toArray, List.getElem_cons_zero]; go_simp
      simp only [List.getElem_toArray, List.getElem_cons_zero, Act.put, List.setIfInBounds_toArray, List.set_cons_zero, List.set_cons_succ]
      refine wpAnyH_take (i := 1) (v := .pointer (some ⟨mb, 0, none⟩)) rfl (by kernel_rfl) (by kernel_rfl) (by kernel_rfl) (fun _ _ _ h => h) (Or.inl ⟨by rfl, ?_⟩) hHeld ?_
      · intro w hSw; (try dsimp only at hSw); simp only [List.getElem_toArray, List.getElem_cons_zero, List.getElem_cons_succ]; go_simp
      simp only [List.getElem_toArray, List.getElem_cons_zero, List.getElem_cons_succ, Act.put, List.setIfInBounds_toArray, List.set_cons_zero, List.set_cons_succ]
      refine wpAnyH_take (i := 2) (v := .pointer (some ⟨mb, 0, none⟩)) rfl (by kernel_rfl) (by kernel_rfl) (by kernel_rfl) (fun _ _ _ h => h) (Or.inl ⟨by rfl, ?_⟩) hHeld ?_
      · intro w hSw; (try dsimp only at hSw); simp only [List.getElem_toArray, List.getElem_cons_zero, List.getElem_cons_succ]; go_simp
      simp only [List.getElem_toArray, List.getElem_cons_zero, List.getElem_cons_succ, Act.put, List.setIfInBounds_toArray, List.set_cons_zero, List.set_cons_succ]
      refine wpAnyH_take (i := 3) (v := .pointer (some ⟨mb, 0, none⟩)) rfl (by kernel_rfl) (by kernel_rfl) (by kernel_rfl) (fun _ _ _ h => h) (Or.inl ⟨by rfl, ?_⟩) hHeld ?_
      · intro w hSw; (try dsimp only at hSw); simp only [List.getElem_toArray, List.getElem_cons_zero, List.getElem_cons_succ]; go_simp
      simp only [List.getElem_toArray, List.getElem_cons_zero, List.getElem_cons_succ, Act.put, List.setIfInBounds_toArray, List.set_cons_zero, List.set_cons_succ]
      refine wpAnyH_ready (rs := [4, 5]) (by kernel_rfl) (by simp) ?_
      refine AllReadyH.cons rfl (fun K' hK' => ?_) (AllReadyH.cons rfl (fun K' hK' => ?_) AllReadyH.nil)
      · skip
        simp only [List.getElem_toArray, List.getElem_cons_zero, List.getElem_cons_succ]
        have c16 := HG.out _ (Below.refl _ _).drew
        have c0 := HG.out wr (Below.refl _ _)
        have hltA := HM.out.lt
        have hltB : mb < wr.heap.size + 1 := (by omega)
        have hneA : ¬ mb = wr.heap.size := (by omega)
        go_simp
        go_wp2_with fail
        clear c16 c0 hltA hltB hneA
        refine hK'.out _ _ trivial (fun hHeld' => ?_)
        clear hK' K' hHeld
        have hHeld := hHeld'
        clear hHeld'
        refine wpAnyH_ready (rs := [5]) (by kernel_rfl) (by simp) ?_
        refine AllReadyH.cons rfl (fun K' hK' => ?_) AllReadyH.nil
        simp only [List.getElem_toArray, List.getElem_cons_zero, List.getElem_cons_succ]
        go_simp
        refine Calls.mono (zeros2_any _) ?_
        rintro e wx ⟨rfl, hwx⟩
        rw [hwx]
        clear hwx
        go_wp2_with fail
        refine hK'.out _ _ trivial (fun hHeld' => ?_)
        clear hK' K' hHeld
        have hHeld := hHeld'
        clear hHeld'
        refine wpAnyH_ready (rs := [6]) (by kernel_rfl) (by simp) ?_
        refine AllReadyH.cons rfl (fun K' hK' => ?_) AllReadyH.nil
        simp only [List.getElem_toArray, List.getElem_cons_zero, List.getElem_cons_succ]
        go_simp
        go_wp2_with fail
        refine hK'.out _ _ trivial (fun hHeld' => ?_)
        clear hK' K' hHeld
        have hHeld := hHeld'
        clear hHeld'
        refine wpAnyH_ready (rs := [7]) (by kernel_rfl) (by simp) ?_
        refine AllReadyH.cons rfl (fun K' hK' => ?_) AllReadyH.nil
        refine step_append_lies _ (by rfl) _ _ _ (by rfl) (mb + 1) 9 i0 _ 1 16 Tryd.underlying29 hi0 hz0 hz1 hz2 rfl (by omega) (.slice la j lc) j ((List.replicate j zb).map sV) (by rfl) HOW.out ⟨wr.heap.size, 0, none⟩ 1 1 [.string (zerosB 16)] (by rfl) (by rfl) (World.news_of_block (cs := #[.string (zerosB 16)]) (t := 9) (fr := (0, 0)) HN2.out) (by simp [Value.oneCell']) (by omega) (by unfold maxLen; omega) (by omega) (by have := HM.out.lt; simp; omega) (wr.heap.size + 1) (by simp) ?_
        intro g cap w5 hown5 hgrow hat hlt5
        have HE : Hid _ := new_end (w6 := w5.setCell ⟨mb, 0, none⟩ (.slice (some ⟨g, 0, none⟩) (j + 1) cap)) HM.out hown5 HBA.out hgrow rfl
        have e5 : w5.heap[mb]? = (wr.drew.alloc (.cells #[.string (zerosB 16)] 9)).heap[mb]? := hgrow.block _ (by have := HM.out.lt; simp; omega) (fun e => by have := (World.ownsRow.lt HOW.out _ e.symm).1; omega)
        have d5 : w5.heap[mb]? = some (.cells #[.slice la j lc, .slice none 0 0] 81 (0, 0)) := (by rw [e5]; have h := (HM.out.below (Nat.le_refl _) HBA.out).disk; rw [List.length_replicate] at h; exact h)
        have c5 : w5.cell? ⟨mb, 0, none⟩ = some (.slice la j lc) := (by rw [cell_of_row w5 _ _ _ _ _ d5]; rfl)
        have f5 : w5.frozen? ⟨mb, 0, none⟩ = false := frz d5 0
        clear hown5 hgrow hat e5 d5
        simp only [List.getElem_toArray, List.getElem_cons_zero, List.getElem_cons_succ, Act.put, List.setIfInBounds_toArray, List.set_cons_zero, List.set_cons_succ]
        refine hK'.out _ _ trivial (fun hHeld' => ?_)
        clear hK' K' hHeld
        have hHeld := hHeld'
        clear hHeld'
        refine wpAnyH_take (i := 8) (v := .pointer (some ⟨mb, 0, none⟩)) rfl (by kernel_rfl) (by kernel_rfl) (by kernel_rfl) (fun _ _ _ h => h) (Or.inl ⟨by rfl, ?_⟩) hHeld ?_
        · intro w hSw; (try dsimp only at hSw); simp only [List.getElem_toArray, List.getElem_cons_zero, List.getElem_cons_succ]; go_simp
        simp only [List.getElem_toArray, List.getElem_cons_zero, List.getElem_cons_succ, Act.put, List.setIfInBounds_toArray, List.set_cons_zero, List.set_cons_succ]
        refine wpAnyH_take (i := 9) (v := .pointer (some ⟨mb, 0, none⟩)) rfl (by kernel_rfl) (by kernel_rfl) (by kernel_rfl) (fun _ _ _ h => h) (Or.inl ⟨by rfl, ?_⟩) hHeld ?_
        · intro w hSw; (try dsimp only at hSw); simp only [List.getElem_toArray, List.getElem_cons_zero, List.getElem_cons_succ]; go_simp
        simp only [List.getElem_toArray, List.getElem_cons_zero, List.getElem_cons_succ, Act.put, List.setIfInBounds_toArray, List.set_cons_zero, List.set_cons_succ]
        refine wpAnyH_ready (rs := [10]) (by kernel_rfl) (by simp) ?_
        refine AllReadyH.cons rfl (fun K' hK' => ?_) AllReadyH.nil
        simp only [List.getElem_toArray, List.getElem_cons_zero, List.getElem_cons_succ]
        go_simp
        go_wp2_with fail
        refine hK'.out _ _ trivial (fun hHeld' => ?_)
        clear hK' K' hHeld
        have hHeld := hHeld'
        clear hHeld'
        refine wpAnyH_done (by kernel_rfl) ?_ _
        go_wp2_with fail
        exact ⟨⟨j + 1, some ⟨g, 0, none⟩, cap, by omega, by simp, HE.out.1, HB.out.trans HE.out.2⟩, by simp [intOf]; omega⟩
      · skip
        simp only [List.getElem_toArray, List.getElem_cons_zero, List.getElem_cons_succ]
        go_simp
        refine Calls.mono (zeros2_any _) ?_
        rintro e wx ⟨rfl, hwx⟩
        rw [hwx]
        clear hwx
        go_wp2_with fail
        refine hK'.out _ _ trivial (fun hHeld' => ?_)
        clear hK' K' hHeld
        have hHeld := hHeld'
        clear hHeld'
        refine wpAnyH_ready (rs := [4, 6]) (by kernel_rfl) (by simp) ?_
        refine AllReadyH.cons rfl (fun K' hK' => ?_) (AllReadyH.cons rfl (fun K' hK' => ?_) AllReadyH.nil)
        · skip
          simp only [List.getElem_toArray, List.getElem_cons_zero, List.getElem_cons_succ]
          have c16 := HG.out _ (Below.refl _ _).drew
          have c0 := HG.out wr (Below.refl _ _)
          have hltA := HM.out.lt
          have hltB : mb < wr.heap.size + 1 := (by omega)
          have hneA : ¬ mb = wr.heap.size := (by omega)
          go_simp
          go_wp2_with fail
          clear c16 c0 hltA hltB hneA
          refine hK'.out _ _ trivial (fun hHeld' => ?_)
          clear hK' K' hHeld
          have hHeld := hHeld'
          clear hHeld'
          refine wpAnyH_ready (rs := [6]) (by kernel_rfl) (by simp) ?_
          refine AllReadyH.cons rfl (fun K' hK' => ?_) AllReadyH.nil
          simp only [List.getElem_toArray, List.getElem_cons_zero, List.getElem_cons_succ]
          go_simp
          go_wp2_with fail
          refine hK'.out _ _ trivial (fun hHeld' => ?_)
          clear hK' K' hHeld
          have hHeld := hHeld'
          clear hHeld'
          refine wpAnyH_ready (rs := [7]) (by kernel_rfl) (by simp) ?_
          refine AllReadyH.cons rfl (fun K' hK' => ?_) AllReadyH.nil
          refine step_append_lies _ (by rfl) _ _ _ (by rfl) (mb + 1) 9 i0 _ 1 16 Tryd.underlying29 hi0 hz0 hz1 hz2 rfl (by omega) (.slice la j lc) j ((List.replicate j zb).map sV) (by rfl) HOW.out ⟨wr.heap.size, 0, none⟩ 1 1 [.string (zerosB 16)] (by rfl) (by rfl) (World.news_of_block (cs := #[.string (zerosB 16)]) (t := 9) (fr := (0, 0)) HN2.out) (by simp [Value.oneCell']) (by omega) (by unfold maxLen; omega) (by omega) (by have := HM.out.lt; simp; omega) (wr.heap.size + 1) (by simp) ?_
          intro g cap w5 hown5 hgrow hat hlt5
          have HE : Hid _ := new_end (w6 := w5.setCell ⟨mb, 0, none⟩ (.slice (some ⟨g, 0, none⟩) (j + 1) cap)) HM.out hown5 HBA.out hgrow rfl
          have e5 : w5.heap[mb]? = (wr.drew.alloc (.cells #[.string (zerosB 16)] 9)).heap[mb]? := hgrow.block _ (by have := HM.out.lt; simp; omega) (fun e => by have := (World.ownsRow.lt HOW.out _ e.symm).1; omega)
          have d5 : w5.heap[mb]? = some (.cells #[.slice la j lc, .slice none 0 0] 81 (0, 0)) := (by rw [e5]; have h := (HM.out.below (Nat.le_refl _) HBA.out).disk; rw [List.length_replicate] at h; exact h)
          have c5 : w5.cell? ⟨mb, 0, none⟩ = some (.slice la j lc) := (by rw [cell_of_row w5 _ _ _ _ _ d5]; rfl)
          have f5 : w5.frozen? ⟨mb, 0, none⟩ = false := frz d5 0
          clear hown5 hgrow hat e5 d5
          simp only [List.getElem_toArray, List.getElem_cons_zero, List.getElem_cons_succ, Act.put, List.setIfInBounds_toArray, List.set_cons_zero, List.set_cons_succ]
          refine hK'.out _ _ trivial (fun hHeld' => ?_)
          clear hK' K' hHeld
          have hHeld := hHeld'
          clear hHeld'
          refine wpAnyH_take (i := 8) (v := .pointer (some ⟨mb, 0, none⟩)) rfl (by kernel_rfl) (by kernel_rfl) (by kernel_rfl) (fun _ _ _ h => h) (Or.inl ⟨by rfl, ?_⟩) hHeld ?_
          · intro w hSw; (try dsimp only at hSw); simp only [List.getElem_toArray, List.getElem_cons_zero, List.getElem_cons_succ]; go_simp
          simp only [List.getElem_toArray, List.getElem_cons_zero, List.getElem_cons_succ, Act.put, List.setIfInBounds_toArray, List.set_cons_zero, List.set_cons_succ]
          refine wpAnyH_take (i := 9) (v := .pointer (some ⟨mb, 0, none⟩)) rfl (by kernel_rfl) (by kernel_rfl) (by kernel_rfl) (fun _ _ _ h => h) (Or.inl ⟨by rfl, ?_⟩) hHeld ?_
          · intro w hSw; (try dsimp only at hSw); simp only [List.getElem_toArray, List.getElem_cons_zero, List.getElem_cons_succ]; go_simp
          simp only [List.getElem_toArray, List.getElem_cons_zero, List.getElem_cons_succ, Act.put, List.setIfInBounds_toArray, List.set_cons_zero, List.set_cons_succ]
          refine wpAnyH_ready (rs := [10]) (by kernel_rfl) (by simp) ?_
          refine AllReadyH.cons rfl (fun K' hK' => ?_) AllReadyH.nil
          simp only [List.getElem_toArray, List.getElem_cons_zero, List.getElem_cons_succ]
          go_simp
          go_wp2_with fail
          refine hK'.out _ _ trivial (fun hHeld' => ?_)
          clear hK' K' hHeld
          have hHeld := hHeld'
          clear hHeld'
          refine wpAnyH_done (by kernel_rfl) ?_ _
          go_wp2_with fail
          exact ⟨⟨j + 1, some ⟨g, 0, none⟩, cap, by omega, by simp, HE.out.1, HB.out.trans HE.out.2⟩, by simp [intOf]; omega⟩
        · skip
          simp only [List.getElem_toArray, List.getElem_cons_zero, List.getElem_cons_succ]
          go_simp
          go_wp2_with fail
          refine hK'.out _ _ trivial (fun hHeld' => ?_)
          clear hK' K' hHeld
          have hHeld := hHeld'
          clear hHeld'
          refine wpAnyH_ready (rs := [4]) (by kernel_rfl) (by simp) ?_
          refine AllReadyH.cons rfl (fun K' hK' => ?_) AllReadyH.nil
          simp only [List.getElem_toArray, List.getElem_cons_zero, List.getElem_cons_succ]
          have c16 := HG.out _ HBA.out
          have c0 := HG.out wr (Below.refl _ _)
          have hltA := HM.out.lt
          have hltB : mb < wr.heap.size + 1 := (by omega)
          have hneA : ¬ mb = wr.heap.size := (by omega)
          go_simp
          go_wp2_with fail
          clear c16 c0 hltA hltB hneA
          refine hK'.out _ _ trivial (fun hHeld' => ?_)
          clear hK' K' hHeld
          have hHeld := hHeld'
          clear hHeld'
          refine wpAnyH_ready (rs := [7]) (by kernel_rfl) (by simp) ?_
          refine AllReadyH.cons rfl (fun K' hK' => ?_) AllReadyH.nil
          refine step_append_lies _ (by rfl) _ _ _ (by rfl) (mb + 1) 9 i0 _ 1 16 Tryd.underlying29 hi0 hz0 hz1 hz2 rfl (by omega) (.slice la j lc) j ((List.replicate j zb).map sV) (by rfl) HOW.out ⟨wr.heap.size, 0, none⟩ 1 1 [.string (zerosB 16)] (by rfl) (by rfl) (World.news_of_block (cs := #[.string (zerosB 16)]) (t := 9) (fr := (0, 0)) HN2.out) (by simp [Value.oneCell']) (by omega) (by unfold maxLen; omega) (by omega) (by have := HM.out.lt; simp; omega) (wr.heap.size + 1) (by simp) ?_
          intro g cap w5 hown5 hgrow hat hlt5
          have HE : Hid _ := new_end (w6 := w5.setCell ⟨mb, 0, none⟩ (.slice (some ⟨g, 0, none⟩) (j + 1) cap)) HM.out hown5 HBA.out hgrow rfl
          have e5 : w5.heap[mb]? = (wr.drew.alloc (.cells #[.string (zerosB 16)] 9)).heap[mb]? := hgrow.block _ (by have := HM.out.lt; simp; omega) (fun e => by have := (World.ownsRow.lt HOW.out _ e.symm).1; omega)
          have d5 : w5.heap[mb]? = some (.cells #[.slice la j lc, .slice none 0 0] 81 (0, 0)) := (by rw [e5]; have h := (HM.out.below (Nat.le_refl _) HBA.out).disk; rw [List.length_replicate] at h; exact h)
          have c5 : w5.cell? ⟨mb, 0, none⟩ = some (.slice la j lc) := (by rw [cell_of_row w5 _ _ _ _ _ d5]; rfl)
          have f5 : w5.frozen? ⟨mb, 0, none⟩ = false := frz d5 0
          clear hown5 hgrow hat e5 d5
          simp only [List.getElem_toArray, List.getElem_cons_zero, List.getElem_cons_succ, Act.put, List.setIfInBounds_toArray, List.set_cons_zero, List.set_cons_succ]
          refine hK'.out _ _ trivial (fun hHeld' => ?_)
          clear hK' K' hHeld
          have hHeld := hHeld'
          clear hHeld'
          refine wpAnyH_take (i := 8) (v := .pointer (some ⟨mb, 0, none⟩)) rfl (by kernel_rfl) (by kernel_rfl) (by kernel_rfl) (fun _ _ _ h => h) (Or.inl ⟨by rfl, ?_⟩) hHeld ?_
          · intro w hSw; (try dsimp only at hSw); simp only [List.getElem_toArray, List.getElem_cons_zero, List.getElem_cons_succ]; go_simp
          simp only [List.getElem_toArray, List.getElem_cons_zero, List.getElem_cons_succ, Act.put, List.setIfInBounds_toArray, List.set_cons_zero, List.set_cons_succ]
          refine wpAnyH_take (i := 9) (v := .pointer (some ⟨mb, 0, none⟩)) rfl (by kernel_rfl) (by kernel_rfl) (by kernel_rfl) (fun _ _ _ h => h) (Or.inl ⟨by rfl, ?_⟩) hHeld ?_
          · intro w hSw; (try dsimp only at hSw); simp only [List.getElem_toArray, List.getElem_cons_zero, List.getElem_cons_succ]; go_simp
          simp only [List.getElem_toArray, List.getElem_cons_zero, List.getElem_cons_succ, Act.put, List.setIfInBounds_toArray, List.set_cons_zero, List.set_cons_succ]
          refine wpAnyH_ready (rs := [10]) (by kernel_rfl) (by simp) ?_
          refine AllReadyH.cons rfl (fun K' hK' => ?_) AllReadyH.nil
          simp only [List.getElem_toArray, List.getElem_cons_zero, List.getElem_cons_succ]
          go_simp
          go_wp2_with fail
          refine hK'.out _ _ trivial (fun hHeld' => ?_)
          clear hK' K' hHeld
          have hHeld := hHeld'
          clear hHeld'
          refine wpAnyH_done (by kernel_rfl) ?_ _
          go_wp2_with fail
          exact ⟨⟨j + 1, some ⟨g, 0, none⟩, cap, by omega, by simp, HE.out.1, HB.out.trans HE.out.2⟩, by simp [intOf]; omega⟩
    · obtain rfl : j = n := by omega
      clear M hB
      go_wp2_with fail
      go_ret
      exact ⟨rfl, ⟨_, _, HM.out⟩, by rw [HMB.out] at HB; rw [HMB.out]; exact HB.out⟩
end Go.Proofs.YtcejpeohkgchdaaDoor
