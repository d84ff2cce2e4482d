/-
  The contract of the document's NewDisk.
  The contracts of the laws' made, longFiles and tableOf.
  The contract of the law's dirsOf.
  The contract of the law's dired: one file is put, and got.
  The contract of the law's dired: the walk.
  What the law's longTrees tells: pure facts, and acts that stay.
  The contract of the law's longTrees.
  Trees that are not too large: their nodes' bounds; a dir of a file; boxes in memory.
  Conditions: those that each states.
-/
import Derived.Test.YteefneelcgeioaaGreatDoorQ28
import Derived.Test.YteefneelcgeioaaGreatDoorQ13
import Derived.Test.YteefneelcgeioaaGreatDoorQ15
import Derived.Test.YteefneelcgeioaaGreatDoorQ10
import Derived.Test.YteefneelcgeioaaGreatDoorQ02
import Derived.Test.YteefneelcgeioaaGreatDoorQ25
import Derived.Test.YteefneelcgeioaaGreatDoorQ26
namespace Go.Proofs.YteefneelcgeioaaGreatDoor
open Go.RowKit

/-- One block more. -/
theorem new_end {mb : Nat} {la : Option Addr} {lc j : Nat} {w wa1 w5 w6 : World} {g cap : Nat} (M : MkAt w mb la lc none 0 (List.replicate j zb) [])
    (hown : w5.ownsRow (mb + 1) 9 1 (.slice (some ⟨g, 0, none⟩) (j + 1) cap) (j + 1) ((List.replicate j zb).map sV ++ [.string (zerosB 16)])) (hba : Below w.heap.size w wa1) (hgrow : wa1.grownBy w5 (Value.slice la j lc).ownBlock)
    (h6 : w6 = w5.setCell ⟨mb, 0, none⟩ (.slice (some ⟨g, 0, none⟩) (j + 1) cap)) :
    MkAt w6 mb (some ⟨g, 0, none⟩) cap none 0 (List.replicate (j + 1) zb) [] ∧ Below mb w w6 := by
  have hlt := M.lt
  have hob : ∀ k, k < w.heap.size → (∀ a, la = some a → k ≠ a.block) → w5.heap[k]? = w.heap[k]? := fun k hk hne => by
    rw [hgrow.block k (Nat.lt_of_lt_of_le hk hba.size) (fun e => ?_), hba.block k hk]
    cases la with
    | none => simp [Value.ownBlock] at e
    | some a => exact hne a rfl (by simpa [Value.ownBlock] using e)
  have h6b : ∀ k, k ≠ mb → w6.heap[k]? = w5.heap[k]? := fun k hk => by rw [h6]; exact Below.heap_setCell _ _ _ _ hk
  have hg : mb + 1 ≤ g := (hown.lt g rfl).1
  have hd : w5.heap[mb]? = w.heap[mb]? := hob _ (by omega) (fun a ha => by have := (M.lowL ha).1; omega)
  refine ⟨⟨?_, ?_, ⟨rfl, .inl ⟨rfl, rfl⟩⟩⟩, ⟨?_, ?_, ?_, ?_, fun k hk => ?_⟩⟩
  · rw [h6, row_setCell (hd.trans M.disk)]
    simp
  · have e : (List.replicate (j + 1) zb).map sV = (List.replicate j zb).map sV ++ [.string (zerosB 16)] := by
      rw [List.replicate_succ', List.map_append]; rfl
    rw [e, List.length_replicate]
    refine own_ext hown fun k hk => h6b k ?_
    have hk' : g = k := by simpa [Value.ownBlock] using hk
    omega
  · rw [h6]; exact hgrow.os.trans hba.os
  · rw [h6]; exact hgrow.tape.trans hba.tape
  · rw [h6]; exact hgrow.output.trans hba.output
  · have : w6.heap.size = w5.heap.size := by rw [h6]; simp [World.setCell]
    have := hgrow.size
    have := hba.size
    omega
  · rw [h6b k (by omega), hob k (by omega) (fun a ha => by have := (M.lowL ha).1; omega)]

set_option maxRecDepth 100000 in
set_option maxHeartbeats 2000000 in
theorem newDisk_any (n : Nat) (hn : n ≤ 512) (w : World) :
    Calls Tryz.prog 54 #[.int .i64 (n : Int)] w fun e w' => e = .returned (.pointer (some ⟨w.heap.size, 0, none⟩)) ∧ (∃ la lc, MkAt w' w.heap.size la lc none 0 (List.replicate n zb) []) ∧ Below w.heap.size w w' := by
  obtain ⟨i0, hi0, hz0, hz1, hz2⟩ := info_parts infoSt
  obtain ⟨mb, hmb⟩ : ∃ mb, mb = w.heap.size := ⟨_, rfl⟩
  rw [← hmb]
  have HMB : Hid (mb = w.heap.size) := hmb
  have H0 : Hid (MkAt (w.alloc (.cells #[.slice none 0 0, .slice none 0 0] 155)) mb none 0 none 0 (List.replicate 0 zb) []) := by
    refine ⟨?_, ⟨rfl, .inl ⟨rfl, rfl⟩⟩, ⟨rfl, .inl ⟨rfl, rfl⟩⟩⟩
    rw [hmb]; exact heap_alloc_last w _
  have HB0 : Hid (Below mb w (w.alloc (.cells #[.slice none 0 0, .slice none 0 0] 155))) := by rw [hmb]; exact (Below.refl _ _).alloc (Nat.le_refl _) _
  go_enter Tryz.func54, Tryz.ntmps54
  go_wp2_with fail
  rw [← hmb]
  clear hmb
  go_loopw [4] (fun i wr => ∃ (j : Nat) (la : Option Addr) (lc : Nat), j ≤ n ∧ i = .int .i64 j ∧ MkAt wr mb la lc none 0 (List.replicate j zb) [] ∧ Below mb w wr) (fun i _ => n - (intOf i).toNat)
  case atStart => exact ⟨0, none, 0, Nat.zero_le _, rfl, H0.out, HB0.out⟩
  case round =>
    clear H0 HB0
    obtain ⟨j, la, lc, hj, rfl, M, hB⟩ := hrel
    have HM : Hid _ := M
    have HB : Hid _ := hB
    by_cases hlt : j < n
    · have HBA : Hid (Below wr.heap.size wr (wr.drew.alloc (.cells #[.string (zerosB 16)] 9))) := ((Below.refl _ _).drew).alloc (Nat.le_refl _) _
      have HG : Hid (∀ w', Below wr.heap.size wr w' → w'.cell? ⟨mb, 0, none⟩ = some (.slice la j lc)) := fun w' h => by
        have h2 := (M.below (Nat.le_refl _) h).cells.1
        rw [List.length_replicate] at h2
        exact h2
      have HOW : Hid ((wr.drew.alloc (.cells #[.string (zerosB 16)] 9)).ownsRow (mb + 1) 9 1 (.slice la j lc) j ((List.replicate j zb).map sV)) := by
        have h2 := (M.below (Nat.le_refl _) HBA.out).lrow
        rw [List.length_replicate] at h2
        exact h2
      have HN2 : Hid ((wr.drew.alloc (.cells #[.string (zerosB 16)] 9)).heap[wr.heap.size]? = some (.cells #[.string (zerosB 16)] 9 (0, 0))) := heap_alloc_last wr.drew _
      clear M hB
      go_wp2_with fail
      refine wp_region_held_drew (S := fun _ => True) (by kernel_rfl) (trivial) (fun hHeld => ?_)
      refine wpAnyH_take (i := 0) (v := .pointer (some ⟨mb, 0, none⟩)) rfl (by kernel_rfl) (by kernel_rfl) (by kernel_rfl) (fun _ _ _ h => h) (Or.inl ⟨by rfl, ?_⟩) hHeld ?_
      · intro w hSw; (try dsimp only at hSw); simp only [List.getElem_toArray, List.getElem_cons_zero]; go_simp
      simp only [List.getElem_toArray, List.getElem_cons_zero, Act.put, List.setIfInBounds_toArray, List.set_cons_zero, List.set_cons_succ]
      refine wpAnyH_take (i := 1) (v := .pointer (some ⟨mb, 0, none⟩)) rfl (by kernel_rfl) (by kernel_rfl) (by kernel_rfl) (fun _ _ _ h => h) (Or.inl ⟨by rfl, ?_⟩) hHeld ?_
      · intro w hSw; (try dsimp only at hSw); simp only [List.getElem_toArray, List.getElem_cons_zero, List.getElem_cons_succ]; go_simp
      simp only [List.getElem_toArray, List.getElem_cons_zero, List.getElem_cons_succ, Act.put, List.setIfInBounds_toArray, List.set_cons_zero, List.set_cons_succ]
      refine wpAnyH_take (i := 2) (v := .pointer (some ⟨mb, 0, none⟩)) rfl (by kernel_rfl) (by kernel_rfl) (by kernel_rfl) (fun _ _ _ h => h) (Or.inl ⟨by rfl, ?_⟩) hHeld ?_
      · intro w hSw; (try dsimp only at hSw); simp only [List.getElem_toArray, List.getElem_cons_zero, List.getElem_cons_succ]; go_simp
      simp only [List.getElem_toArray, List.getElem_cons_zero, List.getElem_cons_succ, Act.put, List.setIfInBounds_toArray, List.set_cons_zero, List.set_cons_succ]
      refine wpAnyH_take (i := 3) (v := .pointer (some ⟨mb, 0, none⟩)) rfl (by kernel_rfl) (by kernel_rfl) (by kernel_rfl) (fun _ _ _ h => h) (Or.inl ⟨by rfl, ?_⟩) hHeld ?_
      · intro w hSw; (try dsimp only at hSw); simp only [List.getElem_toArray, List.getElem_cons_zero, List.getElem_cons_succ]; go_simp
      simp only [List.getElem_toArray, List.getElem_cons_zero, List.getElem_cons_succ, Act.put, List.setIfInBounds_toArray, List.set_cons_zero, List.set_cons_succ]
      refine wpAnyH_ready (rs := [4, 5]) (by kernel_rfl) (by simp) ?_
      refine AllReadyH.cons rfl (fun K' hK' => ?_) (AllReadyH.cons rfl (fun K' hK' => ?_) AllReadyH.nil)
      · skip
        simp only [List.getElem_toArray, List.getElem_cons_zero, List.getElem_cons_succ]
        have c16 := HG.out _ (Below.refl _ _).drew
        have c0 := HG.out wr (Below.refl _ _)
        have hltA := HM.out.lt
        have hltB : mb < wr.heap.size + 1 := (by omega)
        have hneA : ¬ mb = wr.heap.size := (by omega)
        go_simp
        go_wp2_with fail
        clear c16 c0 hltA hltB hneA
        refine hK'.out _ _ trivial (fun hHeld' => ?_)
        clear hK' K' hHeld
        have hHeld := hHeld'
        clear hHeld'
        refine wpAnyH_ready (rs := [5]) (by kernel_rfl) (by simp) ?_
        refine AllReadyH.cons rfl (fun K' hK' => ?_) AllReadyH.nil
        simp only [List.getElem_toArray, List.getElem_cons_zero, List.getElem_cons_succ]
        go_simp
        refine Calls.mono (zeros2_any _) ?_
        rintro e wx ⟨rfl, hwx⟩
        rw [hwx]
        clear hwx
        go_wp2_with fail
        refine hK'.out _ _ trivial (fun hHeld' => ?_)
        clear hK' K' hHeld
        have hHeld := hHeld'
        clear hHeld'
        refine wpAnyH_ready (rs := [6]) (by kernel_rfl) (by simp) ?_
        refine AllReadyH.cons rfl (fun K' hK' => ?_) AllReadyH.nil
        simp only [List.getElem_toArray, List.getElem_cons_zero, List.getElem_cons_succ]
        go_simp
        go_wp2_with fail
        refine hK'.out _ _ trivial (fun hHeld' => ?_)
        clear hK' K' hHeld
        have hHeld := hHeld'
        clear hHeld'
        refine wpAnyH_ready (rs := [7]) (by kernel_rfl) (by simp) ?_
        refine AllReadyH.cons rfl (fun K' hK' => ?_) AllReadyH.nil
        refine step_append_lies _ (by rfl) _ _ _ (by rfl) (mb + 1) 9 i0 _ 1 16 Tryz.underlying49 hi0 hz0 hz1 hz2 rfl (by omega) (.slice la j lc) j ((List.replicate j zb).map sV) (by rfl) HOW.out ⟨wr.heap.size, 0, none⟩ 1 1 [.string (zerosB 16)] (by rfl) (by rfl) (World.news_of_block (cs := #[.string (zerosB 16)]) (t := 9) (fr := (0, 0)) HN2.out) (by simp [Value.oneCell']) (by omega) (by unfold maxLen; omega) (by omega) (by have := HM.out.lt; simp; omega) (wr.heap.size + 1) (by simp) ?_
        intro g cap w5 hown5 hgrow hat hlt5
        have HE : Hid _ := new_end (w6 := w5.setCell ⟨mb, 0, none⟩ (.slice (some ⟨g, 0, none⟩) (j + 1) cap)) HM.out hown5 HBA.out hgrow rfl
        have e5 : w5.heap[mb]? = (wr.drew.alloc (.cells #[.string (zerosB 16)] 9)).heap[mb]? := hgrow.block _ (by have := HM.out.lt; simp; omega) (fun e => by have := (World.ownsRow.lt HOW.out _ e.symm).1; omega)
        have d5 : w5.heap[mb]? = some (.cells #[.slice la j lc, .slice none 0 0] 155 (0, 0)) := (by rw [e5]; have h := (HM.out.below (Nat.le_refl _) HBA.out).disk; rw [List.length_replicate] at h; exact h)
        have c5 : w5.cell? ⟨mb, 0, none⟩ = some (.slice la j lc) := (by rw [cell_of_row w5 _ _ _ _ _ d5]; rfl)
        have f5 : w5.frozen? ⟨mb, 0, none⟩ = false := frz d5 0
        clear hown5 hgrow hat e5 d5
        simp only [List.getElem_toArray, List.getElem_cons_zero, List.getElem_cons_succ, Act.put, List.setIfInBounds_toArray, List.set_cons_zero, List.set_cons_succ]
        refine hK'.out _ _ trivial (fun hHeld' => ?_)
        clear hK' K' hHeld
        have hHeld := hHeld'
        clear hHeld'
        refine wpAnyH_take (i := 8) (v := .pointer (some ⟨mb, 0, none⟩)) rfl (by kernel_rfl) (by kernel_rfl) (by kernel_rfl) (fun _ _ _ h => h) (Or.inl ⟨by rfl, ?_⟩) hHeld ?_
        · intro w hSw; (try dsimp only at hSw); simp only [List.getElem_toArray, List.getElem_cons_zero, List.getElem_cons_succ]; go_simp
        simp only [List.getElem_toArray, List.getElem_cons_zero, List.getElem_cons_succ, Act.put, List.setIfInBounds_toArray, List.set_cons_zero, List.set_cons_succ]
        refine wpAnyH_take (i := 9) (v := .pointer (some ⟨mb, 0, none⟩)) rfl (by kernel_rfl) (by kernel_rfl) (by kernel_rfl) (fun _ _ _ h => h) (Or.inl ⟨by rfl, ?_⟩) hHeld ?_
        · intro w hSw; (try dsimp only at hSw); simp only [List.getElem_toArray, List.getElem_cons_zero, List.getElem_cons_succ]; go_simp
        simp only [List.getElem_toArray, List.getElem_cons_zero, List.getElem_cons_succ, Act.put, List.setIfInBounds_toArray, List.set_cons_zero, List.set_cons_succ]
        refine wpAnyH_ready (rs := [10]) (by kernel_rfl) (by simp) ?_
        refine AllReadyH.cons rfl (fun K' hK' => ?_) AllReadyH.nil
        simp only [List.getElem_toArray, List.getElem_cons_zero, List.getElem_cons_succ]
        go_simp
        go_wp2_with fail
        refine hK'.out _ _ trivial (fun hHeld' => ?_)
        clear hK' K' hHeld
        have hHeld := hHeld'
        clear hHeld'
        refine wpAnyH_done (by kernel_rfl) ?_ _
        go_wp2_with fail
        exact ⟨⟨j + 1, some ⟨g, 0, none⟩, cap, by omega, by simp, HE.out.1, HB.out.trans HE.out.2⟩, by simp [intOf]; omega⟩
      · skip
        simp only [List.getElem_toArray, List.getElem_cons_zero, List.getElem_cons_succ]
        go_simp
        refine Calls.mono (zeros2_any _) ?_
        rintro e wx ⟨rfl, hwx⟩
        rw [hwx]
        clear hwx
        go_wp2_with fail
        refine hK'.out _ _ trivial (fun hHeld' => ?_)
        clear hK' K' hHeld
        have hHeld := hHeld'
        clear hHeld'
        refine wpAnyH_ready (rs := [4, 6]) (by kernel_rfl) (by simp) ?_
        refine AllReadyH.cons rfl (fun K' hK' => ?_) (AllReadyH.cons rfl (fun K' hK' => ?_) AllReadyH.nil)
        · skip
          simp only [List.getElem_toArray, List.getElem_cons_zero, List.getElem_cons_succ]
          have c16 := HG.out _ (Below.refl _ _).drew
          have c0 := HG.out wr (Below.refl _ _)
          have hltA := HM.out.lt
          have hltB : mb < wr.heap.size + 1 := (by omega)
          have hneA : ¬ mb = wr.heap.size := (by omega)
          go_simp
          go_wp2_with fail
          clear c16 c0 hltA hltB hneA
          refine hK'.out _ _ trivial (fun hHeld' => ?_)
          clear hK' K' hHeld
          have hHeld := hHeld'
          clear hHeld'
          refine wpAnyH_ready (rs := [6]) (by kernel_rfl) (by simp) ?_
          refine AllReadyH.cons rfl (fun K' hK' => ?_) AllReadyH.nil
          simp only [List.getElem_toArray, List.getElem_cons_zero, List.getElem_cons_succ]
          go_simp
          go_wp2_with fail
          refine hK'.out _ _ trivial (fun hHeld' => ?_)
          clear hK' K' hHeld
          have hHeld := hHeld'
          clear hHeld'
          refine wpAnyH_ready (rs := [7]) (by kernel_rfl) (by simp) ?_
          refine AllReadyH.cons rfl (fun K' hK' => ?_) AllReadyH.nil
          refine step_append_lies _ (by rfl) _ _ _ (by rfl) (mb + 1) 9 i0 _ 1 16 Tryz.underlying49 hi0 hz0 hz1 hz2 rfl (by omega) (.slice la j lc) j ((List.replicate j zb).map sV) (by rfl) HOW.out ⟨wr.heap.size, 0, none⟩ 1 1 [.string (zerosB 16)] (by rfl) (by rfl) (World.news_of_block (cs := #[.string (zerosB 16)]) (t := 9) (fr := (0, 0)) HN2.out) (by simp [Value.oneCell']) (by omega) (by unfold maxLen; omega) (by omega) (by have := HM.out.lt; simp; omega) (wr.heap.size + 1) (by simp) ?_
          intro g cap w5 hown5 hgrow hat hlt5
          have HE : Hid _ := new_end (w6 := w5.setCell ⟨mb, 0, none⟩ (.slice (some ⟨g, 0, none⟩) (j + 1) cap)) HM.out hown5 HBA.out hgrow rfl
          have e5 : w5.heap[mb]? = (wr.drew.alloc (.cells #[.string (zerosB 16)] 9)).heap[mb]? := hgrow.block _ (by have := HM.out.lt; simp; omega) (fun e => by have := (World.ownsRow.lt HOW.out _ e.symm).1; omega)
          have d5 : w5.heap[mb]? = some (.cells #[.slice la j lc, .slice none 0 0] 155 (0, 0)) := (by rw [e5]; have h := (HM.out.below (Nat.le_refl _) HBA.out).disk; rw [List.length_replicate] at h; exact h)
          have c5 : w5.cell? ⟨mb, 0, none⟩ = some (.slice la j lc) := (by rw [cell_of_row w5 _ _ _ _ _ d5]; rfl)
          have f5 : w5.frozen? ⟨mb, 0, none⟩ = false := frz d5 0
          clear hown5 hgrow hat e5 d5
          simp only [List.getElem_toArray, List.getElem_cons_zero, List.getElem_cons_succ, Act.put, List.setIfInBounds_toArray, List.set_cons_zero, List.set_cons_succ]
          refine hK'.out _ _ trivial (fun hHeld' => ?_)
          clear hK' K' hHeld
          have hHeld := hHeld'
          clear hHeld'
          refine wpAnyH_take (i := 8) (v := .pointer (some ⟨mb, 0, none⟩)) rfl (by kernel_rfl) (by kernel_rfl) (by kernel_rfl) (fun _ _ _ h => h) (Or.inl ⟨by rfl, ?_⟩) hHeld ?_
          · intro w hSw; (try dsimp only at hSw); simp only [List.getElem_toArray, List.getElem_cons_zero, List.getElem_cons_succ]; go_simp
          simp only [List.getElem_toArray, List.getElem_cons_zero, List.getElem_cons_succ, Act.put, List.setIfInBounds_toArray, List.set_cons_zero, List.set_cons_succ]
          refine wpAnyH_take (i := 9) (v := .pointer (some ⟨mb, 0, none⟩)) rfl (by kernel_rfl) (by kernel_rfl) (by kernel_rfl) (fun _ _ _ h => h) (Or.inl ⟨by rfl, ?_⟩) hHeld ?_
          · intro w hSw; (try dsimp only at hSw); simp only [List.getElem_toArray, List.getElem_cons_zero, List.getElem_cons_succ]; go_simp
          simp only [List.getElem_toArray, List.getElem_cons_zero, List.getElem_cons_succ, Act.put, List.setIfInBounds_toArray, List.set_cons_zero, List.set_cons_succ]
          refine wpAnyH_ready (rs := [10]) (by kernel_rfl) (by simp) ?_
          refine AllReadyH.cons rfl (fun K' hK' => ?_) AllReadyH.nil
          simp only [List.getElem_toArray, List.getElem_cons_zero, List.getElem_cons_succ]
          go_simp
          go_wp2_with fail
          refine hK'.out _ _ trivial (fun hHeld' => ?_)
          clear hK' K' hHeld
          have hHeld := hHeld'
          clear hHeld'
          refine wpAnyH_done (by kernel_rfl) ?_ _
          go_wp2_with fail
          exact ⟨⟨j + 1, some ⟨g, 0, none⟩, cap, by omega, by simp, HE.out.1, HB.out.trans HE.out.2⟩, by simp [intOf]; omega⟩
        · skip
          simp only [List.getElem_toArray, List.getElem_cons_zero, List.getElem_cons_succ]
          go_simp
          go_wp2_with fail
          refine hK'.out _ _ trivial (fun hHeld' => ?_)
          clear hK' K' hHeld
          have hHeld := hHeld'
          clear hHeld'
          refine wpAnyH_ready (rs := [4]) (by kernel_rfl) (by simp) ?_
          refine AllReadyH.cons rfl (fun K' hK' => ?_) AllReadyH.nil
          simp only [List.getElem_toArray, List.getElem_cons_zero, List.getElem_cons_succ]
          have c16 := HG.out _ HBA.out
          have c0 := HG.out wr (Below.refl _ _)
          have hltA := HM.out.lt
          have hltB : mb < wr.heap.size + 1 := (by omega)
          have hneA : ¬ mb = wr.heap.size := (by omega)
          go_simp
          go_wp2_with fail
          clear c16 c0 hltA hltB hneA
          refine hK'.out _ _ trivial (fun hHeld' => ?_)
          clear hK' K' hHeld
          have hHeld := hHeld'
          clear hHeld'
          refine wpAnyH_ready (rs := [7]) (by kernel_rfl) (by simp) ?_
          refine AllReadyH.cons rfl (fun K' hK' => ?_) AllReadyH.nil
          refine step_append_lies _ (by rfl) _ _ _ (by rfl) (mb + 1) 9 i0 _ 1 16 Tryz.underlying49 hi0 hz0 hz1 hz2 rfl (by omega) (.slice la j lc) j ((List.replicate j zb).map sV) (by rfl) HOW.out ⟨wr.heap.size, 0, none⟩ 1 1 [.string (zerosB 16)] (by rfl) (by rfl) (World.news_of_block (cs := #[.string (zerosB 16)]) (t := 9) (fr := (0, 0)) HN2.out) (by simp [Value.oneCell']) (by omega) (by unfold maxLen; omega) (by omega) (by have := HM.out.lt; simp; omega) (wr.heap.size + 1) (by simp) ?_
          intro g cap w5 hown5 hgrow hat hlt5
          have HE : Hid _ := new_end (w6 := w5.setCell ⟨mb, 0, none⟩ (.slice (some ⟨g, 0, none⟩) (j + 1) cap)) HM.out hown5 HBA.out hgrow rfl
          have e5 : w5.heap[mb]? = (wr.drew.alloc (.cells #[.string (zerosB 16)] 9)).heap[mb]? := hgrow.block _ (by have := HM.out.lt; simp; omega) (fun e => by have := (World.ownsRow.lt HOW.out _ e.symm).1; omega)
          have d5 : w5.heap[mb]? = some (.cells #[.slice la j lc, .slice none 0 0] 155 (0, 0)) := (by rw [e5]; have h := (HM.out.below (Nat.le_refl _) HBA.out).disk; rw [List.length_replicate] at h; exact h)
          have c5 : w5.cell? ⟨mb, 0, none⟩ = some (.slice la j lc) := (by rw [cell_of_row w5 _ _ _ _ _ d5]; rfl)
          have f5 : w5.frozen? ⟨mb, 0, none⟩ = false := frz d5 0
          clear hown5 hgrow hat e5 d5
          simp only [List.getElem_toArray, List.getElem_cons_zero, List.getElem_cons_succ, Act.put, List.setIfInBounds_toArray, List.set_cons_zero, List.set_cons_succ]
          refine hK'.out _ _ trivial (fun hHeld' => ?_)
          clear hK' K' hHeld
          have hHeld := hHeld'
          clear hHeld'
          refine wpAnyH_take (i := 8) (v := .pointer (some ⟨mb, 0, none⟩)) rfl (by kernel_rfl) (by kernel_rfl) (by kernel_rfl) (fun _ _ _ h => h) (Or.inl ⟨by rfl, ?_⟩) hHeld ?_
          · intro w hSw; (try dsimp only at hSw); simp only [List.getElem_toArray, List.getElem_cons_zero, List.getElem_cons_succ]; go_simp
          simp only [List.getElem_toArray, List.getElem_cons_zero, List.getElem_cons_succ, Act.put, List.setIfInBounds_toArray, List.set_cons_zero, List.set_cons_succ]
          refine wpAnyH_take (i := 9) (v := .pointer (some ⟨mb, 0, none⟩)) rfl (by kernel_rfl) (by kernel_rfl) (by kernel_rfl) (fun _ _ _ h => h) (Or.inl ⟨by rfl, ?_⟩) hHeld ?_
          · intro w hSw; (try dsimp only at hSw); simp only [List.getElem_toArray, List.getElem_cons_zero, List.getElem_cons_succ]; go_simp
          simp only [List.getElem_toArray, List.getElem_cons_zero, List.getElem_cons_succ, Act.put, List.setIfInBounds_toArray, List.set_cons_zero, List.set_cons_succ]
          refine wpAnyH_ready (rs := [10]) (by kernel_rfl) (by simp) ?_
          refine AllReadyH.cons rfl (fun K' hK' => ?_) AllReadyH.nil
          simp only [List.getElem_toArray, List.getElem_cons_zero, List.getElem_cons_succ]
          go_simp
          go_wp2_with fail
          refine hK'.out _ _ trivial (fun hHeld' => ?_)
          clear hK' K' hHeld
          have hHeld := hHeld'
          clear hHeld'
          refine wpAnyH_done (by kernel_rfl) ?_ _
          go_wp2_with fail
          exact ⟨⟨j + 1, some ⟨g, 0, none⟩, cap, by omega, by simp, HE.out.1, HB.out.trans HE.out.2⟩, by simp [intOf]; omega⟩
    · obtain rfl : j = n := by omega
      clear M hB
      go_wp2_with fail
      go_ret
      exact ⟨rfl, ⟨_, _, HM.out⟩, by rw [HMB.out] at HB; rw [HMB.out]; exact HB.out⟩
end Go.Proofs.YteefneelcgeioaaGreatDoor
namespace Go.Proofs.YteefneelcgeioaaGreatDoor
set_option maxHeartbeats 1000000
set_option maxRecDepth 100000
open Go.RowKit

structure FAct where
 kind:ByteArray
 s:ByteArray
 exec:Bool
 n:Int
 bit:Int
def FActsAt (w:World) (v:Value) (l:List FAct):Prop:=∃ad cap,v = .slice ad l.length cap/\∀(i:Nat) (a:FAct),l[i]? = some a->(Lit.int .i64 a.n).wf=true/\(Lit.int .i64 a.bit).wf=true/\a.s.size<=maxLen/\∃b off,ad=some ⟨b,off,none⟩/\w.cell? ⟨b,off+i*5,none⟩=some (.string a.kind)/\w.cell? ⟨b,off+i*5+1,none⟩=some (.string a.s)/\w.cell? ⟨b,off+i*5+2,none⟩=some (.bool a.exec)/\w.cell? ⟨b,off+i*5+3,none⟩=some (.int .i64 a.n)/\w.cell? ⟨b,off+i*5+4,none⟩=some (.int .i64 a.bit)
theorem FActsAt.below {w w':World} {v:Value} {l:List FAct} (h:FActsAt w v l) (hb:Below w.heap.size w w'):FActsAt w' v l:=by
 obtain ⟨ad,cap,rfl,hc⟩:=h
 refine ⟨ad,cap,rfl,fun i a ha=>?_⟩
 obtain ⟨h1,h2,h3,b,off,e,c0,c1,c2,c3,c4⟩:=hc i a ha
 have hlt:b<w.heap.size:=World.block_lt_of_cell? w _ c0
 refine ⟨h1,h2,h3,b,off,e,?_,?_,?_,?_,?_⟩
 ·rw [hb.cell (p:=⟨b,off+i*5,none⟩) hlt];exact c0
 ·rw [hb.cell (p:=⟨b,off+i*5+1,none⟩) hlt];exact c1
 ·rw [hb.cell (p:=⟨b,off+i*5+2,none⟩) hlt];exact c2
 ·rw [hb.cell (p:=⟨b,off+i*5+3,none⟩) hlt];exact c3
 ·rw [hb.cell (p:=⟨b,off+i*5+4,none⟩) hlt];exact c4
def Shorts (l:List FAct):Prop:=l.length<=40/\∀a∈l,a.s.size<=120∨a.s.size=2001

theorem tableOf_any (F:Nat->Prop) (T0 n:Nat) (h1:1<=n) (h2:n<=512) (w:World) (hT:T0<=w.heap.size) :
  Calls Tryz.prog 29 #[.int .i64 (n:Int)] w fun e w'=>∃tb bb sp sb cap mb md mt,e = .returned (.tuple #[.pointer (some ⟨tb,0,none⟩),.pointer (some ⟨mt,0,none⟩),.bool true])/\TbAt w' F T0 tb bb sp sb cap mb 0 (List.replicate n zb) (List.replicate n false) []/\((∃la lc,MkAt w' md la lc none 0 (List.replicate n zb) [])/\w'.heap[mt]? = some (.cells #[.pointer (some ⟨md,0,none⟩),.slice none 0 0] 126 (0,0))/\w.heap.size<=md/\w.heap.size<=mt)/\Below w.heap.size w w':=by
 have HND:=newDisk_any n h2 w
 have HDN:Hid (∀W,Calls Tryz.prog 55 #[.int .i64 (n:Int)] W fun e w'=>e = .returned (.tuple #[.pointer (some ⟨W.heap.size+1,0,none⟩),.nilIface])/\DkAt w' W.heap.size none 0 (List.replicate n zb) []/\Below W.heap.size W w'):=fun W=>new_any n h1 h2 W
 have HIN:Hid (∀W bb,DkAt W bb none 0 (List.replicate n zb) []->T0<=bb->T0<=W.heap.size->Calls Tryz.prog 56 #[.pointer (some ⟨bb+1,0,none⟩)] W fun e w'=>∃tb sp sb cap mb,e = .returned (.tuple #[.pointer (some ⟨tb,0,none⟩),.nilIface])/\TbAt w' F T0 tb bb sp sb cap mb 0 (List.replicate n zb) (List.replicate n false) []/\Below W.heap.size W w'):=fun W bb D hb hw=>by
  have:=im_new (F:=F) (T0:=T0) W D (by simpa using h1) (by simpa using h2) hb hw
  rw [List.length_replicate] at this
  exact this
 have hh1:(1:Int)<=(n:Int):=by omega
 clear h1
 go_enter Tryz.func29,Tryz.ntmps29
 go_wp2_with (go_at_call 54;refine HND.mono ?_;rintro e w1 ⟨rfl,hM,hb1⟩;(have HM:Hid _:=hM);(have HB1:Hid _:=hb1);clear hM hb1)
 refine Calls.mono (HDN.out _) ?_
 rintro e w2 ⟨rfl,D2,hb2⟩
 obtain ⟨bb,Hbb⟩:∃bb,Hid (bb=(w1.alloc (.cells #[.pointer (some ⟨w.heap.size,0,none⟩),.slice none 0 0] 126)).heap.size):=⟨_,(rfl:_=_)⟩
 rw [<-Hbb.out] at D2
 have HB2:Hid (Below w.heap.size w w2):=(HB1.out.alloc HB1.out.size _).trans (hb2.mono (by have:=HB1.out.size;simp;omega))
 have HD2:Hid _:=D2
 have HM2:Hid ((∃la lc,MkAt w2 w.heap.size la lc none 0 (List.replicate n zb) [])/\w2.heap[w1.heap.size]? = some (.cells #[.pointer (some ⟨w.heap.size,0,none⟩),.slice none 0 0] 126 (0,0))/\w.heap.size<=w1.heap.size/\bb=w1.heap.size+1):=by
  obtain ⟨la,lc,M⟩:=HM.out
  have hba:Below w1.heap.size w1 (w1.alloc (.cells #[.pointer (some ⟨w.heap.size,0,none⟩),.slice none 0 0] 126)):=(Below.refl _ w1).alloc (Nat.le_refl _) _
  refine ⟨⟨la,lc,M.below (Nat.le_refl _) (hba.trans (hb2.mono (by simp)))⟩,?_,HB1.out.size,by rw [Hbb.out];simp⟩
  rw [hb2.block _ (by simp)];exact heap_alloc_last w1 _
 have HI2:=HIN.out w2 bb HD2.out (by rw [HM2.out.2.2.2];have:=HM2.out.2.2.1;omega) (Nat.le_trans hT HB2.out.size)
 have ebb:(⟨bb+1,0,none⟩:Addr)=⟨w1.heap.size+1+1,0,none⟩:=by rw [HM2.out.2.2.2]
 rw [ebb] at HI2
 clear D2 hb2 ebb
 go_wp2_with (go_at_call 56;refine HI2.mono ?_;rintro e w3 ⟨tb,sp,sb,cap,mb,rfl,T3,hb3⟩)
 go_ret3
 refine ⟨tb,bb,sp,sb,cap,mb,w.heap.size,w1.heap.size,rfl,T3,?_,HB2.out.trans (hb3.mono HB2.out.size)⟩
 obtain ⟨⟨la,lc,M⟩,hr,hs,_⟩:=HM2.out
 exact ⟨⟨la,lc,M.below (Nat.le_refl _) hb3⟩,(hb3.block _ (Array.getElem?_eq_some_iff.1 hr).1).trans hr,Nat.le_refl _,hs⟩
def x0:Ino:=⟨3,1,true,[0],crcR ⟨#[97,98,99]⟩⟩
end Go.Proofs.YteefneelcgeioaaGreatDoor
namespace Go.Proofs.YteefneelcgeioaaGreatDoor
set_option maxHeartbeats 1000000
set_option maxRecDepth 100000
open Go.RowKit Go.Maps

theorem dirsOf_any (T0 n d:Nat) (fb:Nat->Nat) (h1:1<=n) (h2:n<=512) (w:World) (hT:T0<=w.heap.size) :
  Calls Tryz.prog 8 #[.int .i64 (n:Int)] w fun e w'=>∃dp tb bb sp sb cap mb m1 m2 md mt mw,e = .returned (.tuple #[.pointer (some ⟨dp,0,none⟩),.pointer (some ⟨mw,0,none⟩),.bool true])/\DirAt w' T0 dp tb mb m1 m2 0 d [] fb/\TbAt w' (fun _=>False) T0 tb bb sp sb cap mb 0 (List.replicate n zb) (List.replicate n false) []/\((∃la lc,MkAt w' md la lc none 0 (List.replicate n zb) [])/\w'.heap[mt]? = some (.cells #[.pointer (some ⟨md,0,none⟩),.slice none 0 0] 126 (0,0))/\w'.heap[mw]? = some (.cells #[.pointer (some ⟨mt,0,none⟩),.slice none 0 0,.int .i64 0] 74 (0,0))/\w.heap.size<=md/\w.heap.size<=mt/\w.heap.size<=mw)/\Below w.heap.size w w':=by
 have HTO:=tableOf_any (fun _=>False) T0 n h1 h2 w hT
 have HN:Hid (∀(W:World) (tb mb:Nat),mb<W.heap.size->T0<=W.heap.size->Calls Tryz.prog 30 #[.pointer (some ⟨tb,0,none⟩)] W fun e w'=>∃dp m1 m2,e = .returned (.tuple #[.pointer (some ⟨dp,0,none⟩),.nilIface])/\DirAt w' T0 dp tb mb m1 m2 0 d [] fb/\Below W.heap.size W w'):=fun W tb mb a b=>dnew_any a b d fb
 clear h1 h2
 go_enter Tryz.func8,Tryz.ntmps8
 go_wp2_with (go_at_call 29;refine HTO.mono ?_;rintro e w1 ⟨tb,bb,sp,sb,cap,mb,md,mt,rfl,hT1,hM1,hb1⟩;(have HT1:Hid (TbAt w1 (fun _=>False) T0 tb bb sp sb cap mb 0 (List.replicate n zb) (List.replicate n false) []):=hT1);(have HM1:Hid ((∃la lc,MkAt w1 md la lc none 0 (List.replicate n zb) [])/\w1.heap[mt]? = some (.cells #[.pointer (some ⟨md,0,none⟩),.slice none 0 0] 126 (0,0))/\w.heap.size<=md/\w.heap.size<=mt):=hM1);(have HB1:Hid (Below w.heap.size w w1):=hb1);clear hT1 hM1 hb1 HTO)
 have hmb:mb<(w1.alloc (.cells #[.pointer (some ⟨mt,0,none⟩),.slice none 0 0,.int .i64 0] 74)).heap.size:=by
  obtain ⟨f,Nd⟩:=HT1.out.nodes
  obtain ⟨es,cl,hb⟩:=Nd.map.obj
  have:=(Array.getElem?_eq_some_iff.1 hb).1
  simp;omega
 have HN2:=HN.out _ tb mb hmb (by have:=HB1.out.size;simp;omega)
 refine Calls.mono HN2 ?_
 rintro e w2 ⟨dp,m1,m2,rfl,D2,hb2⟩
 have HD2:Hid (DirAt w2 T0 dp tb mb m1 m2 0 d [] fb):=D2
 have hba:Below w1.heap.size w1 (w1.alloc (.cells #[.pointer (some ⟨mt,0,none⟩),.slice none 0 0,.int .i64 0] 74)):=(Below.refl _ w1).alloc (Nat.le_refl _) _
 have HB2:Hid (Below w1.heap.size w1 w2):=hba.trans (hb2.mono (by simp))
 have HR2:Hid (w2.heap[w1.heap.size]? = some (.cells #[.pointer (some ⟨mt,0,none⟩),.slice none 0 0,.int .i64 0] 74 (0,0))):=by
  show _=_
  rw [hb2.block _ (by simp)];exact heap_alloc_last w1 _
 clear D2 hb2 hba hmb HN2
 go_wp2_with fail
 go_ret3
 obtain ⟨⟨la,lc,M⟩,hr,q1,q2⟩:=HM1.out
 refine ⟨dp,tb,bb,sp,sb,cap,mb,m1,m2,md,mt,w1.heap.size,rfl,HD2.out,HT1.out.below HB2.out,⟨⟨la,lc,M.below (Nat.le_refl _) HB2.out⟩,(HB2.out.block _ (Array.getElem?_eq_some_iff.1 hr).1).trans hr,HR2.out,q1,q2,HB1.out.size⟩,HB1.out.trans (HB2.out.mono HB1.out.size)⟩
end Go.Proofs.YteefneelcgeioaaGreatDoor
namespace Go.Proofs.YteefneelcgeioaaGreatDoor
open Go.RowKit Go.Maps

theorem LInv.start (N D:Nat):LInv N D ⟨List.replicate N zb,List.replicate N false,[]⟩ [] [] :=
 ⟨⟨SInv.start N,fun r hr=>by simp [refsA] at hr,fun q y h=>by simp [slotT] at h⟩,rfl,fun k x h=>by rw [ntI_nat] at h;simp at h⟩
theorem PBut.low {T0 dp:Nat} {w w1 w2:World} (h:PBut T0 dp w1 w2) (h0:Below T0 w w1) (hs:T0<=w.heap.size) (hd:T0<=dp):Below T0 w w2 :=
 ⟨h.os.trans h0.os,h.tape.trans h0.tape,h.output.trans h0.output,Nat.le_trans h0.size h.size,fun k hk=>by
  have hlt:k<w1.heap.size:=by have:=h0.size;omega
  rw [<-h0.block k hk]
  have e:w1.heap[k]? = some w1.heap[k]:=Array.getElem?_eq_getElem hlt
  rw [e]
  exact h.block k _ e (.inl hk) (by omega)⟩
def xyT:Tree:=⟨⟨#[102,105,108,101]⟩,⟨#[120,121]⟩,false,[]⟩
theorem xy_files:filesT 1 xyT = [(slash,xyT)]:=by kernel_rfl
theorem xy_well:treeErr 1 xyT=none:=by kernel_rfl
theorem xy_own (w:World):OwnT w (fun _=>False) 1 [] (.slice none 0 0):=by
 unfold OwnT
 refine ⟨Nat.zero_le _,(fun x hx=>by cases hx),([]:List Value),fun _ _=>False,rfl,World.ownsRow_nil _ _ _ _,(fun g h=>by cases h),(fun i x u h=>by simp at h),fun _ _ h=>False.elim h,fun _ _ _ _ h=>False.elim h⟩
end Go.Proofs.YteefneelcgeioaaGreatDoor
namespace Go.Proofs.YteefneelcgeioaaGreatDoor
open Go.RowKit Go.Maps

end Go.Proofs.YteefneelcgeioaaGreatDoor
namespace Go.Proofs.YteefneelcgeioaaGreatDoor
open Go.RowKit Go.Maps

def longA (c:TAct):Bool:=largeB 40 c.node||decide (100<c.path.size)||decide (120<c.s.size)
def longT (l:List TAct):Bool:=decide (25<l.length)||l.any longA
theorem TActAt.below {w w':World} {d b o:Nat} {c:TAct} {u:Value} (h:TActAt w d b o c u) (hb:Below w.heap.size w w') (hlt:b<w.heap.size):TActAt w' d b o c u:=by
 have hc:∀i,w'.cell? ⟨b,i,none⟩=w.cell? ⟨b,i,none⟩:=fun i=>hb.cell (p:=⟨b,i,none⟩) hlt
 exact ⟨(hc _).trans h.kind,(hc _).trans h.path,(hc _).trans h.s,(hc _).trans h.nkind,(hc _).trans h.ndata,(hc _).trans h.nexec,(hc _).trans h.nkids,(hc _).trans h.k,(hc _).trans h.n,(hc _).trans h.bit,(h.lies.below hb (Nat.le_refl _)).up hb.size (Nat.le_refl _)⟩
end Go.Proofs.YteefneelcgeioaaGreatDoor
namespace Go.Proofs.YteefneelcgeioaaGreatDoor
set_option maxHeartbeats 1000000
set_option maxRecDepth 100000
open Go.RowKit Go.Maps

def ShortT (l:List TAct):Prop:=l.length<=25/\∀a∈l,largeB 40 a.node=false/\a.path.size<=100/\a.s.size<=120

theorem longTrees_any (d:Nat) (l:List TAct) (v:Value) (w:World) (h:TActsIn w d l v) :
  Calls Tryz.prog 7 #[v] w fun e w'=>(∃r,e = .returned (.bool r)/\(r=false->ShortT l))/\Below w.heap.size w w':=by
 obtain ⟨ad,cap,rfl,hms,hc⟩:=h
 have HC:Hid (∀(i:Nat) (a:TAct),l[i]? = some a->∃b off ua uc,a.path.size<=maxLen/\a.s.size<=maxLen/\ad=some ⟨b,off,none⟩/\∀W,Below w.heap.size w W->W.cell? ⟨b,off+i*10+1,none⟩=some (.string a.path)/\W.cell? ⟨b,off+i*10+2,none⟩=some (.string a.s)/\W.cell? ⟨b,off+i*10+3,none⟩=some (.string a.node.kind)/\W.cell? ⟨b,off+i*10+3+1,none⟩=some (.string a.node.data)/\W.cell? ⟨b,off+i*10+3+2,none⟩=some (.bool a.node.exec)/\W.cell? ⟨b,off+i*10+3+3,none⟩=some (.slice ua a.node.kids.length uc)/\Calls Tryz.prog 21 #[.agg #[.string a.node.kind,.string a.node.data,.bool a.node.exec,.slice ua a.node.kids.length uc],.int .i64 40] W fun e w'=>∃z:Int,e = .returned (.int .i64 z)/\((z=1∨z=0)/\(z=0->largeB 40 a.node=false))/\Below W.heap.size W w'):=fun i a ha=>by
  obtain ⟨b,off,u,e,hb,A⟩:=hc i a ha
  obtain ⟨_,m1,m2,_⟩:=hms a (List.mem_of_getElem? ha)
  obtain ⟨ua,uc,rfl⟩:=A.lies.form
  refine ⟨b,off,ua,uc,m1,m2,e,fun W hW=>?_⟩
  have hcl:∀o,W.cell? ⟨b,o,none⟩=w.cell? ⟨b,o,none⟩:=fun o=>hW.cell (p:=⟨b,o,none⟩) hb
  refine ⟨(hcl _).trans A.path,(hcl _).trans A.s,(hcl _).trans A.nkind,(hcl _).trans A.ndata,(hcl _).trans A.nexec,(hcl _).trans A.nkids,?_⟩
  refine (large_any w.heap.size d 40 a.node _ W hW.size (A.lies.below hW (Nat.le_refl _)) (by omega)).mono fun e w' ⟨he,hb'⟩=>⟨largeN 40 a.node,he,?_,hb'⟩
  cases hL:largeB 40 a.node with
  | true=>rw [largeN_yes hL];exact ⟨.inl rfl,fun h=>absurd h (by decide)⟩
  | false=>rw [largeN_no hL];exact ⟨.inr rfl,fun _=>rfl⟩
 clear hc hms
 by_cases h25:l.length<=25
 ·have h25i:¬(25:Int)<(l.length:Int):=by omega
  go_enter Tryz.func7,Tryz.ntmps7
  go_wp2_with fail
  go_loopw [3] (fun i wr=>∃j:Nat,j<=l.length/\i = .int .i64 j/\Below w.heap.size w wr/\∀a∈l.take j,largeB 40 a.node=false/\a.path.size<=100/\a.s.size<=120) (fun i _=>l.length-(intOf i).toNat)
  case atStart=>exact ⟨0,Nat.zero_le _,rfl,Below.refl _ _,fun a h=>by simp at h⟩
  case round =>
   obtain ⟨j,hj,rfl,hb,ha⟩:=hrel
   have HA:Hid (∀a∈l.take j,largeB 40 a.node=false/\a.path.size<=100/\a.s.size<=120):=ha
   have HB:Hid (Below w.heap.size w wr):=hb
   clear ha hb
   by_cases hlt:j<l.length
   ·obtain ⟨a,hx⟩:∃a,l[j]? = some a:=⟨_,List.getElem?_eq_getElem hlt⟩
    obtain ⟨b,off,ua,uc,m1,m2,rfl,hW⟩:=HC.out j a hx
    obtain ⟨c1,c2,c3,c4,c5,c6,hL⟩:=hW wr HB.out

    have HW:Hid (∀W,Below w.heap.size w W->W.cell? ⟨b,off+j*10+1,none⟩=some (.string a.path)/\W.cell? ⟨b,off+j*10+2,none⟩=some (.string a.s)):=fun W h=>⟨(hW W h).1,(hW W h).2.1⟩
    have HN:Hid ((largeB 40 a.node=false/\a.path.size<=100/\a.s.size<=120)->∀x∈l.take (j+1),largeB 40 x.node=false/\x.path.size<=100/\x.s.size<=120):=fun h x hx2=>by
     obtain ⟨hk,e⟩:=List.getElem?_eq_some_iff.1 hx
     rw [List.take_succ_eq_append_getElem hk,e,List.mem_append,List.mem_singleton] at hx2
     rcases hx2 with h2|rfl
     ·exact HA.out x h2
     ·exact h
    clear hx hW c1 c2 HA
    go_wp2_with (go_at_call 21;(refine Calls.mono hL ?_;rintro e w2 ⟨z,rfl,hz,hb2⟩;(have HZ:Hid ((z=1∨z=0)/\(z=0->largeB 40 a.node=false)):=hz);(have HB2:Hid (Below w.heap.size w w2):=HB.out.trans (hb2.mono HB.out.size));(obtain ⟨p1,p2⟩:=HW.out w2 HB2.out);clear hz hL HW c3 c4 c5 c6 hb2))
    ·go_ret
     exact ⟨⟨true,rfl,fun h=>by cases h⟩,HB2.out⟩
    ·rename_i h1 h2 h3
     exact ⟨⟨j+1,by omega,by simp,HB2.out,HN.out ⟨HZ.out.2 (by have:=HZ.out.1;omega),by omega,by omega⟩⟩,by simp [intOf];omega⟩
    ·go_ret
     exact ⟨.inr rfl,HB2.out⟩
    ·go_ret
     exact ⟨.inr rfl,HB2.out⟩
   ·obtain rfl:j=l.length:=by omega
    rw [List.take_length] at HA
    go_wp2_with fail
    go_ret
    exact ⟨⟨false,rfl,fun _=>⟨h25,HA.out⟩⟩,HB.out⟩
 ·have h25i:(25:Int)<(l.length:Int):=by omega
  go_enter Tryz.func7,Tryz.ntmps7
  go_wp2_with fail
  go_ret
  exact ⟨⟨true,rfl,fun h=>by cases h⟩,Below.refl _ _⟩
end Go.Proofs.YteefneelcgeioaaGreatDoor
namespace Go.Proofs.YteefneelcgeioaaGreatDoor
open Go.RowKit

theorem pre_path:∀(d:Nat) (p:ByteArray) (k:Nat) (t:Tree),(∀x∈pre d p k t,∀y∈x.2.2.kids,y.1.size<=30)->∀x∈pre d p k t,k<=x.2.1/\x.1.size+31*k<=p.size+31*x.2.1
 | 0,_,_,_,_,x,hx=>by simp [pre] at hx
 | d+1,p,k,t,h,x,hx=>by
  simp only [pre] at hx h
  rcases List.mem_cons.1 hx with rfl|hx
  ·exact ⟨Nat.le_refl _,Nat.le_refl _⟩
  ·obtain ⟨y,hy,hx⟩:=List.mem_flatMap.1 hx
   have hn:=h (p,k,t) List.mem_cons_self y hy
   have ih:=pre_path d (p++slash++y.1) (k+1) y.2 (fun z hz=>h z (List.mem_cons_of_mem _ (List.mem_flatMap.2 ⟨y,hy,hz⟩))) x hx
   simp only [ByteArray.size_append] at ih
   have e:slash.size=1:=rfl
   exact ⟨by omega,by omega⟩
theorem small_ok {most d:Nat} {t:Tree} (hd:Fit d t) (h:largeB most t=false):OkItems (pre d ByteArray.empty 0 t)/\(pre d ByteArray.empty 0 t).length<=most:=by
 have e:=pre_eq hd h
 unfold largeB at h
 simp only [Bool.or_eq_false_iff,decide_eq_false_iff_not] at h
 have hit:∀x∈pre d ByteArray.empty 0 t,¬(11<x.2.1∨(100<x.2.2.data.size/\x.2.2.data.size≠2001)∨20<x.2.2.kind.size)/\∀y∈x.2.2.kids,y.1.size<=30:=fun x hx=>by
  rw [e] at hx
  have h1:=List.any_eq_false.1 h.2 x hx
  unfold itemLarge at h1
  simp only [Bool.or_eq_true,decide_eq_true_eq,not_or] at h1
  refine ⟨by omega,fun y hy=>?_⟩
  have h2:x.2.2.kids.any longName=false:=by simpa using h1.2
  have h3:=List.any_eq_false.1 h2 y hy
  unfold longName at h3
  simp only [decide_eq_true_eq] at h3
  omega
 refine ⟨fun x hx=>?_,by rw [e];omega⟩
 have h1:=(hit x hx).1
 have h2:=(pre_path d ByteArray.empty 0 t (fun z hz=>(hit z hz).2) x hx).2
 have e0:ByteArray.empty.size=0:=rfl
 exact ⟨by unfold maxLen;omega,by omega,by omega⟩
theorem keeps {W w':World} (h:Below W.heap.size W w') {b:Nat} (hb:b<W.heap.size) (i:Nat):w'.cell? ⟨b,i,none⟩=W.cell? ⟨b,i,none⟩:=h.cell (p:=⟨b,i,none⟩) hb
def aFile:Tree:={ kind:={ data:=#[102,105,108,101] },data:={ data:=#[120,121] },exec:=false,kids:=[] }
def aDir:Tree:={ kind:={ data:=#[100,105,114] },data:={ data:=#[] },exec:=false,kids:=[({ data:=#[97] },aFile)] }
end Go.Proofs.YteefneelcgeioaaGreatDoor
