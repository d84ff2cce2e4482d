/-
  The contract of the document's answer, a text that is read: reading's bytes.
  Conditions: the reading lies in a block of its own.
-/
import Derived.Test.YtfchgecbimaonaaDoorRefR
import Derived.Test.YtfchgecbimaonaaDoorPackE
import Derived.Deep.RegionHeld3
import Derived.Deep.DrawnRows
import Derived.Deep.DeepCutAuto
import Derived.Deep.DeepFit
namespace Go.Proofs.YtfchgecbimaonaaDoor
open Go.RowKit
attribute [local go_sem ↓] Go.wp_at_zero Go.wp_at_succ

/-- A reading in its block: the text, where it is, how many nodes it had. -/
def Rg (rb : Nat) (s : ByteArray) (o n : Nat) (w : World) : Prop := w.heap[rb]? = some (.cells #[.string s, .int .i64 (o : Int), .int .i64 (n : Int)] 90 (0, 0))
theorem Rg.cells {rb o n : Nat} {s : ByteArray} {w : World} (R : Rg rb s o n w) : w.cell? ⟨rb, 0, none⟩ = some (.string s) ∧ w.cell? ⟨rb, 1, none⟩ = some (.int .i64 (o : Int)) ∧ w.cell? ⟨rb, 2, none⟩ = some (.int .i64 (n : Int)) := by
  refine ⟨?_, ?_, ?_⟩
  all_goals (rw [cell_of_row w _ _ _ _ _ R]; rfl)
theorem Rg.free {rb o n : Nat} {s : ByteArray} {w : World} (R : Rg rb s o n w) (i : Nat) : w.frozen? ⟨rb, i, none⟩ = false := by simp [World.frozen?, show w.heap[rb]? = _ from R]
theorem Rg.set1 {rb o n : Nat} {s : ByteArray} {w : World} (R : Rg rb s o n w) (m : Nat) : Rg rb s m n (w.setCell ⟨rb, 1, none⟩ (.int .i64 (m : Int))) := by
  unfold Rg at *
  simp [World.setCell, Array.getElem?_modify, R]
theorem Rg.set2 {rb o n : Nat} {s : ByteArray} {w : World} (R : Rg rb s o n w) (m : Nat) : Rg rb s o m (w.setCell ⟨rb, 2, none⟩ (.int .i64 (m : Int))) := by
  unfold Rg at *
  simp [World.setCell, Array.getElem?_modify, R]
theorem Rg.drewN {rb o n : Nat} {s : ByteArray} {w : World} (R : Rg rb s o n w) (k : Nat) : Rg rb s o n (w.drewN k) := R
theorem Rg.drew {rb o n : Nat} {s : ByteArray} {w : World} (R : Rg rb s o n w) : Rg rb s o n w.drew := R
theorem Rg.alloc {rb o n : Nat} {s : ByteArray} {w : World} (R : Rg rb s o n w) (x : Obj) : Rg rb s o n (w.alloc x) := by
  unfold Rg
  rw [Below.heap_alloc _ _ _ (lt_of_row R)]
  exact R

/-- What reading's bytes hands back. -/
def RbPost (rb n : Nat) (s : ByteArray) (o : Nat) (w : World) (e : Ending) (w' : World) : Prop := ∃ o', Rg rb s o' n w' ∧ Kept (fun k => k = rb) w w' ∧
  ((bytesR (s.data.toList.drop o) = none ∧ e = .returned (.tuple #[.string { data := #[] }, .bool false])) ∨ ∃ d, bytesR (s.data.toList.drop o) = some (d, s.data.toList.drop o') ∧ o' ≤ s.size ∧ e = .returned (.tuple #[.string (bs d), .bool true]))
theorem RbPost.no {rb n o o' : Nat} {s : ByteArray} {w w' : World} (h : bytesR (s.data.toList.drop o) = none) (hr : Rg rb s o' n w') (hk : Kept (fun k => k = rb) w w') : RbPost rb n s o w (.returned (.tuple #[.string { data := #[] }, .bool false])) w' :=
  ⟨o', hr, hk, .inl ⟨h, rfl⟩⟩
theorem RbPost.yes {rb n o o' : Nat} {s d' : ByteArray} {d : List UInt8} {w w' : World} (h : bytesR (s.data.toList.drop o) = some (d, s.data.toList.drop o')) (hd : d' = bs d) (ho : o' ≤ s.size) (hr : Rg rb s o' n w') (hk : Kept (fun k => k = rb) w w') : RbPost rb n s o w (.returned (.tuple #[.string d', .bool true])) w' :=
  ⟨o', hr, hk, .inr ⟨d, h, ho, by rw [hd]⟩⟩
theorem extract_mid (s : ByteArray) (p c : Nat) : s.extract p (p + c) = bs ((s.data.toList.drop p).take c) := by
  obtain ⟨⟨l⟩⟩ := s
  have h := ByteArray.extract_mk l p (p + c)
  show (ByteArray.mk l.toArray).extract p (p + c) = bs ((l.drop p).take c)
  rw [h, Nat.add_sub_cancel_left]
  rfl

set_option maxRecDepth 100000 in
set_option maxHeartbeats 4000000 in
theorem rBytes_any (rb n : Nat) (s : ByteArray) (o : Nat) (w : World) (R : Rg rb s o n w) (hs : s.size ≤ 1000000) (ho : o ≤ s.size) :
    Calls Tryd.prog 77 #[.pointer (some ⟨rb, 0, none⟩)] w (RbPost rb n s o w) := by
  have HR : Hid (Rg rb s o n w) := R
  have HC : Hid (∀ w', Rg rb s o n w' → w'.cell? ⟨rb, 0, none⟩ = some (.string s) ∧ w'.cell? ⟨rb, 1, none⟩ = some (.int .i64 (o : Int))) := fun w' h => ⟨h.cells.1, h.cells.2.1⟩
  have HHD : Hid (∀ w', Calls Tryd.prog 78 #[.string s, .int .i64 (o : Int)] w' (HeadPost s o w')) := fun w' => headOf_any s o w' hs ho
  have hlL : s.data.toList.length = s.size := by simp
  have HLL : Hid _ := hlL
  clear R hlL
  go_enter Tryd.func77, Tryd.ntmps77
  go_upto_region 1 with fail
  refine wp_region_held_drew (S := fun w' => w'.cell? ⟨rb, 0, none⟩ = some (.string s) ∧ w'.cell? ⟨rb, 1, none⟩ = some (.int .i64 (o : Int))) (by kernel_rfl) (HC.out _ HR.out) (fun hHeld => ?_)
  refine wpAnyH_take (i := 0) (v := .pointer (some ⟨rb, 0, none⟩)) rfl (by kernel_rfl) (by kernel_rfl) (by kernel_rfl) (fun _ _ _ h => h) (Or.inl ⟨by rfl, ?_⟩) hHeld ?_
  · intro w hSw; (try dsimp only at hSw); simp only [List.getElem_toArray, List.getElem_cons_zero]; go_simp
  simp only [List.getElem_toArray, List.getElem_cons_zero, Act.put, List.setIfInBounds_toArray, List.set_cons_zero, List.set_cons_succ]
  refine wpAnyH_take (i := 1) (v := .pointer (some ⟨rb, 0, none⟩)) rfl (by kernel_rfl) (by kernel_rfl) (by kernel_rfl) (fun _ _ _ h => h) (Or.inl ⟨by rfl, ?_⟩) hHeld ?_
  · intro w hSw; (try dsimp only at hSw); simp only [List.getElem_toArray, List.getElem_cons_zero, List.getElem_cons_succ]; go_simp
  simp only [List.getElem_toArray, List.getElem_cons_zero, List.getElem_cons_succ, Act.put, List.setIfInBounds_toArray, List.set_cons_zero, List.set_cons_succ]
  refine wpAnyH_take (i := 2) (v := .pointer (some ⟨rb, 0, none⟩)) rfl (by kernel_rfl) (by kernel_rfl) (by kernel_rfl) (fun _ _ _ h => h) (Or.inl ⟨by rfl, ?_⟩) hHeld ?_
  · intro w hSw; (try dsimp only at hSw); simp only [List.getElem_toArray, List.getElem_cons_zero, List.getElem_cons_succ]; go_simp
  simp only [List.getElem_toArray, List.getElem_cons_zero, List.getElem_cons_succ, Act.put, List.setIfInBounds_toArray, List.set_cons_zero, List.set_cons_succ]
  refine wpAnyH_take (i := 3) (v := .string s) rfl (by kernel_rfl) (by kernel_rfl) (by kernel_rfl) (fun _ _ _ h => h) (Or.inl ⟨by rfl, ?_⟩) hHeld ?_
  · intro w hSw; (try dsimp only at hSw); simp only [List.getElem_toArray, List.getElem_cons_zero, List.getElem_cons_succ]; go_simp
  simp only [List.getElem_toArray, List.getElem_cons_zero, List.getElem_cons_succ, Act.put, List.setIfInBounds_toArray, List.set_cons_zero, List.set_cons_succ]
  refine wpAnyH_take (i := 4) (v := .pointer (some ⟨rb, 0, none⟩)) rfl (by kernel_rfl) (by kernel_rfl) (by kernel_rfl) (fun _ _ _ h => h) (Or.inl ⟨by rfl, ?_⟩) hHeld ?_
  · intro w hSw; (try dsimp only at hSw); simp only [List.getElem_toArray, List.getElem_cons_zero, List.getElem_cons_succ]; go_simp
  simp only [List.getElem_toArray, List.getElem_cons_zero, List.getElem_cons_succ, Act.put, List.setIfInBounds_toArray, List.set_cons_zero, List.set_cons_succ]
  refine wpAnyH_take (i := 5) (v := .pointer (some ⟨rb, 0, none⟩)) rfl (by kernel_rfl) (by kernel_rfl) (by kernel_rfl) (fun _ _ _ h => h) (Or.inl ⟨by rfl, ?_⟩) hHeld ?_
  · intro w hSw; (try dsimp only at hSw); simp only [List.getElem_toArray, List.getElem_cons_zero, List.getElem_cons_succ]; go_simp
  simp only [List.getElem_toArray, List.getElem_cons_zero, List.getElem_cons_succ, Act.put, List.setIfInBounds_toArray, List.set_cons_zero, List.set_cons_succ]
  refine wpAnyH_take (i := 6) (v := .pointer (some ⟨rb, 1, none⟩)) rfl (by kernel_rfl) (by kernel_rfl) (by kernel_rfl) (fun _ _ _ h => h) (Or.inl ⟨by rfl, ?_⟩) hHeld ?_
  · intro w hSw; (try dsimp only at hSw); simp only [List.getElem_toArray, List.getElem_cons_zero, List.getElem_cons_succ]; go_simp
  simp only [List.getElem_toArray, List.getElem_cons_zero, List.getElem_cons_succ, Act.put, List.setIfInBounds_toArray, List.set_cons_zero, List.set_cons_succ]
  refine wpAnyH_take (i := 7) (v := .int .i64 (o : Int)) rfl (by kernel_rfl) (by kernel_rfl) (by kernel_rfl) (fun _ _ _ h => h) (Or.inl ⟨by rfl, ?_⟩) hHeld ?_
  · intro w hSw; (try dsimp only at hSw); simp only [List.getElem_toArray, List.getElem_cons_zero, List.getElem_cons_succ]; go_simp
  simp only [List.getElem_toArray, List.getElem_cons_zero, List.getElem_cons_succ, Act.put, List.setIfInBounds_toArray, List.set_cons_zero, List.set_cons_succ]
  refine wpAnyH_ready (rs := [8]) (by kernel_rfl) (by simp) ?_
  refine AllReadyH.cons rfl (fun K' hK => ?_) AllReadyH.nil
  simp only [List.getElem_toArray, List.getElem_cons_zero, List.getElem_cons_succ]
  go_simp
  refine Calls.mono (HHD.out _) ?_
  rintro e wx ⟨rfl, ⟨hn, p, rfl⟩ | ⟨c, p, hn, hp1, hp2, rfl⟩⟩
  · skip
    have HN : Hid (bytesR (s.data.toList.drop o) = none) := show _ = _ by unfold bytesR; rw [hn]
    clear hn
    go_wp2_with fail
    refine hK.out _ _ (HC.out _ HR.out) (fun hHeld' => ?_)
    clear hK K' hHeld
    have hHeld := hHeld'
    clear hHeld'
    refine wpAnyH_take (i := 9) (v := .tuple #[.int .i64 (-1), .int .i64 p]) rfl (by kernel_rfl) (by kernel_rfl) (by kernel_rfl) (fun _ _ _ h => h) (Or.inl ⟨by rfl, ?_⟩) hHeld ?_
    · intro w hSw; (try dsimp only at hSw); simp only [List.getElem_toArray, List.getElem_cons_zero, List.getElem_cons_succ]; go_simp
    simp only [List.getElem_toArray, List.getElem_cons_zero, List.getElem_cons_succ, Act.put, List.setIfInBounds_toArray, List.set_cons_zero, List.set_cons_succ]
    refine wpAnyH_take (i := 10) (v := .int .i64 (-1)) rfl (by kernel_rfl) (by kernel_rfl) (by kernel_rfl) (fun _ _ _ h => h) (Or.inl ⟨by rfl, ?_⟩) hHeld ?_
    · intro w hSw; (try dsimp only at hSw); simp only [List.getElem_toArray, List.getElem_cons_zero, List.getElem_cons_succ]; go_simp
    simp only [List.getElem_toArray, List.getElem_cons_zero, List.getElem_cons_succ, Act.put, List.setIfInBounds_toArray, List.set_cons_zero, List.set_cons_succ]
    refine wpAnyH_take (i := 11) (v := .int .i64 p) rfl (by kernel_rfl) (by kernel_rfl) (by kernel_rfl) (fun _ _ _ h => h) (Or.inl ⟨by rfl, ?_⟩) hHeld ?_
    · intro w hSw; (try dsimp only at hSw); simp only [List.getElem_toArray, List.getElem_cons_zero, List.getElem_cons_succ]; go_simp
    simp only [List.getElem_toArray, List.getElem_cons_zero, List.getElem_cons_succ, Act.put, List.setIfInBounds_toArray, List.set_cons_zero, List.set_cons_succ]
    refine wpAnyH_take (i := 12) (v := .int .i64 (-1)) rfl (by kernel_rfl) (by kernel_rfl) (by kernel_rfl) (fun _ _ _ h => h) (Or.inl ⟨by rfl, ?_⟩) hHeld ?_
    · intro w hSw; (try dsimp only at hSw); simp only [List.getElem_toArray, List.getElem_cons_zero, List.getElem_cons_succ]; go_simp
    simp only [List.getElem_toArray, List.getElem_cons_zero, List.getElem_cons_succ, Act.put, List.setIfInBounds_toArray, List.set_cons_zero, List.set_cons_succ]
    refine wpAnyH_take (i := 13) (v := .int .i64 p) rfl (by kernel_rfl) (by kernel_rfl) (by kernel_rfl) (fun _ _ _ h => h) (Or.inl ⟨by rfl, ?_⟩) hHeld ?_
    · intro w hSw; (try dsimp only at hSw); simp only [List.getElem_toArray, List.getElem_cons_zero, List.getElem_cons_succ]; go_simp
    simp only [List.getElem_toArray, List.getElem_cons_zero, List.getElem_cons_succ, Act.put, List.setIfInBounds_toArray, List.set_cons_zero, List.set_cons_succ]
    refine wpAnyH_done (by kernel_rfl) ?_ _
    go_wp2_with fail
    go_ret2
    exact RbPost.no HN.out HR.out.drew (Kept.refl _ _).drew
  · skip
    have hcb := (numR_len hn).2
    have HNN : Hid _ := hn
    clear hn
    go_wp2_with fail
    refine hK.out _ _ (HC.out _ HR.out) (fun hHeld' => ?_)
    clear hK K' hHeld
    have hHeld := hHeld'
    clear hHeld'
    refine wpAnyH_take (i := 9) (v := .tuple #[.int .i64 (c : Int), .int .i64 (p : Int)]) rfl (by kernel_rfl) (by kernel_rfl) (by kernel_rfl) (fun _ _ _ h => h) (Or.inl ⟨by rfl, ?_⟩) hHeld ?_
    · intro w hSw; (try dsimp only at hSw); simp only [List.getElem_toArray, List.getElem_cons_zero, List.getElem_cons_succ]; go_simp
    simp only [List.getElem_toArray, List.getElem_cons_zero, List.getElem_cons_succ, Act.put, List.setIfInBounds_toArray, List.set_cons_zero, List.set_cons_succ]
    refine wpAnyH_take (i := 10) (v := .int .i64 (c : Int)) rfl (by kernel_rfl) (by kernel_rfl) (by kernel_rfl) (fun _ _ _ h => h) (Or.inl ⟨by rfl, ?_⟩) hHeld ?_
    · intro w hSw; (try dsimp only at hSw); simp only [List.getElem_toArray, List.getElem_cons_zero, List.getElem_cons_succ]; go_simp
    simp only [List.getElem_toArray, List.getElem_cons_zero, List.getElem_cons_succ, Act.put, List.setIfInBounds_toArray, List.set_cons_zero, List.set_cons_succ]
    refine wpAnyH_take (i := 11) (v := .int .i64 (p : Int)) rfl (by kernel_rfl) (by kernel_rfl) (by kernel_rfl) (fun _ _ _ h => h) (Or.inl ⟨by rfl, ?_⟩) hHeld ?_
    · intro w hSw; (try dsimp only at hSw); simp only [List.getElem_toArray, List.getElem_cons_zero, List.getElem_cons_succ]; go_simp
    simp only [List.getElem_toArray, List.getElem_cons_zero, List.getElem_cons_succ, Act.put, List.setIfInBounds_toArray, List.set_cons_zero, List.set_cons_succ]
    refine wpAnyH_take (i := 12) (v := .int .i64 (c : Int)) rfl (by kernel_rfl) (by kernel_rfl) (by kernel_rfl) (fun _ _ _ h => h) (Or.inl ⟨by rfl, ?_⟩) hHeld ?_
    · intro w hSw; (try dsimp only at hSw); simp only [List.getElem_toArray, List.getElem_cons_zero, List.getElem_cons_succ]; go_simp
    simp only [List.getElem_toArray, List.getElem_cons_zero, List.getElem_cons_succ, Act.put, List.setIfInBounds_toArray, List.set_cons_zero, List.set_cons_succ]
    refine wpAnyH_take (i := 13) (v := .int .i64 (p : Int)) rfl (by kernel_rfl) (by kernel_rfl) (by kernel_rfl) (fun _ _ _ h => h) (Or.inl ⟨by rfl, ?_⟩) hHeld ?_
    · intro w hSw; (try dsimp only at hSw); simp only [List.getElem_toArray, List.getElem_cons_zero, List.getElem_cons_succ]; go_simp
    simp only [List.getElem_toArray, List.getElem_cons_zero, List.getElem_cons_succ, Act.put, List.setIfInBounds_toArray, List.set_cons_zero, List.set_cons_succ]
    refine wpAnyH_done (by kernel_rfl) ?_ _
    have g0 := HR.out.cells.1
    have g1 := HR.out.cells.2.1
    have f1 := HR.out.free 1
    have hw1 : IntKind.i64.wrap ((s.size : Int) - (p : Int)) = (s.size : Int) - (p : Int) := by simp (disch := omega) only [IntWalk.i64_in]
    have hw2 : IntKind.i64.wrap ((p : Int) + (c : Int)) = (p : Int) + (c : Int) := by simp (disch := omega) only [IntWalk.i64_in]
    have hc0 : (0 : Int) ≤ (c : Int) := by omega
    by_cases hlt : s.size < p + c
    · have HN : Hid (bytesR (s.data.toList.drop o) = none) := bytesR_cut HNN.out (by rw [List.length_drop, HLL.out]; omega)
      have hlt' : (s.size : Int) - (p : Int) < (c : Int) := by omega
      go_wp2_with fail
      go_ret2
      exact RbPost.no HN.out HR.out.drew (Kept.refl _ _).drew
    · have HN : Hid (bytesR (s.data.toList.drop o) = some ((s.data.toList.drop p).take c, s.data.toList.drop (p + c))) := by
        have := bytesR_is HNN.out (by rw [List.length_drop, HLL.out]; omega)
        rw [List.drop_drop] at this
        exact this
      have hlt' : (c : Int) ≤ (s.size : Int) - (p : Int) := by omega
      have hpc : p + c ≤ s.size := by omega
      have hpp : p ≤ p + c := by omega
      have HE : Hid _ := extract_mid s p c
      have HRS : Hid (Rg rb s (p + c) n (w.setCell ⟨rb, 1, none⟩ (.int .i64 ((p : Int) + (c : Int)))).drew) := (HR.out.set1 (p + c)).drew
      have HKS : Hid (Kept (fun k => k = rb) w (w.setCell ⟨rb, 1, none⟩ (.int .i64 ((p : Int) + (c : Int)))).drew) := (Kept.setCell (C := fun k => k = rb) (p := ⟨rb, 1, none⟩) (Kept.refl _ _) rfl _).drew
      go_wp2_with fail
      go_ret2
      exact RbPost.yes HN.out HE.out hpc HRS.out HKS.out
end Go.Proofs.YtfchgecbimaonaaDoor
