/-
  The contract of package inode's Read.
  The contract of dirs' file: what an inode is, as a node.
  Conditions: those that each states.
-/
import Derived.Test.YteefneelcgeioaaGreatDoorQ12
import Derived.Test.YteefneelcgeioaaGreatDoorQ10
import Derived.Test.YteefneelcgeioaaGreatDoorQ14
namespace Go.Proofs.YteefneelcgeioaaGreatDoor
open Go.RowKit Go.Maps

section
variable {F : Nat → Prop} {T0 tb bb sp sb cap mb n : Nat} {bl : List (List UInt8)} {u : List Bool} {tab : List (Option Ino)}
set_option maxRecDepth 100000 in
set_option maxHeartbeats 1000000 in
theorem im_read_none (k : Int) (hk : (Lit.int .i64 k).wf = true) (hx : slotI tab k = none) (er : Value) (w : World) (T : TbAt w F T0 tb bb sp sb cap mb n bl u tab) (hE : w.cell? ⟨1, 0, none⟩ = some er) :
    Calls Tryz.prog 28 #[.pointer (some ⟨tb, 0, none⟩), .int .i64 k] w fun e w' => e = .returned (.tuple #[.string { data := #[] }, er]) ∧ Below w.heap.size w w' := by
  obtain ⟨f, N⟩ := T.nodes
  have HF := im_find k hk w T N
  rw [N.no hx] at HF
  unfold ptrO at HF
  simp only [Option.map_none] at HF
  clear T N hk hx
  go_enter Tryz.func28, Tryz.ntmps28
  go_wp2_with (go_at_call 46; refine HF.mono ?_; rintro e w1 ⟨rfl, hw⟩; rw [hw]; clear hw)
  go_quiet (fail)
  go_wp2_with fail
  go_ret2
  exact ⟨rfl, ⟨rfl, rfl, rfl, Nat.le_refl _, fun _ _ => rfl⟩⟩
theorem readD_len (bl : List (List UInt8)) (blocks : List Nat) (bytes : Nat) : (readD bl blocks bytes).size ≤ bytes := by
  unfold readD
  show (List.toArray _).size ≤ _
  simp only [List.size_toArray, List.length_take]; omega
theorem crcR_lt (s : ByteArray) : crcR s < 4294967296 := by
  unfold crcR
  exact Nat.xor_lt_two_pow (n := 32) (by omega) (crcL_lt s _)
set_option maxRecDepth 100000 in
set_option maxHeartbeats 1000000 in
theorem im_read (k : Nat) (x : Ino) (er : Value) (hx : slotT tab k = some x) (hcrc : crcR (readD bl x.blocks x.bytes) = x.sum) (w : World) (T : TbAt w F T0 tb bb sp sb cap mb n bl u tab) (hin : ∀ k ∈ x.blocks, k < bl.length) (hbl : x.blocks.length ≤ 1000) (hby : x.bytes ≤ 1000000) (hE : w.cell? ⟨2, 0, none⟩ = some er) :
    Calls Tryz.prog 28 #[.pointer (some ⟨tb, 0, none⟩), .int .i64 (k : Int)] w fun e w' => e = .returned (.tuple #[.string (readD bl x.blocks x.bytes), .nilIface]) ∧ Below w.heap.size w w' := by
  obtain ⟨f, N⟩ := T.nodes
  obtain ⟨b, eb, hb, S⟩ := N.some_ k x hx
  have hkl := slotT_lt hx
  obtain ⟨_, _, _, _, _, hl1, hl2⟩ := T.low
  have HF := im_find (k : Int) (wf_nat (by omega)) w T N
  rw [atI_nat, eb] at HF
  unfold ptrO at HF
  simp only [Option.map_some] at HF
  have hgE : 2 < w.heap.size := World.block_lt_of_cell? w _ hE
  have HE : Hid (∀ W, Below w.heap.size w W → W.cell? ⟨2, 0, none⟩ = some er) := fun W hW => by rw [hW.cell (p := ⟨2, 0, none⟩) hgE]; exact hE
  obtain ⟨c0, _, _, _, c4, v, c3, iv⟩ := S.cells
  have hlt : b < w.heap.size := by obtain ⟨_, h, _⟩ := S; exact (Array.getElem?_eq_some_iff.1 h).1
  have HS : Hid (∀ W, Below w.heap.size w W → (W.cell? ⟨b, 3, none⟩ = some v ∧ W.cell? ⟨b, 0, none⟩ = some (.int .i64 (x.bytes : Int)) ∧ W.cell? ⟨b, 4, none⟩ = some (.int .u32 (x.sum : Int)))) := fun W hW => ⟨by rw [hW.cell (p := ⟨b, 3, none⟩) hlt]; exact c3, by rw [hW.cell (p := ⟨b, 0, none⟩) hlt]; exact c0, by rw [hW.cell (p := ⟨b, 4, none⟩) hlt]; exact c4⟩
  have HR : Hid (∀ W, Below w.heap.size w W → Calls Tryz.prog 52 #[.pointer (some ⟨tb, 0, none⟩), v, .int .i64 (x.bytes : Int)] W fun e w' => e = .returned (.string (readD bl x.blocks x.bytes)) ∧ Below w.heap.size w w') := fun W hW =>
    (im_read0 v x.blocks x.bytes W (T.below hW) (iv.below hW) hin hbl hby).mono fun e w' ⟨he, hb'⟩ => ⟨he, hW.trans (hb'.mono hW.size)⟩
  have HSUM : Hid (∀ W, Calls Tryz.prog 53 #[.string (readD bl x.blocks x.bytes)] W fun e w' => e = .returned (.int .u32 (crcR (readD bl x.blocks x.bytes) : Nat)) ∧ w' = W) := fun W => sum_any _ (Nat.le_trans (readD_len _ _ _) hby) W
  have hcl := crcR_lt (readD bl x.blocks x.bytes)
  generalize readD bl x.blocks x.bytes = s at *
  generalize crcR s = c at *
  obtain ⟨ad, vc, rfl⟩ : ∃ ad vc, v = .slice ad (ints x.blocks).length vc := by obtain ⟨ad, vc, e, _⟩ := iv; exact ⟨ad, vc, e⟩
  clear T N S hx eb hkl hl1 iv hin c0 c4 c3 hE
  have hcx : ((c : Int) == (x.sum : Int)) = true := by rw [hcrc]; simp
  go_enter Tryz.func28, Tryz.ntmps28
  go_wp2_with (go_at_call 46; refine HF.mono ?_; rintro e w1 ⟨rfl, hw⟩; rw [hw]; clear hw)
  refine wp_region_held_drew (S := fun w' => w'.cell? ⟨b, 3, none⟩ = some (.slice ad (ints x.blocks).length vc) ∧ w'.cell? ⟨b, 0, none⟩ = some (.int .i64 (x.bytes : Int)) ∧ w'.cell? ⟨b, 4, none⟩ = some (.int .u32 (x.sum : Int))) (by kernel_rfl) (HS.out _ (Below.refl _ _).drew) (fun hHeld => ?_)
  refine wpAnyH_take (i := 0) (v := (.pointer (some ⟨tb, 0, none⟩))) rfl (by kernel_rfl) (by kernel_rfl) (by kernel_rfl) (fun _ _ _ h => h) (Or.inl ⟨by rfl, ?_⟩) hHeld ?_
  · intro w hSw; (try dsimp only at hSw); simp only [List.getElem_toArray, List.getElem_cons_zero]; go_simp
  simp only [List.getElem_toArray, List.getElem_cons_zero, Act.put, List.setIfInBounds_toArray, List.set_cons_zero, List.set_cons_succ]
  refine wpAnyH_take (i := 1) (v := (.pointer (some ⟨b, 0, none⟩))) rfl (by kernel_rfl) (by kernel_rfl) (by kernel_rfl) (fun _ _ _ h => h) (Or.inl ⟨by rfl, ?_⟩) hHeld ?_
  · intro w hSw; (try dsimp only at hSw); simp only [List.getElem_toArray, List.getElem_cons_zero, List.getElem_cons_succ]; go_simp
  simp only [List.getElem_toArray, List.getElem_cons_zero, List.getElem_cons_succ, Act.put, List.setIfInBounds_toArray, List.set_cons_zero, List.set_cons_succ]
  refine wpAnyH_take (i := 2) (v := (.pointer (some ⟨b, 0, none⟩))) rfl (by kernel_rfl) (by kernel_rfl) (by kernel_rfl) (fun _ _ _ h => h) (Or.inl ⟨by rfl, ?_⟩) hHeld ?_
  · intro w hSw; (try dsimp only at hSw); simp only [List.getElem_toArray, List.getElem_cons_zero, List.getElem_cons_succ]; go_simp
  simp only [List.getElem_toArray, List.getElem_cons_zero, List.getElem_cons_succ, Act.put, List.setIfInBounds_toArray, List.set_cons_zero, List.set_cons_succ]
  refine wpAnyH_take (i := 3) (v := (.pointer (some ⟨b, 3, none⟩))) rfl (by kernel_rfl) (by kernel_rfl) (by kernel_rfl) (fun _ _ _ h => h) (Or.inl ⟨by rfl, ?_⟩) hHeld ?_
  · intro w hSw; (try dsimp only at hSw); simp only [List.getElem_toArray, List.getElem_cons_zero, List.getElem_cons_succ]; go_simp
  simp only [List.getElem_toArray, List.getElem_cons_zero, List.getElem_cons_succ, Act.put, List.setIfInBounds_toArray, List.set_cons_zero, List.set_cons_succ]
  refine wpAnyH_take (i := 4) (v := .slice ad (ints x.blocks).length vc) rfl (by kernel_rfl) (by kernel_rfl) (by kernel_rfl) (fun _ _ _ h => h) (Or.inl ⟨by rfl, ?_⟩) hHeld ?_
  · intro w hSw; (try dsimp only at hSw); simp only [List.getElem_toArray, List.getElem_cons_zero, List.getElem_cons_succ]; go_simp
  simp only [List.getElem_toArray, List.getElem_cons_zero, List.getElem_cons_succ, Act.put, List.setIfInBounds_toArray, List.set_cons_zero, List.set_cons_succ]
  refine wpAnyH_take (i := 5) (v := (.pointer (some ⟨b, 0, none⟩))) rfl (by kernel_rfl) (by kernel_rfl) (by kernel_rfl) (fun _ _ _ h => h) (Or.inl ⟨by rfl, ?_⟩) hHeld ?_
  · intro w hSw; (try dsimp only at hSw); simp only [List.getElem_toArray, List.getElem_cons_zero, List.getElem_cons_succ]; go_simp
  simp only [List.getElem_toArray, List.getElem_cons_zero, List.getElem_cons_succ, Act.put, List.setIfInBounds_toArray, List.set_cons_zero, List.set_cons_succ]
  refine wpAnyH_take (i := 6) (v := (.pointer (some ⟨b, 0, none⟩))) rfl (by kernel_rfl) (by kernel_rfl) (by kernel_rfl) (fun _ _ _ h => h) (Or.inl ⟨by rfl, ?_⟩) hHeld ?_
  · intro w hSw; (try dsimp only at hSw); simp only [List.getElem_toArray, List.getElem_cons_zero, List.getElem_cons_succ]; go_simp
  simp only [List.getElem_toArray, List.getElem_cons_zero, List.getElem_cons_succ, Act.put, List.setIfInBounds_toArray, List.set_cons_zero, List.set_cons_succ]
  refine wpAnyH_take (i := 7) (v := (.pointer (some ⟨b, 0, none⟩))) rfl (by kernel_rfl) (by kernel_rfl) (by kernel_rfl) (fun _ _ _ h => h) (Or.inl ⟨by rfl, ?_⟩) hHeld ?_
  · intro w hSw; (try dsimp only at hSw); simp only [List.getElem_toArray, List.getElem_cons_zero, List.getElem_cons_succ]; go_simp
  simp only [List.getElem_toArray, List.getElem_cons_zero, List.getElem_cons_succ, Act.put, List.setIfInBounds_toArray, List.set_cons_zero, List.set_cons_succ]
  refine wpAnyH_take (i := 8) (v := (.int .i64 (x.bytes : Int))) rfl (by kernel_rfl) (by kernel_rfl) (by kernel_rfl) (fun _ _ _ h => h) (Or.inl ⟨by rfl, ?_⟩) hHeld ?_
  · intro w hSw; (try dsimp only at hSw); simp only [List.getElem_toArray, List.getElem_cons_zero, List.getElem_cons_succ]; go_simp
  simp only [List.getElem_toArray, List.getElem_cons_zero, List.getElem_cons_succ, Act.put, List.setIfInBounds_toArray, List.set_cons_zero, List.set_cons_succ]
  refine wpAnyH_ready (rs := [9]) (by kernel_rfl) (by simp) ?_
  refine AllReadyH.cons rfl (fun K' hK => ?_) AllReadyH.nil
  simp only [List.getElem_toArray, List.getElem_cons_zero, List.getElem_cons_succ]
  go_simp
  refine Calls.mono (HR.out _ (Below.refl _ _).drew) ?_
  rintro e wx ⟨rfl, h1⟩
  have HB1 : Hid _ := h1
  go_wp2_with fail
  refine hK.out _ _ (HS.out _ h1) (fun hHeld' => ?_)
  clear hK K' hHeld
  have hHeld := hHeld'
  clear hHeld'
  refine wpAnyH_take (i := 10) (v := (.string s)) rfl (by kernel_rfl) (by kernel_rfl) (by kernel_rfl) (fun _ _ _ h => h) (Or.inl ⟨by rfl, ?_⟩) hHeld ?_
  · intro w hSw; (try dsimp only at hSw); simp only [List.getElem_toArray, List.getElem_cons_zero, List.getElem_cons_succ]; go_simp
  simp only [List.getElem_toArray, List.getElem_cons_zero, List.getElem_cons_succ, Act.put, List.setIfInBounds_toArray, List.set_cons_zero, List.set_cons_succ]
  refine wpAnyH_done (by kernel_rfl) ?_ _
  go_wp2_with fail
  refine wp_region_held_drew (S := fun w' => w'.cell? ⟨b, 3, none⟩ = some (.slice ad (ints x.blocks).length vc) ∧ w'.cell? ⟨b, 0, none⟩ = some (.int .i64 (x.bytes : Int)) ∧ w'.cell? ⟨b, 4, none⟩ = some (.int .u32 (x.sum : Int))) (by kernel_rfl) (HS.out _ HB1.out.drew) (fun hHeld => ?_)
  refine wpAnyH_take (i := 0) (v := (.string s)) rfl (by kernel_rfl) (by kernel_rfl) (by kernel_rfl) (fun _ _ _ h => h) (Or.inl ⟨by rfl, ?_⟩) hHeld ?_
  · intro w hSw; (try dsimp only at hSw); simp only [List.getElem_toArray, List.getElem_cons_zero]; go_simp
  simp only [List.getElem_toArray, List.getElem_cons_zero, Act.put, List.setIfInBounds_toArray, List.set_cons_zero, List.set_cons_succ]
  refine wpAnyH_take (i := 2) (v := (.pointer (some ⟨b, 0, none⟩))) rfl (by kernel_rfl) (by kernel_rfl) (by kernel_rfl) (fun _ _ _ h => h) (Or.inl ⟨by rfl, ?_⟩) hHeld ?_
  · intro w hSw; (try dsimp only at hSw); simp only [List.getElem_toArray, List.getElem_cons_zero, List.getElem_cons_succ]; go_simp
  simp only [List.getElem_toArray, List.getElem_cons_zero, List.getElem_cons_succ, Act.put, List.setIfInBounds_toArray, List.set_cons_zero, List.set_cons_succ]
  refine wpAnyH_take (i := 3) (v := (.pointer (some ⟨b, 0, none⟩))) rfl (by kernel_rfl) (by kernel_rfl) (by kernel_rfl) (fun _ _ _ h => h) (Or.inl ⟨by rfl, ?_⟩) hHeld ?_
  · intro w hSw; (try dsimp only at hSw); simp only [List.getElem_toArray, List.getElem_cons_zero, List.getElem_cons_succ]; go_simp
  simp only [List.getElem_toArray, List.getElem_cons_zero, List.getElem_cons_succ, Act.put, List.setIfInBounds_toArray, List.set_cons_zero, List.set_cons_succ]
  refine wpAnyH_take (i := 4) (v := (.pointer (some ⟨b, 4, none⟩))) rfl (by kernel_rfl) (by kernel_rfl) (by kernel_rfl) (fun _ _ _ h => h) (Or.inl ⟨by rfl, ?_⟩) hHeld ?_
  · intro w hSw; (try dsimp only at hSw); simp only [List.getElem_toArray, List.getElem_cons_zero, List.getElem_cons_succ]; go_simp
  simp only [List.getElem_toArray, List.getElem_cons_zero, List.getElem_cons_succ, Act.put, List.setIfInBounds_toArray, List.set_cons_zero, List.set_cons_succ]
  refine wpAnyH_take (i := 5) (v := (.int .u32 (x.sum : Int))) rfl (by kernel_rfl) (by kernel_rfl) (by kernel_rfl) (fun _ _ _ h => h) (Or.inl ⟨by rfl, ?_⟩) hHeld ?_
  · intro w hSw; (try dsimp only at hSw); simp only [List.getElem_toArray, List.getElem_cons_zero, List.getElem_cons_succ]; go_simp
  simp only [List.getElem_toArray, List.getElem_cons_zero, List.getElem_cons_succ, Act.put, List.setIfInBounds_toArray, List.set_cons_zero, List.set_cons_succ]
  refine wpAnyH_ready (rs := [1]) (by kernel_rfl) (by simp) ?_
  refine AllReadyH.cons rfl (fun K' hK => ?_) AllReadyH.nil
  simp only [List.getElem_toArray, List.getElem_cons_zero, List.getElem_cons_succ]
  go_simp
  refine Calls.mono (HSUM.out _) ?_
  rintro e wx ⟨rfl, hw⟩
  rw [hw]
  clear hw
  go_wp2_with fail
  refine hK.out _ _ (HS.out _ HB1.out.drew) (fun hHeld' => ?_)
  clear hK K' hHeld
  have hHeld := hHeld'
  clear hHeld'
  refine wpAnyH_take (i := 6) (v := (.bool false)) rfl (by kernel_rfl) (by kernel_rfl) (by kernel_rfl) (fun _ _ _ h => h) (Or.inl ⟨by rfl, ?_⟩) hHeld ?_
  · intro w hSw; (try dsimp only at hSw); simp only [List.getElem_toArray, List.getElem_cons_zero, List.getElem_cons_succ]; go_simp; (try exact hcx)
  simp only [List.getElem_toArray, List.getElem_cons_zero, List.getElem_cons_succ, Act.put, List.setIfInBounds_toArray, List.set_cons_zero, List.set_cons_succ]
  refine wpAnyH_done (by kernel_rfl) ?_ _
  go_wp2_with fail
  go_ret2
  have h := HB1.out
  exact ⟨rfl, ⟨h.os, h.tape, h.output, h.size, h.block⟩⟩
set_option maxRecDepth 100000 in
set_option maxHeartbeats 1000000 in
theorem im_read_bad (k : Nat) (x : Ino) (er : Value) (hx : slotT tab k = some x) (hcrc : crcR (readD bl x.blocks x.bytes) ≠ x.sum) (w : World) (T : TbAt w F T0 tb bb sp sb cap mb n bl u tab) (hin : ∀ k ∈ x.blocks, k < bl.length) (hbl : x.blocks.length ≤ 1000) (hby : x.bytes ≤ 1000000) (hE : w.cell? ⟨2, 0, none⟩ = some er) :
    Calls Tryz.prog 28 #[.pointer (some ⟨tb, 0, none⟩), .int .i64 (k : Int)] w fun e w' => e = .returned (.tuple #[.string { data := #[] }, er]) ∧ Below w.heap.size w w' := by
  obtain ⟨f, N⟩ := T.nodes
  obtain ⟨b, eb, hb, S⟩ := N.some_ k x hx
  have hkl := slotT_lt hx
  obtain ⟨_, _, _, _, _, hl1, hl2⟩ := T.low
  have HF := im_find (k : Int) (wf_nat (by omega)) w T N
  rw [atI_nat, eb] at HF
  unfold ptrO at HF
  simp only [Option.map_some] at HF
  have hgE : 2 < w.heap.size := World.block_lt_of_cell? w _ hE
  have HE : Hid (∀ W, Below w.heap.size w W → W.cell? ⟨2, 0, none⟩ = some er) := fun W hW => by rw [hW.cell (p := ⟨2, 0, none⟩) hgE]; exact hE
  obtain ⟨c0, _, _, _, c4, v, c3, iv⟩ := S.cells
  have hlt : b < w.heap.size := by obtain ⟨_, h, _⟩ := S; exact (Array.getElem?_eq_some_iff.1 h).1
  have HS : Hid (∀ W, Below w.heap.size w W → (W.cell? ⟨b, 3, none⟩ = some v ∧ W.cell? ⟨b, 0, none⟩ = some (.int .i64 (x.bytes : Int)) ∧ W.cell? ⟨b, 4, none⟩ = some (.int .u32 (x.sum : Int)))) := fun W hW => ⟨by rw [hW.cell (p := ⟨b, 3, none⟩) hlt]; exact c3, by rw [hW.cell (p := ⟨b, 0, none⟩) hlt]; exact c0, by rw [hW.cell (p := ⟨b, 4, none⟩) hlt]; exact c4⟩
  have HR : Hid (∀ W, Below w.heap.size w W → Calls Tryz.prog 52 #[.pointer (some ⟨tb, 0, none⟩), v, .int .i64 (x.bytes : Int)] W fun e w' => e = .returned (.string (readD bl x.blocks x.bytes)) ∧ Below w.heap.size w w') := fun W hW =>
    (im_read0 v x.blocks x.bytes W (T.below hW) (iv.below hW) hin hbl hby).mono fun e w' ⟨he, hb'⟩ => ⟨he, hW.trans (hb'.mono hW.size)⟩
  have HSUM : Hid (∀ W, Calls Tryz.prog 53 #[.string (readD bl x.blocks x.bytes)] W fun e w' => e = .returned (.int .u32 (crcR (readD bl x.blocks x.bytes) : Nat)) ∧ w' = W) := fun W => sum_any _ (Nat.le_trans (readD_len _ _ _) hby) W
  have hcl := crcR_lt (readD bl x.blocks x.bytes)
  generalize readD bl x.blocks x.bytes = s at *
  generalize crcR s = c at *
  obtain ⟨ad, vc, rfl⟩ : ∃ ad vc, v = .slice ad (ints x.blocks).length vc := by obtain ⟨ad, vc, e, _⟩ := iv; exact ⟨ad, vc, e⟩
  clear T N S hx eb hkl hl1 iv hin c0 c4 c3 hE
  have hcx : ¬ (c : Int) = (x.sum : Int) := by omega
  go_enter Tryz.func28, Tryz.ntmps28
  go_wp2_with (go_at_call 46; refine HF.mono ?_; rintro e w1 ⟨rfl, hw⟩; rw [hw]; clear hw)
  refine wp_region_held_drew (S := fun w' => w'.cell? ⟨b, 3, none⟩ = some (.slice ad (ints x.blocks).length vc) ∧ w'.cell? ⟨b, 0, none⟩ = some (.int .i64 (x.bytes : Int)) ∧ w'.cell? ⟨b, 4, none⟩ = some (.int .u32 (x.sum : Int))) (by kernel_rfl) (HS.out _ (Below.refl _ _).drew) (fun hHeld => ?_)
  refine wpAnyH_take (i := 0) (v := (.pointer (some ⟨tb, 0, none⟩))) rfl (by kernel_rfl) (by kernel_rfl) (by kernel_rfl) (fun _ _ _ h => h) (Or.inl ⟨by rfl, ?_⟩) hHeld ?_
  · intro w hSw; (try dsimp only at hSw); simp only [List.getElem_toArray, List.getElem_cons_zero]; go_simp
  simp only [List.getElem_toArray, List.getElem_cons_zero, Act.put, List.setIfInBounds_toArray, List.set_cons_zero, List.set_cons_succ]
  refine wpAnyH_take (i := 1) (v := (.pointer (some ⟨b, 0, none⟩))) rfl (by kernel_rfl) (by kernel_rfl) (by kernel_rfl) (fun _ _ _ h => h) (Or.inl ⟨by rfl, ?_⟩) hHeld ?_
  · intro w hSw; (try dsimp only at hSw); simp only [List.getElem_toArray, List.getElem_cons_zero, List.getElem_cons_succ]; go_simp
  simp only [List.getElem_toArray, List.getElem_cons_zero, List.getElem_cons_succ, Act.put, List.setIfInBounds_toArray, List.set_cons_zero, List.set_cons_succ]
  refine wpAnyH_take (i := 2) (v := (.pointer (some ⟨b, 0, none⟩))) rfl (by kernel_rfl) (by kernel_rfl) (by kernel_rfl) (fun _ _ _ h => h) (Or.inl ⟨by rfl, ?_⟩) hHeld ?_
  · intro w hSw; (try dsimp only at hSw); simp only [List.getElem_toArray, List.getElem_cons_zero, List.getElem_cons_succ]; go_simp
  simp only [List.getElem_toArray, List.getElem_cons_zero, List.getElem_cons_succ, Act.put, List.setIfInBounds_toArray, List.set_cons_zero, List.set_cons_succ]
  refine wpAnyH_take (i := 3) (v := (.pointer (some ⟨b, 3, none⟩))) rfl (by kernel_rfl) (by kernel_rfl) (by kernel_rfl) (fun _ _ _ h => h) (Or.inl ⟨by rfl, ?_⟩) hHeld ?_
  · intro w hSw; (try dsimp only at hSw); simp only [List.getElem_toArray, List.getElem_cons_zero, List.getElem_cons_succ]; go_simp
  simp only [List.getElem_toArray, List.getElem_cons_zero, List.getElem_cons_succ, Act.put, List.setIfInBounds_toArray, List.set_cons_zero, List.set_cons_succ]
  refine wpAnyH_take (i := 4) (v := .slice ad (ints x.blocks).length vc) rfl (by kernel_rfl) (by kernel_rfl) (by kernel_rfl) (fun _ _ _ h => h) (Or.inl ⟨by rfl, ?_⟩) hHeld ?_
  · intro w hSw; (try dsimp only at hSw); simp only [List.getElem_toArray, List.getElem_cons_zero, List.getElem_cons_succ]; go_simp
  simp only [List.getElem_toArray, List.getElem_cons_zero, List.getElem_cons_succ, Act.put, List.setIfInBounds_toArray, List.set_cons_zero, List.set_cons_succ]
  refine wpAnyH_take (i := 5) (v := (.pointer (some ⟨b, 0, none⟩))) rfl (by kernel_rfl) (by kernel_rfl) (by kernel_rfl) (fun _ _ _ h => h) (Or.inl ⟨by rfl, ?_⟩) hHeld ?_
  · intro w hSw; (try dsimp only at hSw); simp only [List.getElem_toArray, List.getElem_cons_zero, List.getElem_cons_succ]; go_simp
  simp only [List.getElem_toArray, List.getElem_cons_zero, List.getElem_cons_succ, Act.put, List.setIfInBounds_toArray, List.set_cons_zero, List.set_cons_succ]
  refine wpAnyH_take (i := 6) (v := (.pointer (some ⟨b, 0, none⟩))) rfl (by kernel_rfl) (by kernel_rfl) (by kernel_rfl) (fun _ _ _ h => h) (Or.inl ⟨by rfl, ?_⟩) hHeld ?_
  · intro w hSw; (try dsimp only at hSw); simp only [List.getElem_toArray, List.getElem_cons_zero, List.getElem_cons_succ]; go_simp
  simp only [List.getElem_toArray, List.getElem_cons_zero, List.getElem_cons_succ, Act.put, List.setIfInBounds_toArray, List.set_cons_zero, List.set_cons_succ]
  refine wpAnyH_take (i := 7) (v := (.pointer (some ⟨b, 0, none⟩))) rfl (by kernel_rfl) (by kernel_rfl) (by kernel_rfl) (fun _ _ _ h => h) (Or.inl ⟨by rfl, ?_⟩) hHeld ?_
  · intro w hSw; (try dsimp only at hSw); simp only [List.getElem_toArray, List.getElem_cons_zero, List.getElem_cons_succ]; go_simp
  simp only [List.getElem_toArray, List.getElem_cons_zero, List.getElem_cons_succ, Act.put, List.setIfInBounds_toArray, List.set_cons_zero, List.set_cons_succ]
  refine wpAnyH_take (i := 8) (v := (.int .i64 (x.bytes : Int))) rfl (by kernel_rfl) (by kernel_rfl) (by kernel_rfl) (fun _ _ _ h => h) (Or.inl ⟨by rfl, ?_⟩) hHeld ?_
  · intro w hSw; (try dsimp only at hSw); simp only [List.getElem_toArray, List.getElem_cons_zero, List.getElem_cons_succ]; go_simp
  simp only [List.getElem_toArray, List.getElem_cons_zero, List.getElem_cons_succ, Act.put, List.setIfInBounds_toArray, List.set_cons_zero, List.set_cons_succ]
  refine wpAnyH_ready (rs := [9]) (by kernel_rfl) (by simp) ?_
  refine AllReadyH.cons rfl (fun K' hK => ?_) AllReadyH.nil
  simp only [List.getElem_toArray, List.getElem_cons_zero, List.getElem_cons_succ]
  go_simp
  refine Calls.mono (HR.out _ (Below.refl _ _).drew) ?_
  rintro e wx ⟨rfl, h1⟩
  have HB1 : Hid _ := h1
  go_wp2_with fail
  refine hK.out _ _ (HS.out _ h1) (fun hHeld' => ?_)
  clear hK K' hHeld
  have hHeld := hHeld'
  clear hHeld'
  refine wpAnyH_take (i := 10) (v := (.string s)) rfl (by kernel_rfl) (by kernel_rfl) (by kernel_rfl) (fun _ _ _ h => h) (Or.inl ⟨by rfl, ?_⟩) hHeld ?_
  · intro w hSw; (try dsimp only at hSw); simp only [List.getElem_toArray, List.getElem_cons_zero, List.getElem_cons_succ]; go_simp
  simp only [List.getElem_toArray, List.getElem_cons_zero, List.getElem_cons_succ, Act.put, List.setIfInBounds_toArray, List.set_cons_zero, List.set_cons_succ]
  refine wpAnyH_done (by kernel_rfl) ?_ _
  go_wp2_with fail
  refine wp_region_held_drew (S := fun w' => w'.cell? ⟨b, 3, none⟩ = some (.slice ad (ints x.blocks).length vc) ∧ w'.cell? ⟨b, 0, none⟩ = some (.int .i64 (x.bytes : Int)) ∧ w'.cell? ⟨b, 4, none⟩ = some (.int .u32 (x.sum : Int))) (by kernel_rfl) (HS.out _ HB1.out.drew) (fun hHeld => ?_)
  refine wpAnyH_take (i := 0) (v := (.string s)) rfl (by kernel_rfl) (by kernel_rfl) (by kernel_rfl) (fun _ _ _ h => h) (Or.inl ⟨by rfl, ?_⟩) hHeld ?_
  · intro w hSw; (try dsimp only at hSw); simp only [List.getElem_toArray, List.getElem_cons_zero]; go_simp
  simp only [List.getElem_toArray, List.getElem_cons_zero, Act.put, List.setIfInBounds_toArray, List.set_cons_zero, List.set_cons_succ]
  refine wpAnyH_take (i := 2) (v := (.pointer (some ⟨b, 0, none⟩))) rfl (by kernel_rfl) (by kernel_rfl) (by kernel_rfl) (fun _ _ _ h => h) (Or.inl ⟨by rfl, ?_⟩) hHeld ?_
  · intro w hSw; (try dsimp only at hSw); simp only [List.getElem_toArray, List.getElem_cons_zero, List.getElem_cons_succ]; go_simp
  simp only [List.getElem_toArray, List.getElem_cons_zero, List.getElem_cons_succ, Act.put, List.setIfInBounds_toArray, List.set_cons_zero, List.set_cons_succ]
  refine wpAnyH_take (i := 3) (v := (.pointer (some ⟨b, 0, none⟩))) rfl (by kernel_rfl) (by kernel_rfl) (by kernel_rfl) (fun _ _ _ h => h) (Or.inl ⟨by rfl, ?_⟩) hHeld ?_
  · intro w hSw; (try dsimp only at hSw); simp only [List.getElem_toArray, List.getElem_cons_zero, List.getElem_cons_succ]; go_simp
  simp only [List.getElem_toArray, List.getElem_cons_zero, List.getElem_cons_succ, Act.put, List.setIfInBounds_toArray, List.set_cons_zero, List.set_cons_succ]
  refine wpAnyH_take (i := 4) (v := (.pointer (some ⟨b, 4, none⟩))) rfl (by kernel_rfl) (by kernel_rfl) (by kernel_rfl) (fun _ _ _ h => h) (Or.inl ⟨by rfl, ?_⟩) hHeld ?_
  · intro w hSw; (try dsimp only at hSw); simp only [List.getElem_toArray, List.getElem_cons_zero, List.getElem_cons_succ]; go_simp
  simp only [List.getElem_toArray, List.getElem_cons_zero, List.getElem_cons_succ, Act.put, List.setIfInBounds_toArray, List.set_cons_zero, List.set_cons_succ]
  refine wpAnyH_take (i := 5) (v := (.int .u32 (x.sum : Int))) rfl (by kernel_rfl) (by kernel_rfl) (by kernel_rfl) (fun _ _ _ h => h) (Or.inl ⟨by rfl, ?_⟩) hHeld ?_
  · intro w hSw; (try dsimp only at hSw); simp only [List.getElem_toArray, List.getElem_cons_zero, List.getElem_cons_succ]; go_simp
  simp only [List.getElem_toArray, List.getElem_cons_zero, List.getElem_cons_succ, Act.put, List.setIfInBounds_toArray, List.set_cons_zero, List.set_cons_succ]
  refine wpAnyH_ready (rs := [1]) (by kernel_rfl) (by simp) ?_
  refine AllReadyH.cons rfl (fun K' hK => ?_) AllReadyH.nil
  simp only [List.getElem_toArray, List.getElem_cons_zero, List.getElem_cons_succ]
  go_simp
  refine Calls.mono (HSUM.out _) ?_
  rintro e wx ⟨rfl, hw⟩
  rw [hw]
  clear hw
  go_wp2_with fail
  refine hK.out _ _ (HS.out _ HB1.out.drew) (fun hHeld' => ?_)
  clear hK K' hHeld
  have hHeld := hHeld'
  clear hHeld'
  refine wpAnyH_take (i := 6) (v := (.bool true)) rfl (by kernel_rfl) (by kernel_rfl) (by kernel_rfl) (fun _ _ _ h => h) (Or.inl ⟨by rfl, ?_⟩) hHeld ?_
  · intro w hSw; (try dsimp only at hSw); simp only [List.getElem_toArray, List.getElem_cons_zero, List.getElem_cons_succ]; go_simp; (try exact hcx)
  simp only [List.getElem_toArray, List.getElem_cons_zero, List.getElem_cons_succ, Act.put, List.setIfInBounds_toArray, List.set_cons_zero, List.set_cons_succ]
  refine wpAnyH_done (by kernel_rfl) ?_ _
  have cE := HE.out _ HB1.out
  go_wp2_with fail
  go_quiet (fail)
  go_wp2_with fail
  go_ret2
  have h := HB1.out
  exact ⟨rfl, ⟨h.os, h.tape, h.output, h.size, h.block⟩⟩
end
end Go.Proofs.YteefneelcgeioaaGreatDoor
namespace Go.Proofs.YteefneelcgeioaaGreatDoor
set_option maxHeartbeats 1000000
set_option maxRecDepth 100000
open Go.RowKit Go.Maps

def nodeI (bl:List (List UInt8)) (x:Ino):Tree:=⟨{ data:=#[102,105,108,101] },readD bl x.blocks x.bytes,x.exec,[]⟩
section
variable {w : World} {F : Nat → Prop} {T0 tb bb sp sb cap mb n N dp m1 m2 : Nat} {nx : Int} {bl : List (List UInt8)} {u : List Bool} {tab : List (Option Ino)}
theorem dfile_any (k:Nat) (x:Ino) (er:Value) (hx:slotT tab k=some x) (hcrc:crcR (readD bl x.blocks x.bytes)=x.sum) (T:TbAt w F T0 tb bb sp sb cap mb n bl u tab) (S:SInv N bl u tab)
  (bd:w.heap[dp]? = some (.cells #[.pointer (some ⟨tb,0,none⟩),.map (some m1),.map (some m2),.int .i64 nx] 79 (0,0))) (eg:w.cell? ⟨2,0,none⟩=some er) :
  Calls Tryz.prog 66 #[.pointer (some ⟨dp,0,none⟩),.int .i64 (k:Int)] w fun e w'=>e = .returned (.tuple #[.agg #[.string { data:=#[102,105,108,101] },.string (readD bl x.blocks x.bytes),.bool x.exec,.slice none 0 0],.nilIface])/\Below w.heap.size w w':=by
 obtain ⟨_,s2,_,s4,s5⟩:=S.own k x hx
 have hb1:x.blocks.length<=1000:=by rw [s5];unfold needN;omega
 have hin:∀q∈x.blocks,q<bl.length:=fun q hq=>by rw [S.lbl];exact S.lt hx q hq
 have hgl:2<w.heap.size:=World.block_lt_of_cell? w _ eg
 have HRD:Hid (∀W,Below w.heap.size w W->Calls Tryz.prog 28 #[.pointer (some ⟨tb,0,none⟩),.int .i64 (k:Int)] W fun e w'=>e = .returned (.tuple #[.string (readD bl x.blocks x.bytes),.nilIface])/\Below W.heap.size W w'):=fun W hW=>im_read k x er hx hcrc W (T.below hW) hin hb1 (by omega) (by rw [hW.cell (p:=⟨2,0,none⟩) hgl];exact eg)
 have HST:Hid (∀W,Below w.heap.size w W->Calls Tryz.prog 20 #[.pointer (some ⟨tb,0,none⟩),.int .i64 (k:Int)] W fun e w'=>∃ad vc,e = .returned (.tuple #[.agg #[.int .i64 (x.bytes:Int),.int .i64 (x.links:Int),.bool x.exec,.slice ad x.blocks.length vc,.int .u32 (x.sum:Int)],.bool true])/\Below W.heap.size W w'):=fun W hW=>(im_stat k x hx (by omega) W (T.below hW)).mono fun e w' ⟨v,he,hv,hb⟩=>by
  obtain ⟨ad,vc,rfl,_⟩:=hv
  rw [ints_len] at he
  exact ⟨ad,vc,he,hb⟩
 have hdl:=(Array.getElem?_eq_some_iff.1 bd).1
 have HDP:Hid (∀W,Below w.heap.size w W->W.cell? ⟨dp,0,none⟩=some (.pointer (some ⟨tb,0,none⟩))):=fun W hW=>by
  rw [World.cell?_of_block (a:=⟨dp,0,none⟩) (hW.block dp hdl),cell_of_row _ _ _ _ _ _ bd];rfl
 obtain ⟨D,HD⟩:∃D,Hid (D=readD bl x.blocks x.bytes):=⟨_,(rfl:_=_)⟩
 rw [<-HD.out] at HRD ⊢
 obtain ⟨W1,hW1⟩:∃W1,W1=w.alloc (.cells #[.string { data:=#[] },.string { data:=#[] },.bool false,.slice none 0 0] 32):=⟨_,rfl⟩
 have HB1:Hid (Below w.heap.size w W1):=by rw [hW1];exact (Below.refl _ w).alloc (Nat.le_refl _) _
 have HR1:Hid (W1.heap[w.heap.size]? = some (.cells #[.string { data:=#[] },.string { data:=#[] },.bool false,.slice none 0 0] 32 (0,0))):=by rw [hW1];exact heap_alloc_last w _
 have hz1:w.heap.size<W1.heap.size:=by rw [hW1];simp
 have c1:=HDP.out W1 HB1.out
 clear T S bd eg hx hcrc s2 s4 s5 hb1 hin hgl hdl
 subst hW1
 go_enter Tryz.func66,Tryz.ntmps66
 go_wp2_with (first
  | (go_at_call 28;refine (HRD.out _ HB1.out).mono ?_;rintro e w1 ⟨rfl,b1⟩;(have HB2:Hid (Below w.heap.size w w1):=HB1.out.trans (b1.mono HB1.out.size));(have HR2:Hid (w1.heap[w.heap.size]? = some (.cells #[.string { data:=#[] },.string { data:=#[] },.bool false,.slice none 0 0] 32 (0,0))):=(b1.block _ hz1).trans HR1.out);(have c2:=HDP.out w1 HB2.out);(have hz2:w.heap.size<w1.heap.size:=Nat.lt_of_lt_of_le hz1 b1.size);clear b1)
  | (go_at_call 20;refine (HST.out _ HB2.out).mono ?_;rintro e w2 ⟨ad,vc,rfl,b2⟩;(have HB3:Hid (Below w.heap.size w (w2.alloc (.cells #[.int .i64 (x.bytes:Int),.int .i64 (x.links:Int),.bool x.exec,.slice ad x.blocks.length vc,.int .u32 (x.sum:Int)] 54))):=((HB2.out.trans (b2.mono HB2.out.size)).alloc (HB2.out.trans (b2.mono HB2.out.size)).size _));(have hr3:(w2.alloc (.cells #[.int .i64 (x.bytes:Int),.int .i64 (x.links:Int),.bool x.exec,.slice ad x.blocks.length vc,.int .u32 (x.sum:Int)] 54)).heap[w.heap.size]? = some (.cells #[.string { data:=#[] },.string { data:=#[] },.bool false,.slice none 0 0] 32 (0,0)):=(Below.heap_alloc _ _ _ (Nat.lt_of_lt_of_le hz2 b2.size)).trans ((b2.block _ hz2).trans HR2.out));(have hst:=node_store (o:=0) hr3 (by simp) (nodeI bl x) (.slice none 0 0) (fun _=>False));(have hth:=there_row (o:=0) (n:=4) hr3 (by simp));clear b2)
  | refine wpList_store_mid (by rfl) 32 _ _ (by rfl) w.heap.size 0 #[.string { data:=#[102,105,108,101] },.string D,.bool x.exec,.slice none 0 0] (by rfl) (by rfl) hth (by kernel_rfl) (by simp [Value.oneCell']) ?_)
 have hst2:NodeC ((w2.alloc (.cells #[.int .i64 (x.bytes:Int),.int .i64 (x.links:Int),.bool x.exec,.slice ad x.blocks.length vc,.int .u32 (x.sum:Int)] 54)).setCells w.heap.size 0 [.string { data:=#[102,105,108,101] },.string D,.bool x.exec,.slice none 0 0]) w.heap.size 0 (nodeI bl x) (.slice none 0 0)/\(w2.alloc (.cells #[.int .i64 (x.bytes:Int),.int .i64 (x.links:Int),.bool x.exec,.slice ad x.blocks.length vc,.int .u32 (x.sum:Int)] 54)).grownBy ((w2.alloc (.cells #[.int .i64 (x.bytes:Int),.int .i64 (x.links:Int),.bool x.exec,.slice ad x.blocks.length vc,.int .u32 (x.sum:Int)] 54)).setCells w.heap.size 0 [.string { data:=#[102,105,108,101] },.string D,.bool x.exec,.slice none 0 0]) (some w.heap.size):=by
  rw [HD.out];exact ⟨hst.1,hst.2.2⟩
 have q0:=hst2.1.kind
 have q1:=hst2.1.data
 have q2:=hst2.1.exec
 have q3:=hst2.1.kids
 have hgr:=hst2.2
 clear hst hst2
 have q1:((w2.alloc (.cells #[.int .i64 (x.bytes:Int),.int .i64 (x.links:Int),.bool x.exec,.slice ad x.blocks.length vc,.int .u32 (x.sum:Int)] 54)).setCells w.heap.size 0 [.string { data:=#[102,105,108,101] },.string D,.bool x.exec,.slice none 0 0]).cell? ⟨w.heap.size,0+1,none⟩=some (.string D):=by rw [q1,HD.out];rfl
 simp only [Nat.zero_add] at q1 q2 q3
 refine bodyPost_ret (v:=.tuple #[.agg #[.string { data:=#[102,105,108,101] },.string D,.bool x.exec,.slice none 0 0],.nilIface]) (by simp [results,Tryz.results66,go_sem,q0,q1,q2,q3,nodeI]) rfl ⟨rfl,HB3.out.grown hgr HB3.out.size (fun q hq=>by cases hq;exact Nat.le_refl _)⟩
end
end Go.Proofs.YteefneelcgeioaaGreatDoor
