/-
  The contract of package inode's Read.
  The contracts of the document's SameInts (for the same numbers) and NeedOf, and of the law's closed fact of a space.
  The contract of package disk's Rot.
  Acts on a disk in memory; what blocks may be.
  Conditions: those that each states.
-/
import Derived.Test.YtcejpeohkgchdaaDoorK12
import Derived.Test.YtcejpeohkgchdaaDoorK10
import Derived.Test.YtcejpeohkgchdaaDoorK06
import Derived.Test.YtcejpeohkgchdaaDoorK04
import Derived.Test.YtcejpeohkgchdaaDoorK07
namespace Go.Proofs.YtcejpeohkgchdaaDoor
open Go.RowKit Go.Maps

section
variable {F : Nat → Prop} {T0 tb bb sp sb cap mb n : Nat} {bl : List (List UInt8)} {u : List Bool} {tab : List (Option Ino)}
set_option maxRecDepth 100000 in
set_option maxHeartbeats 1000000 in
theorem im_read_none (k : Int) (hk : (Lit.int .i64 k).wf = true) (hx : slotI tab k = none) (er : Value) (w : World) (T : TbAt w F T0 tb bb sp sb cap mb n bl u tab) (hE : w.cell? ⟨2, 0, none⟩ = some er) :
    Calls Tryd.prog 10 #[.pointer (some ⟨tb, 0, none⟩), .int .i64 k] w fun e w' => e = .returned (.tuple #[.string { data := #[] }, er]) ∧ Below w.heap.size w w' := by
  obtain ⟨f, N⟩ := T.nodes
  have HF := im_find k hk w T N
  rw [N.no hx] at HF
  unfold ptrO at HF
  simp only [Option.map_none] at HF
  clear T N hk hx
  go_enter Tryd.func10, Tryd.ntmps10
  go_wp2_with (go_at_call 22; refine HF.mono ?_; rintro e w1 ⟨rfl, hw⟩; rw [hw]; clear hw)
  go_quiet (fail)
  go_wp2_with fail
  go_ret2
  exact ⟨rfl, ⟨rfl, rfl, rfl, Nat.le_refl _, fun _ _ => rfl⟩⟩
theorem readD_len (bl : List (List UInt8)) (blocks : List Nat) (bytes : Nat) : (readD bl blocks bytes).size ≤ bytes := by
  unfold readD
  show (List.toArray _).size ≤ _
  simp only [List.size_toArray, List.length_take]; omega
theorem crcR_lt (s : ByteArray) : crcR s < 4294967296 := by
  unfold crcR
  exact Nat.xor_lt_two_pow (n := 32) (by omega) (crcL_lt s _)
set_option maxRecDepth 100000 in
set_option maxHeartbeats 1000000 in
theorem im_read (k : Nat) (x : Ino) (er : Value) (hx : slotT tab k = some x) (hcrc : crcR (readD bl x.blocks x.bytes) = x.sum) (w : World) (T : TbAt w F T0 tb bb sp sb cap mb n bl u tab) (hin : ∀ k ∈ x.blocks, k < bl.length) (hbl : x.blocks.length ≤ 1000) (hby : x.bytes ≤ 1000000) (hE : w.cell? ⟨3, 0, none⟩ = some er) :
    Calls Tryd.prog 10 #[.pointer (some ⟨tb, 0, none⟩), .int .i64 (k : Int)] w fun e w' => e = .returned (.tuple #[.string (readD bl x.blocks x.bytes), .nilIface]) ∧ Below w.heap.size w w' := by
  obtain ⟨f, N⟩ := T.nodes
  obtain ⟨b, eb, hb, S⟩ := N.some_ k x hx
  have hkl := slotT_lt hx
  obtain ⟨_, _, _, _, _, hl1, hl2⟩ := T.low
  have HF := im_find (k : Int) (wf_nat (by omega)) w T N
  rw [atI_nat, eb] at HF
  unfold ptrO at HF
  simp only [Option.map_some] at HF
  have hgE : 3 < w.heap.size := World.block_lt_of_cell? w _ hE
  have HE : Hid (∀ W, Below w.heap.size w W → W.cell? ⟨3, 0, none⟩ = some er) := fun W hW => by rw [hW.cell (p := ⟨3, 0, none⟩) hgE]; exact hE
  obtain ⟨c0, _, _, _, c4, v, c3, iv⟩ := S.cells
  have hlt : b < w.heap.size := by obtain ⟨_, h, _⟩ := S; exact (Array.getElem?_eq_some_iff.1 h).1
  have HS : Hid (∀ W, Below w.heap.size w W → (W.cell? ⟨b, 3, none⟩ = some v ∧ W.cell? ⟨b, 0, none⟩ = some (.int .i64 (x.bytes : Int)) ∧ W.cell? ⟨b, 4, none⟩ = some (.int .u32 (x.sum : Int)))) := fun W hW => ⟨by rw [hW.cell (p := ⟨b, 3, none⟩) hlt]; exact c3, by rw [hW.cell (p := ⟨b, 0, none⟩) hlt]; exact c0, by rw [hW.cell (p := ⟨b, 4, none⟩) hlt]; exact c4⟩
  have HR : Hid (∀ W, Below w.heap.size w W → Calls Tryd.prog 24 #[.pointer (some ⟨tb, 0, none⟩), v, .int .i64 (x.bytes : Int)] W fun e w' => e = .returned (.string (readD bl x.blocks x.bytes)) ∧ Below w.heap.size w w') := fun W hW =>
    (im_read0 v x.blocks x.bytes W (T.below hW) (iv.below hW) hin hbl hby).mono fun e w' ⟨he, hb'⟩ => ⟨he, hW.trans (hb'.mono hW.size)⟩
  have HSUM : Hid (∀ W, Calls Tryd.prog 21 #[.string (readD bl x.blocks x.bytes)] W fun e w' => e = .returned (.int .u32 (crcR (readD bl x.blocks x.bytes) : Nat)) ∧ w' = W) := fun W => sum_any _ (Nat.le_trans (readD_len _ _ _) hby) W
  have hcl := crcR_lt (readD bl x.blocks x.bytes)
  generalize readD bl x.blocks x.bytes = s at *
  generalize crcR s = c at *
  obtain ⟨ad, vc, rfl⟩ : ∃ ad vc, v = .slice ad (ints x.blocks).length vc := by obtain ⟨ad, vc, e, _⟩ := iv; exact ⟨ad, vc, e⟩
  clear T N S hx eb hkl hl1 iv hin c0 c4 c3 hE
  have hcx : ((c : Int) == (x.sum : Int)) = true := by rw [hcrc]; simp
  go_enter Tryd.func10, Tryd.ntmps10
  go_wp2_with (go_at_call 22; refine HF.mono ?_; rintro e w1 ⟨rfl, hw⟩; rw [hw]; clear hw)
  refine wp_region_held_drew (S := fun w' => w'.cell? ⟨b, 3, none⟩ = some (.slice ad (ints x.blocks).length vc) ∧ w'.cell? ⟨b, 0, none⟩ = some (.int .i64 (x.bytes : Int)) ∧ w'.cell? ⟨b, 4, none⟩ = some (.int .u32 (x.sum : Int))) (by kernel_rfl) (HS.out _ (Below.refl _ _).drew) (fun hHeld => ?_)
  refine wpAnyH_take (i := 0) (v := (.pointer (some ⟨tb, 0, none⟩))) rfl (by kernel_rfl) (by kernel_rfl) (by kernel_rfl) (fun _ _ _ h => h) (Or.inl ⟨by rfl, ?_⟩) hHeld ?_
  · intro w hSw; (try dsimp only at hSw); simp only [List.getElem_toArray, List.getElem_cons_zero]; go_simp
  simp only [List.getElem_toArray, List.getElem_cons_zero, Act.put, List.setIfInBounds_toArray, List.set_cons_zero, List.set_cons_succ]
  refine wpAnyH_take (i := 1) (v := (.pointer (some ⟨b, 0, none⟩))) rfl (by kernel_rfl) (by kernel_rfl) (by kernel_rfl) (fun _ _ _ h => h) (Or.inl ⟨by rfl, ?_⟩) hHeld ?_
  · intro w hSw; (try dsimp only at hSw); simp only [List.getElem_toArray, List.getElem_cons_zero, List.getElem_cons_succ]; go_simp
  simp only [List.getElem_toArray, List.getElem_cons_zero, List.getElem_cons_succ, Act.put, List.setIfInBounds_toArray, List.set_cons_zero, List.set_cons_succ]
  refine wpAnyH_take (i := 2) (v := (.pointer (some ⟨b, 0, none⟩))) rfl (by kernel_rfl) (by kernel_rfl) (by kernel_rfl) (fun _ _ _ h => h) (Or.inl ⟨by rfl, ?_⟩) hHeld ?_
  · intro w hSw; (try dsimp only at hSw); simp only [List.getElem_toArray, List.getElem_cons_zero, List.getElem_cons_succ]; go_simp
  simp only [List.getElem_toArray, List.getElem_cons_zero, List.getElem_cons_succ, Act.put, List.setIfInBounds_toArray, List.set_cons_zero, List.set_cons_succ]
  refine wpAnyH_take (i := 3) (v := (.pointer (some ⟨b, 3, none⟩))) rfl (by kernel_rfl) (by kernel_rfl) (by kernel_rfl) (fun _ _ _ h => h) (Or.inl ⟨by rfl, ?_⟩) hHeld ?_
  · intro w hSw; (try dsimp only at hSw); simp only [List.getElem_toArray, List.getElem_cons_zero, List.getElem_cons_succ]; go_simp
  simp only [List.getElem_toArray, List.getElem_cons_zero, List.getElem_cons_succ, Act.put, List.setIfInBounds_toArray, List.set_cons_zero, List.set_cons_succ]
  refine wpAnyH_take (i := 4) (v := .slice ad (ints x.blocks).length vc) rfl (by kernel_rfl) (by kernel_rfl) (by kernel_rfl) (fun _ _ _ h => h) (Or.inl ⟨by rfl, ?_⟩) hHeld ?_
  · intro w hSw; (try dsimp only at hSw); simp only [List.getElem_toArray, List.getElem_cons_zero, List.getElem_cons_succ]; go_simp
  simp only [List.getElem_toArray, List.getElem_cons_zero, List.getElem_cons_succ, Act.put, List.setIfInBounds_toArray, List.set_cons_zero, List.set_cons_succ]
  refine wpAnyH_take (i := 5) (v := (.pointer (some ⟨b, 0, none⟩))) rfl (by kernel_rfl) (by kernel_rfl) (by kernel_rfl) (fun _ _ _ h => h) (Or.inl ⟨by rfl, ?_⟩) hHeld ?_
  · intro w hSw; (try dsimp only at hSw); simp only [List.getElem_toArray, List.getElem_cons_zero, List.getElem_cons_succ]; go_simp
  simp only [List.getElem_toArray, List.getElem_cons_zero, List.getElem_cons_succ, Act.put, List.setIfInBounds_toArray, List.set_cons_zero, List.set_cons_succ]
  refine wpAnyH_take (i := 6) (v := (.pointer (some ⟨b, 0, none⟩))) rfl (by kernel_rfl) (by kernel_rfl) (by kernel_rfl) (fun _ _ _ h => h) (Or.inl ⟨by rfl, ?_⟩) hHeld ?_
  · intro w hSw; (try dsimp only at hSw); simp only [List.getElem_toArray, List.getElem_cons_zero, List.getElem_cons_succ]; go_simp
  simp only [List.getElem_toArray, List.getElem_cons_zero, List.getElem_cons_succ, Act.put, List.setIfInBounds_toArray, List.set_cons_zero, List.set_cons_succ]
  refine wpAnyH_take (i := 7) (v := (.pointer (some ⟨b, 0, none⟩))) rfl (by kernel_rfl) (by kernel_rfl) (by kernel_rfl) (fun _ _ _ h => h) (Or.inl ⟨by rfl, ?_⟩) hHeld ?_
  · intro w hSw; (try dsimp only at hSw); simp only [List.getElem_toArray, List.getElem_cons_zero, List.getElem_cons_succ]; go_simp
  simp only [List.getElem_toArray, List.getElem_cons_zero, List.getElem_cons_succ, Act.put, List.setIfInBounds_toArray, List.set_cons_zero, List.set_cons_succ]
  refine wpAnyH_take (i := 8) (v := (.int .i64 (x.bytes : Int))) rfl (by kernel_rfl) (by kernel_rfl) (by kernel_rfl) (fun _ _ _ h => h) (Or.inl ⟨by rfl, ?_⟩) hHeld ?_
  · intro w hSw; (try dsimp only at hSw); simp only [List.getElem_toArray, List.getElem_cons_zero, List.getElem_cons_succ]; go_simp
  simp only [List.getElem_toArray, List.getElem_cons_zero, List.getElem_cons_succ, Act.put, List.setIfInBounds_toArray, List.set_cons_zero, List.set_cons_succ]
  refine wpAnyH_ready (rs := [9]) (by kernel_rfl) (by simp) ?_
  refine AllReadyH.cons rfl (fun K' hK => ?_) AllReadyH.nil
  simp only [List.getElem_toArray, List.getElem_cons_zero, List.getElem_cons_succ]
  go_simp
  refine Calls.mono (HR.out _ (Below.refl _ _).drew) ?_
  rintro e wx ⟨rfl, h1⟩
  have HB1 : Hid _ := h1
  go_wp2_with fail
  refine hK.out _ _ (HS.out _ h1) (fun hHeld' => ?_)
  clear hK K' hHeld
  have hHeld := hHeld'
  clear hHeld'
  refine wpAnyH_take (i := 10) (v := (.string s)) rfl (by kernel_rfl) (by kernel_rfl) (by kernel_rfl) (fun _ _ _ h => h) (Or.inl ⟨by rfl, ?_⟩) hHeld ?_
  · intro w hSw; (try dsimp only at hSw); simp only [List.getElem_toArray, List.getElem_cons_zero, List.getElem_cons_succ]; go_simp
  simp only [List.getElem_toArray, List.getElem_cons_zero, List.getElem_cons_succ, Act.put, List.setIfInBounds_toArray, List.set_cons_zero, List.set_cons_succ]
  refine wpAnyH_done (by kernel_rfl) ?_ _
  go_wp2_with fail
  refine wp_region_held_drew (S := fun w' => w'.cell? ⟨b, 3, none⟩ = some (.slice ad (ints x.blocks).length vc) ∧ w'.cell? ⟨b, 0, none⟩ = some (.int .i64 (x.bytes : Int)) ∧ w'.cell? ⟨b, 4, none⟩ = some (.int .u32 (x.sum : Int))) (by kernel_rfl) (HS.out _ HB1.out.drew) (fun hHeld => ?_)
  refine wpAnyH_take (i := 0) (v := (.string s)) rfl (by kernel_rfl) (by kernel_rfl) (by kernel_rfl) (fun _ _ _ h => h) (Or.inl ⟨by rfl, ?_⟩) hHeld ?_
  · intro w hSw; (try dsimp only at hSw); simp only [List.getElem_toArray, List.getElem_cons_zero]; go_simp
  simp only [List.getElem_toArray, List.getElem_cons_zero, Act.put, List.setIfInBounds_toArray, List.set_cons_zero, List.set_cons_succ]
  refine wpAnyH_take (i := 2) (v := (.pointer (some ⟨b, 0, none⟩))) rfl (by kernel_rfl) (by kernel_rfl) (by kernel_rfl) (fun _ _ _ h => h) (Or.inl ⟨by rfl, ?_⟩) hHeld ?_
  · intro w hSw; (try dsimp only at hSw); simp only [List.getElem_toArray, List.getElem_cons_zero, List.getElem_cons_succ]; go_simp
  simp only [List.getElem_toArray, List.getElem_cons_zero, List.getElem_cons_succ, Act.put, List.setIfInBounds_toArray, List.set_cons_zero, List.set_cons_succ]
  refine wpAnyH_take (i := 3) (v := (.pointer (some ⟨b, 0, none⟩))) rfl (by kernel_rfl) (by kernel_rfl) (by kernel_rfl) (fun _ _ _ h => h) (Or.inl ⟨by rfl, ?_⟩) hHeld ?_
  · intro w hSw; (try dsimp only at hSw); simp only [List.getElem_toArray, List.getElem_cons_zero, List.getElem_cons_succ]; go_simp
  simp only [List.getElem_toArray, List.getElem_cons_zero, List.getElem_cons_succ, Act.put, List.setIfInBounds_toArray, List.set_cons_zero, List.set_cons_succ]
  refine wpAnyH_take (i := 4) (v := (.pointer (some ⟨b, 4, none⟩))) rfl (by kernel_rfl) (by kernel_rfl) (by kernel_rfl) (fun _ _ _ h => h) (Or.inl ⟨by rfl, ?_⟩) hHeld ?_
  · intro w hSw; (try dsimp only at hSw); simp only [List.getElem_toArray, List.getElem_cons_zero, List.getElem_cons_succ]; go_simp
  simp only [List.getElem_toArray, List.getElem_cons_zero, List.getElem_cons_succ, Act.put, List.setIfInBounds_toArray, List.set_cons_zero, List.set_cons_succ]
  refine wpAnyH_take (i := 5) (v := (.int .u32 (x.sum : Int))) rfl (by kernel_rfl) (by kernel_rfl) (by kernel_rfl) (fun _ _ _ h => h) (Or.inl ⟨by rfl, ?_⟩) hHeld ?_
  · intro w hSw; (try dsimp only at hSw); simp only [List.getElem_toArray, List.getElem_cons_zero, List.getElem_cons_succ]; go_simp
  simp only [List.getElem_toArray, List.getElem_cons_zero, List.getElem_cons_succ, Act.put, List.setIfInBounds_toArray, List.set_cons_zero, List.set_cons_succ]
  refine wpAnyH_ready (rs := [1]) (by kernel_rfl) (by simp) ?_
  refine AllReadyH.cons rfl (fun K' hK => ?_) AllReadyH.nil
  simp only [List.getElem_toArray, List.getElem_cons_zero, List.getElem_cons_succ]
  go_simp
  refine Calls.mono (HSUM.out _) ?_
  rintro e wx ⟨rfl, hw⟩
  rw [hw]
  clear hw
  go_wp2_with fail
  refine hK.out _ _ (HS.out _ HB1.out.drew) (fun hHeld' => ?_)
  clear hK K' hHeld
  have hHeld := hHeld'
  clear hHeld'
  refine wpAnyH_take (i := 6) (v := (.bool false)) rfl (by kernel_rfl) (by kernel_rfl) (by kernel_rfl) (fun _ _ _ h => h) (Or.inl ⟨by rfl, ?_⟩) hHeld ?_
  · intro w hSw; (try dsimp only at hSw); simp only [List.getElem_toArray, List.getElem_cons_zero, List.getElem_cons_succ]; go_simp; (try exact hcx)
  simp only [List.getElem_toArray, List.getElem_cons_zero, List.getElem_cons_succ, Act.put, List.setIfInBounds_toArray, List.set_cons_zero, List.set_cons_succ]
  refine wpAnyH_done (by kernel_rfl) ?_ _
  go_wp2_with fail
  go_ret2
  have h := HB1.out
  exact ⟨rfl, ⟨h.os, h.tape, h.output, h.size, h.block⟩⟩
set_option maxRecDepth 100000 in
set_option maxHeartbeats 1000000 in
theorem im_read_bad (k : Nat) (x : Ino) (er : Value) (hx : slotT tab k = some x) (hcrc : crcR (readD bl x.blocks x.bytes) ≠ x.sum) (w : World) (T : TbAt w F T0 tb bb sp sb cap mb n bl u tab) (hin : ∀ k ∈ x.blocks, k < bl.length) (hbl : x.blocks.length ≤ 1000) (hby : x.bytes ≤ 1000000) (hE : w.cell? ⟨3, 0, none⟩ = some er) :
    Calls Tryd.prog 10 #[.pointer (some ⟨tb, 0, none⟩), .int .i64 (k : Int)] w fun e w' => e = .returned (.tuple #[.string { data := #[] }, er]) ∧ Below w.heap.size w w' := by
  obtain ⟨f, N⟩ := T.nodes
  obtain ⟨b, eb, hb, S⟩ := N.some_ k x hx
  have hkl := slotT_lt hx
  obtain ⟨_, _, _, _, _, hl1, hl2⟩ := T.low
  have HF := im_find (k : Int) (wf_nat (by omega)) w T N
  rw [atI_nat, eb] at HF
  unfold ptrO at HF
  simp only [Option.map_some] at HF
  have hgE : 3 < w.heap.size := World.block_lt_of_cell? w _ hE
  have HE : Hid (∀ W, Below w.heap.size w W → W.cell? ⟨3, 0, none⟩ = some er) := fun W hW => by rw [hW.cell (p := ⟨3, 0, none⟩) hgE]; exact hE
  obtain ⟨c0, _, _, _, c4, v, c3, iv⟩ := S.cells
  have hlt : b < w.heap.size := by obtain ⟨_, h, _⟩ := S; exact (Array.getElem?_eq_some_iff.1 h).1
  have HS : Hid (∀ W, Below w.heap.size w W → (W.cell? ⟨b, 3, none⟩ = some v ∧ W.cell? ⟨b, 0, none⟩ = some (.int .i64 (x.bytes : Int)) ∧ W.cell? ⟨b, 4, none⟩ = some (.int .u32 (x.sum : Int)))) := fun W hW => ⟨by rw [hW.cell (p := ⟨b, 3, none⟩) hlt]; exact c3, by rw [hW.cell (p := ⟨b, 0, none⟩) hlt]; exact c0, by rw [hW.cell (p := ⟨b, 4, none⟩) hlt]; exact c4⟩
  have HR : Hid (∀ W, Below w.heap.size w W → Calls Tryd.prog 24 #[.pointer (some ⟨tb, 0, none⟩), v, .int .i64 (x.bytes : Int)] W fun e w' => e = .returned (.string (readD bl x.blocks x.bytes)) ∧ Below w.heap.size w w') := fun W hW =>
    (im_read0 v x.blocks x.bytes W (T.below hW) (iv.below hW) hin hbl hby).mono fun e w' ⟨he, hb'⟩ => ⟨he, hW.trans (hb'.mono hW.size)⟩
  have HSUM : Hid (∀ W, Calls Tryd.prog 21 #[.string (readD bl x.blocks x.bytes)] W fun e w' => e = .returned (.int .u32 (crcR (readD bl x.blocks x.bytes) : Nat)) ∧ w' = W) := fun W => sum_any _ (Nat.le_trans (readD_len _ _ _) hby) W
  have hcl := crcR_lt (readD bl x.blocks x.bytes)
  generalize readD bl x.blocks x.bytes = s at *
  generalize crcR s = c at *
  obtain ⟨ad, vc, rfl⟩ : ∃ ad vc, v = .slice ad (ints x.blocks).length vc := by obtain ⟨ad, vc, e, _⟩ := iv; exact ⟨ad, vc, e⟩
  clear T N S hx eb hkl hl1 iv hin c0 c4 c3 hE
  have hcx : ¬ (c : Int) = (x.sum : Int) := by omega
  go_enter Tryd.func10, Tryd.ntmps10
  go_wp2_with (go_at_call 22; refine HF.mono ?_; rintro e w1 ⟨rfl, hw⟩; rw [hw]; clear hw)
  refine wp_region_held_drew (S := fun w' => w'.cell? ⟨b, 3, none⟩ = some (.slice ad (ints x.blocks).length vc) ∧ w'.cell? ⟨b, 0, none⟩ = some (.int .i64 (x.bytes : Int)) ∧ w'.cell? ⟨b, 4, none⟩ = some (.int .u32 (x.sum : Int))) (by kernel_rfl) (HS.out _ (Below.refl _ _).drew) (fun hHeld => ?_)
  refine wpAnyH_take (i := 0) (v := (.pointer (some ⟨tb, 0, none⟩))) rfl (by kernel_rfl) (by kernel_rfl) (by kernel_rfl) (fun _ _ _ h => h) (Or.inl ⟨by rfl, ?_⟩) hHeld ?_
  · intro w hSw; (try dsimp only at hSw); simp only [List.getElem_toArray, List.getElem_cons_zero]; go_simp
  simp only [List.getElem_toArray, List.getElem_cons_zero, Act.put, List.setIfInBounds_toArray, List.set_cons_zero, List.set_cons_succ]
  refine wpAnyH_take (i := 1) (v := (.pointer (some ⟨b, 0, none⟩))) rfl (by kernel_rfl) (by kernel_rfl) (by kernel_rfl) (fun _ _ _ h => h) (Or.inl ⟨by rfl, ?_⟩) hHeld ?_
  · intro w hSw; (try dsimp only at hSw); simp only [List.getElem_toArray, List.getElem_cons_zero, List.getElem_cons_succ]; go_simp
  simp only [List.getElem_toArray, List.getElem_cons_zero, List.getElem_cons_succ, Act.put, List.setIfInBounds_toArray, List.set_cons_zero, List.set_cons_succ]
  refine wpAnyH_take (i := 2) (v := (.pointer (some ⟨b, 0, none⟩))) rfl (by kernel_rfl) (by kernel_rfl) (by kernel_rfl) (fun _ _ _ h => h) (Or.inl ⟨by rfl, ?_⟩) hHeld ?_
  · intro w hSw; (try dsimp only at hSw); simp only [List.getElem_toArray, List.getElem_cons_zero, List.getElem_cons_succ]; go_simp
  simp only [List.getElem_toArray, List.getElem_cons_zero, List.getElem_cons_succ, Act.put, List.setIfInBounds_toArray, List.set_cons_zero, List.set_cons_succ]
  refine wpAnyH_take (i := 3) (v := (.pointer (some ⟨b, 3, none⟩))) rfl (by kernel_rfl) (by kernel_rfl) (by kernel_rfl) (fun _ _ _ h => h) (Or.inl ⟨by rfl, ?_⟩) hHeld ?_
  · intro w hSw; (try dsimp only at hSw); simp only [List.getElem_toArray, List.getElem_cons_zero, List.getElem_cons_succ]; go_simp
  simp only [List.getElem_toArray, List.getElem_cons_zero, List.getElem_cons_succ, Act.put, List.setIfInBounds_toArray, List.set_cons_zero, List.set_cons_succ]
  refine wpAnyH_take (i := 4) (v := .slice ad (ints x.blocks).length vc) rfl (by kernel_rfl) (by kernel_rfl) (by kernel_rfl) (fun _ _ _ h => h) (Or.inl ⟨by rfl, ?_⟩) hHeld ?_
  · intro w hSw; (try dsimp only at hSw); simp only [List.getElem_toArray, List.getElem_cons_zero, List.getElem_cons_succ]; go_simp
  simp only [List.getElem_toArray, List.getElem_cons_zero, List.getElem_cons_succ, Act.put, List.setIfInBounds_toArray, List.set_cons_zero, List.set_cons_succ]
  refine wpAnyH_take (i := 5) (v := (.pointer (some ⟨b, 0, none⟩))) rfl (by kernel_rfl) (by kernel_rfl) (by kernel_rfl) (fun _ _ _ h => h) (Or.inl ⟨by rfl, ?_⟩) hHeld ?_
  · intro w hSw; (try dsimp only at hSw); simp only [List.getElem_toArray, List.getElem_cons_zero, List.getElem_cons_succ]; go_simp
  simp only [List.getElem_toArray, List.getElem_cons_zero, List.getElem_cons_succ, Act.put, List.setIfInBounds_toArray, List.set_cons_zero, List.set_cons_succ]
  refine wpAnyH_take (i := 6) (v := (.pointer (some ⟨b, 0, none⟩))) rfl (by kernel_rfl) (by kernel_rfl) (by kernel_rfl) (fun _ _ _ h => h) (Or.inl ⟨by rfl, ?_⟩) hHeld ?_
  · intro w hSw; (try dsimp only at hSw); simp only [List.getElem_toArray, List.getElem_cons_zero, List.getElem_cons_succ]; go_simp
  simp only [List.getElem_toArray, List.getElem_cons_zero, List.getElem_cons_succ, Act.put, List.setIfInBounds_toArray, List.set_cons_zero, List.set_cons_succ]
  refine wpAnyH_take (i := 7) (v := (.pointer (some ⟨b, 0, none⟩))) rfl (by kernel_rfl) (by kernel_rfl) (by kernel_rfl) (fun _ _ _ h => h) (Or.inl ⟨by rfl, ?_⟩) hHeld ?_
  · intro w hSw; (try dsimp only at hSw); simp only [List.getElem_toArray, List.getElem_cons_zero, List.getElem_cons_succ]; go_simp
  simp only [List.getElem_toArray, List.getElem_cons_zero, List.getElem_cons_succ, Act.put, List.setIfInBounds_toArray, List.set_cons_zero, List.set_cons_succ]
  refine wpAnyH_take (i := 8) (v := (.int .i64 (x.bytes : Int))) rfl (by kernel_rfl) (by kernel_rfl) (by kernel_rfl) (fun _ _ _ h => h) (Or.inl ⟨by rfl, ?_⟩) hHeld ?_
  · intro w hSw; (try dsimp only at hSw); simp only [List.getElem_toArray, List.getElem_cons_zero, List.getElem_cons_succ]; go_simp
  simp only [List.getElem_toArray, List.getElem_cons_zero, List.getElem_cons_succ, Act.put, List.setIfInBounds_toArray, List.set_cons_zero, List.set_cons_succ]
  refine wpAnyH_ready (rs := [9]) (by kernel_rfl) (by simp) ?_
  refine AllReadyH.cons rfl (fun K' hK => ?_) AllReadyH.nil
  simp only [List.getElem_toArray, List.getElem_cons_zero, List.getElem_cons_succ]
  go_simp
  refine Calls.mono (HR.out _ (Below.refl _ _).drew) ?_
  rintro e wx ⟨rfl, h1⟩
  have HB1 : Hid _ := h1
  go_wp2_with fail
  refine hK.out _ _ (HS.out _ h1) (fun hHeld' => ?_)
  clear hK K' hHeld
  have hHeld := hHeld'
  clear hHeld'
  refine wpAnyH_take (i := 10) (v := (.string s)) rfl (by kernel_rfl) (by kernel_rfl) (by kernel_rfl) (fun _ _ _ h => h) (Or.inl ⟨by rfl, ?_⟩) hHeld ?_
  · intro w hSw; (try dsimp only at hSw); simp only [List.getElem_toArray, List.getElem_cons_zero, List.getElem_cons_succ]; go_simp
  simp only [List.getElem_toArray, List.getElem_cons_zero, List.getElem_cons_succ, Act.put, List.setIfInBounds_toArray, List.set_cons_zero, List.set_cons_succ]
  refine wpAnyH_done (by kernel_rfl) ?_ _
  go_wp2_with fail
  refine wp_region_held_drew (S := fun w' => w'.cell? ⟨b, 3, none⟩ = some (.slice ad (ints x.blocks).length vc) ∧ w'.cell? ⟨b, 0, none⟩ = some (.int .i64 (x.bytes : Int)) ∧ w'.cell? ⟨b, 4, none⟩ = some (.int .u32 (x.sum : Int))) (by kernel_rfl) (HS.out _ HB1.out.drew) (fun hHeld => ?_)
  refine wpAnyH_take (i := 0) (v := (.string s)) rfl (by kernel_rfl) (by kernel_rfl) (by kernel_rfl) (fun _ _ _ h => h) (Or.inl ⟨by rfl, ?_⟩) hHeld ?_
  · intro w hSw; (try dsimp only at hSw); simp only [List.getElem_toArray, List.getElem_cons_zero]; go_simp
  simp only [List.getElem_toArray, List.getElem_cons_zero, Act.put, List.setIfInBounds_toArray, List.set_cons_zero, List.set_cons_succ]
  refine wpAnyH_take (i := 2) (v := (.pointer (some ⟨b, 0, none⟩))) rfl (by kernel_rfl) (by kernel_rfl) (by kernel_rfl) (fun _ _ _ h => h) (Or.inl ⟨by rfl, ?_⟩) hHeld ?_
  · intro w hSw; (try dsimp only at hSw); simp only [List.getElem_toArray, List.getElem_cons_zero, List.getElem_cons_succ]; go_simp
  simp only [List.getElem_toArray, List.getElem_cons_zero, List.getElem_cons_succ, Act.put, List.setIfInBounds_toArray, List.set_cons_zero, List.set_cons_succ]
  refine wpAnyH_take (i := 3) (v := (.pointer (some ⟨b, 0, none⟩))) rfl (by kernel_rfl) (by kernel_rfl) (by kernel_rfl) (fun _ _ _ h => h) (Or.inl ⟨by rfl, ?_⟩) hHeld ?_
  · intro w hSw; (try dsimp only at hSw); simp only [List.getElem_toArray, List.getElem_cons_zero, List.getElem_cons_succ]; go_simp
  simp only [List.getElem_toArray, List.getElem_cons_zero, List.getElem_cons_succ, Act.put, List.setIfInBounds_toArray, List.set_cons_zero, List.set_cons_succ]
  refine wpAnyH_take (i := 4) (v := (.pointer (some ⟨b, 4, none⟩))) rfl (by kernel_rfl) (by kernel_rfl) (by kernel_rfl) (fun _ _ _ h => h) (Or.inl ⟨by rfl, ?_⟩) hHeld ?_
  · intro w hSw; (try dsimp only at hSw); simp only [List.getElem_toArray, List.getElem_cons_zero, List.getElem_cons_succ]; go_simp
  simp only [List.getElem_toArray, List.getElem_cons_zero, List.getElem_cons_succ, Act.put, List.setIfInBounds_toArray, List.set_cons_zero, List.set_cons_succ]
  refine wpAnyH_take (i := 5) (v := (.int .u32 (x.sum : Int))) rfl (by kernel_rfl) (by kernel_rfl) (by kernel_rfl) (fun _ _ _ h => h) (Or.inl ⟨by rfl, ?_⟩) hHeld ?_
  · intro w hSw; (try dsimp only at hSw); simp only [List.getElem_toArray, List.getElem_cons_zero, List.getElem_cons_succ]; go_simp
  simp only [List.getElem_toArray, List.getElem_cons_zero, List.getElem_cons_succ, Act.put, List.setIfInBounds_toArray, List.set_cons_zero, List.set_cons_succ]
  refine wpAnyH_ready (rs := [1]) (by kernel_rfl) (by simp) ?_
  refine AllReadyH.cons rfl (fun K' hK => ?_) AllReadyH.nil
  simp only [List.getElem_toArray, List.getElem_cons_zero, List.getElem_cons_succ]
  go_simp
  refine Calls.mono (HSUM.out _) ?_
  rintro e wx ⟨rfl, hw⟩
  rw [hw]
  clear hw
  go_wp2_with fail
  refine hK.out _ _ (HS.out _ HB1.out.drew) (fun hHeld' => ?_)
  clear hK K' hHeld
  have hHeld := hHeld'
  clear hHeld'
  refine wpAnyH_take (i := 6) (v := (.bool true)) rfl (by kernel_rfl) (by kernel_rfl) (by kernel_rfl) (fun _ _ _ h => h) (Or.inl ⟨by rfl, ?_⟩) hHeld ?_
  · intro w hSw; (try dsimp only at hSw); simp only [List.getElem_toArray, List.getElem_cons_zero, List.getElem_cons_succ]; go_simp; (try exact hcx)
  simp only [List.getElem_toArray, List.getElem_cons_zero, List.getElem_cons_succ, Act.put, List.setIfInBounds_toArray, List.set_cons_zero, List.set_cons_succ]
  refine wpAnyH_done (by kernel_rfl) ?_ _
  have cE := HE.out _ HB1.out
  go_wp2_with fail
  go_quiet (fail)
  go_wp2_with fail
  go_ret2
  have h := HB1.out
  exact ⟨rfl, ⟨h.os, h.tape, h.output, h.size, h.block⟩⟩
end
end Go.Proofs.YtcejpeohkgchdaaDoor
namespace Go.Proofs.YtcejpeohkgchdaaDoor
open Go.RowKit

set_option maxRecDepth 100000 in
set_option maxHeartbeats 2000000 in
theorem sameInts_any (v1 v2 : Value) (l : List Int) (w : World) (h1 : IntsAt w v1 l) (h2 : IntsAt w v2 l) (hl : l.length ≤ 100000) :
    Calls Tryd.prog 16 #[v1, v2] w fun e w' => e = .returned (.bool true) ∧ Below w.heap.size w w' := by
  obtain ⟨a1, c1, rfl, hc1⟩ := h1
  obtain ⟨a2, c2, rfl, hc2⟩ := h2
  have HC1 : Hid (∀ i x, l[i]? = some x → ∃ b off, a1 = some ⟨b, off, none⟩ ∧ w.cell? ⟨b, off + i, none⟩ = some (.int .i64 x)) := hc1
  have HC2 : Hid (∀ i x, l[i]? = some x → ∃ b off, a2 = some ⟨b, off, none⟩ ∧ w.cell? ⟨b, off + i, none⟩ = some (.int .i64 x)) := hc2
  clear hc1 hc2
  go_enter Tryd.func16, Tryd.ntmps16
  go_wp2_with fail
  go_loopw [5] (fun i wr => ∃ j : Nat, j ≤ l.length ∧ i = .int .i64 j ∧ Below w.heap.size w wr) (fun i _ => l.length - (intOf i).toNat)
  case atStart => exact ⟨0, Nat.zero_le _, rfl, Below.refl _ _⟩
  case round =>
    obtain ⟨j, hj, rfl, hb⟩ := hrel
    have HB : Hid (Below w.heap.size w wr) := hb
    by_cases hlt : j < l.length
    · obtain ⟨x, hx⟩ : ∃ x, l[j]? = some x := ⟨_, List.getElem?_eq_getElem hlt⟩
      obtain ⟨b1, o1, rfl, k1⟩ := HC1.out j x hx
      obtain ⟨b2, o2, rfl, k2⟩ := HC2.out j x hx
      have d1 : wr.cell? ⟨b1, o1 + j, none⟩ = some (.int .i64 x) := by rw [hb.cell (p := ⟨b1, o1 + j, none⟩) (World.block_lt_of_cell? w _ k1)]; exact k1
      have d2 : wr.cell? ⟨b2, o2 + j, none⟩ = some (.int .i64 x) := by rw [hb.cell (p := ⟨b2, o2 + j, none⟩) (World.block_lt_of_cell? w _ k2)]; exact k2
      clear hb hx k1 k2
      go_wp2_with fail
      go_quiet (fail)
      go_wp2_with fail
      exact ⟨⟨j + 1, by omega, by simp, ⟨HB.out.os, HB.out.tape, HB.out.output, HB.out.size, HB.out.block⟩⟩, by simp [intOf]; omega⟩
    · clear hb
      go_wp2_with fail
      go_ret
      exact ⟨rfl, HB.out⟩
theorem built_t (W : World) (l : List Int) (a : Array Value) (ha : a = (l.map (Value.int .i64)).toArray) : IntsT (W.alloc (.cells a 3)) (.slice (some ⟨W.heap.size, 0, none⟩) l.length l.length) l :=
  ⟨_, _, rfl, fun _ => ⟨_, _, a, rfl, heap_alloc_last _ _, fun i x hx => by rw [ha, Nat.zero_add, List.getElem?_toArray, List.getElem?_map, hx]; rfl⟩⟩
end Go.Proofs.YtcejpeohkgchdaaDoor
namespace Go.Proofs.YtcejpeohkgchdaaDoor
open Go.RowKit

theorem DkBut.of_heap {bb : Nat} {va : Option Addr} {w w1 w' : World} (h : DkBut bb va w w1) (e : w'.heap = w1.heap) (e1 : w'.os = w1.os) (e2 : w'.tape = w1.tape) (e3 : w'.output = w1.output) : DkBut bb va w w' :=
  ⟨e1.trans h.os, e2.trans h.tape, e3.trans h.output, by rw [e]; exact h.size, fun k a b c d => by rw [e]; exact h.block k a b c d⟩
theorem set_same {β : Type} {l : List β} {j : Nat} {x : β} (h : l[j]? = some x) : l.set j x = l := by
  apply List.ext_getElem?
  intro i
  rw [List.getElem?_set]
  by_cases e : j = i
  · subst e
    rw [if_pos rfl, h, if_pos (List.getElem?_eq_some_iff.1 h).1]
  · rw [if_neg e]
/-- A write with a bit turned, if it is of that block. -/
def rotX (k bit : Nat) (x : Nat × List UInt8) : Nat × List UInt8 := if x.1 = k then (x.1, turnL x.2 bit) else x
def rotJ (wt : List (Nat × List UInt8)) (k bit j : Nat) : List (Nat × List UInt8) := (wt.take j).map (rotX k bit) ++ wt.drop j
theorem rotJ_len (wt : List (Nat × List UInt8)) (k bit j : Nat) : (rotJ wt k bit j).length = wt.length := by simp [rotJ]; omega
theorem rotJ_at {wt : List (Nat × List UInt8)} {k bit j : Nat} {x : Nat × List UInt8} (h : wt[j]? = some x) : (rotJ wt k bit j)[j]? = some x := by
  have hj := (List.getElem?_eq_some_iff.1 h).1
  unfold rotJ
  rw [List.getElem?_append_right (by simp; omega)]
  simp [Nat.min_eq_left (Nat.le_of_lt hj), h]
theorem rotJ_next {wt : List (Nat × List UInt8)} {k bit j : Nat} {x : Nat × List UInt8} (h : wt[j]? = some x) : rotJ wt k bit (j + 1) = (rotJ wt k bit j).set j (rotX k bit x) := by
  obtain ⟨hj, e⟩ := List.getElem?_eq_some_iff.1 h
  unfold rotJ
  rw [List.set_append_right _ _ (by simp; omega)]
  have hl : j - ((wt.take j).map (rotX k bit)).length = 0 := by simp; omega
  rw [hl, List.drop_eq_getElem_cons hj, List.set_cons_zero, List.take_succ_eq_append_getElem hj, e]
  simp

end Go.Proofs.YtcejpeohkgchdaaDoor
namespace Go.Proofs.YtcejpeohkgchdaaDoor
open Go.RowKit

/-- An act on a disk. -/
structure DAct where
  kind : ByteArray
  s : ByteArray
  k : Int
  bit : Int
  keep : List Int
/-- Acts in memory. -/
def ActsAt (w : World) (v : Value) (l : List DAct) : Prop := ∃ ad cap, v = .slice ad l.length cap ∧ ∀ i a, l[i]? = some a → ∃ b off kv, ad = some ⟨b, off, none⟩ ∧ w.cell? ⟨b, off + i * 5, none⟩ = some (.string a.kind) ∧ w.cell? ⟨b, off + i * 5 + 1, none⟩ = some (.string a.s) ∧ w.cell? ⟨b, off + i * 5 + 2, none⟩ = some (.int .i64 a.k) ∧ w.cell? ⟨b, off + i * 5 + 3, none⟩ = some (.int .i64 a.bit) ∧ w.cell? ⟨b, off + i * 5 + 4, none⟩ = some kv ∧ IntsAt w kv a.keep
/-- The word of a barrier. -/
def barL : List UInt8 := [98, 97, 114, 114, 105, 101, 114]
/-- Was it written there? -/
def Wrote (l : List DAct) (j : Nat) (b : List UInt8) : Prop := ∃ (i : Nat) (a : DAct), l[i]? = some a ∧ (a.kind.toList == barL) = false ∧ a.k = (j : Int) ∧ a.s = ⟨b.toArray⟩
structure Good (l : List DAct) (bl : List (List UInt8)) (wt : List (Nat × List UInt8)) : Prop where
  bl : ∀ j b, bl[j]? = some b → b = zb ∨ Wrote l j b
  wt : ∀ x ∈ wt, Wrote l x.1 x.2
theorem Good.start (l : List DAct) (n : Nat) : Good l (List.replicate n zb) [] := ⟨fun j b h => .inl (by rw [List.getElem?_replicate] at h; split at h <;> simp_all), fun x hx => by cases hx⟩
theorem Good.write {l : List DAct} {bl : List (List UInt8)} {wt : List (Nat × List UInt8)} (G : Good l bl wt) {x : Nat × List UInt8} (h : Wrote l x.1 x.2) : Good l bl (wt ++ [x]) := ⟨G.bl, fun y hy => by
  rcases List.mem_append.1 hy with h' | h'
  · exact G.wt y h'
  · rw [List.mem_singleton.1 h']; exact h⟩
theorem Good.settle {l : List DAct} {bl : List (List UInt8)} {wt : List (Nat × List UInt8)} (G : Good l bl wt) (keep : Nat → Bool) : ∀ i, Good l (setl keep wt bl i) []
  | 0 => ⟨G.bl, fun x hx => by cases hx⟩
  | i + 1 => by
    have IH := G.settle keep i
    refine ⟨?_, fun x hx => by cases hx⟩
    unfold setl
    cases h : wt[i]? with
    | none => exact IH.bl
    | some x =>
      by_cases hk : keep i
      · simp only [hk, if_true]
        intro j b hj
        rw [List.getElem?_set] at hj
        split at hj
        · next e =>
          split at hj
          · cases hj
            right
            rw [← e]; exact G.wt x (List.mem_of_getElem? h)
          · cases hj
        · exact IH.bl j b hj
      · simp only [hk]
        exact IH.bl
theorem Good.rd {l : List DAct} {bl : List (List UInt8)} {wt : List (Nat × List UInt8)} (G : Good l bl wt) {k : Nat} {b : List UInt8} (hk : bl[k]? = some b) : rdR bl wt k = zb ∨ Wrote l k (rdR bl wt k) := by
  rcases rdR_mem (wt := wt) hk with h | h
  · rw [h]; exact G.bl k b hk
  · exact .inr (G.wt _ h)
theorem turnL_twice (l : List UInt8) (k : Nat) : turnL (turnL l k) k = l := by
  unfold turnL
  by_cases h : k / 8 < l.length
  · rw [List.getElem?_set_self h, Option.getD_some, turnB_twice, List.set_set]
    rw [List.getElem?_eq_getElem h, Option.getD_some]
    exact set_same (List.getElem?_eq_getElem h)
  · rw [List.set_eq_of_length_le (by rw [List.length_set]; omega), List.set_eq_of_length_le (by omega)]
theorem rotX_twice (k bit : Nat) (x : Nat × List UInt8) : rotX k bit (rotX k bit x) = x := by
  unfold rotX
  by_cases h : x.1 = k
  · simp [h, turnL_twice]; rw [← h]
  · simp [h]
theorem rot_back {bl : List (List UInt8)} {wt : List (Nat × List UInt8)} {k bit : Nat} {b : List UInt8} (hk : bl[k]? = some b) : (bl.set k (turnL b bit)).set k (turnL (turnL b bit) bit) = bl ∧ (wt.map (rotX k bit)).map (rotX k bit) = wt := by
  refine ⟨?_, ?_⟩
  · rw [turnL_twice, List.set_set]; exact set_same hk
  · rw [List.map_map]
    have : rotX k bit ∘ rotX k bit = id := by funext x; exact rotX_twice k bit x
    rw [this, List.map_id]
end Go.Proofs.YtcejpeohkgchdaaDoor
