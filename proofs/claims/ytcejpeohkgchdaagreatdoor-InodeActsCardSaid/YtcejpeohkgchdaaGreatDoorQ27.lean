/-
  The contract of the law's actFile: an act does the same with a table and its model.
  Conditions: those that each states.
-/
import Derived.Test.YtcejpeohkgchdaaGreatDoorQ24
import Derived.Test.YtcejpeohkgchdaaGreatDoorQ26
import Derived.Deep.RegionHeld3
namespace Go.Proofs.YtcejpeohkgchdaaGreatDoor
open Go.RowKit

section
variable {w0 W : World} {T0 tb bb mt md i N : Nat} {bl bl' : List (List UInt8)} {u : List Bool} {tab : List (Option Ino)} {a : Nat → Addr}
theorem HAt.cell (H : HAt w0 T0 tb bb mt md i bl bl' u tab W) : W.cell? ⟨mt, 0, none⟩ = some (.pointer (some ⟨md, 0, none⟩)) := by
  obtain ⟨la, lc, ia, ic, vs, M⟩ := H.m
  exact M.cells.1
theorem below_drewN (w : World) (q : Nat) : Below w.heap.size w (w.drewN q).drew := ⟨rfl, rfl, rfl, Nat.le_refl _, fun _ _ => rfl⟩
set_option maxRecDepth 100000 in
set_option maxHeartbeats 4000000 in
theorem act_any (x : FAct) (hn : (Lit.int .i64 x.n).wf = true) (hs : x.s.size ≤ 1000000) (hi : i ≤ 900) (Q : QAt w0 T0 tb bb mt md i bl u tab W) (P : PInv N i bl u tab) (S : Sents a w0) :
    Calls Tryz.prog 11 #[.pointer (some ⟨tb, 0, none⟩), .pointer (some ⟨mt, 0, none⟩), .agg #[.string x.kind, .string x.s, .bool x.exec, .int .i64 x.n, .int .i64 x.bit]] W fun e w' => e = .returned (.bool true) ∧ QEnd w0 T0 tb bb mt md N (i + 1) w' := by
  have HBW : Hid (Below W.heap.size W (W.alloc (.cells #[.string x.kind, .string x.s, .bool x.exec, .int .i64 x.n, .int .i64 x.bit] 30))) := (Below.refl _ W).alloc (Nat.le_refl _) _
  have HBX : Hid ((W.alloc (.cells #[.string x.kind, .string x.s, .bool x.exec, .int .i64 x.n, .int .i64 x.bit] 30)).heap[W.heap.size]? = some (.cells #[.string x.kind, .string x.s, .bool x.exec, .int .i64 x.n, .int .i64 x.bit] 30 (0, 0))) := heap_alloc_last W _
  have HSX : Hid (∀ w', Turn qTy (W.alloc (.cells #[.string x.kind, .string x.s, .bool x.exec, .int .i64 x.n, .int .i64 x.bit] 30)) w' → (w'.cell? ⟨W.heap.size, 3, none⟩ = some (.int .i64 x.n) ∧ w'.cell? ⟨W.heap.size, 4, none⟩ = some (.int .i64 x.bit))) := fun w' h => by
    have hb := h _ _ HBX.out rfl
    constructor <;> rw [cell_of_row _ _ _ _ _ _ hb] <;> rfl
  have HQ0 : Hid (QEnd w0 T0 tb bb mt md N (i + 1) (W.alloc (.cells #[.string x.kind, .string x.s, .bool x.exec, .int .i64 x.n, .int .i64 x.bit] 30))) := ⟨bl, u, tab, (Q.below HBW.out).mono (by omega), P.mono (by omega)⟩
  have HLB : Hid (∃ la lc, (W.alloc (.cells #[.string x.kind, .string x.s, .bool x.exec, .int .i64 x.n, .int .i64 x.bit] 30)).cell? ⟨mt, 0, none⟩ = some (.pointer (some ⟨md, 0, none⟩)) ∧ (W.alloc (.cells #[.string x.kind, .string x.s, .bool x.exec, .int .i64 x.n, .int .i64 x.bit] 30)).cell? ⟨md, 0, none⟩ = some (.slice la N lc)) := by
    obtain ⟨la, lc, ia, ic, vs, M⟩ := (Q.below HBW.out).m
    exact ⟨la, lc, M.cells.1, by rw [← P.sp.lbl]; exact M.disk.lcell⟩
  obtain ⟨la, lc, cm0, cd0⟩ := HLB.out
  clear HLB
  go_enter Tryz.func11, Tryz.ntmps11
  cases kw : (x.kind.toList == [109, 97, 107, 101]) with
  | true =>
    obtain ⟨k, hmk⟩ := q_make x.s x.exec hs hi (Q.below HBW.out) P S
    have HMK : Hid (Calls Tryz.prog 44 #[.pointer (some ⟨tb, 0, none⟩), .string x.s, .bool x.exec] (W.alloc (.cells #[.string x.kind, .string x.s, .bool x.exec, .int .i64 x.n, .int .i64 x.bit] 30)) fun e w1 => ∃ ev c, e = .returned (.tuple #[.int .i64 k, ev]) ∧ Turn qTy (W.alloc (.cells #[.string x.kind, .string x.s, .bool x.exec, .int .i64 x.n, .int .i64 x.bit] 30)) w1 ∧ Calls Tryz.prog 47 #[.pointer (some ⟨mt, 0, none⟩), .string x.s, .bool x.exec] w1 fun e2 w2 => e2 = .returned (.tuple #[.int .i64 k, .int .i64 c]) ∧ Turn qTy (W.alloc (.cells #[.string x.kind, .string x.s, .bool x.exec, .int .i64 x.n, .int .i64 x.bit] 30)) w2 ∧ Calls Tryz.prog 15 #[ev, .int .i64 c] w2 fun e3 w3 => e3 = .returned (.bool true) ∧ Turn qTy (W.alloc (.cells #[.string x.kind, .string x.s, .bool x.exec, .int .i64 x.n, .int .i64 x.bit] 30)) w3 ∧ QEnd w0 T0 tb bb mt md N (i + 1) w3) := hmk
    clear hmk Q P S
    go_wp2_with (first
      | (go_at_call 44; refine HMK.out.mono ?_; rintro e w1 ⟨ev, c, rfl, ht1, H2⟩; (have hb1 := ht1 _ _ HBX.out rfl); (have e1 : w1.cell? ⟨W.heap.size, 1, none⟩ = some (.string x.s) := (by rw [cell_of_row _ _ _ _ _ _ hb1]; rfl)); (have e2 : w1.cell? ⟨W.heap.size, 2, none⟩ = some (.bool x.exec) := (by rw [cell_of_row _ _ _ _ _ _ hb1]; rfl)); clear hb1 ht1)
      | (go_at_call 47; refine H2.mono ?_; rintro e w2 ⟨rfl, ht2, H3⟩; clear ht2)
      | (go_at_call 15; refine H3.mono ?_; rintro e w3 ⟨rfl, ht3, HQ⟩; clear ht3))
    go_ret
    exact ⟨rfl, HQ⟩
  | false =>
    cases kl : (x.kind.toList == [108, 105, 110, 107]) with
    | true =>
      have HLK : Hid (Calls Tryz.prog 48 #[.pointer (some ⟨tb, 0, none⟩), .int .i64 x.n] (W.alloc (.cells #[.string x.kind, .string x.s, .bool x.exec, .int .i64 x.n, .int .i64 x.bit] 30)).drew fun e w1 => ∃ ev c, e = .returned ev ∧ Turn qTy (W.alloc (.cells #[.string x.kind, .string x.s, .bool x.exec, .int .i64 x.n, .int .i64 x.bit] 30)).drew w1 ∧ Calls Tryz.prog 49 #[.pointer (some ⟨mt, 0, none⟩), .int .i64 x.n, .int .i64 1] w1 fun e2 w2 => e2 = .returned (.int .i64 c) ∧ Turn qTy (W.alloc (.cells #[.string x.kind, .string x.s, .bool x.exec, .int .i64 x.n, .int .i64 x.bit] 30)).drew w2 ∧ Calls Tryz.prog 15 #[ev, .int .i64 c] w2 fun e3 w3 => e3 = .returned (.bool true) ∧ Turn qTy (W.alloc (.cells #[.string x.kind, .string x.s, .bool x.exec, .int .i64 x.n, .int .i64 x.bit] 30)).drew w3 ∧ QEnd w0 T0 tb bb mt md N (i + 1) w3) := q_link x.n hn hi ((Q.below HBW.out).below (below_drew _)) P S
      clear Q P S
      go_wp2_with fail
      refine wp_region_held_drew (S := fun w' => w'.cell? ⟨W.heap.size, 3, none⟩ = some (.int .i64 x.n) ∧ w'.cell? ⟨W.heap.size, 4, none⟩ = some (.int .i64 x.bit)) (by kernel_rfl) (HSX.out _ (Turn.of_below (below_drew _))) (fun hHeld => ?_)
      refine wpAnyH_take (i := 0) (v := (.pointer (some ⟨tb, 0, none⟩))) rfl (by kernel_rfl) (by kernel_rfl) (by kernel_rfl) (fun _ _ _ h => h) (Or.inl ⟨by rfl, ?_⟩) hHeld ?_
      · intro w hSw; (try dsimp only at hSw); simp only [List.getElem_toArray, List.getElem_cons_zero]; go_simp
      simp only [List.getElem_toArray, List.getElem_cons_zero, Act.put, List.setIfInBounds_toArray, List.set_cons_zero, List.set_cons_succ]
      refine wpAnyH_take (i := 1) (v := (.pointer (some ⟨W.heap.size, 3, none⟩))) rfl (by kernel_rfl) (by kernel_rfl) (by kernel_rfl) (fun _ _ _ h => h) (Or.inl ⟨by rfl, ?_⟩) hHeld ?_
      · intro w hSw; (try dsimp only at hSw); simp only [List.getElem_toArray, List.getElem_cons_zero, List.getElem_cons_succ]; go_simp
      simp only [List.getElem_toArray, List.getElem_cons_zero, List.getElem_cons_succ, Act.put, List.setIfInBounds_toArray, List.set_cons_zero, List.set_cons_succ]
      refine wpAnyH_take (i := 2) (v := (.int .i64 x.n)) rfl (by kernel_rfl) (by kernel_rfl) (by kernel_rfl) (fun _ _ _ h => h) (Or.inl ⟨by rfl, ?_⟩) hHeld ?_
      · intro w hSw; (try dsimp only at hSw); simp only [List.getElem_toArray, List.getElem_cons_zero, List.getElem_cons_succ]; go_simp
      simp only [List.getElem_toArray, List.getElem_cons_zero, List.getElem_cons_succ, Act.put, List.setIfInBounds_toArray, List.set_cons_zero, List.set_cons_succ]
      refine wpAnyH_take (i := 4) (v := (.pointer (some ⟨mt, 0, none⟩))) rfl (by kernel_rfl) (by kernel_rfl) (by kernel_rfl) (fun _ _ _ h => h) (Or.inl ⟨by rfl, ?_⟩) hHeld ?_
      · intro w hSw; (try dsimp only at hSw); simp only [List.getElem_toArray, List.getElem_cons_zero, List.getElem_cons_succ]; go_simp
      simp only [List.getElem_toArray, List.getElem_cons_zero, List.getElem_cons_succ, Act.put, List.setIfInBounds_toArray, List.set_cons_zero, List.set_cons_succ]
      refine wpAnyH_take (i := 5) (v := (.pointer (some ⟨W.heap.size, 3, none⟩))) rfl (by kernel_rfl) (by kernel_rfl) (by kernel_rfl) (fun _ _ _ h => h) (Or.inl ⟨by rfl, ?_⟩) hHeld ?_
      · intro w hSw; (try dsimp only at hSw); simp only [List.getElem_toArray, List.getElem_cons_zero, List.getElem_cons_succ]; go_simp
      simp only [List.getElem_toArray, List.getElem_cons_zero, List.getElem_cons_succ, Act.put, List.setIfInBounds_toArray, List.set_cons_zero, List.set_cons_succ]
      refine wpAnyH_take (i := 6) (v := (.int .i64 x.n)) rfl (by kernel_rfl) (by kernel_rfl) (by kernel_rfl) (fun _ _ _ h => h) (Or.inl ⟨by rfl, ?_⟩) hHeld ?_
      · intro w hSw; (try dsimp only at hSw); simp only [List.getElem_toArray, List.getElem_cons_zero, List.getElem_cons_succ]; go_simp
      simp only [List.getElem_toArray, List.getElem_cons_zero, List.getElem_cons_succ, Act.put, List.setIfInBounds_toArray, List.set_cons_zero, List.set_cons_succ]
      refine wpAnyH_ready (rs := [3]) (by kernel_rfl) (by simp) ?_
      refine AllReadyH.cons rfl (fun K' hK => ?_) AllReadyH.nil
      simp only [List.getElem_toArray, List.getElem_cons_zero, List.getElem_cons_succ]
      go_simp
      refine Calls.mono (HLK.out) ?_
      rintro e wx ⟨ev, c, rfl, ht1, H2⟩
      go_wp2_with fail
      refine hK.out _ _ (HSX.out _ ((Turn.of_below (below_drew _)).trans ht1)) (fun hHeld' => ?_)
      clear hK K' hHeld
      have hHeld := hHeld'
      clear hHeld'
      refine wpAnyH_ready (rs := [7]) (by kernel_rfl) (by simp) ?_
      refine AllReadyH.cons rfl (fun K' hK => ?_) AllReadyH.nil
      simp only [List.getElem_toArray, List.getElem_cons_zero, List.getElem_cons_succ]
      go_simp
      refine Calls.mono (H2) ?_
      rintro e wx ⟨rfl, ht2, H3⟩
      go_wp2_with fail
      refine hK.out _ _ (HSX.out _ ((Turn.of_below (below_drew _)).trans ht2)) (fun hHeld' => ?_)
      clear hK K' hHeld
      have hHeld := hHeld'
      clear hHeld'
      refine wpAnyH_ready (rs := [8]) (by kernel_rfl) (by simp) ?_
      refine AllReadyH.cons rfl (fun K' hK => ?_) AllReadyH.nil
      simp only [List.getElem_toArray, List.getElem_cons_zero, List.getElem_cons_succ]
      go_simp
      refine Calls.mono (H3) ?_
      rintro e wx ⟨rfl, ht3, HQ⟩
      go_wp2_with fail
      refine hK.out _ _ (HSX.out _ ((Turn.of_below (below_drew _)).trans ht3)) (fun hHeld' => ?_)
      clear hK K' hHeld
      have hHeld := hHeld'
      clear hHeld'
      refine wpAnyH_ready (rs := [9]) (by kernel_rfl) (by simp) ?_
      refine AllReadyH.cons rfl (fun K' hK => ?_) AllReadyH.nil
      simp only [List.getElem_toArray, List.getElem_cons_zero, List.getElem_cons_succ]
      go_simp
      go_wp2_with fail
      refine hK.out _ _ (HSX.out _ ((Turn.of_below (below_drew _)).trans ht3)) (fun hHeld' => ?_)
      clear hK K' hHeld
      have hHeld := hHeld'
      clear hHeld'
      refine wpAnyH_done (by kernel_rfl) ?_ _
      go_wp2_with fail
      go_ret
      exact ⟨rfl, HQ⟩
    | false =>
      cases ku : (x.kind.toList == [117, 110, 108, 105, 110, 107]) with
      | true =>
        have HLK : Hid (Calls Tryz.prog 50 #[.pointer (some ⟨tb, 0, none⟩), .int .i64 x.n] (W.alloc (.cells #[.string x.kind, .string x.s, .bool x.exec, .int .i64 x.n, .int .i64 x.bit] 30)).drew fun e w1 => ∃ ev c, e = .returned ev ∧ Turn qTy (W.alloc (.cells #[.string x.kind, .string x.s, .bool x.exec, .int .i64 x.n, .int .i64 x.bit] 30)).drew w1 ∧ Calls Tryz.prog 49 #[.pointer (some ⟨mt, 0, none⟩), .int .i64 x.n, .int .i64 (-1)] w1 fun e2 w2 => e2 = .returned (.int .i64 c) ∧ Turn qTy (W.alloc (.cells #[.string x.kind, .string x.s, .bool x.exec, .int .i64 x.n, .int .i64 x.bit] 30)).drew w2 ∧ Calls Tryz.prog 15 #[ev, .int .i64 c] w2 fun e3 w3 => e3 = .returned (.bool true) ∧ Turn qTy (W.alloc (.cells #[.string x.kind, .string x.s, .bool x.exec, .int .i64 x.n, .int .i64 x.bit] 30)).drew w3 ∧ QEnd w0 T0 tb bb mt md N (i + 1) w3) := q_unlink x.n hn hi ((Q.below HBW.out).below (below_drew _)) P S
        clear Q P S
        go_wp2_with fail
        refine wp_region_held_drew (S := fun w' => w'.cell? ⟨W.heap.size, 3, none⟩ = some (.int .i64 x.n) ∧ w'.cell? ⟨W.heap.size, 4, none⟩ = some (.int .i64 x.bit)) (by kernel_rfl) (HSX.out _ (Turn.of_below (below_drew _))) (fun hHeld => ?_)
        refine wpAnyH_take (i := 0) (v := (.pointer (some ⟨tb, 0, none⟩))) rfl (by kernel_rfl) (by kernel_rfl) (by kernel_rfl) (fun _ _ _ h => h) (Or.inl ⟨by rfl, ?_⟩) hHeld ?_
        · intro w hSw; (try dsimp only at hSw); simp only [List.getElem_toArray, List.getElem_cons_zero]; go_simp
        simp only [List.getElem_toArray, List.getElem_cons_zero, Act.put, List.setIfInBounds_toArray, List.set_cons_zero, List.set_cons_succ]
        refine wpAnyH_take (i := 1) (v := (.pointer (some ⟨W.heap.size, 3, none⟩))) rfl (by kernel_rfl) (by kernel_rfl) (by kernel_rfl) (fun _ _ _ h => h) (Or.inl ⟨by rfl, ?_⟩) hHeld ?_
        · intro w hSw; (try dsimp only at hSw); simp only [List.getElem_toArray, List.getElem_cons_zero, List.getElem_cons_succ]; go_simp
        simp only [List.getElem_toArray, List.getElem_cons_zero, List.getElem_cons_succ, Act.put, List.setIfInBounds_toArray, List.set_cons_zero, List.set_cons_succ]
        refine wpAnyH_take (i := 2) (v := (.int .i64 x.n)) rfl (by kernel_rfl) (by kernel_rfl) (by kernel_rfl) (fun _ _ _ h => h) (Or.inl ⟨by rfl, ?_⟩) hHeld ?_
        · intro w hSw; (try dsimp only at hSw); simp only [List.getElem_toArray, List.getElem_cons_zero, List.getElem_cons_succ]; go_simp
        simp only [List.getElem_toArray, List.getElem_cons_zero, List.getElem_cons_succ, Act.put, List.setIfInBounds_toArray, List.set_cons_zero, List.set_cons_succ]
        refine wpAnyH_take (i := 4) (v := (.pointer (some ⟨mt, 0, none⟩))) rfl (by kernel_rfl) (by kernel_rfl) (by kernel_rfl) (fun _ _ _ h => h) (Or.inl ⟨by rfl, ?_⟩) hHeld ?_
        · intro w hSw; (try dsimp only at hSw); simp only [List.getElem_toArray, List.getElem_cons_zero, List.getElem_cons_succ]; go_simp
        simp only [List.getElem_toArray, List.getElem_cons_zero, List.getElem_cons_succ, Act.put, List.setIfInBounds_toArray, List.set_cons_zero, List.set_cons_succ]
        refine wpAnyH_take (i := 5) (v := (.pointer (some ⟨W.heap.size, 3, none⟩))) rfl (by kernel_rfl) (by kernel_rfl) (by kernel_rfl) (fun _ _ _ h => h) (Or.inl ⟨by rfl, ?_⟩) hHeld ?_
        · intro w hSw; (try dsimp only at hSw); simp only [List.getElem_toArray, List.getElem_cons_zero, List.getElem_cons_succ]; go_simp
        simp only [List.getElem_toArray, List.getElem_cons_zero, List.getElem_cons_succ, Act.put, List.setIfInBounds_toArray, List.set_cons_zero, List.set_cons_succ]
        refine wpAnyH_take (i := 6) (v := (.int .i64 x.n)) rfl (by kernel_rfl) (by kernel_rfl) (by kernel_rfl) (fun _ _ _ h => h) (Or.inl ⟨by rfl, ?_⟩) hHeld ?_
        · intro w hSw; (try dsimp only at hSw); simp only [List.getElem_toArray, List.getElem_cons_zero, List.getElem_cons_succ]; go_simp
        simp only [List.getElem_toArray, List.getElem_cons_zero, List.getElem_cons_succ, Act.put, List.setIfInBounds_toArray, List.set_cons_zero, List.set_cons_succ]
        refine wpAnyH_ready (rs := [3]) (by kernel_rfl) (by simp) ?_
        refine AllReadyH.cons rfl (fun K' hK => ?_) AllReadyH.nil
        simp only [List.getElem_toArray, List.getElem_cons_zero, List.getElem_cons_succ]
        go_simp
        refine Calls.mono (HLK.out) ?_
        rintro e wx ⟨ev, c, rfl, ht1, H2⟩
        go_wp2_with fail
        refine hK.out _ _ (HSX.out _ ((Turn.of_below (below_drew _)).trans ht1)) (fun hHeld' => ?_)
        clear hK K' hHeld
        have hHeld := hHeld'
        clear hHeld'
        refine wpAnyH_ready (rs := [7]) (by kernel_rfl) (by simp) ?_
        refine AllReadyH.cons rfl (fun K' hK => ?_) AllReadyH.nil
        simp only [List.getElem_toArray, List.getElem_cons_zero, List.getElem_cons_succ]
        go_simp
        refine Calls.mono (H2) ?_
        rintro e wx ⟨rfl, ht2, H3⟩
        go_wp2_with fail
        refine hK.out _ _ (HSX.out _ ((Turn.of_below (below_drew _)).trans ht2)) (fun hHeld' => ?_)
        clear hK K' hHeld
        have hHeld := hHeld'
        clear hHeld'
        refine wpAnyH_ready (rs := [8]) (by kernel_rfl) (by simp) ?_
        refine AllReadyH.cons rfl (fun K' hK => ?_) AllReadyH.nil
        simp only [List.getElem_toArray, List.getElem_cons_zero, List.getElem_cons_succ]
        go_simp
        refine Calls.mono (H3) ?_
        rintro e wx ⟨rfl, ht3, HQ⟩
        go_wp2_with fail
        refine hK.out _ _ (HSX.out _ ((Turn.of_below (below_drew _)).trans ht3)) (fun hHeld' => ?_)
        clear hK K' hHeld
        have hHeld := hHeld'
        clear hHeld'
        refine wpAnyH_ready (rs := [9]) (by kernel_rfl) (by simp) ?_
        refine AllReadyH.cons rfl (fun K' hK => ?_) AllReadyH.nil
        simp only [List.getElem_toArray, List.getElem_cons_zero, List.getElem_cons_succ]
        go_simp
        go_wp2_with fail
        refine hK.out _ _ (HSX.out _ ((Turn.of_below (below_drew _)).trans ht3)) (fun hHeld' => ?_)
        clear hK K' hHeld
        have hHeld := hHeld'
        clear hHeld'
        refine wpAnyH_done (by kernel_rfl) ?_ _
        go_wp2_with fail
        go_ret
        exact ⟨rfl, HQ⟩
      | false =>
        cases km : (x.kind.toList == [109, 101, 110, 100]) with
        | true =>
          clear P S
          have HQ1 : Hid (QEnd w0 T0 tb bb mt md N (i + 1) (W.alloc (.cells #[.string x.kind, .string x.s, .bool x.exec, .int .i64 x.n, .int .i64 x.bit] 30))) := HQ0.out
          clear Q
          go_wp2_with fail
          go_ret
          exact ⟨rfl, HQ1.out⟩
        | false =>
          by_cases h0 : x.n < 0
          · skip
            have hrno : ¬ (hasB bl.length x.n = true ∧ 0 ≤ x.bit ∧ x.bit < 128) := fun h => by have := (of_decide_eq_true h.1).1; omega
            have HQ9 : Hid (∀ q, QAt w0 T0 tb bb mt md i bl u tab ((W.alloc (.cells #[.string x.kind, .string x.s, .bool x.exec, .int .i64 x.n, .int .i64 x.bit] 30)).drewN q).drew) := fun q => (Q.below HBW.out).below (below_drewN _ _)
            have HDK : Hid (∀ q, Calls Tryz.prog 51 #[.pointer (some ⟨tb, 0, none⟩)] ((W.alloc (.cells #[.string x.kind, .string x.s, .bool x.exec, .int .i64 x.n, .int .i64 x.bit] 30)).drewN q).drew fun e w' => e = .returned (.pointer (some ⟨bb + 1, 0, none⟩)) ∧ w' = ((W.alloc (.cells #[.string x.kind, .string x.s, .bool x.exec, .int .i64 x.n, .int .i64 x.bit] 30)).drewN q).drew) := fun q => by
              obtain ⟨sp, sb, cap, mb, n, hnn, T⟩ := (HQ9.out q).t
              exact im_disk _ T
            have HRN : Hid (∀ q, Calls Tryz.prog 52 #[.pointer (some ⟨bb + 1, 0, none⟩), .int .i64 x.n, .int .i64 x.bit] ((W.alloc (.cells #[.string x.kind, .string x.s, .bool x.exec, .int .i64 x.n, .int .i64 x.bit] 30)).drewN q).drew fun e w' => e = .returned (.iface 316 (.pointer (some (a 1)))) ∧ w' = ((W.alloc (.cells #[.string x.kind, .string x.s, .bool x.exec, .int .i64 x.n, .int .i64 x.bit] 30)).drewN q).drew) := fun q => by
              obtain ⟨sp, sb, cap, mb, n, hnn, T⟩ := (HQ9.out q).t
              exact rot_not x.n x.bit _ _ T.disk hrno ((HQ9.out q).sents S).c1
            have HCD : Hid (∀ q, Calls Tryz.prog 15 #[.iface 316 (.pointer (some (a 1))), .int .i64 2] ((W.alloc (.cells #[.string x.kind, .string x.s, .bool x.exec, .int .i64 x.n, .int .i64 x.bit] 30)).drewN q).drew fun e3 w3 => e3 = .returned (.bool true) ∧ Turn qTy (W.alloc (.cells #[.string x.kind, .string x.s, .bool x.exec, .int .i64 x.n, .int .i64 x.bit] 30)) w3 ∧ QEnd w0 T0 tb bb mt md N (i + 1) w3) := fun q => code_sent 1 (by decide) S (Turn.of_below (below_drewN _ _)) (by rw [← (HQ9.out q).s]; exact (HQ9.out q).b) fun w3 h3 => ⟨bl, u, tab, ((HQ9.out q).below h3).mono (by omega), P.mono (by omega)⟩
            clear Q P S HQ9 hrno
            go_wp2_with fail
            go_quiet (fail)
            go_wp2_with fail
            refine wp_region_held_drew (S := fun w' => w'.cell? ⟨W.heap.size, 3, none⟩ = some (.int .i64 x.n) ∧ w'.cell? ⟨W.heap.size, 4, none⟩ = some (.int .i64 x.bit)) (by kernel_rfl) (HSX.out _ (Turn.of_below (below_drewN _ _))) (fun hHeld => ?_)
            refine wpAnyH_take (i := 0) (v := (.pointer (some ⟨tb, 0, none⟩))) rfl (by kernel_rfl) (by kernel_rfl) (by kernel_rfl) (fun _ _ _ h => h) (Or.inl ⟨by rfl, ?_⟩) hHeld ?_
            · intro w hSw; (try dsimp only at hSw); simp only [List.getElem_toArray, List.getElem_cons_zero]; go_simp
            simp only [List.getElem_toArray, List.getElem_cons_zero, Act.put, List.setIfInBounds_toArray, List.set_cons_zero, List.set_cons_succ]
            refine wpAnyH_take (i := 2) (v := (.pointer (some ⟨W.heap.size, 3, none⟩))) rfl (by kernel_rfl) (by kernel_rfl) (by kernel_rfl) (fun _ _ _ h => h) (Or.inl ⟨by rfl, ?_⟩) hHeld ?_
            · intro w hSw; (try dsimp only at hSw); simp only [List.getElem_toArray, List.getElem_cons_zero, List.getElem_cons_succ]; go_simp
            simp only [List.getElem_toArray, List.getElem_cons_zero, List.getElem_cons_succ, Act.put, List.setIfInBounds_toArray, List.set_cons_zero, List.set_cons_succ]
            refine wpAnyH_take (i := 3) (v := (.int .i64 x.n)) rfl (by kernel_rfl) (by kernel_rfl) (by kernel_rfl) (fun _ _ _ h => h) (Or.inl ⟨by rfl, ?_⟩) hHeld ?_
            · intro w hSw; (try dsimp only at hSw); simp only [List.getElem_toArray, List.getElem_cons_zero, List.getElem_cons_succ]; go_simp
            simp only [List.getElem_toArray, List.getElem_cons_zero, List.getElem_cons_succ, Act.put, List.setIfInBounds_toArray, List.set_cons_zero, List.set_cons_succ]
            refine wpAnyH_take (i := 4) (v := (.pointer (some ⟨W.heap.size, 4, none⟩))) rfl (by kernel_rfl) (by kernel_rfl) (by kernel_rfl) (fun _ _ _ h => h) (Or.inl ⟨by rfl, ?_⟩) hHeld ?_
            · intro w hSw; (try dsimp only at hSw); simp only [List.getElem_toArray, List.getElem_cons_zero, List.getElem_cons_succ]; go_simp
            simp only [List.getElem_toArray, List.getElem_cons_zero, List.getElem_cons_succ, Act.put, List.setIfInBounds_toArray, List.set_cons_zero, List.set_cons_succ]
            refine wpAnyH_take (i := 5) (v := (.int .i64 x.bit)) rfl (by kernel_rfl) (by kernel_rfl) (by kernel_rfl) (fun _ _ _ h => h) (Or.inl ⟨by rfl, ?_⟩) hHeld ?_
            · intro w hSw; (try dsimp only at hSw); simp only [List.getElem_toArray, List.getElem_cons_zero, List.getElem_cons_succ]; go_simp
            simp only [List.getElem_toArray, List.getElem_cons_zero, List.getElem_cons_succ, Act.put, List.setIfInBounds_toArray, List.set_cons_zero, List.set_cons_succ]
            refine wpAnyH_ready (rs := [1]) (by kernel_rfl) (by simp) ?_
            refine AllReadyH.cons rfl (fun K' hK => ?_) AllReadyH.nil
            simp only [List.getElem_toArray, List.getElem_cons_zero, List.getElem_cons_succ]
            go_simp
            refine Calls.mono (HDK.out _) ?_
            rintro e wx ⟨rfl, hw⟩
            rw [hw]
            clear hw
            go_wp2_with fail
            refine hK.out _ _ (HSX.out _ (Turn.of_below (below_drewN _ _))) (fun hHeld' => ?_)
            clear hK K' hHeld
            have hHeld := hHeld'
            clear hHeld'
            refine wpAnyH_ready (rs := [6]) (by kernel_rfl) (by simp) ?_
            refine AllReadyH.cons rfl (fun K' hK => ?_) AllReadyH.nil
            simp only [List.getElem_toArray, List.getElem_cons_zero, List.getElem_cons_succ]
            go_simp
            refine Calls.mono (HRN.out _) ?_
            rintro e wx ⟨rfl, hw⟩
            rw [hw]
            clear hw
            go_wp2_with fail
            refine hK.out _ _ (HSX.out _ (Turn.of_below (below_drewN _ _))) (fun hHeld' => ?_)
            clear hK K' hHeld
            have hHeld := hHeld'
            clear hHeld'
            refine wpAnyH_ready (rs := [7]) (by kernel_rfl) (by simp) ?_
            refine AllReadyH.cons rfl (fun K' hK => ?_) AllReadyH.nil
            simp only [List.getElem_toArray, List.getElem_cons_zero, List.getElem_cons_succ]
            go_simp
            refine Calls.mono (HCD.out _) ?_
            rintro e wx ⟨rfl, ht3, HQ⟩
            go_wp2_with fail
            refine hK.out _ _ (HSX.out _ ht3) (fun hHeld' => ?_)
            clear hK K' hHeld
            have hHeld := hHeld'
            clear hHeld'
            refine wpAnyH_ready (rs := [8]) (by kernel_rfl) (by simp) ?_
            refine AllReadyH.cons rfl (fun K' hK => ?_) AllReadyH.nil
            simp only [List.getElem_toArray, List.getElem_cons_zero, List.getElem_cons_succ]
            go_simp
            go_wp2_with fail
            refine hK.out _ _ (HSX.out _ ht3) (fun hHeld' => ?_)
            clear hK K' hHeld
            have hHeld := hHeld'
            clear hHeld'
            refine wpAnyH_done (by kernel_rfl) ?_ _
            go_wp2_with fail
            go_ret
            exact ⟨rfl, HQ⟩
          · skip
            by_cases h1 : (N : Int) ≤ x.n
            · skip
              have hrno : ¬ (hasB bl.length x.n = true ∧ 0 ≤ x.bit ∧ x.bit < 128) := fun h => by have := (of_decide_eq_true h.1).2; rw [P.sp.lbl] at this; omega
              have HQ9 : Hid (∀ q, QAt w0 T0 tb bb mt md i bl u tab ((W.alloc (.cells #[.string x.kind, .string x.s, .bool x.exec, .int .i64 x.n, .int .i64 x.bit] 30)).drewN q).drew) := fun q => (Q.below HBW.out).below (below_drewN _ _)
              have HDK : Hid (∀ q, Calls Tryz.prog 51 #[.pointer (some ⟨tb, 0, none⟩)] ((W.alloc (.cells #[.string x.kind, .string x.s, .bool x.exec, .int .i64 x.n, .int .i64 x.bit] 30)).drewN q).drew fun e w' => e = .returned (.pointer (some ⟨bb + 1, 0, none⟩)) ∧ w' = ((W.alloc (.cells #[.string x.kind, .string x.s, .bool x.exec, .int .i64 x.n, .int .i64 x.bit] 30)).drewN q).drew) := fun q => by
                obtain ⟨sp, sb, cap, mb, n, hnn, T⟩ := (HQ9.out q).t
                exact im_disk _ T
              have HRN : Hid (∀ q, Calls Tryz.prog 52 #[.pointer (some ⟨bb + 1, 0, none⟩), .int .i64 x.n, .int .i64 x.bit] ((W.alloc (.cells #[.string x.kind, .string x.s, .bool x.exec, .int .i64 x.n, .int .i64 x.bit] 30)).drewN q).drew fun e w' => e = .returned (.iface 316 (.pointer (some (a 1)))) ∧ w' = ((W.alloc (.cells #[.string x.kind, .string x.s, .bool x.exec, .int .i64 x.n, .int .i64 x.bit] 30)).drewN q).drew) := fun q => by
                obtain ⟨sp, sb, cap, mb, n, hnn, T⟩ := (HQ9.out q).t
                exact rot_not x.n x.bit _ _ T.disk hrno ((HQ9.out q).sents S).c1
              have HCD : Hid (∀ q, Calls Tryz.prog 15 #[.iface 316 (.pointer (some (a 1))), .int .i64 2] ((W.alloc (.cells #[.string x.kind, .string x.s, .bool x.exec, .int .i64 x.n, .int .i64 x.bit] 30)).drewN q).drew fun e3 w3 => e3 = .returned (.bool true) ∧ Turn qTy (W.alloc (.cells #[.string x.kind, .string x.s, .bool x.exec, .int .i64 x.n, .int .i64 x.bit] 30)) w3 ∧ QEnd w0 T0 tb bb mt md N (i + 1) w3) := fun q => code_sent 1 (by decide) S (Turn.of_below (below_drewN _ _)) (by rw [← (HQ9.out q).s]; exact (HQ9.out q).b) fun w3 h3 => ⟨bl, u, tab, ((HQ9.out q).below h3).mono (by omega), P.mono (by omega)⟩
              clear Q P S HQ9 hrno
              go_wp2_with fail
              go_quiet (fail)
              go_wp2_with fail
              refine wp_region_held_drew (S := fun w' => w'.cell? ⟨W.heap.size, 3, none⟩ = some (.int .i64 x.n) ∧ w'.cell? ⟨W.heap.size, 4, none⟩ = some (.int .i64 x.bit)) (by kernel_rfl) (HSX.out _ (Turn.of_below (below_drewN _ _))) (fun hHeld => ?_)
              refine wpAnyH_take (i := 0) (v := (.pointer (some ⟨tb, 0, none⟩))) rfl (by kernel_rfl) (by kernel_rfl) (by kernel_rfl) (fun _ _ _ h => h) (Or.inl ⟨by rfl, ?_⟩) hHeld ?_
              · intro w hSw; (try dsimp only at hSw); simp only [List.getElem_toArray, List.getElem_cons_zero]; go_simp
              simp only [List.getElem_toArray, List.getElem_cons_zero, Act.put, List.setIfInBounds_toArray, List.set_cons_zero, List.set_cons_succ]
              refine wpAnyH_take (i := 2) (v := (.pointer (some ⟨W.heap.size, 3, none⟩))) rfl (by kernel_rfl) (by kernel_rfl) (by kernel_rfl) (fun _ _ _ h => h) (Or.inl ⟨by rfl, ?_⟩) hHeld ?_
              · intro w hSw; (try dsimp only at hSw); simp only [List.getElem_toArray, List.getElem_cons_zero, List.getElem_cons_succ]; go_simp
              simp only [List.getElem_toArray, List.getElem_cons_zero, List.getElem_cons_succ, Act.put, List.setIfInBounds_toArray, List.set_cons_zero, List.set_cons_succ]
              refine wpAnyH_take (i := 3) (v := (.int .i64 x.n)) rfl (by kernel_rfl) (by kernel_rfl) (by kernel_rfl) (fun _ _ _ h => h) (Or.inl ⟨by rfl, ?_⟩) hHeld ?_
              · intro w hSw; (try dsimp only at hSw); simp only [List.getElem_toArray, List.getElem_cons_zero, List.getElem_cons_succ]; go_simp
              simp only [List.getElem_toArray, List.getElem_cons_zero, List.getElem_cons_succ, Act.put, List.setIfInBounds_toArray, List.set_cons_zero, List.set_cons_succ]
              refine wpAnyH_take (i := 4) (v := (.pointer (some ⟨W.heap.size, 4, none⟩))) rfl (by kernel_rfl) (by kernel_rfl) (by kernel_rfl) (fun _ _ _ h => h) (Or.inl ⟨by rfl, ?_⟩) hHeld ?_
              · intro w hSw; (try dsimp only at hSw); simp only [List.getElem_toArray, List.getElem_cons_zero, List.getElem_cons_succ]; go_simp
              simp only [List.getElem_toArray, List.getElem_cons_zero, List.getElem_cons_succ, Act.put, List.setIfInBounds_toArray, List.set_cons_zero, List.set_cons_succ]
              refine wpAnyH_take (i := 5) (v := (.int .i64 x.bit)) rfl (by kernel_rfl) (by kernel_rfl) (by kernel_rfl) (fun _ _ _ h => h) (Or.inl ⟨by rfl, ?_⟩) hHeld ?_
              · intro w hSw; (try dsimp only at hSw); simp only [List.getElem_toArray, List.getElem_cons_zero, List.getElem_cons_succ]; go_simp
              simp only [List.getElem_toArray, List.getElem_cons_zero, List.getElem_cons_succ, Act.put, List.setIfInBounds_toArray, List.set_cons_zero, List.set_cons_succ]
              refine wpAnyH_ready (rs := [1]) (by kernel_rfl) (by simp) ?_
              refine AllReadyH.cons rfl (fun K' hK => ?_) AllReadyH.nil
              simp only [List.getElem_toArray, List.getElem_cons_zero, List.getElem_cons_succ]
              go_simp
              refine Calls.mono (HDK.out _) ?_
              rintro e wx ⟨rfl, hw⟩
              rw [hw]
              clear hw
              go_wp2_with fail
              refine hK.out _ _ (HSX.out _ (Turn.of_below (below_drewN _ _))) (fun hHeld' => ?_)
              clear hK K' hHeld
              have hHeld := hHeld'
              clear hHeld'
              refine wpAnyH_ready (rs := [6]) (by kernel_rfl) (by simp) ?_
              refine AllReadyH.cons rfl (fun K' hK => ?_) AllReadyH.nil
              simp only [List.getElem_toArray, List.getElem_cons_zero, List.getElem_cons_succ]
              go_simp
              refine Calls.mono (HRN.out _) ?_
              rintro e wx ⟨rfl, hw⟩
              rw [hw]
              clear hw
              go_wp2_with fail
              refine hK.out _ _ (HSX.out _ (Turn.of_below (below_drewN _ _))) (fun hHeld' => ?_)
              clear hK K' hHeld
              have hHeld := hHeld'
              clear hHeld'
              refine wpAnyH_ready (rs := [7]) (by kernel_rfl) (by simp) ?_
              refine AllReadyH.cons rfl (fun K' hK => ?_) AllReadyH.nil
              simp only [List.getElem_toArray, List.getElem_cons_zero, List.getElem_cons_succ]
              go_simp
              refine Calls.mono (HCD.out _) ?_
              rintro e wx ⟨rfl, ht3, HQ⟩
              go_wp2_with fail
              refine hK.out _ _ (HSX.out _ ht3) (fun hHeld' => ?_)
              clear hK K' hHeld
              have hHeld := hHeld'
              clear hHeld'
              refine wpAnyH_ready (rs := [8]) (by kernel_rfl) (by simp) ?_
              refine AllReadyH.cons rfl (fun K' hK => ?_) AllReadyH.nil
              simp only [List.getElem_toArray, List.getElem_cons_zero, List.getElem_cons_succ]
              go_simp
              go_wp2_with fail
              refine hK.out _ _ (HSX.out _ ht3) (fun hHeld' => ?_)
              clear hK K' hHeld
              have hHeld := hHeld'
              clear hHeld'
              refine wpAnyH_done (by kernel_rfl) ?_ _
              go_wp2_with fail
              go_ret
              exact ⟨rfl, HQ⟩
            · skip
              by_cases h2 : x.bit < 0
              · skip
                have hrno : ¬ (hasB bl.length x.n = true ∧ 0 ≤ x.bit ∧ x.bit < 128) := fun h => by omega
                have HQ9 : Hid (∀ q, QAt w0 T0 tb bb mt md i bl u tab ((W.alloc (.cells #[.string x.kind, .string x.s, .bool x.exec, .int .i64 x.n, .int .i64 x.bit] 30)).drewN q).drew) := fun q => (Q.below HBW.out).below (below_drewN _ _)
                have HDK : Hid (∀ q, Calls Tryz.prog 51 #[.pointer (some ⟨tb, 0, none⟩)] ((W.alloc (.cells #[.string x.kind, .string x.s, .bool x.exec, .int .i64 x.n, .int .i64 x.bit] 30)).drewN q).drew fun e w' => e = .returned (.pointer (some ⟨bb + 1, 0, none⟩)) ∧ w' = ((W.alloc (.cells #[.string x.kind, .string x.s, .bool x.exec, .int .i64 x.n, .int .i64 x.bit] 30)).drewN q).drew) := fun q => by
                  obtain ⟨sp, sb, cap, mb, n, hnn, T⟩ := (HQ9.out q).t
                  exact im_disk _ T
                have HRN : Hid (∀ q, Calls Tryz.prog 52 #[.pointer (some ⟨bb + 1, 0, none⟩), .int .i64 x.n, .int .i64 x.bit] ((W.alloc (.cells #[.string x.kind, .string x.s, .bool x.exec, .int .i64 x.n, .int .i64 x.bit] 30)).drewN q).drew fun e w' => e = .returned (.iface 316 (.pointer (some (a 1)))) ∧ w' = ((W.alloc (.cells #[.string x.kind, .string x.s, .bool x.exec, .int .i64 x.n, .int .i64 x.bit] 30)).drewN q).drew) := fun q => by
                  obtain ⟨sp, sb, cap, mb, n, hnn, T⟩ := (HQ9.out q).t
                  exact rot_not x.n x.bit _ _ T.disk hrno ((HQ9.out q).sents S).c1
                have HCD : Hid (∀ q, Calls Tryz.prog 15 #[.iface 316 (.pointer (some (a 1))), .int .i64 2] ((W.alloc (.cells #[.string x.kind, .string x.s, .bool x.exec, .int .i64 x.n, .int .i64 x.bit] 30)).drewN q).drew fun e3 w3 => e3 = .returned (.bool true) ∧ Turn qTy (W.alloc (.cells #[.string x.kind, .string x.s, .bool x.exec, .int .i64 x.n, .int .i64 x.bit] 30)) w3 ∧ QEnd w0 T0 tb bb mt md N (i + 1) w3) := fun q => code_sent 1 (by decide) S (Turn.of_below (below_drewN _ _)) (by rw [← (HQ9.out q).s]; exact (HQ9.out q).b) fun w3 h3 => ⟨bl, u, tab, ((HQ9.out q).below h3).mono (by omega), P.mono (by omega)⟩
                clear Q P S HQ9 hrno
                go_wp2_with fail
                go_quiet (fail)
                go_wp2_with fail
                refine wp_region_held_drew (S := fun w' => w'.cell? ⟨W.heap.size, 3, none⟩ = some (.int .i64 x.n) ∧ w'.cell? ⟨W.heap.size, 4, none⟩ = some (.int .i64 x.bit)) (by kernel_rfl) (HSX.out _ (Turn.of_below (below_drewN _ _))) (fun hHeld => ?_)
                refine wpAnyH_take (i := 0) (v := (.pointer (some ⟨tb, 0, none⟩))) rfl (by kernel_rfl) (by kernel_rfl) (by kernel_rfl) (fun _ _ _ h => h) (Or.inl ⟨by rfl, ?_⟩) hHeld ?_
                · intro w hSw; (try dsimp only at hSw); simp only [List.getElem_toArray, List.getElem_cons_zero]; go_simp
                simp only [List.getElem_toArray, List.getElem_cons_zero, Act.put, List.setIfInBounds_toArray, List.set_cons_zero, List.set_cons_succ]
                refine wpAnyH_take (i := 2) (v := (.pointer (some ⟨W.heap.size, 3, none⟩))) rfl (by kernel_rfl) (by kernel_rfl) (by kernel_rfl) (fun _ _ _ h => h) (Or.inl ⟨by rfl, ?_⟩) hHeld ?_
                · intro w hSw; (try dsimp only at hSw); simp only [List.getElem_toArray, List.getElem_cons_zero, List.getElem_cons_succ]; go_simp
                simp only [List.getElem_toArray, List.getElem_cons_zero, List.getElem_cons_succ, Act.put, List.setIfInBounds_toArray, List.set_cons_zero, List.set_cons_succ]
                refine wpAnyH_take (i := 3) (v := (.int .i64 x.n)) rfl (by kernel_rfl) (by kernel_rfl) (by kernel_rfl) (fun _ _ _ h => h) (Or.inl ⟨by rfl, ?_⟩) hHeld ?_
                · intro w hSw; (try dsimp only at hSw); simp only [List.getElem_toArray, List.getElem_cons_zero, List.getElem_cons_succ]; go_simp
                simp only [List.getElem_toArray, List.getElem_cons_zero, List.getElem_cons_succ, Act.put, List.setIfInBounds_toArray, List.set_cons_zero, List.set_cons_succ]
                refine wpAnyH_take (i := 4) (v := (.pointer (some ⟨W.heap.size, 4, none⟩))) rfl (by kernel_rfl) (by kernel_rfl) (by kernel_rfl) (fun _ _ _ h => h) (Or.inl ⟨by rfl, ?_⟩) hHeld ?_
                · intro w hSw; (try dsimp only at hSw); simp only [List.getElem_toArray, List.getElem_cons_zero, List.getElem_cons_succ]; go_simp
                simp only [List.getElem_toArray, List.getElem_cons_zero, List.getElem_cons_succ, Act.put, List.setIfInBounds_toArray, List.set_cons_zero, List.set_cons_succ]
                refine wpAnyH_take (i := 5) (v := (.int .i64 x.bit)) rfl (by kernel_rfl) (by kernel_rfl) (by kernel_rfl) (fun _ _ _ h => h) (Or.inl ⟨by rfl, ?_⟩) hHeld ?_
                · intro w hSw; (try dsimp only at hSw); simp only [List.getElem_toArray, List.getElem_cons_zero, List.getElem_cons_succ]; go_simp
                simp only [List.getElem_toArray, List.getElem_cons_zero, List.getElem_cons_succ, Act.put, List.setIfInBounds_toArray, List.set_cons_zero, List.set_cons_succ]
                refine wpAnyH_ready (rs := [1]) (by kernel_rfl) (by simp) ?_
                refine AllReadyH.cons rfl (fun K' hK => ?_) AllReadyH.nil
                simp only [List.getElem_toArray, List.getElem_cons_zero, List.getElem_cons_succ]
                go_simp
                refine Calls.mono (HDK.out _) ?_
                rintro e wx ⟨rfl, hw⟩
                rw [hw]
                clear hw
                go_wp2_with fail
                refine hK.out _ _ (HSX.out _ (Turn.of_below (below_drewN _ _))) (fun hHeld' => ?_)
                clear hK K' hHeld
                have hHeld := hHeld'
                clear hHeld'
                refine wpAnyH_ready (rs := [6]) (by kernel_rfl) (by simp) ?_
                refine AllReadyH.cons rfl (fun K' hK => ?_) AllReadyH.nil
                simp only [List.getElem_toArray, List.getElem_cons_zero, List.getElem_cons_succ]
                go_simp
                refine Calls.mono (HRN.out _) ?_
                rintro e wx ⟨rfl, hw⟩
                rw [hw]
                clear hw
                go_wp2_with fail
                refine hK.out _ _ (HSX.out _ (Turn.of_below (below_drewN _ _))) (fun hHeld' => ?_)
                clear hK K' hHeld
                have hHeld := hHeld'
                clear hHeld'
                refine wpAnyH_ready (rs := [7]) (by kernel_rfl) (by simp) ?_
                refine AllReadyH.cons rfl (fun K' hK => ?_) AllReadyH.nil
                simp only [List.getElem_toArray, List.getElem_cons_zero, List.getElem_cons_succ]
                go_simp
                refine Calls.mono (HCD.out _) ?_
                rintro e wx ⟨rfl, ht3, HQ⟩
                go_wp2_with fail
                refine hK.out _ _ (HSX.out _ ht3) (fun hHeld' => ?_)
                clear hK K' hHeld
                have hHeld := hHeld'
                clear hHeld'
                refine wpAnyH_ready (rs := [8]) (by kernel_rfl) (by simp) ?_
                refine AllReadyH.cons rfl (fun K' hK => ?_) AllReadyH.nil
                simp only [List.getElem_toArray, List.getElem_cons_zero, List.getElem_cons_succ]
                go_simp
                go_wp2_with fail
                refine hK.out _ _ (HSX.out _ ht3) (fun hHeld' => ?_)
                clear hK K' hHeld
                have hHeld := hHeld'
                clear hHeld'
                refine wpAnyH_done (by kernel_rfl) ?_ _
                go_wp2_with fail
                go_ret
                exact ⟨rfl, HQ⟩
              · skip
                by_cases h3 : 128 ≤ x.bit
                · skip
                  have hrno : ¬ (hasB bl.length x.n = true ∧ 0 ≤ x.bit ∧ x.bit < 128) := fun h => by omega
                  have HQ9 : Hid (∀ q, QAt w0 T0 tb bb mt md i bl u tab ((W.alloc (.cells #[.string x.kind, .string x.s, .bool x.exec, .int .i64 x.n, .int .i64 x.bit] 30)).drewN q).drew) := fun q => (Q.below HBW.out).below (below_drewN _ _)
                  have HDK : Hid (∀ q, Calls Tryz.prog 51 #[.pointer (some ⟨tb, 0, none⟩)] ((W.alloc (.cells #[.string x.kind, .string x.s, .bool x.exec, .int .i64 x.n, .int .i64 x.bit] 30)).drewN q).drew fun e w' => e = .returned (.pointer (some ⟨bb + 1, 0, none⟩)) ∧ w' = ((W.alloc (.cells #[.string x.kind, .string x.s, .bool x.exec, .int .i64 x.n, .int .i64 x.bit] 30)).drewN q).drew) := fun q => by
                    obtain ⟨sp, sb, cap, mb, n, hnn, T⟩ := (HQ9.out q).t
                    exact im_disk _ T
                  have HRN : Hid (∀ q, Calls Tryz.prog 52 #[.pointer (some ⟨bb + 1, 0, none⟩), .int .i64 x.n, .int .i64 x.bit] ((W.alloc (.cells #[.string x.kind, .string x.s, .bool x.exec, .int .i64 x.n, .int .i64 x.bit] 30)).drewN q).drew fun e w' => e = .returned (.iface 316 (.pointer (some (a 1)))) ∧ w' = ((W.alloc (.cells #[.string x.kind, .string x.s, .bool x.exec, .int .i64 x.n, .int .i64 x.bit] 30)).drewN q).drew) := fun q => by
                    obtain ⟨sp, sb, cap, mb, n, hnn, T⟩ := (HQ9.out q).t
                    exact rot_not x.n x.bit _ _ T.disk hrno ((HQ9.out q).sents S).c1
                  have HCD : Hid (∀ q, Calls Tryz.prog 15 #[.iface 316 (.pointer (some (a 1))), .int .i64 2] ((W.alloc (.cells #[.string x.kind, .string x.s, .bool x.exec, .int .i64 x.n, .int .i64 x.bit] 30)).drewN q).drew fun e3 w3 => e3 = .returned (.bool true) ∧ Turn qTy (W.alloc (.cells #[.string x.kind, .string x.s, .bool x.exec, .int .i64 x.n, .int .i64 x.bit] 30)) w3 ∧ QEnd w0 T0 tb bb mt md N (i + 1) w3) := fun q => code_sent 1 (by decide) S (Turn.of_below (below_drewN _ _)) (by rw [← (HQ9.out q).s]; exact (HQ9.out q).b) fun w3 h3 => ⟨bl, u, tab, ((HQ9.out q).below h3).mono (by omega), P.mono (by omega)⟩
                  clear Q P S HQ9 hrno
                  go_wp2_with fail
                  go_quiet (fail)
                  go_wp2_with fail
                  refine wp_region_held_drew (S := fun w' => w'.cell? ⟨W.heap.size, 3, none⟩ = some (.int .i64 x.n) ∧ w'.cell? ⟨W.heap.size, 4, none⟩ = some (.int .i64 x.bit)) (by kernel_rfl) (HSX.out _ (Turn.of_below (below_drewN _ _))) (fun hHeld => ?_)
                  refine wpAnyH_take (i := 0) (v := (.pointer (some ⟨tb, 0, none⟩))) rfl (by kernel_rfl) (by kernel_rfl) (by kernel_rfl) (fun _ _ _ h => h) (Or.inl ⟨by rfl, ?_⟩) hHeld ?_
                  · intro w hSw; (try dsimp only at hSw); simp only [List.getElem_toArray, List.getElem_cons_zero]; go_simp
                  simp only [List.getElem_toArray, List.getElem_cons_zero, Act.put, List.setIfInBounds_toArray, List.set_cons_zero, List.set_cons_succ]
                  refine wpAnyH_take (i := 2) (v := (.pointer (some ⟨W.heap.size, 3, none⟩))) rfl (by kernel_rfl) (by kernel_rfl) (by kernel_rfl) (fun _ _ _ h => h) (Or.inl ⟨by rfl, ?_⟩) hHeld ?_
                  · intro w hSw; (try dsimp only at hSw); simp only [List.getElem_toArray, List.getElem_cons_zero, List.getElem_cons_succ]; go_simp
                  simp only [List.getElem_toArray, List.getElem_cons_zero, List.getElem_cons_succ, Act.put, List.setIfInBounds_toArray, List.set_cons_zero, List.set_cons_succ]
                  refine wpAnyH_take (i := 3) (v := (.int .i64 x.n)) rfl (by kernel_rfl) (by kernel_rfl) (by kernel_rfl) (fun _ _ _ h => h) (Or.inl ⟨by rfl, ?_⟩) hHeld ?_
                  · intro w hSw; (try dsimp only at hSw); simp only [List.getElem_toArray, List.getElem_cons_zero, List.getElem_cons_succ]; go_simp
                  simp only [List.getElem_toArray, List.getElem_cons_zero, List.getElem_cons_succ, Act.put, List.setIfInBounds_toArray, List.set_cons_zero, List.set_cons_succ]
                  refine wpAnyH_take (i := 4) (v := (.pointer (some ⟨W.heap.size, 4, none⟩))) rfl (by kernel_rfl) (by kernel_rfl) (by kernel_rfl) (fun _ _ _ h => h) (Or.inl ⟨by rfl, ?_⟩) hHeld ?_
                  · intro w hSw; (try dsimp only at hSw); simp only [List.getElem_toArray, List.getElem_cons_zero, List.getElem_cons_succ]; go_simp
                  simp only [List.getElem_toArray, List.getElem_cons_zero, List.getElem_cons_succ, Act.put, List.setIfInBounds_toArray, List.set_cons_zero, List.set_cons_succ]
                  refine wpAnyH_take (i := 5) (v := (.int .i64 x.bit)) rfl (by kernel_rfl) (by kernel_rfl) (by kernel_rfl) (fun _ _ _ h => h) (Or.inl ⟨by rfl, ?_⟩) hHeld ?_
                  · intro w hSw; (try dsimp only at hSw); simp only [List.getElem_toArray, List.getElem_cons_zero, List.getElem_cons_succ]; go_simp
                  simp only [List.getElem_toArray, List.getElem_cons_zero, List.getElem_cons_succ, Act.put, List.setIfInBounds_toArray, List.set_cons_zero, List.set_cons_succ]
                  refine wpAnyH_ready (rs := [1]) (by kernel_rfl) (by simp) ?_
                  refine AllReadyH.cons rfl (fun K' hK => ?_) AllReadyH.nil
                  simp only [List.getElem_toArray, List.getElem_cons_zero, List.getElem_cons_succ]
                  go_simp
                  refine Calls.mono (HDK.out _) ?_
                  rintro e wx ⟨rfl, hw⟩
                  rw [hw]
                  clear hw
                  go_wp2_with fail
                  refine hK.out _ _ (HSX.out _ (Turn.of_below (below_drewN _ _))) (fun hHeld' => ?_)
                  clear hK K' hHeld
                  have hHeld := hHeld'
                  clear hHeld'
                  refine wpAnyH_ready (rs := [6]) (by kernel_rfl) (by simp) ?_
                  refine AllReadyH.cons rfl (fun K' hK => ?_) AllReadyH.nil
                  simp only [List.getElem_toArray, List.getElem_cons_zero, List.getElem_cons_succ]
                  go_simp
                  refine Calls.mono (HRN.out _) ?_
                  rintro e wx ⟨rfl, hw⟩
                  rw [hw]
                  clear hw
                  go_wp2_with fail
                  refine hK.out _ _ (HSX.out _ (Turn.of_below (below_drewN _ _))) (fun hHeld' => ?_)
                  clear hK K' hHeld
                  have hHeld := hHeld'
                  clear hHeld'
                  refine wpAnyH_ready (rs := [7]) (by kernel_rfl) (by simp) ?_
                  refine AllReadyH.cons rfl (fun K' hK => ?_) AllReadyH.nil
                  simp only [List.getElem_toArray, List.getElem_cons_zero, List.getElem_cons_succ]
                  go_simp
                  refine Calls.mono (HCD.out _) ?_
                  rintro e wx ⟨rfl, ht3, HQ⟩
                  go_wp2_with fail
                  refine hK.out _ _ (HSX.out _ ht3) (fun hHeld' => ?_)
                  clear hK K' hHeld
                  have hHeld := hHeld'
                  clear hHeld'
                  refine wpAnyH_ready (rs := [8]) (by kernel_rfl) (by simp) ?_
                  refine AllReadyH.cons rfl (fun K' hK => ?_) AllReadyH.nil
                  simp only [List.getElem_toArray, List.getElem_cons_zero, List.getElem_cons_succ]
                  go_simp
                  go_wp2_with fail
                  refine hK.out _ _ (HSX.out _ ht3) (fun hHeld' => ?_)
                  clear hK K' hHeld
                  have hHeld := hHeld'
                  clear hHeld'
                  refine wpAnyH_done (by kernel_rfl) ?_ _
                  go_wp2_with fail
                  go_ret
                  exact ⟨rfl, HQ⟩
                · skip
                  obtain ⟨kn, hkn⟩ : ∃ kn : Nat, x.n = kn := ⟨x.n.toNat, by omega⟩
                  obtain ⟨bn, hbn⟩ : ∃ bn : Nat, x.bit = bn := ⟨x.bit.toNat, by omega⟩
                  obtain ⟨b, hb⟩ : ∃ b, bl[kn]? = some b := ⟨_, List.getElem?_eq_getElem (by rw [P.sp.lbl]; omega)⟩
                  have hbn8 : bn < 128 := by omega
                  have HQ9 : Hid (∀ q, QAt w0 T0 tb bb mt md i bl u tab ((W.alloc (.cells #[.string x.kind, .string x.s, .bool x.exec, .int .i64 x.n, .int .i64 x.bit] 30)).drewN q).drew) := fun q => (Q.below HBW.out).below (below_drewN _ _)
                  have HM0 : Hid (∀ q, ((W.alloc (.cells #[.string x.kind, .string x.s, .bool x.exec, .int .i64 x.n, .int .i64 x.bit] 30)).drewN q).drew.cell? ⟨mt, 0, none⟩ = some (.pointer (some ⟨md, 0, none⟩))) := fun q => by
                    obtain ⟨la, lc, ia, ic, vs, M⟩ := (HQ9.out q).m
                    exact M.cells.1
                  have HRM : Hid (∀ q, Calls Tryz.prog 53 #[.pointer (some ⟨md, 0, none⟩), .int .i64 x.n, .int .i64 x.bit] ((W.alloc (.cells #[.string x.kind, .string x.s, .bool x.exec, .int .i64 x.n, .int .i64 x.bit] 30)).drewN q).drew fun e w1 => e = .returned (.tuple #[]) ∧ Turn qTy ((W.alloc (.cells #[.string x.kind, .string x.s, .bool x.exec, .int .i64 x.n, .int .i64 x.bit] 30)).drewN q).drew w1 ∧ HAt w0 T0 tb bb mt md i bl (bl.set kn (turnL b bn)) u tab w1) := fun q => by
                    have h := q_rotm kn bn b hb hbn8 (HQ9.out q)
                    rw [← hkn, ← hbn] at h
                    exact h
                  have HRD : Hid (∀ W2, HAt w0 T0 tb bb mt md i bl (bl.set kn (turnL b bn)) u tab W2 → Calls Tryz.prog 51 #[.pointer (some ⟨tb, 0, none⟩)] W2 fun e w' => e = .returned (.pointer (some ⟨bb + 1, 0, none⟩)) ∧ w' = W2) := fun W2 H2 => by
                    obtain ⟨sp, sb, cap, mb, n, hnn, T⟩ := H2.t
                    exact im_disk _ T
                  have HRO : Hid (∀ W2, HAt w0 T0 tb bb mt md i bl (bl.set kn (turnL b bn)) u tab W2 → Calls Tryz.prog 52 #[.pointer (some ⟨bb + 1, 0, none⟩), .int .i64 x.n, .int .i64 x.bit] W2 fun e w1 => e = .returned .nilIface ∧ Turn qTy W2 w1 ∧ QEnd w0 T0 tb bb mt md N (i + 1) w1) := fun W2 H2 => by
                    have h := q_rotd (N := N) kn bn b hb hbn8 H2 P
                    rw [← hkn, ← hbn] at h
                    exact h
                  clear Q P S HQ9 hb hbn8 hkn hbn
                  go_wp2_with fail
                  go_quiet (fail)
                  go_wp2_with fail
                  refine wp_region_held_drew (S := fun w' => w'.cell? ⟨mt, 0, none⟩ = some (.pointer (some ⟨md, 0, none⟩)) ∧ w'.cell? ⟨W.heap.size, 3, none⟩ = some (.int .i64 x.n) ∧ w'.cell? ⟨W.heap.size, 4, none⟩ = some (.int .i64 x.bit)) (by kernel_rfl) (⟨HM0.out _, HSX.out _ (Turn.of_below (below_drewN _ _))⟩) (fun hHeld => ?_)
                  refine wpAnyH_take (i := 0) (v := (.pointer (some ⟨mt, 0, none⟩))) rfl (by kernel_rfl) (by kernel_rfl) (by kernel_rfl) (fun _ _ _ h => h) (Or.inl ⟨by rfl, ?_⟩) hHeld ?_
                  · intro w hSw; (try dsimp only at hSw); simp only [List.getElem_toArray, List.getElem_cons_zero]; go_simp
                  simp only [List.getElem_toArray, List.getElem_cons_zero, Act.put, List.setIfInBounds_toArray, List.set_cons_zero, List.set_cons_succ]
                  refine wpAnyH_take (i := 1) (v := (.pointer (some ⟨mt, 0, none⟩))) rfl (by kernel_rfl) (by kernel_rfl) (by kernel_rfl) (fun _ _ _ h => h) (Or.inl ⟨by rfl, ?_⟩) hHeld ?_
                  · intro w hSw; (try dsimp only at hSw); simp only [List.getElem_toArray, List.getElem_cons_zero, List.getElem_cons_succ]; go_simp
                  simp only [List.getElem_toArray, List.getElem_cons_zero, List.getElem_cons_succ, Act.put, List.setIfInBounds_toArray, List.set_cons_zero, List.set_cons_succ]
                  refine wpAnyH_take (i := 2) (v := (.pointer (some ⟨mt, 0, none⟩))) rfl (by kernel_rfl) (by kernel_rfl) (by kernel_rfl) (fun _ _ _ h => h) (Or.inl ⟨by rfl, ?_⟩) hHeld ?_
                  · intro w hSw; (try dsimp only at hSw); simp only [List.getElem_toArray, List.getElem_cons_zero, List.getElem_cons_succ]; go_simp
                  simp only [List.getElem_toArray, List.getElem_cons_zero, List.getElem_cons_succ, Act.put, List.setIfInBounds_toArray, List.set_cons_zero, List.set_cons_succ]
                  refine wpAnyH_take (i := 3) (v := (.pointer (some ⟨md, 0, none⟩))) rfl (by kernel_rfl) (by kernel_rfl) (by kernel_rfl) (fun _ _ _ h => h) (Or.inl ⟨by rfl, ?_⟩) hHeld ?_
                  · intro w hSw; (try dsimp only at hSw); simp only [List.getElem_toArray, List.getElem_cons_zero, List.getElem_cons_succ]; go_simp
                  simp only [List.getElem_toArray, List.getElem_cons_zero, List.getElem_cons_succ, Act.put, List.setIfInBounds_toArray, List.set_cons_zero, List.set_cons_succ]
                  refine wpAnyH_take (i := 4) (v := (.pointer (some ⟨W.heap.size, 3, none⟩))) rfl (by kernel_rfl) (by kernel_rfl) (by kernel_rfl) (fun _ _ _ h => h) (Or.inl ⟨by rfl, ?_⟩) hHeld ?_
                  · intro w hSw; (try dsimp only at hSw); simp only [List.getElem_toArray, List.getElem_cons_zero, List.getElem_cons_succ]; go_simp
                  simp only [List.getElem_toArray, List.getElem_cons_zero, List.getElem_cons_succ, Act.put, List.setIfInBounds_toArray, List.set_cons_zero, List.set_cons_succ]
                  refine wpAnyH_take (i := 5) (v := (.int .i64 x.n)) rfl (by kernel_rfl) (by kernel_rfl) (by kernel_rfl) (fun _ _ _ h => h) (Or.inl ⟨by rfl, ?_⟩) hHeld ?_
                  · intro w hSw; (try dsimp only at hSw); simp only [List.getElem_toArray, List.getElem_cons_zero, List.getElem_cons_succ]; go_simp
                  simp only [List.getElem_toArray, List.getElem_cons_zero, List.getElem_cons_succ, Act.put, List.setIfInBounds_toArray, List.set_cons_zero, List.set_cons_succ]
                  refine wpAnyH_take (i := 6) (v := (.pointer (some ⟨W.heap.size, 4, none⟩))) rfl (by kernel_rfl) (by kernel_rfl) (by kernel_rfl) (fun _ _ _ h => h) (Or.inl ⟨by rfl, ?_⟩) hHeld ?_
                  · intro w hSw; (try dsimp only at hSw); simp only [List.getElem_toArray, List.getElem_cons_zero, List.getElem_cons_succ]; go_simp
                  simp only [List.getElem_toArray, List.getElem_cons_zero, List.getElem_cons_succ, Act.put, List.setIfInBounds_toArray, List.set_cons_zero, List.set_cons_succ]
                  refine wpAnyH_take (i := 7) (v := (.int .i64 x.bit)) rfl (by kernel_rfl) (by kernel_rfl) (by kernel_rfl) (fun _ _ _ h => h) (Or.inl ⟨by rfl, ?_⟩) hHeld ?_
                  · intro w hSw; (try dsimp only at hSw); simp only [List.getElem_toArray, List.getElem_cons_zero, List.getElem_cons_succ]; go_simp
                  simp only [List.getElem_toArray, List.getElem_cons_zero, List.getElem_cons_succ, Act.put, List.setIfInBounds_toArray, List.set_cons_zero, List.set_cons_succ]
                  refine wpAnyH_ready (rs := [8]) (by kernel_rfl) (by simp) ?_
                  refine AllReadyH.cons rfl (fun K' hK => ?_) AllReadyH.nil
                  simp only [List.getElem_toArray, List.getElem_cons_zero, List.getElem_cons_succ]
                  go_simp
                  refine Calls.mono (HRM.out _) ?_
                  rintro e wx ⟨rfl, ht1, HH⟩
                  go_wp2_with fail
                  refine hK.out _ _ (⟨HAt.cell HH, HSX.out _ ((Turn.of_below (below_drewN _ _)).trans ht1)⟩) (fun hHeld' => ?_)
                  clear hK K' hHeld
                  have hHeld := hHeld'
                  clear hHeld'
                  refine wpAnyH_done (by kernel_rfl) ?_ _
                  go_wp2_with fail
                  have HH2 := HH.below (below_drew wx)
                  have HT2 : Hid (Turn qTy (W.alloc (.cells #[.string x.kind, .string x.s, .bool x.exec, .int .i64 x.n, .int .i64 x.bit] 30)) wx.drew) := ((Turn.of_below (below_drewN _ _)).trans ht1).trans (Turn.of_below (below_drew _))
                  clear HM0 HRM HH ht1
                  refine wp_region_held_drew (S := fun w' => w'.cell? ⟨W.heap.size, 3, none⟩ = some (.int .i64 x.n) ∧ w'.cell? ⟨W.heap.size, 4, none⟩ = some (.int .i64 x.bit)) (by kernel_rfl) (HSX.out _ HT2.out) (fun hHeld => ?_)
                  refine wpAnyH_take (i := 0) (v := (.pointer (some ⟨tb, 0, none⟩))) rfl (by kernel_rfl) (by kernel_rfl) (by kernel_rfl) (fun _ _ _ h => h) (Or.inl ⟨by rfl, ?_⟩) hHeld ?_
                  · intro w hSw; (try dsimp only at hSw); simp only [List.getElem_toArray, List.getElem_cons_zero]; go_simp
                  simp only [List.getElem_toArray, List.getElem_cons_zero, Act.put, List.setIfInBounds_toArray, List.set_cons_zero, List.set_cons_succ]
                  refine wpAnyH_take (i := 2) (v := (.pointer (some ⟨W.heap.size, 3, none⟩))) rfl (by kernel_rfl) (by kernel_rfl) (by kernel_rfl) (fun _ _ _ h => h) (Or.inl ⟨by rfl, ?_⟩) hHeld ?_
                  · intro w hSw; (try dsimp only at hSw); simp only [List.getElem_toArray, List.getElem_cons_zero, List.getElem_cons_succ]; go_simp
                  simp only [List.getElem_toArray, List.getElem_cons_zero, List.getElem_cons_succ, Act.put, List.setIfInBounds_toArray, List.set_cons_zero, List.set_cons_succ]
                  refine wpAnyH_take (i := 3) (v := (.int .i64 x.n)) rfl (by kernel_rfl) (by kernel_rfl) (by kernel_rfl) (fun _ _ _ h => h) (Or.inl ⟨by rfl, ?_⟩) hHeld ?_
                  · intro w hSw; (try dsimp only at hSw); simp only [List.getElem_toArray, List.getElem_cons_zero, List.getElem_cons_succ]; go_simp
                  simp only [List.getElem_toArray, List.getElem_cons_zero, List.getElem_cons_succ, Act.put, List.setIfInBounds_toArray, List.set_cons_zero, List.set_cons_succ]
                  refine wpAnyH_take (i := 4) (v := (.pointer (some ⟨W.heap.size, 4, none⟩))) rfl (by kernel_rfl) (by kernel_rfl) (by kernel_rfl) (fun _ _ _ h => h) (Or.inl ⟨by rfl, ?_⟩) hHeld ?_
                  · intro w hSw; (try dsimp only at hSw); simp only [List.getElem_toArray, List.getElem_cons_zero, List.getElem_cons_succ]; go_simp
                  simp only [List.getElem_toArray, List.getElem_cons_zero, List.getElem_cons_succ, Act.put, List.setIfInBounds_toArray, List.set_cons_zero, List.set_cons_succ]
                  refine wpAnyH_take (i := 5) (v := (.int .i64 x.bit)) rfl (by kernel_rfl) (by kernel_rfl) (by kernel_rfl) (fun _ _ _ h => h) (Or.inl ⟨by rfl, ?_⟩) hHeld ?_
                  · intro w hSw; (try dsimp only at hSw); simp only [List.getElem_toArray, List.getElem_cons_zero, List.getElem_cons_succ]; go_simp
                  simp only [List.getElem_toArray, List.getElem_cons_zero, List.getElem_cons_succ, Act.put, List.setIfInBounds_toArray, List.set_cons_zero, List.set_cons_succ]
                  refine wpAnyH_ready (rs := [1]) (by kernel_rfl) (by simp) ?_
                  refine AllReadyH.cons rfl (fun K' hK => ?_) AllReadyH.nil
                  simp only [List.getElem_toArray, List.getElem_cons_zero, List.getElem_cons_succ]
                  go_simp
                  refine Calls.mono (HRD.out _ HH2) ?_
                  rintro e wx ⟨rfl, hw⟩
                  rw [hw]
                  clear hw
                  go_wp2_with fail
                  refine hK.out _ _ (HSX.out _ HT2.out) (fun hHeld' => ?_)
                  clear hK K' hHeld
                  have hHeld := hHeld'
                  clear hHeld'
                  refine wpAnyH_ready (rs := [6]) (by kernel_rfl) (by simp) ?_
                  refine AllReadyH.cons rfl (fun K' hK => ?_) AllReadyH.nil
                  simp only [List.getElem_toArray, List.getElem_cons_zero, List.getElem_cons_succ]
                  go_simp
                  refine Calls.mono (HRO.out _ HH2) ?_
                  rintro e wx ⟨rfl, ht3, HQ⟩
                  go_wp2_with fail
                  refine hK.out _ _ (HSX.out _ (HT2.out.trans ht3)) (fun hHeld' => ?_)
                  clear hK K' hHeld
                  have hHeld := hHeld'
                  clear hHeld'
                  refine wpAnyH_ready (rs := [7]) (by kernel_rfl) (by simp) ?_
                  refine AllReadyH.cons rfl (fun K' hK => ?_) AllReadyH.nil
                  simp only [List.getElem_toArray, List.getElem_cons_zero, List.getElem_cons_succ]
                  go_simp
                  refine Calls.mono (coded_nil _ _) ?_
                  rintro e wx ⟨rfl, hw⟩
                  rw [hw]
                  clear hw
                  go_wp2_with fail
                  refine hK.out _ _ (HSX.out _ (HT2.out.trans ht3)) (fun hHeld' => ?_)
                  clear hK K' hHeld
                  have hHeld := hHeld'
                  clear hHeld'
                  refine wpAnyH_ready (rs := [8]) (by kernel_rfl) (by simp) ?_
                  refine AllReadyH.cons rfl (fun K' hK => ?_) AllReadyH.nil
                  simp only [List.getElem_toArray, List.getElem_cons_zero, List.getElem_cons_succ]
                  go_simp
                  go_wp2_with fail
                  refine hK.out _ _ (HSX.out _ (HT2.out.trans ht3)) (fun hHeld' => ?_)
                  clear hK K' hHeld
                  have hHeld := hHeld'
                  clear hHeld'
                  refine wpAnyH_done (by kernel_rfl) ?_ _
                  go_wp2_with fail
                  go_ret
                  exact ⟨rfl, HQ⟩
end
end Go.Proofs.YtcejpeohkgchdaaGreatDoor
