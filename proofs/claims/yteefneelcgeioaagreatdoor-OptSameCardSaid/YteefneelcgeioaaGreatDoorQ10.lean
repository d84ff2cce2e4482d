/-
  The contracts of package inode's Stat and Unlink.
  The contracts of package disk's divide and Sum, and of the law's zeros.
  Conditions: those that each states.
-/
import Derived.Test.YteefneelcgeioaaGreatDoorQ07
import Derived.Deep.RegionHeld3
import Derived.Test.YteefneelcgeioaaGreatDoorProg
import Derived.WalkKit
import Derived.Below
import Derived.Laws.BitsAllLaws
import Derived.LoopN
import Derived.KernelRfl
namespace Go.Proofs.YteefneelcgeioaaGreatDoor
open Go.RowKit Go.Maps

section
variable {F : Nat → Prop} {T0 tb bb sp sb cap mb n : Nat} {bl : List (List UInt8)} {u : List Bool} {tab : List (Option Ino)}
set_option maxRecDepth 100000 in
set_option maxHeartbeats 1000000 in
theorem im_unlink_none (k : Int) (hk : (Lit.int .i64 k).wf = true) (hx : slotI tab k = none) (er : Value) (w : World) (T : TbAt w F T0 tb bb sp sb cap mb n bl u tab) (hE : w.cell? ⟨1, 0, none⟩ = some er) :
    Calls Tryz.prog 36 #[.pointer (some ⟨tb, 0, none⟩), .int .i64 k] w fun e w' => e = .returned er ∧ w' = w := by
  obtain ⟨f, N⟩ := T.nodes
  have HF := im_find k hk w T N
  rw [N.no hx] at HF
  unfold ptrO at HF
  simp only [Option.map_none] at HF
  clear T N hk hx
  go_enter Tryz.func36, Tryz.ntmps36
  go_wp2_with (go_at_call 46; refine HF.mono ?_; rintro e w1 ⟨rfl, hw⟩; rw [hw]; clear hw)
  go_ret
  exact ⟨rfl, rfl⟩
set_option maxRecDepth 100000 in
set_option maxHeartbeats 1000000 in
theorem im_unlink (k l : Nat) (x : Ino) (hx : slotT tab k = some x) (hxl : x.links = l + 1) (hl0 : 0 < l) (hl : l ≤ 1000000) (w : World) (T : TbAt w F T0 tb bb sp sb cap mb n bl u tab) :
    Calls Tryz.prog 36 #[.pointer (some ⟨tb, 0, none⟩), .int .i64 (k : Int)] w fun e w' => e = .returned .nilIface ∧ TbAt w' F T0 tb bb sp sb cap mb n bl u (tab.set k (some { x with links := l })) ∧ TbBut T0 mb w w' := by
  obtain ⟨f, N⟩ := T.nodes
  obtain ⟨b, eb, hb, S⟩ := N.some_ k x hx
  have hkl := slotT_lt hx
  obtain ⟨_, _, _, _, _, hl1, hl2⟩ := T.low
  have HF := im_find (k : Int) (wf_nat (by omega)) w T N
  rw [atI_nat, eb] at HF
  unfold ptrO at HF
  simp only [Option.map_some] at HF
  obtain ⟨_, c1, f1, _⟩ := S.cells
  rw [hxl] at c1
  have hl3 : (0 : Int) < (l : Int) := by omega
  have HT : Hid (TbAt (w.setCell ⟨b, 1, none⟩ (.int .i64 (l : Int))) F T0 tb bb sp sb cap mb n bl u (tab.set k (some { x with links := l })) ∧ TbBut T0 mb w (w.setCell ⟨b, 1, none⟩ (.int .i64 (l : Int)))) := ⟨T.links N hx eb S _, TbBut.of_stat S hb _⟩
  clear T N S hx eb hkl hl1 hxl
  go_enter Tryz.func36, Tryz.ntmps36
  go_wp2_with (go_at_call 46; refine HF.mono ?_; rintro e w1 ⟨rfl, hw⟩; rw [hw]; clear hw)
  go_ret
  exact ⟨rfl, HT.out⟩
theorem NdAt.drop {w w' : World} {f : Nat → Option Nat} {k : Nat} {x : Ino} (N : NdAt w F T0 mb n tab f) (hx : slotT tab k = some x) (M : MpAt w' mb n (upd f k none)) (ht : Turn mpTy w w') : NdAt w' F T0 mb n (tab.set k none) (upd f k none) := by
  refine ⟨M, fun j y hy => ?_, fun j hj => ?_, fun i j b hi hj => ?_⟩
  · rw [slotT_set (slotT_lt hx)] at hy
    split at hy
    · cases hy
    · rename_i ej
      obtain ⟨b', e', hb', S'⟩ := N.some_ j y hy
      exact ⟨b', by unfold upd; rw [if_neg ej]; exact e', hb', S'.turn ht (fun _ _ => rfl) (fun _ _ => rfl)⟩
  · rw [slotT_set (slotT_lt hx)] at hj
    unfold upd
    split at hj
    · rw [if_pos (by assumption)]
    · rw [if_neg (by assumption)]; exact N.none_ j hj
  · unfold upd at hi hj
    split at hi
    · cases hi
    · split at hj
      · cases hj
      · exact N.inj i j b hi hj
theorem TbAt.drop {w w' : World} {f : Nat → Option Nat} {k : Nat} {x : Ino} (T : TbAt w F T0 tb bb sp sb cap mb n bl u tab) (N : NdAt w F T0 mb n tab f) (hx : slotT tab k = some x) (M : MpAt w' mb n (upd f k none)) (ht : Turn mpTy w w') : TbAt w' F T0 tb bb sp sb cap mb n bl u (tab.set k none) :=
  ⟨ht _ _ T.box rfl, T.disk.turn ht (fun _ _ => rfl) (fun _ _ => rfl) (fun _ _ => rfl), T.space.turn ht (fun _ _ => rfl) (fun _ _ => rfl), ⟨_, N.drop hx M ht⟩, by rw [List.length_set]; exact T.low⟩
theorem TbAt.marks {w w' : World} {u' : List Bool} (T : TbAt w F T0 tb bb sp sb cap mb n bl u tab) (S : SpAt w' sp sb cap u') (hu : u'.length = u.length) (hg : w.grownBy w' (some sb)) : TbAt w' F T0 tb bb sp sb cap mb n bl u' tab := by
  have ht := Turn.of_marks T.space hg
  obtain ⟨f, N⟩ := T.nodes
  exact ⟨ht _ _ T.box rfl, T.disk.turn ht (fun _ _ => rfl) (fun _ _ => rfl) (fun _ _ => rfl), S, ⟨f, N.turn ht (fun _ _ => rfl) (fun _ _ => rfl) (fun _ _ => rfl)⟩, by rw [hu]; exact T.low⟩
set_option maxRecDepth 100000 in
set_option maxHeartbeats 1000000 in
theorem im_unlink_last (k : Nat) (x : Ino) (eb en : Value) (hx : slotT tab k = some x) (hxl : x.links = 1) (w : World) (T : TbAt w F T0 tb bb sp sb cap mb n bl u tab) (hEb : w.cell? ⟨6, 0, none⟩ = some eb) (hEn : w.cell? ⟨1, 0, none⟩ = some en) (hgT : 6 < T0 ∧ 1 < T0)
    (hin : ∀ b ∈ x.blocks, b < u.length) (hyes : giveR u x.blocks = true) (hbl : x.blocks.length ≤ 100000) :
    Calls Tryz.prog 36 #[.pointer (some ⟨tb, 0, none⟩), .int .i64 (k : Int)] w fun e w' => e = .returned .nilIface ∧ TbAt w' F T0 tb bb sp sb cap mb n bl (markR u false x.blocks) (tab.set k none) ∧ TbBut T0 mb w w' := by
  obtain ⟨f, N⟩ := T.nodes
  obtain ⟨b, ef, hb, S⟩ := N.some_ k x hx
  have hkl := slotT_lt hx
  obtain ⟨_, _, hTm, _, hul, hl1, hl2⟩ := T.low
  have HF := im_find (k : Int) (wf_nat (by omega)) w T N
  rw [atI_nat, ef] at HF
  unfold ptrO at HF
  simp only [Option.map_some] at HF
  obtain ⟨_, c1, f1, _⟩ := S.cells
  rw [hxl] at c1
  have T1 := T.links N hx ef S 0
  have B1 : TbBut T0 mb w (w.setCell ⟨b, 1, none⟩ (.int .i64 ((0 : Nat) : Int))) := TbBut.of_stat S hb _
  have N1 := N.links hx ef S 0
  have S1 := S.links 0
  have hx1 : slotT (tab.set k (some { x with links := 0 })) k = some { x with links := 0 } := by rw [slotT_set hkl, if_pos rfl]
  obtain ⟨w2, hdel, M2, g2⟩ := N1.map.del (k := k) (wf_nat (by omega)) 0
  have t2 := Turn.of_map N1.map g2
  have T2 := T1.drop N1 hx1 M2 t2
  rw [List.set_set] at T2
  have B2 := B1.trans (TbBut.of_map N1.map hTm g2)
  have S2 := S1.turn t2 (fun _ _ => rfl) (fun _ _ => rfl)
  obtain ⟨_, _, _, _, _, v, c3, iv⟩ := S2.cells
  have cE : ∀ (g : Nat) (e : Value), g < T0 → w.cell? ⟨g, 0, none⟩ = some e → w2.cell? ⟨g, 0, none⟩ = some e := fun g e hg h => by
    cases ho : w.heap[g]? with
    | none => simp [World.cell?, ho] at h
    | some o => rw [B2.cell ho (.inl hg)]; exact h
  obtain ⟨c20, c21, c22⟩ := T2.cells
  obtain ⟨_, _, c2⟩ := T.cells
  have htb : tb ≠ b := fun e => by
    obtain ⟨v', hb', _⟩ := S
    have := T.box
    rw [e, hb'] at this
    simp only [Option.some.injEq, Obj.cells.injEq] at this
    exact absurd this.2.1 (by decide)
  have hbt : ¬ b = tb := fun e => htb e.symm
  have hd : (Builtin.delete_ #[100, 3] 0 #[.map (some mb), .int .i64 (k : Int)]).run Tryz.prog (w.setCell ⟨b, 1, none⟩ (.int .i64 0)) = .ok (.tuple #[]) w2 := hdel
  have c1' : w.cell? ⟨b, 1, none⟩ = some (.int .i64 1) := c1
  have HG : Hid (∀ W, W = w2.drew → Calls Tryz.prog 65 #[.pointer (some ⟨sp, 0, none⟩), v] W fun e w' => e = .returned .nilIface ∧ TbAt w' F T0 tb bb sp sb cap mb n bl (markR u false x.blocks) (tab.set k none) ∧ TbBut T0 mb w w' ∧ (w'.cell? ⟨tb, 1, none⟩ = some (.pointer (some ⟨sp, 0, none⟩)) ∧ w'.cell? ⟨b, 3, none⟩ = some v)) := fun W hW => by
    have hbd : Below w2.heap.size w2 W := by rw [hW]; exact (Below.refl _ _).drew
    have TW := T2.below hbd
    refine (sp_give v x.blocks eb en W TW.space hul (iv.below hbd) hbl (by rw [hW]; exact cE _ _ hgT.1 hEb) (by rw [hW]; exact cE _ _ hgT.2 hEn) hin hyes).mono ?_
    rintro e w' ⟨rfl, hS, hg⟩
    have T3 := TW.marks hS (markR_len _ _ _) hg
    have S3 := (S2.turn (Turn.of_below (p := fun _ => false) hbd) (fun _ _ => rfl) (fun _ _ => rfl)).turn (Turn.of_marks TW.space hg) (fun _ _ => rfl) (fun _ _ => rfl)
    refine ⟨rfl, T3, (B2.trans (TbBut.of_below hbd)).trans (TbBut.of_marks TW.space TW.low.2.1 hg), T3.cells.2.1, ?_⟩
    have hk3 : w'.heap[b]? = w2.heap[b]? := by
      obtain ⟨v', hb', _⟩ := S2
      rw [hb']
      exact Turn.of_marks TW.space hg _ _ (by rw [hbd.block _ (Array.getElem?_eq_some_iff.1 hb').1]; exact hb') rfl
    rw [World.cell?_of_block hk3]; exact c3
  have HS8 : Hid (∀ W, W = w2.drew → (W.cell? ⟨tb, 1, none⟩ = some (.pointer (some ⟨sp, 0, none⟩)) ∧ W.cell? ⟨b, 3, none⟩ = some v)) := fun W hW => by rw [hW]; exact ⟨c21, c3⟩
  clear T N S T1 N1 S1 hx hx1 M2 t2 T2 S2 g2 ef hkl hl1 hxl B1 B2 cE iv hin hyes hEb hEn c20 c21 c22 c3 hdel c1
  go_enter Tryz.func36, Tryz.ntmps36
  go_wp2_with (go_at_call 46; refine HF.mono ?_; rintro e w1 ⟨rfl, hw⟩; rw [hw]; clear hw)
  refine wp_region_held_drew (S := fun w' => w'.cell? ⟨tb, 1, none⟩ = some (.pointer (some ⟨sp, 0, none⟩)) ∧ w'.cell? ⟨b, 3, none⟩ = some v) (by kernel_rfl) (HS8.out _ rfl) (fun hHeld => ?_)
  refine wpAnyH_take (i := 0) (v := (.pointer (some ⟨tb, 0, none⟩))) rfl (by kernel_rfl) (by kernel_rfl) (by kernel_rfl) (fun _ _ _ h => h) (Or.inl ⟨by rfl, ?_⟩) hHeld ?_
  · intro w hSw; (try dsimp only at hSw); simp only [List.getElem_toArray, List.getElem_cons_zero]; go_simp
  simp only [List.getElem_toArray, List.getElem_cons_zero, Act.put, List.setIfInBounds_toArray, List.set_cons_zero, List.set_cons_succ]
  refine wpAnyH_take (i := 1) (v := (.pointer (some ⟨tb, 0, none⟩))) rfl (by kernel_rfl) (by kernel_rfl) (by kernel_rfl) (fun _ _ _ h => h) (Or.inl ⟨by rfl, ?_⟩) hHeld ?_
  · intro w hSw; (try dsimp only at hSw); simp only [List.getElem_toArray, List.getElem_cons_zero, List.getElem_cons_succ]; go_simp
  simp only [List.getElem_toArray, List.getElem_cons_zero, List.getElem_cons_succ, Act.put, List.setIfInBounds_toArray, List.set_cons_zero, List.set_cons_succ]
  refine wpAnyH_take (i := 2) (v := (.pointer (some ⟨tb, 1, none⟩))) rfl (by kernel_rfl) (by kernel_rfl) (by kernel_rfl) (fun _ _ _ h => h) (Or.inl ⟨by rfl, ?_⟩) hHeld ?_
  · intro w hSw; (try dsimp only at hSw); simp only [List.getElem_toArray, List.getElem_cons_zero, List.getElem_cons_succ]; go_simp
  simp only [List.getElem_toArray, List.getElem_cons_zero, List.getElem_cons_succ, Act.put, List.setIfInBounds_toArray, List.set_cons_zero, List.set_cons_succ]
  refine wpAnyH_take (i := 3) (v := (.pointer (some ⟨sp, 0, none⟩))) rfl (by kernel_rfl) (by kernel_rfl) (by kernel_rfl) (fun _ _ _ h => h) (Or.inl ⟨by rfl, ?_⟩) hHeld ?_
  · intro w hSw; (try dsimp only at hSw); simp only [List.getElem_toArray, List.getElem_cons_zero, List.getElem_cons_succ]; go_simp
  simp only [List.getElem_toArray, List.getElem_cons_zero, List.getElem_cons_succ, Act.put, List.setIfInBounds_toArray, List.set_cons_zero, List.set_cons_succ]
  refine wpAnyH_take (i := 4) (v := (.pointer (some ⟨b, 0, none⟩))) rfl (by kernel_rfl) (by kernel_rfl) (by kernel_rfl) (fun _ _ _ h => h) (Or.inl ⟨by rfl, ?_⟩) hHeld ?_
  · intro w hSw; (try dsimp only at hSw); simp only [List.getElem_toArray, List.getElem_cons_zero, List.getElem_cons_succ]; go_simp
  simp only [List.getElem_toArray, List.getElem_cons_zero, List.getElem_cons_succ, Act.put, List.setIfInBounds_toArray, List.set_cons_zero, List.set_cons_succ]
  refine wpAnyH_take (i := 5) (v := (.pointer (some ⟨b, 0, none⟩))) rfl (by kernel_rfl) (by kernel_rfl) (by kernel_rfl) (fun _ _ _ h => h) (Or.inl ⟨by rfl, ?_⟩) hHeld ?_
  · intro w hSw; (try dsimp only at hSw); simp only [List.getElem_toArray, List.getElem_cons_zero, List.getElem_cons_succ]; go_simp
  simp only [List.getElem_toArray, List.getElem_cons_zero, List.getElem_cons_succ, Act.put, List.setIfInBounds_toArray, List.set_cons_zero, List.set_cons_succ]
  refine wpAnyH_take (i := 6) (v := (.pointer (some ⟨b, 3, none⟩))) rfl (by kernel_rfl) (by kernel_rfl) (by kernel_rfl) (fun _ _ _ h => h) (Or.inl ⟨by rfl, ?_⟩) hHeld ?_
  · intro w hSw; (try dsimp only at hSw); simp only [List.getElem_toArray, List.getElem_cons_zero, List.getElem_cons_succ]; go_simp
  simp only [List.getElem_toArray, List.getElem_cons_zero, List.getElem_cons_succ, Act.put, List.setIfInBounds_toArray, List.set_cons_zero, List.set_cons_succ]
  refine wpAnyH_take (i := 7) (v := v) rfl (by kernel_rfl) (by kernel_rfl) (by kernel_rfl) (fun _ _ _ h => h) (Or.inl ⟨by rfl, ?_⟩) hHeld ?_
  · intro w hSw; (try dsimp only at hSw); simp only [List.getElem_toArray, List.getElem_cons_zero, List.getElem_cons_succ]; go_simp
  simp only [List.getElem_toArray, List.getElem_cons_zero, List.getElem_cons_succ, Act.put, List.setIfInBounds_toArray, List.set_cons_zero, List.set_cons_succ]
  refine wpAnyH_ready (rs := [8]) (by kernel_rfl) (by simp) ?_
  refine AllReadyH.cons rfl (fun K' hK => ?_) AllReadyH.nil
  simp only [List.getElem_toArray, List.getElem_cons_zero, List.getElem_cons_succ]
  go_simp
  refine Calls.mono (HG.out _ rfl) ?_
  rintro e wx ⟨rfl, h1, h2, h3⟩
  have HT3 : Hid _ := h1
  have HB3 : Hid _ := h2
  clear h1 h2
  go_wp2_with fail
  refine hK.out _ _ (h3) (fun hHeld' => ?_)
  clear hK K' hHeld
  have hHeld := hHeld'
  clear hHeld'
  refine wpAnyH_take (i := 9) (v := (.nilIface)) rfl (by kernel_rfl) (by kernel_rfl) (by kernel_rfl) (fun _ _ _ h => h) (Or.inl ⟨by rfl, ?_⟩) hHeld ?_
  · intro w hSw; (try dsimp only at hSw); simp only [List.getElem_toArray, List.getElem_cons_zero, List.getElem_cons_succ]; go_simp
  simp only [List.getElem_toArray, List.getElem_cons_zero, List.getElem_cons_succ, Act.put, List.setIfInBounds_toArray, List.set_cons_zero, List.set_cons_succ]
  refine wpAnyH_done (by kernel_rfl) ?_ _
  go_wp2_with fail
  go_ret
  exact ⟨rfl, HT3.out, HB3.out⟩
set_option maxRecDepth 100000 in
set_option maxHeartbeats 1000000 in
theorem im_stat_none (k : Int) (hk : (Lit.int .i64 k).wf = true) (hx : slotI tab k = none) (w : World) (T : TbAt w F T0 tb bb sp sb cap mb n bl u tab) :
    Calls Tryz.prog 20 #[.pointer (some ⟨tb, 0, none⟩), .int .i64 k] w fun e w' => e = .returned (.tuple #[.agg #[.int .i64 0, .int .i64 0, .bool false, .slice none 0 0, .int .u32 0], .bool false]) ∧ Below w.heap.size w w' := by
  obtain ⟨f, N⟩ := T.nodes
  have HF : Hid (∀ W, Below w.heap.size w W → Calls Tryz.prog 46 #[.pointer (some ⟨tb, 0, none⟩), .int .i64 k] W fun e w' => e = .returned (.pointer none) ∧ w' = W) := fun W hW => by
    have := im_find k hk W (T.below hW) (N.turn (Turn.of_below (p := fun _ => false) hW) (fun _ _ => rfl) (fun _ _ => rfl) (fun _ _ => rfl))
    rw [N.no hx] at this
    exact this
  clear T N hk hx
  go_enter Tryz.func20, Tryz.ntmps20
  go_wp2_with (go_at_call 46; refine (HF.out _ ((Below.refl _ w).alloc (Nat.le_refl _) _)).mono ?_; rintro e w1 ⟨rfl, hw⟩; rw [hw]; clear hw)
  refine bodyPost_ret (v := .tuple #[.agg #[.int .i64 0, .int .i64 0, .bool false, .slice none 0 0, .int .u32 0], .bool false]) (by simp [results, Tryz.results20, go_sem]) rfl ?_
  exact ⟨rfl, (Below.refl _ w).alloc (Nat.le_refl _) _⟩
set_option maxRecDepth 100000 in
set_option maxHeartbeats 1000000 in
theorem im_stat (k : Nat) (x : Ino) (hx : slotT tab k = some x) (hbl : x.blocks.length ≤ 100000) (w : World) (T : TbAt w F T0 tb bb sp sb cap mb n bl u tab) :
    Calls Tryz.prog 20 #[.pointer (some ⟨tb, 0, none⟩), .int .i64 (k : Int)] w fun e w' => ∃ v, e = .returned (.tuple #[.agg #[.int .i64 (x.bytes : Int), .int .i64 (x.links : Int), .bool x.exec, v, .int .u32 (x.sum : Int)], .bool true]) ∧ IntsT w' v (ints x.blocks) ∧ Below w.heap.size w w' := by
  obtain ⟨f, N⟩ := T.nodes
  obtain ⟨b, eb, hb, S⟩ := N.some_ k x hx
  have hkl := slotT_lt hx
  obtain ⟨_, _, _, _, _, hl1, hl2⟩ := T.low
  have HF : Hid (∀ W, Below w.heap.size w W → Calls Tryz.prog 46 #[.pointer (some ⟨tb, 0, none⟩), .int .i64 (k : Int)] W fun e w' => e = .returned (.pointer (some ⟨b, 0, none⟩)) ∧ w' = W) := fun W hW => by
    have := im_find (k : Int) (wf_nat (by omega)) W (T.below hW) (N.turn (Turn.of_below (p := fun _ => false) hW) (fun _ _ => rfl) (fun _ _ => rfl) (fun _ _ => rfl))
    rw [atI_nat, eb] at this
    exact this
  obtain ⟨c0, c1, _, c2, c4, v, c3, iv⟩ := S.cells
  obtain ⟨ad, vc, rfl⟩ : ∃ ad vc, v = .slice ad (ints x.blocks).length vc := by obtain ⟨ad, vc, e, _⟩ := iv; exact ⟨ad, vc, e⟩
  have hlt : b < w.heap.size := by obtain ⟨_, h, _⟩ := S; exact (Array.getElem?_eq_some_iff.1 h).1
  have HC : Hid (∀ W, Below w.heap.size w W → Calls Tryz.prog 47 #[.slice ad (ints x.blocks).length vc] W fun e w' => ∃ v', e = .returned v' ∧ IntsT w' v' (ints x.blocks) ∧ Below W.heap.size W w') := fun W hW =>
    (cloneI_any _ (ints x.blocks) W (iv.below hW).at (by rw [ints_len]; exact hbl)).mono fun e w' ⟨v', he, ho, hb'⟩ => ⟨v', he, IntsT.of_owns ho, hb'⟩
  clear T N S hx eb hkl hl1 iv
  go_enter Tryz.func20, Tryz.ntmps20
  go_wp2_with (first
    | (go_at_call 46; refine (HF.out _ ((Below.refl _ w).alloc (Nat.le_refl _) _)).mono ?_; rintro e w1 ⟨rfl, hw⟩; rw [hw]; clear hw))
  refine Calls.mono (HC.out _ (((Below.refl _ w).alloc (Nat.le_refl _) _).alloc (by simp) _)) ?_
  rintro e w2 ⟨v', rfl, iv', hb2⟩
  obtain ⟨ad', vc', rfl⟩ : ∃ ad' vc', v' = .slice ad' (ints x.blocks).length vc' := by obtain ⟨a, c, e, _⟩ := iv'; exact ⟨a, c, e⟩
  have r1 : w2.heap[w.heap.size + 1]? = some (.cells #[.int .i64 (x.bytes : Int), .int .i64 (x.links : Int), .bool x.exec, .slice ad (ints x.blocks).length vc, .int .u32 (x.sum : Int)] 54 (0, 0)) := by
    rw [hb2.block _ (by simp)]
    have h := heap_alloc_last (w.alloc (.cells #[.int .i64 0, .int .i64 0, .bool false, .slice none 0 0, .int .u32 0] 54)) (.cells #[.int .i64 (x.bytes : Int), .int .i64 (x.links : Int), .bool x.exec, .slice ad (ints x.blocks).length vc, .int .u32 (x.sum : Int)] 54)
    rw [World.size_alloc] at h
    exact h
  have r0 : w2.heap[w.heap.size]? = some (.cells #[.int .i64 0, .int .i64 0, .bool false, .slice none 0 0, .int .u32 0] 54 (0, 0)) := by
    rw [hb2.block _ (by simp; omega), Below.heap_alloc _ _ _ (by simp), heap_alloc_last]
  have HB : Hid (Below w.heap.size w w2) := (((Below.refl _ w).alloc (Nat.le_refl _) (.cells #[.int .i64 0, .int .i64 0, .bool false, .slice none 0 0, .int .u32 0] 54)).alloc (by simp) _).trans (hb2.mono (by simp; omega))
  have HIV : Hid _ := iv'
  have HR : Hid (∀ (b : Nat) (cur : Array Value), w2.heap[b]? = some (.cells cur 3 (0, 0)) → b ≠ w.heap.size ∧ b ≠ w.heap.size + 1) := fun b cur hb => ⟨fun e => by rw [e, r0] at hb; simp only [Option.some.injEq, Obj.cells.injEq] at hb; exact absurd hb.2.1 (by decide), fun e => by rw [e, r1] at hb; simp only [Option.some.injEq, Obj.cells.injEq] at hb; exact absurd hb.2.1 (by decide)⟩
  have q0 : w2.cell? ⟨w.heap.size + 1, 0, none⟩ = some (.int .i64 (x.bytes : Int)) := by rw [cell_of_row _ _ _ _ _ _ r1]; rfl
  have q1 : w2.cell? ⟨w.heap.size + 1, 1, none⟩ = some (.int .i64 (x.links : Int)) := by rw [cell_of_row _ _ _ _ _ _ r1]; rfl
  have q2 : w2.cell? ⟨w.heap.size + 1, 2, none⟩ = some (.bool x.exec) := by rw [cell_of_row _ _ _ _ _ _ r1]; rfl
  have q3 : w2.cell? ⟨w.heap.size + 1, 3, none⟩ = some (.slice ad (ints x.blocks).length vc) := by rw [cell_of_row _ _ _ _ _ _ r1]; rfl
  have q4 : w2.cell? ⟨w.heap.size + 1, 4, none⟩ = some (.int .u32 (x.sum : Int)) := by rw [cell_of_row _ _ _ _ _ _ r1]; rfl
  have g3 : w2.frozen? ⟨w.heap.size + 1, 3, none⟩ = false := by simp [World.frozen?, r1]
  have p0 : w2.cell? ⟨w.heap.size, 0, none⟩ = some (.int .i64 0) := by rw [cell_of_row _ _ _ _ _ _ r0]; rfl
  have p1 : w2.cell? ⟨w.heap.size, 1, none⟩ = some (.int .i64 0) := by rw [cell_of_row _ _ _ _ _ _ r0]; rfl
  have p2 : w2.cell? ⟨w.heap.size, 2, none⟩ = some (.bool false) := by rw [cell_of_row _ _ _ _ _ _ r0]; rfl
  have p3 : w2.cell? ⟨w.heap.size, 3, none⟩ = some (.slice none 0 0) := by rw [cell_of_row _ _ _ _ _ _ r0]; rfl
  have p4 : w2.cell? ⟨w.heap.size, 4, none⟩ = some (.int .u32 0) := by rw [cell_of_row _ _ _ _ _ _ r0]; rfl
  have fz : ∀ i, w2.frozen? ⟨w.heap.size, i, none⟩ = false := fun i => by simp [World.frozen?, r0]
  have f0 := fz 0
  have f1 := fz 1
  have f2 := fz 2
  have f3 := fz 3
  have f4 := fz 4
  clear r0 r1 iv' hb2 fz
  go_wp2_with fail
  refine bodyPost_ret (v := .tuple #[.agg #[.int .i64 (x.bytes : Int), .int .i64 (x.links : Int), .bool x.exec, .slice ad' (ints x.blocks).length vc', .int .u32 (x.sum : Int)], .bool true]) (by simp [results, Tryz.results20, go_sem, p0, p1, p2, p3, p4]) rfl ?_
  refine ⟨_, rfl, IntsT.keep HIV.out fun b cur hb => ?_, (((((HB.out.setCell (by simp) _).setCell (by simp) _).setCell (by simp) _).setCell (by simp) _).setCell (by simp) _).setCell (by simp) _⟩
  obtain ⟨h0, h1⟩ := HR.out b cur hb
  rw [Below.heap_setCell _ _ _ _ h0, Below.heap_setCell _ _ _ _ h0, Below.heap_setCell _ _ _ _ h0, Below.heap_setCell _ _ _ _ h0, Below.heap_setCell _ _ _ _ h0, Below.heap_setCell _ _ _ _ h1]
end
end Go.Proofs.YteefneelcgeioaaGreatDoor
namespace Go.Proofs.YteefneelcgeioaaGreatDoor
set_option maxHeartbeats 1000000
set_option maxRecDepth 100000
open Go.RowKit

def crcBit (s:Nat):Nat:=if s &&& 1=1 then (s / 2) ^^^ 3988292384 else s / 2
def crcN:Nat->Nat->Nat
 | 0,s=>s
 | k+1,s=>crcBit (crcN k s)
theorem crcBit_lt {s:Nat} (h:s<4294967296):crcBit s<4294967296:=by
 unfold crcBit
 split
 ·exact Nat.xor_lt_two_pow (n:=32) (by omega) (by decide)
 ·omega
theorem crcN_lt {s:Nat} (h:s<4294967296):∀k,crcN k s<4294967296
 | 0=>h
 | k+1=>crcBit_lt (crcN_lt h k)

theorem divide_any (s:Nat) (hs:s<4294967296) (w:World):Calls Tryz.prog 82 #[.int .u32 (s:Int)] w fun e w'=>e = .returned (.int .u32 (crcN 8 s:Nat))/\w'=w:=by
 go_enter Tryz.func82,Tryz.ntmps82
 go_wp2_with fail
 go_loopw [0,4] (fun p i wr=>∃k x:Nat,k<=8/\i = .int .i64 k/\p = .int .u32 (x:Int)/\Hid (x=crcN k s)/\wr=w) (fun _ i _=>8-(intOf i).toNat)
 case atStart=>exact ⟨0,s,by omega,rfl,rfl,rfl,rfl⟩
 case round =>
  obtain ⟨k,x,hk,rfl,rfl,HX,rfl⟩:=hrel
  have hlt:x<4294967296:=by rw [HX.out];exact crcN_lt hs k
  have hn:crcN (k+1) s=crcBit x:=by rw [HX.out];rfl
  have e1:bits .and .u32 (x:Int) 1=((x &&& 1:Nat):Int):=u32_and_nat x 1 hlt (by omega)
  have e2:bits .xor .u32 ((x:Int) / 2) 3988292384=((x / 2 ^^^ 3988292384:Nat):Int):=u32_xor_nat (x / 2) 3988292384 (by omega) (by omega)
  by_cases hk8:k<8
  ·by_cases hb:x &&& 1=1
   ·have hb':(bits .and .u32 (x:Int) 1==1)=true:=by rw [e1,hb];rfl
    clear e1
    have HE:Hid (bits .xor .u32 ((x:Int) / 2) 3988292384=((x / 2 ^^^ 3988292384:Nat):Int)):=e2
    clear e2
    go_wp2_with fail
    refine ⟨⟨k+1,x / 2 ^^^ 3988292384,by omega,by simp,by rw [HE.out],?_,trivial⟩,by simp [intOf];omega⟩
    show _=_
    rw [hn,crcBit,if_pos hb]
   ·have hb':(bits .and .u32 (x:Int) 1==1)=false:=by
     rw [e1]
     refine beq_eq_false_iff_ne.2 fun h=>hb ?_
     omega
    clear e1 e2
    go_wp2_with fail
    refine ⟨⟨k+1,x / 2,by omega,by simp,by simp,?_,trivial⟩,by simp [intOf];omega⟩
    show _=_
    rw [hn,crcBit,if_neg hb]
  ·obtain rfl:k=8:=by omega
   clear e1 e2
   go_wp2_with fail
   go_ret
   exact ⟨by rw [HX.out];rfl,rfl⟩

def crcL (s:ByteArray):Nat->Nat
 | 0=>4294967295
 | k+1=>crcN 8 (crcL s k ^^^ (s.data[k]?.getD 0).toNat)
def crcR (s:ByteArray):Nat:=4294967295 ^^^ crcL s s.size
theorem crcL_lt (s:ByteArray):∀k,crcL s k<4294967296
 | 0=>by simp [crcL]
 | k+1=>by
  refine crcN_lt (Nat.xor_lt_two_pow (n:=32) (crcL_lt s k) ?_) 8
  have:=(s.data[k]?.getD 0).toNat_lt
  omega

theorem sum_any (s:ByteArray) (hs:s.size<=1000000) (w:World):Calls Tryz.prog 53 #[.string s] w fun e w'=>e = .returned (.int .u32 (crcR s:Nat))/\w'=w:=by
 go_enter Tryz.func53,Tryz.ntmps53
 go_wp2_with fail
 go_loopw [3,7] (fun p i wr=>∃k x:Nat,k<=s.size/\i = .int .i64 k/\p = .int .u32 (x:Int)/\Hid (x=crcL s k)/\wr=w) (fun _ i _=>s.size-(intOf i).toNat)
 case atStart=>exact ⟨0,4294967295,Nat.zero_le _,rfl,rfl,rfl,rfl⟩
 case round =>
  obtain ⟨k,x,hk,rfl,rfl,HX,rfl⟩:=hrel
  have hlt:x<4294967296:=by rw [HX.out];exact crcL_lt s k
  by_cases hks:k<s.size
  ·have hc':Hid (s.data[k]?.getD 0=s[k]):=by
    show _=_
    rw [Array.getElem?_eq_getElem (show k<s.data.size from hks)];rfl
   have hu:=s[k].toNat_lt
   have e2:bits .xor .u32 (x:Int) (s[k].toNat:Int)=((x ^^^ s[k].toNat:Nat):Int):=u32_xor_nat x s[k].toNat hlt (by omega)
   have hl2:x ^^^ s[k].toNat<4294967296:=Nat.xor_lt_two_pow (n:=32) hlt (by omega)
   have HC:=divide_any (x ^^^ s[k].toNat) hl2
   have HN:Hid (crcL s (k+1)=crcN 8 (x ^^^ s[k].toNat)):=by show _=_;rw [HX.out,<-hc'.out];rfl
   clear hl2
   go_wp2_with (go_at_call 82;refine (HC _).mono ?_;rintro e w' ⟨rfl,rfl⟩)
   refine ⟨⟨k+1,_,by omega,by simp,rfl,?_,trivial⟩,by simp [intOf];omega⟩
   exact HN.out.symm
  ·obtain rfl:k=s.size:=by omega
   have e3:Hid (bits .xor .u32 IntKind.u32.max (x:Int)=((4294967295 ^^^ x:Nat):Int)):=u32_xor_nat 4294967295 x (by omega) hlt
   go_wp2_with fail
   go_ret
   refine ⟨?_,rfl⟩
   show Ending.returned (Value.int IntKind.u32 (bits BinOp.xor IntKind.u32 IntKind.u32.max ↑x))=_
   rw [e3.out,crcR,HX.out]

def zerosB (n:Nat):ByteArray:=⟨(List.replicate n (0:UInt8)).toArray⟩
theorem zerosB_succ (n:Nat):zerosB (n+1)=zerosB n++⟨#[0]⟩:=by
 apply ByteArray.ext
 rw [ByteArray.data_append]
 show (List.replicate (n+1) (0:UInt8)).toArray=(List.replicate n (0:UInt8)).toArray ++ #[0]
 rw [List.replicate_succ'];apply Array.ext';simp

end Go.Proofs.YteefneelcgeioaaGreatDoor
