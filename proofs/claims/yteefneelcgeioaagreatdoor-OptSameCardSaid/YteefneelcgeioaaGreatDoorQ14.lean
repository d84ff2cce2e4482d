/-
  The contract of dirs' empty: it makes an inode of each file of a tree, which keeps its place alone.
  The contract of dirs' empty: it makes an inode of each file of a tree, which keeps its place alone.
  Conditions: those that each states.
-/
import Derived.Test.YteefneelcgeioaaGreatDoorQ13
namespace Go.Proofs.YteefneelcgeioaaGreatDoor
open Go.RowKit Go.Maps

/-- What an empty is about. -/
structure EmpC where
  T0 : Nat
  tb : Nat
  bb : Nat
  sp : Nat
  sb : Nat
  cap : Nat
  mb : Nat
  n0 : Nat
  N : Nat
  dp : Nat
  m1 : Nat
  m2 : Nat
  nx : Int
  c1 : Nat
  c2 : Nat
  fm : Nat
  s0 : TSt
  er : Value
  all : List (ByteArray × Tree)
/-- A file that keeps its place alone. -/
def bareF : Tree := ⟨{ data := #[102, 105, 108, 101] }, { data := #[] }, false, []⟩
structure EmpJ (C : EmpC) (w0 : World) (r : List (ByteArray × Tree)) (w : World) : Prop where
  ex : ∃ dn, dn ++ r = C.all ∧ TbAt w (fun _ => False) C.T0 C.tb C.bb C.sp C.sb C.cap C.mb (C.n0 + dn.length) (mkL C.s0 dn).bl (mkL C.s0 dn).u (mkL C.s0 dn).tab ∧ SInv C.N (mkL C.s0 dn).bl (mkL C.s0 dn).u (mkL C.s0 dn).tab ∧ MapV w 9 C.fm dn.length (fmap (inoL C.s0 dn)) ∧ needL r ≤ (freeR (mkL C.s0 dn).u).length
  fr : DFr C.T0 C.mb w0 w
  b1 : w.heap[C.c1]? = some (.cells #[.pointer (some ⟨C.dp, 0, none⟩)] 25 (0, 0))
  b2 : w.heap[C.c2]? = some (.cells #[.map (some C.fm)] 81 (0, 0))
  bd : w.heap[C.dp]? = some (.cells #[.pointer (some ⟨C.tb, 0, none⟩), .map (some C.m1), .map (some C.m2), .int .i64 C.nx] 79 (0, 0))
  eg : w.cell? ⟨6, 0, none⟩ = some C.er
  sz : ∀ x ∈ C.all, x.2.data.size ≤ 2000 ∧ x.1.size ≤ maxLen
  lim : C.n0 + C.all.length ≤ 50000 ∧ 6 < C.T0 ∧ C.T0 ≤ w0.heap.size ∧ w0.heap.size ≤ C.fm ∧ C.fm ≠ C.mb ∧ (∃ cs ty, w.heap[6]? = some (.cells cs ty (0, 0)) ∧ trTy (.cells cs ty (0, 0)) = false)
theorem keyStr : Keyed Tryz.prog 9 := string_keyed Tryz.underlying9
set_option maxRecDepth 100000 in
set_option maxHeartbeats 2000000 in
theorem empty_visit (C : EmpC) (w0 : World) : EVisit Tryz.prog 63 #[.pointer (some ⟨C.c1, 0, none⟩), .pointer (some ⟨C.c2, 0, none⟩)] 235 (fun _ _ => bareF) (EmpJ C w0) (fun _ _ => False) w0.heap.size := by
  refine ⟨fun r w J => ?_, fun p t r w b o ad cap cur J hn hR hRs hf hk hb0 => ?_⟩
  · obtain ⟨dn, e, T, S, M, hr⟩ := J.ex
    exact ⟨⟨dn, e, T.below ((Below.refl _ w).drew), S, M, hr⟩, ⟨J.fr.os, J.fr.tape, J.fr.output, J.fr.size, J.fr.block, J.fr.maps⟩, J.b1, J.b2, J.bd, J.eg, J.sz, J.lim⟩
  obtain ⟨T0, tb, bb, sp, sb, capT, mb, n0, N, dp, m1, m2, nxt, c1, c2, fm, s0, er, all⟩ := C
  obtain ⟨⟨dn, e0, T, S, M, hroom⟩, fr, b1, b2, bd, eg, sz, l1, l2, l3, l4, l5, csg, tyg, hgg, htg⟩ := J
  simp only at *
  have hmem : (p, t) ∈ all := by rw [← e0]; simp
  have hd := (sz (p, t) hmem).1
  have hps := (sz (p, t) hmem).2
  have hnl : needL ((p, t) :: r) = needN t.data.size + needL r := by simp [needL]
  rw [hnl] at hroom
  have hlen : dn.length + 1 + r.length = all.length := by rw [← e0]; simp; omega
  obtain ⟨nx, Hnx⟩ : ∃ nx, Hid (nx = nextR (mkL s0 dn).tab) := ⟨_, (rfl : _ = _)⟩
  have hTw : T0 ≤ w.heap.size := Nat.le_trans l3 fr.size
  -- what a Make leaves
  have HMK : Hid (Calls Tryz.prog 64 #[.pointer (some ⟨tb, 0, none⟩), .string t.data, .bool t.exec] w.drew fun e w' => e = .returned (.tuple #[.int .i64 (nx : Int), .nilIface]) ∧ (TbAt w' (fun _ => False) T0 tb bb sp sb capT mb (n0 + dn.length + 1) (mkL s0 (dn ++ [(p, t)])).bl (mkL s0 (dn ++ [(p, t)])).u (mkL s0 (dn ++ [(p, t)])).tab ∧ TbBut T0 mb w w')) := by
    have h := im_make t.data t.exec (bksOf (mkL s0 dn) t.data) hd rfl (by omega) (by omega) (by rw [S.lu, S.lbl]) er w.drew (T.below ((Below.refl _ w).drew)) eg l2 hTw (fun g h => h.elim)
    rw [← Hnx.out] at h
    refine h.mono fun e w' ⟨he, T', B'⟩ => ⟨he, by rw [mkL_snoc]; exact T', (TbBut.of_below (Below.refl _ w).drew).trans B'⟩
  have HSI : Hid (SInv N (mkL s0 (dn ++ [(p, t)])).bl (mkL s0 (dn ++ [(p, t)])).u (mkL s0 (dn ++ [(p, t)])).tab ∧ needL r ≤ (freeR (mkL s0 (dn ++ [(p, t)])).u).length) := by
    rw [mkL_snoc]
    refine ⟨S.make hd rfl (by show needN t.data.size ≤ (freeR (mkL s0 dn).u).length; omega), ?_⟩
    show needL r ≤ (freeR (markR (mkL s0 dn).u true ((freeR (mkL s0 dn).u).take (needN t.data.size)))).length
    rw [free_mark]; omega
  have hbt : ∀ obj, w.heap[b]? = some obj → trTy obj = true ∧ tbTy obj = false ∧ mpTy obj = false := fun obj ho => by
    rcases hR with h | h <;> rw [h] at ho <;> cases ho <;> exact ⟨rfl, rfl, rfl⟩
  have hrb : ∃ ty, w.heap[b]? = some (.cells cur ty (0, 0)) := by
    rcases hR with h | h
    · exact ⟨_, h⟩
    · exact ⟨_, h⟩
  obtain ⟨tyb, hrb⟩ := hrb
  have hb1 := (hbt _ hrb).2.1
  have hbc1 : ¬ b = c1 := fun e => by have := (hbt _ (by rw [e]; exact b1)).1; cases this
  have HS0 : Hid (w.drew.cell? ⟨c1, 0, none⟩ = some (.pointer (some ⟨dp, 0, none⟩)) ∧ w.drew.cell? ⟨dp, 0, none⟩ = some (.pointer (some ⟨tb, 0, none⟩)) ∧ w.drew.cell? ⟨b, o + 1, none⟩ = some (.string t.data) ∧ w.drew.cell? ⟨b, o + 2, none⟩ = some (.bool t.exec)) := by
    refine ⟨?_, ?_, hn.data, hn.exec⟩
    · show w.cell? _ = _; rw [cell_of_row _ _ _ _ _ _ b1]; rfl
    · show w.cell? _ = _; rw [cell_of_row _ _ _ _ _ _ bd]; rfl
  have HS1 : Hid (∀ w1, (TbAt w1 (fun _ => False) T0 tb bb sp sb capT mb (n0 + dn.length + 1) (mkL s0 (dn ++ [(p, t)])).bl (mkL s0 (dn ++ [(p, t)])).u (mkL s0 (dn ++ [(p, t)])).tab ∧ TbBut T0 mb w w1) → (w1.cell? ⟨c1, 0, none⟩ = some (.pointer (some ⟨dp, 0, none⟩)) ∧ w1.cell? ⟨dp, 0, none⟩ = some (.pointer (some ⟨tb, 0, none⟩)) ∧ w1.cell? ⟨b, o + 1, none⟩ = some (.string t.data) ∧ w1.cell? ⟨b, o + 2, none⟩ = some (.bool t.exec))) := fun w1 ⟨_, B1⟩ => by
    have r1 := B1.block _ _ b1 (.inr rfl)
    have rd := B1.block _ _ bd (.inr rfl)
    have rb := B1.block _ _ hrb (.inr hb1)
    refine ⟨by rw [cell_of_row _ _ _ _ _ _ r1]; rfl, by rw [cell_of_row _ _ _ _ _ _ rd]; rfl, ?_, ?_⟩
    · rw [World.cell?_of_block (a := ⟨b, o + 1, none⟩) (rb.trans hrb.symm)]; exact hn.data
    · rw [World.cell?_of_block (a := ⟨b, o + 2, none⟩) (rb.trans hrb.symm)]; exact hn.exec
  have HAF : Hid (∀ w1, (TbAt w1 (fun _ => False) T0 tb bb sp sb capT mb (n0 + dn.length + 1) (mkL s0 (dn ++ [(p, t)])).bl (mkL s0 (dn ++ [(p, t)])).u (mkL s0 (dn ++ [(p, t)])).tab ∧ TbBut T0 mb w w1) → w1.cell? ⟨c2, 0, none⟩ = some (.map (some fm)) ∧ ∃ w2, (Instr.mapUpdate 81 (.map (some fm)) (.string p) (.int .i64 (nx : Int))).run Tryz.prog w1 = .ok () w2 ∧ w2.there b o 4 ∧ (EmpJ ⟨T0, tb, bb, sp, sb, capT, mb, n0, N, dp, m1, m2, nxt, c1, c2, fm, s0, er, all⟩ w0 r (w2.setCells b o [.string { data := #[102, 105, 108, 101] }, .string { data := #[] }, .bool false, .slice none 0 0]) ∧ NodeC (w2.setCells b o [.string { data := #[102, 105, 108, 101] }, .string { data := #[] }, .bool false, .slice none 0 0]) b o bareF (.slice none 0 0) ∧ EFrame (fun _ => False) b o w (w2.setCells b o [.string { data := #[102, 105, 108, 101] }, .string { data := #[] }, .bool false, .slice none 0 0]))) := fun w1 ⟨T1, B1⟩ => by
    have r1 := B1.block _ _ b1 (.inr rfl)
    have r2 := B1.block _ _ b2 (.inr rfl)
    have rd := B1.block _ _ bd (.inr rfl)
    have rb := B1.block _ _ hrb (.inr hb1)
    obtain ⟨es, cl, hfm⟩ := M.obj
    have rf := B1.maps _ _ hfm rfl l5
    have M1 : MapV w1 9 fm dn.length (fmap (inoL s0 dn)) := M.keep (rf.trans hfm.symm)
    obtain ⟨w2, hrun, M2, g2, z2⟩ := M1.put keyStr Tryz.underlying81 (by unfold maxLen; omega) (WideMaps.keyOf_string_mk Tryz.underlying9 hps) trivial (.int .i64 (nx : Int))
    have hfl : fm < w1.heap.size := (Array.getElem?_eq_some_iff.1 rf).1
    have hk2 : ∀ k ob, w1.heap[k]? = some ob → k ≠ fm → w2.heap[k]? = some ob := fun k ob hk hne => by rw [g2.block k (Array.getElem?_eq_some_iff.1 hk).1 (fun e => hne (Option.some.inj e))]; exact hk
    have hcf : ∀ k cs ty, w1.heap[k]? = some (Obj.cells cs ty (0, 0)) → k ≠ fm := fun k cs ty hk e => by rw [e, rf] at hk; cases hk
    have rb2 := hk2 _ _ rb (hcf _ _ _ rb)
    have hth : w2.there b o 4 := there_row rb2 hRs
    obtain ⟨nC, nF, nG⟩ := node_store rb2 hRs bareF (.slice none 0 0) (fun _ => False)
    have hk3 : ∀ k ob, w2.heap[k]? = some ob → k ≠ b → (w2.setCells b o [.string { data := #[102, 105, 108, 101] }, .string { data := #[] }, .bool false, .slice none 0 0]).heap[k]? = some ob := fun k ob hk hne => by rw [block_setCells hne]; exact hk
    have nC : NodeC (w2.setCells b o [.string { data := #[102, 105, 108, 101] }, .string { data := #[] }, .bool false, .slice none 0 0]) b o bareF (.slice none 0 0) := nC
    have nF : EFrame (fun _ => False) b o w2 (w2.setCells b o [.string { data := #[102, 105, 108, 101] }, .string { data := #[] }, .bool false, .slice none 0 0]) := nF
    have nG : w2.grownBy (w2.setCells b o [.string { data := #[102, 105, 108, 101] }, .string { data := #[] }, .bool false, .slice none 0 0]) (some b) := nG
    refine ⟨by rw [cell_of_row _ _ _ _ _ _ r2]; rfl, w2, hrun, hth, ?_⟩
    generalize w2.setCells b o [.string { data := #[102, 105, 108, 101] }, .string { data := #[] }, .bool false, .slice none 0 0] = w3 at *
    have hnb : ∀ k cs ty, w1.heap[k]? = some (Obj.cells cs ty (0, 0)) → trTy (Obj.cells cs ty (0, 0)) = false → w3.heap[k]? = some (Obj.cells cs ty (0, 0)) := fun k cs ty hk htr => hk3 k _ (hk2 k _ hk (hcf k cs ty hk)) (fun e => by rw [e, rb] at hk; cases hk; rw [(hbt _ hrb).1] at htr; cases htr)
    have T3 := (T1.but1 hk2 l5 (fun ob ho => by rw [rf] at ho; cases ho; exact .inl rfl)).but1 hk3 (fun e => by
      obtain ⟨f, Nd⟩ := T1.nodes
      obtain ⟨es2, cl2, hmb⟩ := Nd.map.obj
      rw [← e, rb] at hmb; cases hmb) (fun ob ho => by rw [rb2] at ho; cases ho; exact .inr (hbt _ hrb).1)
    have fr2 : DFr T0 mb w0 w2 := (fr.trans (DFr.of_tb B1)).one g2 (fun ob ho => by have := (Array.getElem?_eq_some_iff.1 ho).1; omega)
    refine ⟨⟨⟨dn ++ [(p, t)], by rw [← e0]; simp, ?_, HSI.out.1, ?_, HSI.out.2⟩, ?_, hnb _ _ _ r1 rfl, hnb _ _ _ r2 rfl, hnb _ _ _ rd rfl, ?_, sz, l1, l2, l3, l4, l5, csg, tyg, hnb _ _ _ (B1.block _ _ hgg (.inl l2)) htg, htg⟩, ?_, ?_⟩
    · rw [List.length_append, List.length_singleton]; exact T3
    · rw [List.length_append, List.length_singleton, inoL_snoc, fmap_snoc, ← Hnx.out]
      refine M2.keep ?_
      obtain ⟨es2, cl2, hm2⟩ := M2.obj
      rw [hm2]; exact hk3 _ _ hm2 (fun e => by rw [e, rb2] at hm2; cases hm2)
    · exact fr2.one nG (fun ob ho => by have := (Array.getElem?_eq_some_iff.1 ho).1; omega)
    · rw [World.cell?_of_block (a := ⟨6, 0, none⟩) ((hnb _ _ _ (B1.block _ _ hgg (.inl l2)) htg).trans hgg.symm)]; exact eg
    · exact nC
    · refine ⟨fun k obj h1' h2' h3' h4' => ?_, fun c ty' hc => ?_⟩
      · exact nF.tre k obj (hk2 k obj (B1.block k obj h1' (.inr (tr_tb h2'))) (fun e => by rw [e, hfm] at h1'; cases h1'; cases h2')) h2' h3' h4'
      · rw [hrb] at hc
        obtain ⟨rfl, rfl⟩ : cur = c ∧ tyb = ty' := by simpa using hc
        exact nF.blk cur tyb rb2
  show Calls Tryz.prog 63 #[.string p, .pointer (some ⟨b, o, none⟩), .pointer (some ⟨c1, 0, none⟩), .pointer (some ⟨c2, 0, none⟩)] w _
  have hkb : bareF.kids = [] := rfl
  clear T S M hroom fr b1 b2 bd eg sz l1 l2 l3 l4 l5 hgg htg hn hR hRs hbt hrb hb1 HSI hmem e0 hd hps hnl hlen hTw hf hk
  go_enter Tryz.func63, Tryz.ntmps63
  go_wp2_with fail
  refine wp_region_held_drew (S := fun w' => w'.cell? ⟨c1, 0, none⟩ = some (.pointer (some ⟨dp, 0, none⟩)) ∧ w'.cell? ⟨dp, 0, none⟩ = some (.pointer (some ⟨tb, 0, none⟩)) ∧ w'.cell? ⟨b, o + 1, none⟩ = some (.string t.data) ∧ w'.cell? ⟨b, o + 2, none⟩ = some (.bool t.exec)) (by kernel_rfl) (HS0.out) (fun hHeld => ?_)
  refine wpAnyH_take (i := 0) (v := (.pointer (some ⟨dp, 0, none⟩))) rfl (by kernel_rfl) (by kernel_rfl) (by kernel_rfl) (fun _ _ _ h => h) (Or.inl ⟨by rfl, ?_⟩) hHeld ?_
  · intro w hSw; (try dsimp only at hSw); simp only [List.getElem_toArray, List.getElem_cons_zero]; go_simp
  simp only [List.getElem_toArray, List.getElem_cons_zero, Act.put, List.setIfInBounds_toArray, List.set_cons_zero, List.set_cons_succ]
  refine wpAnyH_take (i := 1) (v := (.pointer (some ⟨dp, 0, none⟩))) rfl (by kernel_rfl) (by kernel_rfl) (by kernel_rfl) (fun _ _ _ h => h) (Or.inl ⟨by rfl, ?_⟩) hHeld ?_
  · intro w hSw; (try dsimp only at hSw); simp only [List.getElem_toArray, List.getElem_cons_zero, List.getElem_cons_succ]; go_simp
  simp only [List.getElem_toArray, List.getElem_cons_zero, List.getElem_cons_succ, Act.put, List.setIfInBounds_toArray, List.set_cons_zero, List.set_cons_succ]
  refine wpAnyH_take (i := 2) (v := (.pointer (some ⟨dp, 0, none⟩))) rfl (by kernel_rfl) (by kernel_rfl) (by kernel_rfl) (fun _ _ _ h => h) (Or.inl ⟨by rfl, ?_⟩) hHeld ?_
  · intro w hSw; (try dsimp only at hSw); simp only [List.getElem_toArray, List.getElem_cons_zero, List.getElem_cons_succ]; go_simp
  simp only [List.getElem_toArray, List.getElem_cons_zero, List.getElem_cons_succ, Act.put, List.setIfInBounds_toArray, List.set_cons_zero, List.set_cons_succ]
  refine wpAnyH_take (i := 3) (v := (.pointer (some ⟨tb, 0, none⟩))) rfl (by kernel_rfl) (by kernel_rfl) (by kernel_rfl) (fun _ _ _ h => h) (Or.inl ⟨by rfl, ?_⟩) hHeld ?_
  · intro w hSw; (try dsimp only at hSw); simp only [List.getElem_toArray, List.getElem_cons_zero, List.getElem_cons_succ]; go_simp
  simp only [List.getElem_toArray, List.getElem_cons_zero, List.getElem_cons_succ, Act.put, List.setIfInBounds_toArray, List.set_cons_zero, List.set_cons_succ]
  refine wpAnyH_take (i := 4) (v := (.pointer (some ⟨b, o, none⟩))) rfl (by kernel_rfl) (by kernel_rfl) (by kernel_rfl) (fun _ _ _ h => h) (Or.inl ⟨by rfl, ?_⟩) hHeld ?_
  · intro w hSw; (try dsimp only at hSw); simp only [List.getElem_toArray, List.getElem_cons_zero, List.getElem_cons_succ]; go_simp
  simp only [List.getElem_toArray, List.getElem_cons_zero, List.getElem_cons_succ, Act.put, List.setIfInBounds_toArray, List.set_cons_zero, List.set_cons_succ]
  refine wpAnyH_take (i := 5) (v := (.pointer (some ⟨b, o, none⟩))) rfl (by kernel_rfl) (by kernel_rfl) (by kernel_rfl) (fun _ _ _ h => h) (Or.inl ⟨by rfl, ?_⟩) hHeld ?_
  · intro w hSw; (try dsimp only at hSw); simp only [List.getElem_toArray, List.getElem_cons_zero, List.getElem_cons_succ]; go_simp
  simp only [List.getElem_toArray, List.getElem_cons_zero, List.getElem_cons_succ, Act.put, List.setIfInBounds_toArray, List.set_cons_zero, List.set_cons_succ]
  refine wpAnyH_take (i := 6) (v := (.pointer (some ⟨b, o + 1, none⟩))) rfl (by kernel_rfl) (by kernel_rfl) (by kernel_rfl) (fun _ _ _ h => h) (Or.inl ⟨by rfl, ?_⟩) hHeld ?_
  · intro w hSw; (try dsimp only at hSw); simp only [List.getElem_toArray, List.getElem_cons_zero, List.getElem_cons_succ]; go_simp
  simp only [List.getElem_toArray, List.getElem_cons_zero, List.getElem_cons_succ, Act.put, List.setIfInBounds_toArray, List.set_cons_zero, List.set_cons_succ]
  refine wpAnyH_take (i := 7) (v := (.string t.data)) rfl (by kernel_rfl) (by kernel_rfl) (by kernel_rfl) (fun _ _ _ h => h) (Or.inl ⟨by rfl, ?_⟩) hHeld ?_
  · intro w hSw; (try dsimp only at hSw); simp only [List.getElem_toArray, List.getElem_cons_zero, List.getElem_cons_succ]; go_simp
  simp only [List.getElem_toArray, List.getElem_cons_zero, List.getElem_cons_succ, Act.put, List.setIfInBounds_toArray, List.set_cons_zero, List.set_cons_succ]
  refine wpAnyH_take (i := 8) (v := (.pointer (some ⟨b, o, none⟩))) rfl (by kernel_rfl) (by kernel_rfl) (by kernel_rfl) (fun _ _ _ h => h) (Or.inl ⟨by rfl, ?_⟩) hHeld ?_
  · intro w hSw; (try dsimp only at hSw); simp only [List.getElem_toArray, List.getElem_cons_zero, List.getElem_cons_succ]; go_simp
  simp only [List.getElem_toArray, List.getElem_cons_zero, List.getElem_cons_succ, Act.put, List.setIfInBounds_toArray, List.set_cons_zero, List.set_cons_succ]
  refine wpAnyH_take (i := 9) (v := (.pointer (some ⟨b, o, none⟩))) rfl (by kernel_rfl) (by kernel_rfl) (by kernel_rfl) (fun _ _ _ h => h) (Or.inl ⟨by rfl, ?_⟩) hHeld ?_
  · intro w hSw; (try dsimp only at hSw); simp only [List.getElem_toArray, List.getElem_cons_zero, List.getElem_cons_succ]; go_simp
  simp only [List.getElem_toArray, List.getElem_cons_zero, List.getElem_cons_succ, Act.put, List.setIfInBounds_toArray, List.set_cons_zero, List.set_cons_succ]
  refine wpAnyH_take (i := 10) (v := (.pointer (some ⟨b, o + 2, none⟩))) rfl (by kernel_rfl) (by kernel_rfl) (by kernel_rfl) (fun _ _ _ h => h) (Or.inl ⟨by rfl, ?_⟩) hHeld ?_
  · intro w hSw; (try dsimp only at hSw); simp only [List.getElem_toArray, List.getElem_cons_zero, List.getElem_cons_succ]; go_simp
  simp only [List.getElem_toArray, List.getElem_cons_zero, List.getElem_cons_succ, Act.put, List.setIfInBounds_toArray, List.set_cons_zero, List.set_cons_succ]
  refine wpAnyH_take (i := 11) (v := (.bool t.exec)) rfl (by kernel_rfl) (by kernel_rfl) (by kernel_rfl) (fun _ _ _ h => h) (Or.inl ⟨by rfl, ?_⟩) hHeld ?_
  · intro w hSw; (try dsimp only at hSw); simp only [List.getElem_toArray, List.getElem_cons_zero, List.getElem_cons_succ]; go_simp
  simp only [List.getElem_toArray, List.getElem_cons_zero, List.getElem_cons_succ, Act.put, List.setIfInBounds_toArray, List.set_cons_zero, List.set_cons_succ]
  refine wpAnyH_ready (rs := [12]) (by kernel_rfl) (by simp) ?_
  refine AllReadyH.cons rfl (fun K' hK => ?_) AllReadyH.nil
  simp only [List.getElem_toArray, List.getElem_cons_zero, List.getElem_cons_succ]
  go_simp
  refine Calls.mono (HMK.out) ?_
  rintro e wx ⟨rfl, hM1⟩
  go_wp2_with fail
  refine hK.out _ _ (HS1.out _ hM1) (fun hHeld' => ?_)
  clear hK K' hHeld
  have hHeld := hHeld'
  clear hHeld'
  refine wpAnyH_take (i := 13) (v := (.tuple #[.int .i64 (nx : Int), .nilIface])) rfl (by kernel_rfl) (by kernel_rfl) (by kernel_rfl) (fun _ _ _ h => h) (Or.inl ⟨by rfl, ?_⟩) hHeld ?_
  · intro w hSw; (try dsimp only at hSw); simp only [List.getElem_toArray, List.getElem_cons_zero, List.getElem_cons_succ]; go_simp
  simp only [List.getElem_toArray, List.getElem_cons_zero, List.getElem_cons_succ, Act.put, List.setIfInBounds_toArray, List.set_cons_zero, List.set_cons_succ]
  refine wpAnyH_take (i := 14) (v := (.int .i64 (nx : Int))) rfl (by kernel_rfl) (by kernel_rfl) (by kernel_rfl) (fun _ _ _ h => h) (Or.inl ⟨by rfl, ?_⟩) hHeld ?_
  · intro w hSw; (try dsimp only at hSw); simp only [List.getElem_toArray, List.getElem_cons_zero, List.getElem_cons_succ]; go_simp
  simp only [List.getElem_toArray, List.getElem_cons_zero, List.getElem_cons_succ, Act.put, List.setIfInBounds_toArray, List.set_cons_zero, List.set_cons_succ]
  refine wpAnyH_take (i := 15) (v := .nilIface) rfl (by kernel_rfl) (by kernel_rfl) (by kernel_rfl) (fun _ _ _ h => h) (Or.inl ⟨by rfl, ?_⟩) hHeld ?_
  · intro w hSw; (try dsimp only at hSw); simp only [List.getElem_toArray, List.getElem_cons_zero, List.getElem_cons_succ]; go_simp
  simp only [List.getElem_toArray, List.getElem_cons_zero, List.getElem_cons_succ, Act.put, List.setIfInBounds_toArray, List.set_cons_zero, List.set_cons_succ]
  refine wpAnyH_ready (rs := [16]) (by kernel_rfl) (by simp) ?_
  refine AllReadyH.cons rfl (fun K' hK => ?_) AllReadyH.nil
  simp only [List.getElem_toArray, List.getElem_cons_zero, List.getElem_cons_succ]
  go_simp
  go_wp2_with fail
  refine hK.out _ _ (HS1.out _ hM1) (fun hHeld' => ?_)
  clear hK K' hHeld
  have hHeld := hHeld'
  clear hHeld'
  refine wpAnyH_ready (rs := [17]) (by kernel_rfl) (by simp) ?_
  refine AllReadyH.cons rfl (fun K' hK => ?_) AllReadyH.nil
  simp only [List.getElem_toArray, List.getElem_cons_zero, List.getElem_cons_succ]
  go_simp
  go_wp2_with fail
  refine hK.out _ _ (HS1.out _ hM1) (fun hHeld' => ?_)
  clear hK K' hHeld
  have hHeld := hHeld'
  clear hHeld'
  refine wpAnyH_done (by kernel_rfl) ?_ _
  obtain ⟨k2, w2, hrun, hth, hJ3, hN3, hF3⟩ := HAF.out wx hM1
  have HEN : Hid _ := (⟨hJ3, hN3, hF3⟩ : _ ∧ _ ∧ _)
  clear HAF HMK HS0 HS1 hM1 hJ3 hN3 hF3
  go_wp2_with (first
    | refine wpList_mapPut (by rfl) _ _ _ 81 (by rfl) (.map (some fm)) (.string p) (.int .i64 (nx : Int)) (by rfl) (by rfl) (by rfl) hrun ?_
    | refine wpList_store_mid (by rfl) 32 _ _ (by rfl) b o #[.string { data := #[102, 105, 108, 101] }, .string { data := #[] }, .bool false, .slice none 0 0] (by rfl) (by rfl) hth (by kernel_rfl) (by simp [Value.oneCell']) ?_)
  go_ret
  exact .inl ⟨rfl, HEN.out.1, ⟨none, 0, HEN.out.2.1⟩, hkb, HEN.out.2.2⟩
end Go.Proofs.YteefneelcgeioaaGreatDoor
namespace Go.Proofs.YteefneelcgeioaaGreatDoor
set_option maxHeartbeats 1000000
set_option maxRecDepth 100000
open Go.RowKit Go.Maps

def bareT (d:Nat) (t:Tree):Tree:=mapL (fun _ _=>bareF) d { data:=#[] } t
def filesT (d:Nat) (t:Tree):List (ByteArray×Tree):=filesL d { data:=#[] } t
section
variable {w0 w : World} {T0 tb bb sp sb cap mb n0 N dp m1 m2 : Nat} {nx : Int} {s0 : TSt} {er : Value} {d b : Nat} {t : Tree} {Q : Nat → Prop}
theorem empty_any (T:TbAt w (fun _=>False) T0 tb bb sp sb cap mb n0 s0.bl s0.u s0.tab) (S:SInv N s0.bl s0.u s0.tab) (hroom:needL (filesT d t)<=(freeR s0.u).length)
  (bd:w.heap[dp]? = some (.cells #[.pointer (some ⟨tb,0,none⟩),.map (some m1),.map (some m2),.int .i64 nx] 79 (0,0)))
  (hT:TreeIn w Q d b 0 t) (hr:∃cur,w.heap[b]? = some (.cells cur 32 (0,0))/\4<=cur.size) (hQb:¬Q b) (hQ:∀q,Q q->w0.heap.size<=q) (hb0:w0.heap.size<=b) (hG:GoodT d t) (hd:d*20<=100000)
  (hsz:∀x∈filesT d t,x.2.data.size<=2000/\x.1.size<=maxLen) (hlim:n0+(filesT d t).length<=50000) (fr:DFr T0 mb w0 w) (hT0:T0<=w0.heap.size)
  (eg:w.cell? ⟨6,0,none⟩=some er) (hg0:6<T0) (hgr:∃cs ty,w.heap[6]? = some (.cells cs ty (0,0))/\trTy (.cells cs ty (0,0))=false) :
  Calls Tryz.prog 34 #[.pointer (some ⟨dp,0,none⟩),.pointer (some ⟨b,0,none⟩)] w fun e w'=>∃fm,e = .returned (.tuple #[.map (some fm),.nilIface])/\TbAt w' (fun _=>False) T0 tb bb sp sb cap mb (n0+(filesT d t).length) (mkL s0 (filesT d t)).bl (mkL s0 (filesT d t)).u (mkL s0 (filesT d t)).tab/\SInv N (mkL s0 (filesT d t)).bl (mkL s0 (filesT d t)).u (mkL s0 (filesT d t)).tab/\MapV w' 9 fm (filesT d t).length (fmap (inoL s0 (filesT d t)))/\TreeIn w' Q d b 0 (bareT d t)/\DFr T0 mb w0 w'/\w.heap.size<=fm/\w'.heap[dp]? = some (.cells #[.pointer (some ⟨tb,0,none⟩),.map (some m1),.map (some m2),.int .i64 nx] 79 (0,0))/\(∀k obj,w.heap[k]? = some obj->trTy obj=true->k≠b->¬Q k->w'.heap[k]? = some obj):=by
 obtain ⟨cur,hr,hrs⟩:=hr
 obtain ⟨csg,tyg,hgg,htg⟩:=hgr
 obtain ⟨W1,hW1⟩:∃W1,W1=((w.alloc (.cells #[.pointer (some ⟨dp,0,none⟩)] 25)).alloc (.map #[] 0)).alloc (.cells #[.map (some (w.heap.size+1))] 81):=⟨_,rfl⟩
 have hbel:Below w.heap.size w W1:=by rw [hW1];exact (((Below.refl _ w).alloc (Nat.le_refl _) _).alloc (by simp) _).alloc (by simp;omega) _
 have hblk:∀k o,w.heap[k]? = some o->W1.heap[k]? = some o:=fun k o hk=>by rw [hbel.block k (Array.getElem?_eq_some_iff.1 hk).1];exact hk
 have r1:W1.heap[w.heap.size]? = some (.cells #[.pointer (some ⟨dp,0,none⟩)] 25 (0,0)):=by
  rw [hW1,Below.heap_alloc _ _ _ (by simp;omega),Below.heap_alloc _ _ _ (by simp)];exact heap_alloc_last w _
 have rm:W1.heap[w.heap.size+1]? = some (.map #[] 0):=by
  rw [hW1,Below.heap_alloc _ _ _ (by simp)]
  have h:=heap_alloc_last (w.alloc (.cells #[.pointer (some ⟨dp,0,none⟩)] 25)) (.map #[] 0)
  rw [World.size_alloc] at h;exact h
 have r2:W1.heap[w.heap.size+2]? = some (.cells #[.map (some (w.heap.size+1))] 81 (0,0)):=by
  rw [hW1]
  have h:=heap_alloc_last ((w.alloc (.cells #[.pointer (some ⟨dp,0,none⟩)] 25)).alloc (.map #[] 0)) (.cells #[.map (some (w.heap.size+1))] 81)
  rw [World.size_alloc,World.size_alloc] at h;exact h
 have hmb:mb<w.heap.size:=by
  obtain ⟨f,Nd⟩:=T.nodes
  obtain ⟨es,cl,h⟩:=Nd.map.obj
  exact (Array.getElem?_eq_some_iff.1 h).1
 have hM0:MapV W1 9 (w.heap.size+1) 0 (fmap (inoL s0 [])):=by
  have h:=MapV.made (w.alloc (.cells #[.pointer (some ⟨dp,0,none⟩)] 25)) 9
  rw [World.size_alloc] at h
  refine h.keep ?_
  rw [rm]
  have h2:=heap_alloc_last (w.alloc (.cells #[.pointer (some ⟨dp,0,none⟩)] 25)) (.map #[] 0)
  rw [World.size_alloc] at h2;exact h2.symm
 have HEA:Hid (Calls Tryz.prog 60 #[.pointer (some ⟨b,0,none⟩),.string { data:=#[] },.func (.func 63) #[] #[.pointer (some ⟨w.heap.size,0,none⟩),.pointer (some ⟨w.heap.size+2,0,none⟩)]] W1 fun e w'=>e = .returned .nilIface/\EmpJ ⟨T0,tb,bb,sp,sb,cap,mb,n0,N,dp,m1,m2,nx,w.heap.size,w.heap.size+2,w.heap.size+1,s0,er,filesT d t⟩ w0 [] w'/\TreeIn w' Q d b 0 (bareT d t)/\EFrame Q b 0 W1 w'):=by
  refine (each_gen (enters_of Tryz.func63 (by kernel_rfl) rfl) _ (empty_visit ⟨T0,tb,bb,sp,sb,cap,mb,n0,N,dp,m1,m2,nx,w.heap.size,w.heap.size+2,w.heap.size+1,s0,er,filesT d t⟩ w0) d t { data:=#[] } b 0 Q [] W1 cur ?_ (hT.kept (fun k c _ h=>hblk k _ h) (fun j _ _=>World.cell?_of_block ((hblk b _ hr).trans hr.symm)) (fun _ h=>h)) (.inl (hblk _ _ hr)) (by omega) hQb hG (by rw [show ({ data:=#[] }:ByteArray).size=0 from rfl];omega) hQ hb0).mono ?_
  ·rw [List.append_nil]
   have hfr1:DFr T0 mb w0 W1:=fr.trans (DFr.of_tb (TbBut.of_below hbel))
   refine ⟨⟨[],rfl,T.below hbel,S,hM0,hroom⟩,hfr1,r1,r2,hblk _ _ bd,?_,hsz,hlim,hg0,hT0,?_,?_,csg,tyg,hblk _ _ hgg,htg⟩
   ·show W1.cell? _=_
    rw [World.cell?_of_block (a:=⟨6,0,none⟩) ((hblk _ _ hgg).trans hgg.symm)];exact eg
   ·show w0.heap.size<=w.heap.size+1
    have:=fr.size;omega
   ·show w.heap.size+1≠mb
    omega
  ·rintro e w' (⟨he,hJ,hT',hF⟩|⟨_,_,h⟩)
   ·exact ⟨he,hJ,hT',hF⟩
   ·exact h.elim
 have HFIN:Hid (∀w',EmpJ ⟨T0,tb,bb,sp,sb,cap,mb,n0,N,dp,m1,m2,nx,w.heap.size,w.heap.size+2,w.heap.size+1,s0,er,filesT d t⟩ w0 [] w'->TreeIn w' Q d b 0 (bareT d t)->EFrame Q b 0 W1 w'->w'.cell? ⟨w.heap.size+2,0,none⟩=some (.map (some (w.heap.size+1)))/\TbAt w' (fun _=>False) T0 tb bb sp sb cap mb (n0+(filesT d t).length) (mkL s0 (filesT d t)).bl (mkL s0 (filesT d t)).u (mkL s0 (filesT d t)).tab/\SInv N (mkL s0 (filesT d t)).bl (mkL s0 (filesT d t)).u (mkL s0 (filesT d t)).tab/\MapV w' 9 (w.heap.size+1) (filesT d t).length (fmap (inoL s0 (filesT d t)))/\TreeIn w' Q d b 0 (bareT d t)/\DFr T0 mb w0 w'/\w.heap.size<=w.heap.size+1/\w'.heap[dp]? = some (.cells #[.pointer (some ⟨tb,0,none⟩),.map (some m1),.map (some m2),.int .i64 nx] 79 (0,0))/\(∀k obj,w.heap[k]? = some obj->trTy obj=true->k≠b->¬Q k->w'.heap[k]? = some obj)):=fun w' hJ hT' hF=>by
  obtain ⟨dn,e,T',S',M',_⟩:=hJ.ex
  rw [List.append_nil] at e
  have e2:dn=filesT d t:=e
  rw [e2] at T' S' M'
  have hb2:=hJ.b2
  exact ⟨by rw [cell_of_row _ _ _ _ _ _ hb2];rfl,T',S',M',hT',hJ.fr,Nat.le_succ _,hJ.bd,fun k obj hk htr hne hq=>hF.tre k obj (hblk k obj hk) htr hne hq⟩
 have hmm := @run_makeMap Tryz.prog
 clear T S hroom bd hT hr hQb hQ hb0 hG hsz hlim fr eg hgg htg hbel hblk r1 rm r2 hM0
 subst hW1
 go_enter Tryz.func34,Tryz.ntmps34
 go_wp2_with fail
 refine Calls.mono HEA.out ?_
 rintro e w2 ⟨rfl,hJ,hT2,hF2⟩
 obtain ⟨c2,hrest⟩:=HFIN.out w2 hJ hT2 hF2
 have HR:Hid _:=hrest
 clear hJ hT2 hF2 hrest HFIN HEA
 go_wp2_with fail
 go_ret2
 exact ⟨_,rfl,HR.out⟩
end
end Go.Proofs.YteefneelcgeioaaGreatDoor
