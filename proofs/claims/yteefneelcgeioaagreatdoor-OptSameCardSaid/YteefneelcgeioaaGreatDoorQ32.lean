/-
  The contract of opt's Saved: the blocks of each file whose inode another file ahead of it is, too.
  Conditions: those that each states.
-/
import Derived.Test.YteefneelcgeioaaGreatDoorQ31
import Derived.Deep.RegionHeld3
namespace Go.Proofs.YteefneelcgeioaaGreatDoor
open Go.RowKit Go.Maps

/-- What is saved by files whose inodes these are. -/
def savedL (blk : Nat → Nat) : List Nat → List Nat → Nat
  | _, [] => 0
  | seen, q :: r => (if q ∈ seen then blk q else 0) + savedL blk (q :: seen) r
theorem savedL_snoc (blk : Nat → Nat) : ∀ (s l : List Nat) (q : Nat), savedL blk s (l ++ [q]) = savedL blk s l + (if q ∈ s ∨ q ∈ l then blk q else 0)
  | s, [], q => by simp [savedL]
  | s, x :: l, q => by
    rw [List.cons_append, savedL, savedL, savedL_snoc blk (x :: s) l q]
    by_cases h : q ∈ s ∨ q ∈ x :: l
    · have h2 : q ∈ x :: s ∨ q ∈ l := by
        simp only [List.mem_cons] at h ⊢
        exact h.elim (fun h => .inl (.inr h)) fun h => h.elim (fun h => .inl (.inl h)) .inr
      rw [if_pos h, if_pos h2]
      omega
    · have h2 : ¬ (q ∈ x :: s ∨ q ∈ l) := by
        simp only [List.mem_cons] at h ⊢
        exact fun h' => h (h'.elim (fun h => h.elim (fun h => .inr (.inl h)) .inl) fun h => .inr (.inr h))
      rw [if_neg h, if_neg h2]
      omega
theorem zeroE0 (w : World) : (zeroValue 117).run Tryz.prog w = .ok (.agg #[]) w := by kernel_rfl
/-- The blocks of an inode. -/
def blkT (tab : List (Option Ino)) (q : Nat) : Nat := match slotT tab q with
  | some y => y.blocks.length
  | none => 0
/-- The inodes that were seen. -/
def SeenM (w : World) (sb n : Nat) (l : List Nat) : Prop := ∃ f, MapV w 3 sb n f ∧ ∀ q : Nat, f (.int .i64 (q : Int)) = if q ∈ l then some (.agg #[]) else none
theorem SeenM.keep {w w' : World} {sb n : Nat} {l : List Nat} (h : SeenM w sb n l) (hb : w'.heap[sb]? = w.heap[sb]?) : SeenM w' sb n l := by
  obtain ⟨f, M, hf⟩ := h
  exact ⟨f, M.keep hb, hf⟩
theorem SeenM.look {w : World} {sb n : Nat} {l : List Nat} (h : SeenM w sb n l) {q : Nat} (hq : q ≤ 1000000) : (Instr.lookup 112 (.map (some sb)) (.int .i64 (q : Int)) true).run Tryz.prog w = .ok (.tuple #[.agg #[], .bool (decide (q ∈ l))]) w := by
  obtain ⟨f, M, hf⟩ := h
  have h1 := M.look_ok keyInt Tryz.underlying112 (zeroE0 w) (keyOf_int_mk Tryz.underlying3 (wf_nat hq)) trivial
  rw [h1, hf]
  by_cases hm : q ∈ l
  · rw [if_pos hm]; simp [hm]
  · rw [if_neg hm]; simp [hm]
theorem SeenM.put {w : World} {sb n : Nat} {l : List Nat} (h : SeenM w sb n l) {q : Nat} (hq : q ≤ 1000000) (hn : n < 10000000) : ∃ w', (Instr.mapUpdate 112 (.map (some sb)) (.int .i64 (q : Int)) (.agg #[])).run Tryz.prog w = .ok () w' ∧ SeenM w' sb (n + 1) (l ++ [q]) ∧ w.grownBy w' (some sb) ∧ w'.heap.size = w.heap.size := by
  obtain ⟨f, M, hf⟩ := h
  obtain ⟨w', h1, M', h2, h3⟩ := M.put keyInt Tryz.underlying112 (by unfold maxLen; omega) (keyOf_int_mk Tryz.underlying3 (wf_nat hq)) trivial (.agg #[])
  refine ⟨w', h1, ⟨_, M', fun r => ?_⟩, h2, h3⟩
  by_cases e : r = q
  · subst e
    rw [updK_same, if_pos (by simp)]
  · rw [updK_other _ _ (fun h => e (by simp at h; omega)), hf]
    by_cases hm : r ∈ l
    · rw [if_pos hm, if_pos (by simp [hm])]
    · rw [if_neg hm, if_neg (by simp [hm, e])]
/-- Saved's loop, between two files. -/
structure SvAt (w : World) (i : Nat) (l : List Nat) (v : Value) (L : List (Nat × ByteArray × Nat)) (fbx k q : Nat) (p : ByteArray) (W : World) : Prop where
  seen : SeenM W w.heap.size i l
  files : FlAt W (w.heap.size + 1) v L
  low : Below w.heap.size w W
  box : W.heap[fbx]? = some (.cells #[.int .i64 (k : Int), .string p, .int .i64 (q : Int)] 116 (0, 0))
section
variable {w W W' : World} {i : Nat} {l : List Nat} {v : Value} {L : List (Nat × ByteArray × Nat)} {fbx k q : Nat} {p : ByteArray}
theorem SeenM.lt {sb n : Nat} (h : SeenM W sb n l) : ∃ es cl, W.heap[sb]? = some (.map es cl) := by
  obtain ⟨f, M, _⟩ := h
  exact M.obj
theorem SvAt.below (S : SvAt w i l v L fbx k q p W) (h : Below W.heap.size W W') : SvAt w i l v L fbx k q p W' := by
  obtain ⟨es, cl, hm⟩ := S.seen.lt
  exact ⟨S.seen.keep (h.block _ (Array.getElem?_eq_some_iff.1 hm).1), ownsRow_below S.files h, S.low.trans (h.mono S.low.size), (h.block _ (Array.getElem?_eq_some_iff.1 S.box).1).trans S.box⟩
theorem SvAt.cell (S : SvAt w i l v L fbx k q p W) : W.cell? ⟨fbx, 2, none⟩ = some (.int .i64 (q : Int)) := by rw [cell_of_row _ _ _ _ _ _ S.box]; rfl
/-- What Stat told is stored. -/
theorem SvAt.store (S : SvAt w i l v L fbx k q p W) {bx : Nat} {Z : Array Value} (hb : W.heap[bx]? = some (.cells Z 54 (0, 0))) (hZ : Z.size = 5) (hle : w.heap.size ≤ bx) (x0 x1 x2 x3 x4 : Value) : SvAt w i l v L fbx k q p (W.setCells bx 0 [x0, x1, x2, x3, x4]) ∧ (W.setCells bx 0 [x0, x1, x2, x3, x4]).cell? ⟨bx, 3, none⟩ = some x3 := by
  have hk : ∀ k, k ≠ bx → (W.setCells bx 0 [x0, x1, x2, x3, x4]).heap[k]? = W.heap[k]? := fun k hk => block_setCells hk _ _ _
  obtain ⟨r1, r2, r3⟩ := rest_setCells (b := bx) [x0, x1, x2, x3, x4] 0 W
  have hra := World.rangeAt_setCells_same W bx 0 [x0, x1, x2, x3, x4] (there_row hb (by simp [hZ]))
  refine ⟨⟨S.seen.keep (hk _ fun e => ?_), ownsRow_ext' S.files fun g hg => hk _ fun e => ?_, ⟨r1.trans S.low.os, r2.trans S.low.tape, r3.trans S.low.output, by rw [size_setCells]; exact S.low.size, fun g hg => by rw [hk g (by omega)]; exact S.low.block g hg⟩, (hk _ fun e => ?_).trans S.box⟩, hra 3 _ rfl⟩
  · obtain ⟨es, cl, hm⟩ := S.seen.lt
    rw [e, hb] at hm
    cases hm
  · obtain ⟨cur, hc⟩ := rowTyD S.files hg
    rw [e, hb] at hc
    simp only [Option.some.injEq, Obj.cells.injEq] at hc
    exact absurd hc.2.1 (by decide)
  · have h1 := S.box
    rw [e, hb] at h1
    simp only [Option.some.injEq, Obj.cells.injEq] at h1
    exact absurd h1.2.1 (by decide)
/-- .. and the inode was seen. -/
theorem SvAt.next (S : SvAt w i l v L fbx k q p W) (hq : q ≤ 1000000) (hi : i ≤ 100000) : ∃ w', (Instr.mapUpdate 112 (.map (some w.heap.size)) (.int .i64 (q : Int)) (.agg #[])).run Tryz.prog W = .ok () w' ∧ SeenM w' w.heap.size (i + 1) (l ++ [q]) ∧ FlAt w' (w.heap.size + 1) v L ∧ Below w.heap.size w w' := by
  obtain ⟨w', h1, h2, hg, hs⟩ := S.seen.put hq (by omega)
  have hk : ∀ g, g < W.heap.size → g ≠ w.heap.size → w'.heap[g]? = W.heap[g]? := fun g hl hn => hg.block g hl (fun e => hn (Option.some.inj e))
  have hsz := S.low.size
  refine ⟨w', h1, h2, ownsRow_ext' S.files fun g hg => hk g (S.files.lt g hg).2 (by have := (S.files.lt g hg).1; omega), ⟨hg.os.trans S.low.os, hg.tape.trans S.low.tape, hg.output.trans S.low.output, by rw [hs]; exact hsz, fun g hl => ?_⟩⟩
  rw [hk g (by omega) (by omega)]
  exact S.low.block g hl
end
structure ShrE (P : Prop) : Prop where
  out : P
theorem sharePE {P G : Prop} (hp : P) (hg : ShrE P → G) : G := hg ⟨hp⟩
section
variable {a : Nat → Addr} {w : World} {T0 dp tb mb m1 m2 n1 d bb sp sb cap n : Nat} {tr : List (Option NTree)} {fb : Nat → Nat} {F : Nat → Prop} {bl : List (List UInt8)} {u : List Bool} {tab : List (Option Ino)}
set_option maxRecDepth 100000 in
set_option maxHeartbeats 2000000 in
theorem saved_any (P : PSen a w) (D : DirAt w T0 dp tb mb m1 m2 n1 d tr fb) (T : TbAt w F T0 tb bb sp sb cap mb n bl u tab) (O : TrOk d tr) (hL : (filesD tr).length ≤ 100000) (hn : (allN tr).length ≤ 1000000) (hI : ∀ f ∈ filesD tr, f.2.2 ≤ 1000000 ∧ ∃ y, slotT tab f.2.2 = some y ∧ y.blocks.length ≤ 1000) :
    Calls Tryz.prog 25 #[.pointer (some ⟨dp, 0, none⟩)] w fun e w' => e = .returned (.int .i64 (savedL (blkT tab) [] ((filesD tr).map (·.2.2)) : Nat)) ∧ Below w.heap.size w w' := by
  have HFI : Hid (∀ W, Below w.heap.size w W → Calls Tryz.prog 50 #[.pointer (some ⟨dp, 0, none⟩)] W fun e w' => ∃ la lc, e = .returned (.slice la (filesD tr).length lc) ∧ FlAt w' W.heap.size (.slice la (filesD tr).length lc) (filesD tr) ∧ Below W.heap.size W w') := fun W hW =>
    (dfiles_any (P.below hW) (D.below hW) O (by omega) hn).mono fun e w' ⟨v, he, hF, hb⟩ => by
      obtain ⟨la, lc, rfl⟩ := rowForm (w := w') (e := 116) (size := 3) hF
      exact ⟨la, lc, he, hF, hb⟩
  have HTB : Hid (∀ W, Below w.heap.size w W → Calls Tryz.prog 13 #[.pointer (some ⟨dp, 0, none⟩)] W fun e w' => e = .returned (.pointer (some ⟨tb, 0, none⟩)) ∧ w' = W) := fun W hW => dtable_any (D.below hW)
  have HST : Hid (∀ f ∈ filesD tr, f.2.2 ≤ 1000000 ∧ blkT tab f.2.2 ≤ 1000 ∧ ∀ W, Below w.heap.size w W → Calls Tryz.prog 20 #[.pointer (some ⟨tb, 0, none⟩), .int .i64 (f.2.2 : Int)] W fun e w' => ∃ x0 x1 x2 x4 ba bc, e = .returned (.tuple #[.agg #[.int .i64 x0, .int .i64 x1, .bool x2, .slice ba (blkT tab f.2.2) bc, .int .u32 x4], .bool true]) ∧ Below W.heap.size W w') := fun f hf => by
    obtain ⟨h1, y, hy, hb⟩ := hI f hf
    have e : blkT tab f.2.2 = y.blocks.length := by unfold blkT; rw [hy]
    refine ⟨h1, by rw [e]; exact hb, fun W hW => ?_⟩
    rw [e]
    refine (im_stat f.2.2 y hy (by omega) W (T.below hW)).mono ?_
    rintro e w' ⟨v, he, ⟨ba, bc, rfl, _⟩, hb⟩
    unfold ints at he
    rw [List.length_map] at he
    exact ⟨_, _, _, _, ba, bc, he, hb⟩
  obtain ⟨L, HL⟩ : ∃ L, Hid (L = filesD tr) := ⟨_, (rfl : filesD tr = _)⟩
  rw [← HL.out] at HFI HST hL ⊢
  have HM0 : Hid (SeenM (w.alloc (.map #[] 0)) w.heap.size 0 []) := ⟨_, MapV.made w 3, fun q => by simp⟩
  have HB0 : Hid (Below w.heap.size w (w.alloc (.map #[] 0))) := (Below.refl _ w).alloc (Nat.le_refl _) _
  have hmm := @run_makeMap Tryz.prog
  clear P D T O hI hn HL
  go_enter Tryz.func25, Tryz.ntmps25
  go_wp2_with (go_at_call 50; refine Calls.mono (HFI.out _ HB0.out) ?_; rintro e wt ⟨la, lc, rfl, hF, hb⟩; (have HFT : Hid (FlAt wt (w.heap.size + 1) (.slice la L.length lc) L) := rowBase hF (by simp)); (have HBT : Hid (Below w.heap.size w wt) := HB0.out.trans (hb.mono HB0.out.size)); (have HMT : Hid (SeenM wt w.heap.size 0 []) := HM0.out.keep (hb.block _ (by simp))); clear hF hb HFI HM0 HB0)
  go_loopw [3, 15] (fun sv iv wl => ∃ (i z : Nat), i ≤ L.length ∧ iv = .int .i64 i ∧ sv = .int .i64 (z : Int) ∧ z ≤ 1000 * i ∧ z = savedL (blkT tab) [] ((L.take i).map (·.2.2)) ∧ SeenM wl w.heap.size i ((L.take i).map (·.2.2)) ∧ FlAt wl (w.heap.size + 1) (.slice la L.length lc) L ∧ Below w.heap.size w wl) (fun _ iv _ => L.length - (intOf iv).toNat)
  case atStart => exact ⟨0, 0, Nat.zero_le _, rfl, rfl, Nat.zero_le _, rfl, HMT.out, HFT.out, HBT.out⟩
  case round =>
    obtain ⟨i, z, hi, rfl, rfl, hz, hzs, hm, hf, hb⟩ := hrel
    rename World => wl
    have HZ : Hid (z = savedL (blkT tab) [] ((L.take i).map (·.2.2))) := hzs
    have HM : Hid (SeenM wl w.heap.size i ((L.take i).map (·.2.2))) := hm
    have HF : Hid (FlAt wl (w.heap.size + 1) (.slice la L.length lc) L) := hf
    have HB : Hid (Below w.heap.size w wl) := hb
    clear hzs hm hf hb HMT HFT HBT
    by_cases hlt : i < L.length
    · obtain ⟨f, hf⟩ : ∃ f, L[i]? = some f := ⟨_, List.getElem?_eq_getElem hlt⟩
      obtain ⟨hq, hbk, hst⟩ := HST.out f (List.mem_of_getElem? hf)
      obtain ⟨g, cp, eg, _, hgl, c0, c1, c2⟩ := HF.out.at hf
      simp only [Value.slice.injEq] at eg
      obtain ⟨rfl, _, rfl⟩ := eg
      obtain ⟨k, p, q⟩ := f
      simp only at hq hbk hst c0 c1 c2
      have HST1 : Hid (∀ W, Below w.heap.size w W → Calls Tryz.prog 20 #[.pointer (some ⟨tb, 0, none⟩), .int .i64 (q : Int)] W fun e w' => ∃ x0 x1 x2 x4 ba bc, e = .returned (.tuple #[.agg #[.int .i64 x0, .int .i64 x1, .bool x2, .slice ba (blkT tab q) bc, .int .u32 x4], .bool true]) ∧ Below W.heap.size W w') := hst
      have HTK : Hid ((L.take (i + 1)).map (·.2.2) = (L.take i).map (·.2.2) ++ [q]) := by show _ = _; rw [take_next hf, List.map_append]; rfl
      obtain ⟨l, HLL⟩ : ∃ l, Hid (l = (L.take i).map (·.2.2)) := ⟨_, (rfl : (L.take i).map (·.2.2) = _)⟩
      rw [← HLL.out] at HZ HM HTK
      obtain ⟨W1, HW1⟩ : ∃ W1, Hid (W1 = wl.alloc (.cells #[.int .i64 (k : Int), .string p, .int .i64 (q : Int)] 116)) := ⟨_, (rfl : _ = _)⟩
      have hb1 : Below wl.heap.size wl W1 := by rw [HW1.out]; exact (Below.refl _ wl).alloc (Nat.le_refl _) _
      have HSV : Hid (SvAt w i l (.slice (some ⟨g, 0, none⟩) L.length lc) L wl.heap.size k q p W1) := by
        obtain ⟨es, cl, hm⟩ := HM.out.lt
        exact ⟨HM.out.keep (hb1.block _ (Array.getElem?_eq_some_iff.1 hm).1), ownsRow_below HF.out hb1, HB.out.trans (hb1.mono HB.out.size), by rw [HW1.out]; exact heap_alloc_last wl _⟩
      have hlook := HSV.out.seen.look hq
      obtain ⟨W2, HW2⟩ : ∃ W2, Hid (W2 = W1.alloc (.cells #[] 117)) := ⟨_, (rfl : _ = _)⟩
      have HS2 : Hid (SvAt w i l (.slice (some ⟨g, 0, none⟩) L.length lc) L wl.heap.size k q p W2) := by rw [HW2.out]; exact HSV.out.below ((Below.refl _ W1).alloc (Nat.le_refl _) _)
      rw [HW1.out] at hlook HW2
      clear hst hf hb1 HM HF HB HSV HW1
      by_cases hmem : q ∈ l
      · rw [show decide (q ∈ l) = true from decide_eq_true hmem] at hlook
        have HZ1 : Hid (z + blkT tab q = savedL (blkT tab) [] (l ++ [q])) := by show _ = _; rw [savedL_snoc, if_pos (.inr hmem), HZ.out]
        clear hmem HZ
        go_wp2_with fail
        rw [← HW2.out]
        apply sharePE
        case hg =>
          intro hshare
          refine wp_region_held_drew (S := (fun W => W.cell? ⟨wl.heap.size, 2, none⟩ = some (.int .i64 (q : Int)))) (by kernel_rfl) ((HS2.out.below (below_drew W2)).cell) (fun hHeld => ?_)
          obtain ⟨Wd, HEd⟩ : ∃ X, Hid (X = W2.drew) := ⟨_, (rfl : _ = _)⟩
          rw [← HEd.out] at hHeld ⊢
          have HWd : Hid (SvAt w i l (.slice (some ⟨g, 0, none⟩) L.length lc) L wl.heap.size k q p Wd) := by rw [HEd.out]; exact HS2.out.below (below_drew W2)
          refine wpAnyH_take (i := 0) (v := (.pointer (some ⟨dp, 0, none⟩))) rfl (by kernel_rfl) (by kernel_rfl) (by kernel_rfl) (fun _ _ _ h => h) (Or.inl ⟨by rfl, ?_⟩) hHeld ?_
          · intro w hSw; (try dsimp only at hSw); simp only [List.getElem_toArray, List.getElem_cons_zero]; go_simp
          simp only [List.getElem_toArray, List.getElem_cons_zero, Act.put, List.setIfInBounds_toArray, List.set_cons_zero, List.set_cons_succ]
          refine wpAnyH_take (i := 2) (v := (.pointer (some ⟨wl.heap.size, 2, none⟩))) rfl (by kernel_rfl) (by kernel_rfl) (by kernel_rfl) (fun _ _ _ h => h) (Or.inl ⟨by rfl, ?_⟩) hHeld ?_
          · intro w hSw; (try dsimp only at hSw); simp only [List.getElem_toArray, List.getElem_cons_zero, List.getElem_cons_succ]; go_simp
          simp only [List.getElem_toArray, List.getElem_cons_zero, List.getElem_cons_succ, Act.put, List.setIfInBounds_toArray, List.set_cons_zero, List.set_cons_succ]
          refine wpAnyH_take (i := 3) (v := (.int .i64 (q : Int))) rfl (by kernel_rfl) (by kernel_rfl) (by kernel_rfl) (fun _ _ _ h => h) (Or.inl ⟨by rfl, ?_⟩) hHeld ?_
          · intro w hSw; (try dsimp only at hSw); simp only [List.getElem_toArray, List.getElem_cons_zero, List.getElem_cons_succ]; go_simp
          simp only [List.getElem_toArray, List.getElem_cons_zero, List.getElem_cons_succ, Act.put, List.setIfInBounds_toArray, List.set_cons_zero, List.set_cons_succ]
          refine wpAnyH_ready (rs := [1, 8]) (by kernel_rfl) (by simp) ?_
          refine AllReadyH.cons rfl (fun K' hK => ?_) (AllReadyH.cons rfl (fun K' hK => ?_) AllReadyH.nil)
          · skip
            simp only [List.getElem_toArray, List.getElem_cons_zero, List.getElem_cons_succ]
            go_simp
            refine Calls.mono (HTB.out _ HWd.out.low) ?_
            rintro e wx ⟨rfl, hw⟩
            rw [hw]
            clear hw wx
            go_wp2_with fail
            refine hK.out _ _ (HWd.out.cell) (fun hHeld' => ?_)
            clear hK K' hHeld
            have hHeld := hHeld'
            clear hHeld'
            refine wpAnyH_ready (rs := [4, 8]) (by kernel_rfl) (by simp) ?_
            refine AllReadyH.cons rfl (fun K' hK => ?_) (AllReadyH.cons rfl (fun K' hK => ?_) AllReadyH.nil)
            · skip
              simp only [List.getElem_toArray, List.getElem_cons_zero, List.getElem_cons_succ]
              go_simp
              refine Calls.mono (HST1.out _ HWd.out.low) ?_
              rintro e Ws ⟨x0, x1, x2, x4, ba, bc, rfl, hb⟩
              have HWs : Hid (SvAt w i l (.slice (some ⟨g, 0, none⟩) L.length lc) L wl.heap.size k q p Ws) := HWd.out.below hb
              clear hb
              go_wp2_with fail
              refine hK.out _ _ (HWs.out.cell) (fun hHeld' => ?_)
              clear hK K' hHeld
              have hHeld := hHeld'
              clear hHeld'
              refine wpAnyH_take (i := 5) (v := (.tuple #[.agg #[.int .i64 x0, .int .i64 x1, .bool x2, .slice ba (blkT tab q) bc, .int .u32 x4], .bool true])) rfl (by kernel_rfl) (by kernel_rfl) (by kernel_rfl) (fun _ _ _ h => h) (Or.inl ⟨by rfl, ?_⟩) hHeld ?_
              · intro w hSw; (try dsimp only at hSw); simp only [List.getElem_toArray, List.getElem_cons_zero, List.getElem_cons_succ]; go_simp
              simp only [List.getElem_toArray, List.getElem_cons_zero, List.getElem_cons_succ, Act.put, List.setIfInBounds_toArray, List.set_cons_zero, List.set_cons_succ]
              refine wpAnyH_take (i := 6) (v := (.agg #[.int .i64 x0, .int .i64 x1, .bool x2, .slice ba (blkT tab q) bc, .int .u32 x4])) rfl (by kernel_rfl) (by kernel_rfl) (by kernel_rfl) (fun _ _ _ h => h) (Or.inl ⟨by rfl, ?_⟩) hHeld ?_
              · intro w hSw; (try dsimp only at hSw); simp only [List.getElem_toArray, List.getElem_cons_zero, List.getElem_cons_succ]; go_simp
              simp only [List.getElem_toArray, List.getElem_cons_zero, List.getElem_cons_succ, Act.put, List.setIfInBounds_toArray, List.set_cons_zero, List.set_cons_succ]
              refine wpAnyH_take (i := 7) (v := (.bool true)) rfl (by kernel_rfl) (by kernel_rfl) (by kernel_rfl) (fun _ _ _ h => h) (Or.inl ⟨by rfl, ?_⟩) hHeld ?_
              · intro w hSw; (try dsimp only at hSw); simp only [List.getElem_toArray, List.getElem_cons_zero, List.getElem_cons_succ]; go_simp
              simp only [List.getElem_toArray, List.getElem_cons_zero, List.getElem_cons_succ, Act.put, List.setIfInBounds_toArray, List.set_cons_zero, List.set_cons_succ]
              refine wpAnyH_ready (rs := [8]) (by kernel_rfl) (by simp) ?_
              refine AllReadyH.cons rfl (fun K' hK => ?_) AllReadyH.nil
              go_wp2_with fail
              obtain ⟨Wa, HEWa⟩ : ∃ X, Hid (X = Ws.alloc (.cells #[.int .i64 0, .int .i64 0, .bool false, .slice none 0 0, .int .u32 0] 54)) := ⟨_, (rfl : _ = _)⟩
              rw [← HEWa.out]
              have HWa : Hid (SvAt w i l (.slice (some ⟨g, 0, none⟩) L.length lc) L wl.heap.size k q p Wa) := by rw [HEWa.out]; exact HWs.out.below ((Below.refl _ Ws).alloc (Nat.le_refl _) _)
              have HBX : Hid (Wa.heap[Ws.heap.size]? = some (.cells #[.int .i64 0, .int .i64 0, .bool false, .slice none 0 0, .int .u32 0] 54 (0, 0))) := by rw [HEWa.out]; exact heap_alloc_last Ws _
              have HLE : Hid (w.heap.size ≤ Ws.heap.size) := HWs.out.low.size
              refine hK.out _ _ (HWa.out.cell) (fun hHeld' => ?_)
              clear hK K' hHeld
              have hHeld := hHeld'
              clear hHeld'
              refine wpAnyH_ready (rs := [9]) (by kernel_rfl) (by simp) ?_
              refine AllReadyH.cons rfl (fun K' hK => ?_) AllReadyH.nil
              refine step_store_mid (by rfl) 54 _ _ (by rfl) (Ws.heap.size) 0 #[.int .i64 x0, .int .i64 x1, .bool x2, .slice ba (blkT tab q) bc, .int .u32 x4] (by rfl) (by rfl) (there_row HBX.out (by simp)) (by kernel_rfl) (by simp [Value.oneCell']) ?_
              simp only [List.getElem_toArray, List.getElem_cons_zero, List.getElem_cons_succ, Act.put]
              obtain ⟨W6, HE6⟩ : ∃ X, Hid (X = Wa.setCells (Ws.heap.size) 0 (#[.int .i64 x0, .int .i64 x1, .bool x2, .slice ba (blkT tab q) bc, .int .u32 x4] : Array Value).toList) := ⟨_, (rfl : _ = _)⟩
              rw [← HE6.out]
              have HFN : SvAt w i l (.slice (some ⟨g, 0, none⟩) L.length lc) L wl.heap.size k q p W6 ∧ W6.cell? ⟨Ws.heap.size, 3, none⟩ = some (.slice ba (blkT tab q) bc) := by rw [HE6.out]; exact HWa.out.store HBX.out (by rfl) HLE.out _ _ _ _ _
              refine hK.out _ _ (HFN.1.cell) (fun hHeld' => ?_)
              clear hK K' hHeld
              have hHeld := hHeld'
              clear hHeld'
              refine wpAnyH_take (i := 10) (v := (.bool true)) rfl (by kernel_rfl) (by kernel_rfl) (by kernel_rfl) (fun _ _ _ h => h) (Or.inl ⟨by rfl, ?_⟩) hHeld ?_
              · intro w hSw; (try dsimp only at hSw); simp only [List.getElem_toArray, List.getElem_cons_zero, List.getElem_cons_succ]; go_simp
              simp only [List.getElem_toArray, List.getElem_cons_zero, List.getElem_cons_succ, Act.put, List.setIfInBounds_toArray, List.set_cons_zero, List.set_cons_succ]
              refine wpAnyH_done (by kernel_rfl) ?_ _
              generalize Ws.heap.size = bx at HFN ⊢
              clear hHeld HE6
              repeat (rename_i hwn; clear hwn)
              revert HFN
              generalize W6 = W7
              revert W7 bx ba bc x0 x1 x2 x4
              exact hshare.out
            · skip
              go_wp2_with fail
              obtain ⟨Wa, HEWa⟩ : ∃ X, Hid (X = Wd.alloc (.cells #[.int .i64 0, .int .i64 0, .bool false, .slice none 0 0, .int .u32 0] 54)) := ⟨_, (rfl : _ = _)⟩
              rw [← HEWa.out]
              have HWa : Hid (SvAt w i l (.slice (some ⟨g, 0, none⟩) L.length lc) L wl.heap.size k q p Wa) := by rw [HEWa.out]; exact HWd.out.below ((Below.refl _ Wd).alloc (Nat.le_refl _) _)
              have HBX : Hid (Wa.heap[Wd.heap.size]? = some (.cells #[.int .i64 0, .int .i64 0, .bool false, .slice none 0 0, .int .u32 0] 54 (0, 0))) := by rw [HEWa.out]; exact heap_alloc_last Wd _
              have HLE : Hid (w.heap.size ≤ Wd.heap.size) := HWd.out.low.size
              refine hK.out _ _ (HWa.out.cell) (fun hHeld' => ?_)
              clear hK K' hHeld
              have hHeld := hHeld'
              clear hHeld'
              refine wpAnyH_ready (rs := [4]) (by kernel_rfl) (by simp) ?_
              refine AllReadyH.cons rfl (fun K' hK => ?_) AllReadyH.nil
              simp only [List.getElem_toArray, List.getElem_cons_zero, List.getElem_cons_succ]
              go_simp
              refine Calls.mono (HST1.out _ HWa.out.low) ?_
              rintro e Ws ⟨x0, x1, x2, x4, ba, bc, rfl, hb⟩
              have HWs : Hid (SvAt w i l (.slice (some ⟨g, 0, none⟩) L.length lc) L wl.heap.size k q p Ws) := HWa.out.below hb
              have HBY : Hid (Ws.heap[Wd.heap.size]? = some (.cells #[.int .i64 0, .int .i64 0, .bool false, .slice none 0 0, .int .u32 0] 54 (0, 0))) := (hb.block _ (Array.getElem?_eq_some_iff.1 HBX.out).1).trans HBX.out
              clear hb
              go_wp2_with fail
              refine hK.out _ _ (HWs.out.cell) (fun hHeld' => ?_)
              clear hK K' hHeld
              have hHeld := hHeld'
              clear hHeld'
              refine wpAnyH_take (i := 5) (v := (.tuple #[.agg #[.int .i64 x0, .int .i64 x1, .bool x2, .slice ba (blkT tab q) bc, .int .u32 x4], .bool true])) rfl (by kernel_rfl) (by kernel_rfl) (by kernel_rfl) (fun _ _ _ h => h) (Or.inl ⟨by rfl, ?_⟩) hHeld ?_
              · intro w hSw; (try dsimp only at hSw); simp only [List.getElem_toArray, List.getElem_cons_zero, List.getElem_cons_succ]; go_simp
              simp only [List.getElem_toArray, List.getElem_cons_zero, List.getElem_cons_succ, Act.put, List.setIfInBounds_toArray, List.set_cons_zero, List.set_cons_succ]
              refine wpAnyH_take (i := 6) (v := (.agg #[.int .i64 x0, .int .i64 x1, .bool x2, .slice ba (blkT tab q) bc, .int .u32 x4])) rfl (by kernel_rfl) (by kernel_rfl) (by kernel_rfl) (fun _ _ _ h => h) (Or.inl ⟨by rfl, ?_⟩) hHeld ?_
              · intro w hSw; (try dsimp only at hSw); simp only [List.getElem_toArray, List.getElem_cons_zero, List.getElem_cons_succ]; go_simp
              simp only [List.getElem_toArray, List.getElem_cons_zero, List.getElem_cons_succ, Act.put, List.setIfInBounds_toArray, List.set_cons_zero, List.set_cons_succ]
              refine wpAnyH_take (i := 7) (v := (.bool true)) rfl (by kernel_rfl) (by kernel_rfl) (by kernel_rfl) (fun _ _ _ h => h) (Or.inl ⟨by rfl, ?_⟩) hHeld ?_
              · intro w hSw; (try dsimp only at hSw); simp only [List.getElem_toArray, List.getElem_cons_zero, List.getElem_cons_succ]; go_simp
              simp only [List.getElem_toArray, List.getElem_cons_zero, List.getElem_cons_succ, Act.put, List.setIfInBounds_toArray, List.set_cons_zero, List.set_cons_succ]
              refine wpAnyH_ready (rs := [9]) (by kernel_rfl) (by simp) ?_
              refine AllReadyH.cons rfl (fun K' hK => ?_) AllReadyH.nil
              refine step_store_mid (by rfl) 54 _ _ (by rfl) (Wd.heap.size) 0 #[.int .i64 x0, .int .i64 x1, .bool x2, .slice ba (blkT tab q) bc, .int .u32 x4] (by rfl) (by rfl) (there_row HBY.out (by simp)) (by kernel_rfl) (by simp [Value.oneCell']) ?_
              simp only [List.getElem_toArray, List.getElem_cons_zero, List.getElem_cons_succ, Act.put]
              obtain ⟨W6, HE6⟩ : ∃ X, Hid (X = Ws.setCells (Wd.heap.size) 0 (#[.int .i64 x0, .int .i64 x1, .bool x2, .slice ba (blkT tab q) bc, .int .u32 x4] : Array Value).toList) := ⟨_, (rfl : _ = _)⟩
              rw [← HE6.out]
              have HFN : SvAt w i l (.slice (some ⟨g, 0, none⟩) L.length lc) L wl.heap.size k q p W6 ∧ W6.cell? ⟨Wd.heap.size, 3, none⟩ = some (.slice ba (blkT tab q) bc) := by rw [HE6.out]; exact HWs.out.store HBY.out (by rfl) HLE.out _ _ _ _ _
              refine hK.out _ _ (HFN.1.cell) (fun hHeld' => ?_)
              clear hK K' hHeld
              have hHeld := hHeld'
              clear hHeld'
              refine wpAnyH_take (i := 10) (v := (.bool true)) rfl (by kernel_rfl) (by kernel_rfl) (by kernel_rfl) (fun _ _ _ h => h) (Or.inl ⟨by rfl, ?_⟩) hHeld ?_
              · intro w hSw; (try dsimp only at hSw); simp only [List.getElem_toArray, List.getElem_cons_zero, List.getElem_cons_succ]; go_simp
              simp only [List.getElem_toArray, List.getElem_cons_zero, List.getElem_cons_succ, Act.put, List.setIfInBounds_toArray, List.set_cons_zero, List.set_cons_succ]
              refine wpAnyH_done (by kernel_rfl) ?_ _
              generalize Wd.heap.size = bx at HFN ⊢
              clear hHeld HE6
              repeat (rename_i hwn; clear hwn)
              revert HFN
              generalize W6 = W7
              revert W7 bx ba bc x0 x1 x2 x4
              exact hshare.out
          · skip
            go_wp2_with fail
            obtain ⟨Wa, HEWa⟩ : ∃ X, Hid (X = Wd.alloc (.cells #[.int .i64 0, .int .i64 0, .bool false, .slice none 0 0, .int .u32 0] 54)) := ⟨_, (rfl : _ = _)⟩
            rw [← HEWa.out]
            have HWa : Hid (SvAt w i l (.slice (some ⟨g, 0, none⟩) L.length lc) L wl.heap.size k q p Wa) := by rw [HEWa.out]; exact HWd.out.below ((Below.refl _ Wd).alloc (Nat.le_refl _) _)
            have HBX : Hid (Wa.heap[Wd.heap.size]? = some (.cells #[.int .i64 0, .int .i64 0, .bool false, .slice none 0 0, .int .u32 0] 54 (0, 0))) := by rw [HEWa.out]; exact heap_alloc_last Wd _
            have HLE : Hid (w.heap.size ≤ Wd.heap.size) := HWd.out.low.size
            refine hK.out _ _ (HWa.out.cell) (fun hHeld' => ?_)
            clear hK K' hHeld
            have hHeld := hHeld'
            clear hHeld'
            refine wpAnyH_ready (rs := [1]) (by kernel_rfl) (by simp) ?_
            refine AllReadyH.cons rfl (fun K' hK => ?_) AllReadyH.nil
            simp only [List.getElem_toArray, List.getElem_cons_zero, List.getElem_cons_succ]
            go_simp
            refine Calls.mono (HTB.out _ HWa.out.low) ?_
            rintro e wx ⟨rfl, hw⟩
            rw [hw]
            clear hw wx
            go_wp2_with fail
            refine hK.out _ _ (HWa.out.cell) (fun hHeld' => ?_)
            clear hK K' hHeld
            have hHeld := hHeld'
            clear hHeld'
            refine wpAnyH_ready (rs := [4]) (by kernel_rfl) (by simp) ?_
            refine AllReadyH.cons rfl (fun K' hK => ?_) AllReadyH.nil
            simp only [List.getElem_toArray, List.getElem_cons_zero, List.getElem_cons_succ]
            go_simp
            refine Calls.mono (HST1.out _ HWa.out.low) ?_
            rintro e Ws ⟨x0, x1, x2, x4, ba, bc, rfl, hb⟩
            have HWs : Hid (SvAt w i l (.slice (some ⟨g, 0, none⟩) L.length lc) L wl.heap.size k q p Ws) := HWa.out.below hb
            have HBY : Hid (Ws.heap[Wd.heap.size]? = some (.cells #[.int .i64 0, .int .i64 0, .bool false, .slice none 0 0, .int .u32 0] 54 (0, 0))) := (hb.block _ (Array.getElem?_eq_some_iff.1 HBX.out).1).trans HBX.out
            clear hb
            go_wp2_with fail
            refine hK.out _ _ (HWs.out.cell) (fun hHeld' => ?_)
            clear hK K' hHeld
            have hHeld := hHeld'
            clear hHeld'
            refine wpAnyH_take (i := 5) (v := (.tuple #[.agg #[.int .i64 x0, .int .i64 x1, .bool x2, .slice ba (blkT tab q) bc, .int .u32 x4], .bool true])) rfl (by kernel_rfl) (by kernel_rfl) (by kernel_rfl) (fun _ _ _ h => h) (Or.inl ⟨by rfl, ?_⟩) hHeld ?_
            · intro w hSw; (try dsimp only at hSw); simp only [List.getElem_toArray, List.getElem_cons_zero, List.getElem_cons_succ]; go_simp
            simp only [List.getElem_toArray, List.getElem_cons_zero, List.getElem_cons_succ, Act.put, List.setIfInBounds_toArray, List.set_cons_zero, List.set_cons_succ]
            refine wpAnyH_take (i := 6) (v := (.agg #[.int .i64 x0, .int .i64 x1, .bool x2, .slice ba (blkT tab q) bc, .int .u32 x4])) rfl (by kernel_rfl) (by kernel_rfl) (by kernel_rfl) (fun _ _ _ h => h) (Or.inl ⟨by rfl, ?_⟩) hHeld ?_
            · intro w hSw; (try dsimp only at hSw); simp only [List.getElem_toArray, List.getElem_cons_zero, List.getElem_cons_succ]; go_simp
            simp only [List.getElem_toArray, List.getElem_cons_zero, List.getElem_cons_succ, Act.put, List.setIfInBounds_toArray, List.set_cons_zero, List.set_cons_succ]
            refine wpAnyH_take (i := 7) (v := (.bool true)) rfl (by kernel_rfl) (by kernel_rfl) (by kernel_rfl) (fun _ _ _ h => h) (Or.inl ⟨by rfl, ?_⟩) hHeld ?_
            · intro w hSw; (try dsimp only at hSw); simp only [List.getElem_toArray, List.getElem_cons_zero, List.getElem_cons_succ]; go_simp
            simp only [List.getElem_toArray, List.getElem_cons_zero, List.getElem_cons_succ, Act.put, List.setIfInBounds_toArray, List.set_cons_zero, List.set_cons_succ]
            refine wpAnyH_ready (rs := [9]) (by kernel_rfl) (by simp) ?_
            refine AllReadyH.cons rfl (fun K' hK => ?_) AllReadyH.nil
            refine step_store_mid (by rfl) 54 _ _ (by rfl) (Wd.heap.size) 0 #[.int .i64 x0, .int .i64 x1, .bool x2, .slice ba (blkT tab q) bc, .int .u32 x4] (by rfl) (by rfl) (there_row HBY.out (by simp)) (by kernel_rfl) (by simp [Value.oneCell']) ?_
            simp only [List.getElem_toArray, List.getElem_cons_zero, List.getElem_cons_succ, Act.put]
            obtain ⟨W6, HE6⟩ : ∃ X, Hid (X = Ws.setCells (Wd.heap.size) 0 (#[.int .i64 x0, .int .i64 x1, .bool x2, .slice ba (blkT tab q) bc, .int .u32 x4] : Array Value).toList) := ⟨_, (rfl : _ = _)⟩
            rw [← HE6.out]
            have HFN : SvAt w i l (.slice (some ⟨g, 0, none⟩) L.length lc) L wl.heap.size k q p W6 ∧ W6.cell? ⟨Wd.heap.size, 3, none⟩ = some (.slice ba (blkT tab q) bc) := by rw [HE6.out]; exact HWs.out.store HBY.out (by rfl) HLE.out _ _ _ _ _
            refine hK.out _ _ (HFN.1.cell) (fun hHeld' => ?_)
            clear hK K' hHeld
            have hHeld := hHeld'
            clear hHeld'
            refine wpAnyH_take (i := 10) (v := (.bool true)) rfl (by kernel_rfl) (by kernel_rfl) (by kernel_rfl) (fun _ _ _ h => h) (Or.inl ⟨by rfl, ?_⟩) hHeld ?_
            · intro w hSw; (try dsimp only at hSw); simp only [List.getElem_toArray, List.getElem_cons_zero, List.getElem_cons_succ]; go_simp
            simp only [List.getElem_toArray, List.getElem_cons_zero, List.getElem_cons_succ, Act.put, List.setIfInBounds_toArray, List.set_cons_zero, List.set_cons_succ]
            refine wpAnyH_done (by kernel_rfl) ?_ _
            generalize Wd.heap.size = bx at HFN ⊢
            clear hHeld HE6
            repeat (rename_i hwn; clear hwn)
            revert HFN
            generalize W6 = W7
            revert W7 bx ba bc x0 x1 x2 x4
            exact hshare.out
        case hp =>
          intro x4 x2 x1 x0 bc ba bx W7 hfn
          have hc3 := hfn.2
          have hc2 := hfn.1.cell
          obtain ⟨w9, hrun, hm9, hf9, hb9⟩ := hfn.1.next hq (by omega)
          have HE : Hid (SeenM w9 w.heap.size (i + 1) (l ++ [q]) ∧ FlAt w9 (w.heap.size + 1) (.slice (some ⟨g, 0, none⟩) L.length lc) L ∧ Below w.heap.size w w9) := ⟨hm9, hf9, hb9⟩
          clear hm9 hf9 hb9 hfn
          go_wp2_with fail
          exact ⟨⟨i + 1, z + blkT tab q, by omega, by simp, by simp, by omega, by rw [HTK.out]; exact HZ1.out, by rw [HTK.out]; exact HE.out.1, HE.out.2.1, HE.out.2.2⟩, by simp [intOf]; omega⟩
      · rw [show decide (q ∈ l) = false from decide_eq_false hmem] at hlook
        have HZ1 : Hid (z = savedL (blkT tab) [] (l ++ [q])) := by show _ = _; rw [savedL_snoc, if_neg (by simp [hmem]), HZ.out]; rfl
        clear hmem HZ
        obtain ⟨w9, hrun, hm9, hf9, hb9⟩ := HS2.out.next hq (by omega)
        have HE : Hid (SeenM w9 w.heap.size (i + 1) (l ++ [q]) ∧ FlAt w9 (w.heap.size + 1) (.slice (some ⟨g, 0, none⟩) L.length lc) L ∧ Below w.heap.size w w9) := ⟨hm9, hf9, hb9⟩
        rw [HW2.out] at hrun
        clear hm9 hf9 hb9
        go_wp2_with fail
        exact ⟨⟨i + 1, z, by omega, by simp, rfl, by omega, by rw [HTK.out]; exact HZ1.out, by rw [HTK.out]; exact HE.out.1, HE.out.2.1, HE.out.2.2⟩, by simp [intOf]; omega⟩
    · obtain rfl : i = L.length := by omega
      rw [List.take_length] at HZ
      go_wp2_with fail
      go_ret
      exact ⟨by rw [← HZ.out]; rfl, HB.out⟩
end
end Go.Proofs.YteefneelcgeioaaGreatDoor
