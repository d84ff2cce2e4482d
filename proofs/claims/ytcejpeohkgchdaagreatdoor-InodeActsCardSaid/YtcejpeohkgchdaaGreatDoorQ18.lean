/-
  The contracts of the document's Link and Read.
  Conditions: those that each states.
-/
import Derived.Test.YtcejpeohkgchdaaGreatDoorQ16
import Derived.Test.YtcejpeohkgchdaaGreatDoorQ17
namespace Go.Proofs.YtcejpeohkgchdaaGreatDoor
open Go.RowKit

section
variable {B T0 mt md : Nat} {la : Option Addr} {lc : Nat} {ia : Option Addr} {ic : Nat} {bl : List (List UInt8)} {tab : List (Option Ino)} {vs : List Value}
set_option maxRecDepth 100000 in
set_option maxHeartbeats 1000000 in
theorem m_link_none (k more : Int) (hx : slotI tab k = none) (w : World) (M : MtAt w B mt md la lc ia ic bl tab vs) :
    Calls Tryz.prog 49 #[.pointer (some ⟨mt, 0, none⟩), .int .i64 k, .int .i64 more] w fun e w' => e = .returned (.int .i64 6) ∧ w' = w := by
  have HI := m_is k w M
  rw [hx] at HI
  clear M hx
  go_enter Tryz.func49, Tryz.ntmps49
  go_wp2_with (go_at_call 16; refine HI.mono ?_; rintro e w1 ⟨rfl, hw⟩; rw [hw]; clear hw)
  go_ret
  exact ⟨rfl, rfl⟩
set_option maxRecDepth 100000 in
set_option maxHeartbeats 1000000 in
theorem m_link (k l : Nat) (more : Int) (x : Ino) (hx : slotT tab k = some x) (hml0 : (x.links : Int) + more = (l : Int)) (hl : l ≤ 1000000) (w : World) (M : MtAt w B mt md la lc ia ic bl tab vs) (hT : T0 ≤ B) :
    Calls Tryz.prog 49 #[.pointer (some ⟨mt, 0, none⟩), .int .i64 (k : Int), .int .i64 more] w fun e w' => e = .returned (.int .i64 0) ∧ (∃ vs', MtAt w' B mt md la lc ia ic bl (tab.set k (if l = 0 then none else some { x with links := l })) vs') ∧ MtBut T0 w w' := by
  have HI := m_is (k : Int) w M
  rw [slotI_nat, hx] at HI
  have hg := slotT_get hx
  have hkl := slotT_lt hx
  obtain ⟨v, g, hv, rfl, hc, hf⟩ := M.slot hg
  obtain ⟨_, c1, _⟩ := M.cells
  have c2 : w.cell? ⟨g, k * 6 + 2, none⟩ = some (.int .i64 (x.links : Int)) := hc 2 _ rfl
  have f2 : w.frozen? ⟨g, k * 6 + 2, none⟩ = false := hf _
  have f2d : w.drew.frozen? ⟨g, k * 6 + 2, none⟩ = false := hf _
  have hml : wrap64 ((x.links : Int) + more) = (l : Int) := by rw [hml0]; unfold wrap64; omega
  have M1 := (M.links hg l).below (w' := (w.setCell ⟨g, k * 6 + 2, none⟩ (.int .i64 (l : Int))).drew) (Below.refl _ _).drew
  have B1 : MtBut T0 w (w.setCell ⟨g, k * 6 + 2, none⟩ (.int .i64 (l : Int))).drew := (M.but hT (grown1 _ _ _ _)).trans (MtBut.of_below (Below.refl _ _).drew)
  obtain ⟨W1, hW1⟩ : ∃ W1, W1 = (w.setCell ⟨g, k * 6 + 2, none⟩ (.int .i64 (l : Int))).drew := ⟨_, rfl⟩
  rw [← hW1] at M1 B1
  have hg1 : (tab.set k (some { x with links := l }))[k]? = some (some { x with links := l }) := List.getElem?_set_self hkl
  obtain ⟨v1, g1, hv1, e1, hc1, hf1⟩ := M1.slot hg1
  simp only [Option.some.injEq, Addr.mk.injEq, and_true] at e1
  subst e1
  obtain ⟨_, d1, _⟩ := M1.cells
  rw [List.length_set] at d1
  have p0 := hc1 0 _ rfl
  have p1 := hc1 1 _ rfl
  have p2 := hc1 2 _ rfl
  have p3 := hc1 3 _ rfl
  have p4 := hc1 4 _ rfl
  have p5 := hc1 5 _ rfl
  have q0 := hf1 (k * 6)
  have q1 := hf1 (k * 6 + 1)
  have q2 := hf1 (k * 6 + 2)
  have q3 := hf1 (k * 6 + 3)
  have q4 := hf1 (k * 6 + 4)
  have q5 := hf1 (k * 6 + 5)
  simp only [Nat.add_zero] at p0
  have HM1 : Hid _ := M1
  have HB1 : Hid _ := B1
  have HPUT : Hid (MtAt (put6 W1 g (k * 6) (.bool false) (.int .i64 0) (.int .i64 0) (.bool false) (.slice none 0 0) (.int .i64 0)) B mt md la lc (some ⟨g, 0, none⟩) ic bl (tab.set k none) (vs.set k v1)) := by
    have h := M1.put hg1 (o := none) (v := v1) rfl (fun x h => by cases h)
    rw [List.set_set] at h
    exact h
  have HPB : Hid (MtBut T0 W1 (put6 W1 g (k * 6) (.bool false) (.int .i64 0) (.int .i64 0) (.bool false) (.slice none 0 0) (.int .i64 0))) := M1.but hT (put6_grown _ _ _ _ _ _ _ _ _)
  have hgm : ¬ g = mt := fun e => by
    obtain ⟨cur, h⟩ := M.ty
    have hb := M.box
    rw [e, hb] at h
    simp only [Option.some.injEq, Obj.cells.injEq] at h
    exact absurd h.2.1 (by decide)
  have hkli : (k : Int) < (tab.length : Int) := by omega
  generalize tab.length = tl at *
  clear M hx hg hc hf hc1 hf1 M1 B1 hv hv1 hg1
  go_enter Tryz.func49, Tryz.ntmps49
  go_wp2_with (go_at_call 16; refine HI.mono ?_; rintro e w1 ⟨rfl, hw⟩; rw [hw]; clear hw)
  go_region
  all_goals
    rw [← hW1]
    clear hW1
    by_cases h0 : l = 0
    · subst h0
      have p2' : W1.cell? ⟨g, k * 6 + 2, none⟩ = some (.int .i64 0) := p2
      clear p2
      go_wp2_with fail
      go_ret
      exact ⟨rfl, ⟨_, HPUT.out⟩, HB1.out.trans HPB.out⟩
    · have h0i : ¬ (l : Int) = 0 := by omega
      go_wp2_with fail
      go_ret
      refine ⟨rfl, ⟨vs, ?_⟩, HB1.out⟩
      first
        | exact HM1.out
        | (rw [if_neg h0]; exact HM1.out)
set_option maxRecDepth 100000 in
set_option maxHeartbeats 1000000 in
theorem m_read_none (k : Int) (hx : slotI tab k = none) (w : World) (M : MtAt w B mt md la lc ia ic bl tab vs) :
    Calls Tryz.prog 63 #[.pointer (some ⟨mt, 0, none⟩), .int .i64 k] w fun e w' => e = .returned (.tuple #[.string { data := #[] }, .int .i64 6]) ∧ w' = w := by
  have HI := m_is k w M
  rw [hx] at HI
  clear M hx
  go_enter Tryz.func63, Tryz.ntmps63
  go_wp2_with (go_at_call 16; refine HI.mono ?_; rintro e w1 ⟨rfl, hw⟩; rw [hw]; clear hw)
  go_ret2
  exact ⟨rfl, rfl⟩
/-- What the document's Read tells of an inode. -/
def readM (bl : List (List UInt8)) (x : Ino) : ByteArray × Int := if crcR (readD bl x.blocks x.bytes) = x.sum then (readD bl x.blocks x.bytes, 0) else ({ data := #[] }, 11)
set_option maxRecDepth 100000 in
set_option maxHeartbeats 2000000 in
theorem m_read (k : Nat) (x : Ino) (hx : slotT tab k = some x) (w : World) (M : MtAt w B mt md la lc ia ic bl tab vs) (hin : ∀ b ∈ x.blocks, b < bl.length) (h16 : ∀ b ∈ bl, b.length = 16) (hbl : x.blocks.length ≤ 1000) (hby : x.bytes ≤ x.blocks.length * 16) :
    Calls Tryz.prog 63 #[.pointer (some ⟨mt, 0, none⟩), .int .i64 (k : Int)] w fun e w' => e = .returned (.tuple #[.string (readM bl x).1, .int .i64 (readM bl x).2]) ∧ Below w.heap.size w w' := by
  have HI := m_is (k : Int) w M
  rw [slotI_nat, hx] at HI
  have hg := slotT_get hx
  have hkl := slotT_lt hx
  obtain ⟨v, g, hv, rfl, hc, hf⟩ := M.slot hg
  obtain ⟨_, c1, _⟩ := M.cells
  have iv := M.its k x v hg hv
  obtain ⟨av, vc, rfl, hcs⟩ := id iv
  rw [ints_len] at hc iv
  have HM : Hid _ := M
  have p0 := hc 0 _ rfl
  have p1 := hc 1 _ rfl
  have p2 := hc 2 _ rfl
  have p3 := hc 3 _ rfl
  have p4 := hc 4 _ rfl
  have p5 := hc 5 _ rfl
  simp only [Nat.add_zero] at p0
  have hgl : g < w.heap.size := World.block_lt_of_cell? w _ p0
  obtain ⟨nb, Hnb⟩ : ∃ nb, Hid (nb = x.blocks.length) := ⟨_, (rfl : x.blocks.length = _)⟩
  rw [← Hnb.out] at p4 hbl hby iv
  have HIV : Hid (∀ (j q : Nat), x.blocks[j]? = some q → ∃ g7 off, av = some ⟨g7, off, none⟩ ∧ ∀ W, Below w.heap.size w W → W.cell? ⟨g7, off + j, none⟩ = some (.int .i64 (q : Int))) := fun j q hq => by
    obtain ⟨g7, off, cur, e1, e2, e3⟩ := hcs (fun h => by have : x.blocks = [] := by simpa [ints] using h
                                                          rw [this] at hq; simp at hq)
    exact ⟨g7, off, e1, fun W hW => by
      rw [cell_of_row _ _ _ _ _ _ ((hW.block g7 (Array.getElem?_eq_some_iff.1 e2).1).trans e2)]
      exact e3 j q (by simp [ints, hq])⟩
  have HIN : Hid _ := hin
  have H16 : Hid _ := h16
  have hkli : (k : Int) < (tab.length : Int) := by omega
  have HMD : Hid (∀ W, Below w.heap.size w W → (W.cell? ⟨mt, 0, none⟩ = some (.pointer (some ⟨md, 0, none⟩)) ∧ MkAt W md la lc none 0 bl [])) := fun W hW => ⟨(M.below hW).cells.1, (M.below hW).disk⟩
  clear M hx hg hc hf hcs iv hin h16 hv
  generalize tab.length = tl at *
  go_enter Tryz.func63, Tryz.ntmps63
  go_wp2_with (go_at_call 16; refine HI.mono ?_; rintro e w1 ⟨rfl, hw⟩; rw [hw]; clear hw)
  obtain ⟨w2, hw2⟩ : ∃ w2, w2 = w.alloc (.cells #[.bool true, .int .i64 (x.bytes : Int), .int .i64 (x.links : Int), .bool x.exec, .slice av nb vc, .int .i64 (x.sum : Int)] 119) := ⟨_, rfl⟩
  have HB2 : Hid (Below w.heap.size w w2) := by rw [hw2]; exact (Below.refl _ w).alloc (Nat.le_refl _) _
  have HX2 : Hid (w2.heap[w.heap.size]? = some (.cells #[.bool true, .int .i64 (x.bytes : Int), .int .i64 (x.links : Int), .bool x.exec, .slice av nb vc, .int .i64 (x.sum : Int)] 119 (0, 0))) := by rw [hw2]; exact heap_alloc_last w _
  obtain ⟨xb, Hxb⟩ : ∃ xb, Hid (xb = w.heap.size) := ⟨_, (rfl : w.heap.size = _)⟩
  rw [← Hxb.out] at HX2
  rw [← hw2, ← Hxb.out]
  clear hw2
  have HXC : Hid (∀ i c, (#[Value.bool true, .int .i64 (x.bytes : Int), .int .i64 (x.links : Int), .bool x.exec, .slice av nb vc, .int .i64 (x.sum : Int)] : Array Value)[i]? = some c → w2.cell? ⟨xb, i, none⟩ = some c) := fun i c h => by rw [cell_of_row _ _ _ _ _ _ HX2.out]; exact h
  have hx4 := HXC.out 4 _ rfl
  go_loopw [8, 9] (fun s i wr => ∃ (j : Nat) (s2 : ByteArray), j ≤ nb ∧ i = .int .i64 j ∧ s = .string s2 ∧ s2.data.toList = catR bl (x.blocks.take j) ∧ s2.size = j * 16 ∧ Below w2.heap.size w2 wr) (fun _ i _ => nb - (intOf i).toNat)
  case atStart => exact ⟨0, { data := #[] }, Nat.zero_le _, rfl, rfl, by simp [catR], rfl, Below.refl _ _⟩
  case round =>
    obtain ⟨j, s2, hj, rfl, rfl, hs2, hsz, hb⟩ := hrel
    have HB : Hid (Below w2.heap.size w2 wr) := hb
    have hxl : xb < w2.heap.size := (Array.getElem?_eq_some_iff.1 HX2.out).1
    have HWX : Hid (∀ W, Below w2.heap.size w2 W → (W.cell? ⟨xb, 4, none⟩ = some (.slice av nb vc) ∧ W.cell? ⟨xb, 5, none⟩ = some (.int .i64 (x.sum : Int)) ∧ W.cell? ⟨xb, 1, none⟩ = some (.int .i64 (x.bytes : Int)) ∧ Below w.heap.size w W)) := fun W hW => ⟨by rw [hW.cell (p := ⟨xb, 4, none⟩) hxl]; exact HXC.out 4 _ rfl, by rw [hW.cell (p := ⟨xb, 5, none⟩) hxl]; exact HXC.out 5 _ rfl, by rw [hW.cell (p := ⟨xb, 1, none⟩) hxl]; exact HXC.out 1 _ rfl, HB2.out.trans (hW.mono HB2.out.size)⟩
    obtain ⟨cx4, cx5, cx1, hbw⟩ := HWX.out wr hb
    have HS2 : Hid (s2.data.toList = catR bl (x.blocks.take j)) := hs2
    have HSZ : Hid (s2.size = j * 16) := hsz
    clear hs2 hsz hx4
    by_cases hlt : j < nb
    · obtain ⟨q, hq⟩ : ∃ q, x.blocks[j]? = some q := ⟨_, List.getElem?_eq_getElem (by rw [← Hnb.out]; exact hlt)⟩
      obtain ⟨g7, off, rfl, hc7⟩ := HIV.out j q hq
      obtain ⟨b, hbk⟩ : ∃ b, bl[q]? = some b := ⟨_, List.getElem?_eq_getElem (HIN.out q (List.mem_of_getElem? hq))⟩
      have hb16 := H16.out b (List.mem_of_getElem? hbk)
      have HRD : Hid (∀ W, W = wr.drew → Calls Tryz.prog 108 #[.pointer (some ⟨md, 0, none⟩), .int .i64 (q : Int)] W fun e w' => e = .returned (.string (sB b)) ∧ w' = W) := fun W hW => by
        have hWW : Below w.heap.size w W := by rw [hW]; exact hbw.drew
        have h := readM_any q b W (HMD.out W hWW).2 hbk (by simp)
        have erd : rdR bl [] q = b := by simp [rdR, hbk]
        rw [erd] at h
        exact h
      have HS9 : Hid (∀ W, W = wr.drew → (W.cell? ⟨mt, 0, none⟩ = some (.pointer (some ⟨md, 0, none⟩)) ∧ W.cell? ⟨xb, 4, none⟩ = some (.slice (some ⟨g7, off, none⟩) nb vc) ∧ W.cell? ⟨g7, off + j, none⟩ = some (.int .i64 (q : Int)))) := fun W hW => by
        rw [hW]
        exact ⟨(HMD.out _ hbw.drew).1, cx4, hc7 _ hbw.drew⟩
      have HN : Hid ((s2 ++ sB b).data.toList = catR bl (x.blocks.take (j + 1))) := by
        show _ = _
        rw [ByteArray.data_append, Array.toList_append, HS2.out, catR_next hq hbk]; rfl
      have HNZ : Hid ((s2 ++ sB b).size = (j + 1) * 16) := by
        show _ = _
        rw [size_list, ByteArray.data_append, Array.toList_append, List.length_append, ← size_list, HSZ.out]
        have e : (sB b).data.toList.length = 16 := hb16
        rw [e]; omega
      have HSB : Hid (s2.size + (sB b).size ≤ 9223372036854775807) := by
        have e : (sB b).size = 16 := hb16
        show _ ≤ _
        rw [HSZ.out, e]; omega
      clear hq hc7 hbk hb16 cx5 cx1
      go_wp2_with fail
      refine wp_region_held_drew (S := fun w' => w'.cell? ⟨mt, 0, none⟩ = some (.pointer (some ⟨md, 0, none⟩)) ∧ w'.cell? ⟨xb, 4, none⟩ = some (.slice (some ⟨g7, off, none⟩) nb vc) ∧ w'.cell? ⟨g7, off + j, none⟩ = some (.int .i64 (q : Int))) (by kernel_rfl) (HS9.out _ rfl) (fun hHeld => ?_)
      refine wpAnyH_take (i := 0) (v := (.string s2)) rfl (by kernel_rfl) (by kernel_rfl) (by kernel_rfl) (fun _ _ _ h => h) (Or.inl ⟨by rfl, ?_⟩) hHeld ?_
      · intro w hSw; (try dsimp only at hSw); simp only [List.getElem_toArray, List.getElem_cons_zero]; go_simp
      simp only [List.getElem_toArray, List.getElem_cons_zero, Act.put, List.setIfInBounds_toArray, List.set_cons_zero, List.set_cons_succ]
      refine wpAnyH_take (i := 1) (v := (.pointer (some ⟨mt, 0, none⟩))) rfl (by kernel_rfl) (by kernel_rfl) (by kernel_rfl) (fun _ _ _ h => h) (Or.inl ⟨by rfl, ?_⟩) hHeld ?_
      · intro w hSw; (try dsimp only at hSw); simp only [List.getElem_toArray, List.getElem_cons_zero, List.getElem_cons_succ]; go_simp
      simp only [List.getElem_toArray, List.getElem_cons_zero, List.getElem_cons_succ, Act.put, List.setIfInBounds_toArray, List.set_cons_zero, List.set_cons_succ]
      refine wpAnyH_take (i := 2) (v := (.pointer (some ⟨mt, 0, none⟩))) rfl (by kernel_rfl) (by kernel_rfl) (by kernel_rfl) (fun _ _ _ h => h) (Or.inl ⟨by rfl, ?_⟩) hHeld ?_
      · intro w hSw; (try dsimp only at hSw); simp only [List.getElem_toArray, List.getElem_cons_zero, List.getElem_cons_succ]; go_simp
      simp only [List.getElem_toArray, List.getElem_cons_zero, List.getElem_cons_succ, Act.put, List.setIfInBounds_toArray, List.set_cons_zero, List.set_cons_succ]
      refine wpAnyH_take (i := 3) (v := (.pointer (some ⟨mt, 0, none⟩))) rfl (by kernel_rfl) (by kernel_rfl) (by kernel_rfl) (fun _ _ _ h => h) (Or.inl ⟨by rfl, ?_⟩) hHeld ?_
      · intro w hSw; (try dsimp only at hSw); simp only [List.getElem_toArray, List.getElem_cons_zero, List.getElem_cons_succ]; go_simp
      simp only [List.getElem_toArray, List.getElem_cons_zero, List.getElem_cons_succ, Act.put, List.setIfInBounds_toArray, List.set_cons_zero, List.set_cons_succ]
      refine wpAnyH_take (i := 4) (v := (.pointer (some ⟨md, 0, none⟩))) rfl (by kernel_rfl) (by kernel_rfl) (by kernel_rfl) (fun _ _ _ h => h) (Or.inl ⟨by rfl, ?_⟩) hHeld ?_
      · intro w hSw; (try dsimp only at hSw); simp only [List.getElem_toArray, List.getElem_cons_zero, List.getElem_cons_succ]; go_simp
      simp only [List.getElem_toArray, List.getElem_cons_zero, List.getElem_cons_succ, Act.put, List.setIfInBounds_toArray, List.set_cons_zero, List.set_cons_succ]
      refine wpAnyH_take (i := 5) (v := (.pointer (some ⟨xb, 4, none⟩))) rfl (by kernel_rfl) (by kernel_rfl) (by kernel_rfl) (fun _ _ _ h => h) (Or.inl ⟨by rfl, ?_⟩) hHeld ?_
      · intro w hSw; (try dsimp only at hSw); simp only [List.getElem_toArray, List.getElem_cons_zero, List.getElem_cons_succ]; go_simp
      simp only [List.getElem_toArray, List.getElem_cons_zero, List.getElem_cons_succ, Act.put, List.setIfInBounds_toArray, List.set_cons_zero, List.set_cons_succ]
      refine wpAnyH_take (i := 6) (v := (.slice (some ⟨g7, off, none⟩) nb vc)) rfl (by kernel_rfl) (by kernel_rfl) (by kernel_rfl) (fun _ _ _ h => h) (Or.inl ⟨by rfl, ?_⟩) hHeld ?_
      · intro w hSw; (try dsimp only at hSw); simp only [List.getElem_toArray, List.getElem_cons_zero, List.getElem_cons_succ]; go_simp
      simp only [List.getElem_toArray, List.getElem_cons_zero, List.getElem_cons_succ, Act.put, List.setIfInBounds_toArray, List.set_cons_zero, List.set_cons_succ]
      refine wpAnyH_take (i := 7) (v := (.int .i64 (j : Int))) rfl (by kernel_rfl) (by kernel_rfl) (by kernel_rfl) (fun _ _ _ h => h) (Or.inl ⟨by rfl, ?_⟩) hHeld ?_
      · intro w hSw; (try dsimp only at hSw); simp only [List.getElem_toArray, List.getElem_cons_zero, List.getElem_cons_succ]; go_simp
      simp only [List.getElem_toArray, List.getElem_cons_zero, List.getElem_cons_succ, Act.put, List.setIfInBounds_toArray, List.set_cons_zero, List.set_cons_succ]
      refine wpAnyH_take (i := 8) (v := (.pointer (some ⟨g7, off + j, none⟩))) rfl (by kernel_rfl) (by kernel_rfl) (by kernel_rfl) (fun _ _ _ h => h) (Or.inl ⟨by rfl, ?_⟩) hHeld ?_
      · intro w hSw; (try dsimp only at hSw); simp only [List.getElem_toArray, List.getElem_cons_zero, List.getElem_cons_succ]; go_simp
      simp only [List.getElem_toArray, List.getElem_cons_zero, List.getElem_cons_succ, Act.put, List.setIfInBounds_toArray, List.set_cons_zero, List.set_cons_succ]
      refine wpAnyH_take (i := 9) (v := (.int .i64 (q : Int))) rfl (by kernel_rfl) (by kernel_rfl) (by kernel_rfl) (fun _ _ _ h => h) (Or.inl ⟨by rfl, ?_⟩) hHeld ?_
      · intro w hSw; (try dsimp only at hSw); simp only [List.getElem_toArray, List.getElem_cons_zero, List.getElem_cons_succ]; go_simp
      simp only [List.getElem_toArray, List.getElem_cons_zero, List.getElem_cons_succ, Act.put, List.setIfInBounds_toArray, List.set_cons_zero, List.set_cons_succ]
      refine wpAnyH_ready (rs := [10]) (by kernel_rfl) (by simp) ?_
      refine AllReadyH.cons rfl (fun K' hK => ?_) AllReadyH.nil
      simp only [List.getElem_toArray, List.getElem_cons_zero, List.getElem_cons_succ]
      go_simp
      refine Calls.mono (HRD.out _ rfl) ?_
      rintro e wx ⟨rfl, hw⟩
      rw [hw]
      clear hw
      go_wp2_with fail
      refine hK.out _ _ (HS9.out _ rfl) (fun hHeld' => ?_)
      clear hK K' hHeld
      have hHeld := hHeld'
      clear hHeld'
      refine wpAnyH_take (i := 11) (v := (.string (s2 ++ sB b))) rfl (by kernel_rfl) (by kernel_rfl) (by kernel_rfl) (fun _ _ _ h => h) (Or.inl ⟨by rfl, ?_⟩) hHeld ?_
      · intro w hSw; (try dsimp only at hSw); simp only [List.getElem_toArray, List.getElem_cons_zero, List.getElem_cons_succ]; go_simp; (try exact HSB.out)
      simp only [List.getElem_toArray, List.getElem_cons_zero, List.getElem_cons_succ, Act.put, List.setIfInBounds_toArray, List.set_cons_zero, List.set_cons_succ]
      refine wpAnyH_take (i := 12) (v := (.string (s2 ++ sB b))) rfl (by kernel_rfl) (by kernel_rfl) (by kernel_rfl) (fun _ _ _ h => h) (Or.inl ⟨by rfl, ?_⟩) hHeld ?_
      · intro w hSw; (try dsimp only at hSw); simp only [List.getElem_toArray, List.getElem_cons_zero, List.getElem_cons_succ]; go_simp
      simp only [List.getElem_toArray, List.getElem_cons_zero, List.getElem_cons_succ, Act.put, List.setIfInBounds_toArray, List.set_cons_zero, List.set_cons_succ]
      refine wpAnyH_done (by kernel_rfl) ?_ _
      go_wp2_with fail
      exact ⟨⟨j + 1, _, by omega, by simp, rfl, HN.out, HNZ.out, HB.out.drew⟩, by simp [intOf]; omega⟩
    · obtain rfl : j = nb := by omega
      have hsi : (x.bytes : Int) ≤ (s2.size : Int) := by rw [HSZ.out]; omega
      have hsn : x.bytes ≤ s2.size := by rw [HSZ.out]; exact hby
      have hsz2 : s2.size ≤ 16000 := by rw [HSZ.out]; omega
      have HS3 : Hid (s2.extract 0 x.bytes = readD bl x.blocks x.bytes) := by
        show _ = _
        refine sB_of _ ((catR bl x.blocks).take x.bytes) ?_
        rw [ext_list, HS2.out, Hnb.out, List.take_length]; rfl
      have hby2 : x.bytes ≤ 16000 := by omega
      have HCR : Hid (∀ W, Calls Tryz.prog 95 #[.string (s2.extract 0 x.bytes)] W fun e w' => e = .returned (.int .i64 (crcR (readD bl x.blocks x.bytes) : Nat)) ∧ w' = W) := fun W => by
        have h := crc_any (s2.extract 0 x.bytes) (by rw [HS3.out]; have := readD_len bl x.blocks x.bytes; omega) W
        rw [HS3.out] at h ⊢
        exact h
      have HS11 : Hid (∀ W, W = wr.drew → W.cell? ⟨xb, 5, none⟩ = some (.int .i64 (x.sum : Int))) := fun W hW => by rw [hW]; exact cx5
      have HBW : Hid (Below w.heap.size w wr) := hbw
      by_cases hcr : crcR (readD bl x.blocks x.bytes) = x.sum
      · have HR : Hid (readM bl x = (s2.extract 0 x.bytes, 0)) := by show _ = _; unfold readM; rw [if_pos hcr, HS3.out]
        rw [hcr] at HCR
        clear hcr
        go_wp2_with fail
        generalize s2.extract 0 x.bytes = s3 at *
        refine wp_region_held_drew (S := fun w' => w'.cell? ⟨xb, 5, none⟩ = some (.int .i64 (x.sum : Int))) (by kernel_rfl) (HS11.out _ rfl) (fun hHeld => ?_)
        refine wpAnyH_take (i := 0) (v := (.string s3)) rfl (by kernel_rfl) (by kernel_rfl) (by kernel_rfl) (fun _ _ _ h => h) (Or.inl ⟨by rfl, ?_⟩) hHeld ?_
        · intro w hSw; (try dsimp only at hSw); simp only [List.getElem_toArray, List.getElem_cons_zero]; go_simp
        simp only [List.getElem_toArray, List.getElem_cons_zero, Act.put, List.setIfInBounds_toArray, List.set_cons_zero, List.set_cons_succ]
        refine wpAnyH_take (i := 2) (v := (.pointer (some ⟨xb, 5, none⟩))) rfl (by kernel_rfl) (by kernel_rfl) (by kernel_rfl) (fun _ _ _ h => h) (Or.inl ⟨by rfl, ?_⟩) hHeld ?_
        · intro w hSw; (try dsimp only at hSw); simp only [List.getElem_toArray, List.getElem_cons_zero, List.getElem_cons_succ]; go_simp
        simp only [List.getElem_toArray, List.getElem_cons_zero, List.getElem_cons_succ, Act.put, List.setIfInBounds_toArray, List.set_cons_zero, List.set_cons_succ]
        refine wpAnyH_take (i := 3) (v := (.int .i64 (x.sum : Int))) rfl (by kernel_rfl) (by kernel_rfl) (by kernel_rfl) (fun _ _ _ h => h) (Or.inl ⟨by rfl, ?_⟩) hHeld ?_
        · intro w hSw; (try dsimp only at hSw); simp only [List.getElem_toArray, List.getElem_cons_zero, List.getElem_cons_succ]; go_simp
        simp only [List.getElem_toArray, List.getElem_cons_zero, List.getElem_cons_succ, Act.put, List.setIfInBounds_toArray, List.set_cons_zero, List.set_cons_succ]
        refine wpAnyH_ready (rs := [1]) (by kernel_rfl) (by simp) ?_
        refine AllReadyH.cons rfl (fun K' hK => ?_) AllReadyH.nil
        simp only [List.getElem_toArray, List.getElem_cons_zero, List.getElem_cons_succ]
        go_simp
        refine Calls.mono (HCR.out _) ?_
        rintro e wx ⟨rfl, hw⟩
        rw [hw]
        clear hw
        go_wp2_with fail
        refine hK.out _ _ (HS11.out _ rfl) (fun hHeld' => ?_)
        clear hK K' hHeld
        have hHeld := hHeld'
        clear hHeld'
        refine wpAnyH_take (i := 4) (v := (.bool false)) rfl (by kernel_rfl) (by kernel_rfl) (by kernel_rfl) (fun _ _ _ h => h) (Or.inl ⟨by rfl, ?_⟩) hHeld ?_
        · intro w hSw; (try dsimp only at hSw); simp only [List.getElem_toArray, List.getElem_cons_zero, List.getElem_cons_succ]; go_simp; (try exact hcx)
        simp only [List.getElem_toArray, List.getElem_cons_zero, List.getElem_cons_succ, Act.put, List.setIfInBounds_toArray, List.set_cons_zero, List.set_cons_succ]
        refine wpAnyH_done (by kernel_rfl) ?_ _
        go_wp2_with fail
        go_ret2
        have h := HBW.out
        exact ⟨by rw [HR.out]; rfl, ⟨h.os, h.tape, h.output, h.size, h.block⟩⟩
      · have HR : Hid (readM bl x = ({ data := #[] }, 11)) := by show _ = _; unfold readM; rw [if_neg hcr]
        generalize crcR (readD bl x.blocks x.bytes) = cr at *
        have hcx : ¬ (cr : Int) = (x.sum : Int) := by omega
        go_wp2_with fail
        generalize s2.extract 0 x.bytes = s3 at *
        refine wp_region_held_drew (S := fun w' => w'.cell? ⟨xb, 5, none⟩ = some (.int .i64 (x.sum : Int))) (by kernel_rfl) (HS11.out _ rfl) (fun hHeld => ?_)
        refine wpAnyH_take (i := 0) (v := (.string s3)) rfl (by kernel_rfl) (by kernel_rfl) (by kernel_rfl) (fun _ _ _ h => h) (Or.inl ⟨by rfl, ?_⟩) hHeld ?_
        · intro w hSw; (try dsimp only at hSw); simp only [List.getElem_toArray, List.getElem_cons_zero]; go_simp
        simp only [List.getElem_toArray, List.getElem_cons_zero, Act.put, List.setIfInBounds_toArray, List.set_cons_zero, List.set_cons_succ]
        refine wpAnyH_take (i := 2) (v := (.pointer (some ⟨xb, 5, none⟩))) rfl (by kernel_rfl) (by kernel_rfl) (by kernel_rfl) (fun _ _ _ h => h) (Or.inl ⟨by rfl, ?_⟩) hHeld ?_
        · intro w hSw; (try dsimp only at hSw); simp only [List.getElem_toArray, List.getElem_cons_zero, List.getElem_cons_succ]; go_simp
        simp only [List.getElem_toArray, List.getElem_cons_zero, List.getElem_cons_succ, Act.put, List.setIfInBounds_toArray, List.set_cons_zero, List.set_cons_succ]
        refine wpAnyH_take (i := 3) (v := (.int .i64 (x.sum : Int))) rfl (by kernel_rfl) (by kernel_rfl) (by kernel_rfl) (fun _ _ _ h => h) (Or.inl ⟨by rfl, ?_⟩) hHeld ?_
        · intro w hSw; (try dsimp only at hSw); simp only [List.getElem_toArray, List.getElem_cons_zero, List.getElem_cons_succ]; go_simp
        simp only [List.getElem_toArray, List.getElem_cons_zero, List.getElem_cons_succ, Act.put, List.setIfInBounds_toArray, List.set_cons_zero, List.set_cons_succ]
        refine wpAnyH_ready (rs := [1]) (by kernel_rfl) (by simp) ?_
        refine AllReadyH.cons rfl (fun K' hK => ?_) AllReadyH.nil
        simp only [List.getElem_toArray, List.getElem_cons_zero, List.getElem_cons_succ]
        go_simp
        refine Calls.mono (HCR.out _) ?_
        rintro e wx ⟨rfl, hw⟩
        rw [hw]
        clear hw
        go_wp2_with fail
        refine hK.out _ _ (HS11.out _ rfl) (fun hHeld' => ?_)
        clear hK K' hHeld
        have hHeld := hHeld'
        clear hHeld'
        refine wpAnyH_take (i := 4) (v := (.bool true)) rfl (by kernel_rfl) (by kernel_rfl) (by kernel_rfl) (fun _ _ _ h => h) (Or.inl ⟨by rfl, ?_⟩) hHeld ?_
        · intro w hSw; (try dsimp only at hSw); simp only [List.getElem_toArray, List.getElem_cons_zero, List.getElem_cons_succ]; go_simp; (try exact hcx)
        simp only [List.getElem_toArray, List.getElem_cons_zero, List.getElem_cons_succ, Act.put, List.setIfInBounds_toArray, List.set_cons_zero, List.set_cons_succ]
        refine wpAnyH_done (by kernel_rfl) ?_ _
        go_wp2_with fail
        go_ret2
        have h := HBW.out
        exact ⟨by rw [HR.out]; rfl, ⟨h.os, h.tape, h.output, h.size, h.block⟩⟩
end
end Go.Proofs.YtcejpeohkgchdaaGreatDoor
