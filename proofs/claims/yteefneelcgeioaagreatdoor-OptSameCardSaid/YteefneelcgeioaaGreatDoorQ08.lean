/-
  The contract of package disk's Write.
  Conditions: those that each states.
-/
import Derived.Test.YteefneelcgeioaaGreatDoorQ04
import Derived.Laws.OwnMore
import Derived.Deep.RegionHeld3
import Derived.Deep.AppendLies
import Derived.Great.BuildSlice
namespace Go.Proofs.YteefneelcgeioaaGreatDoor
open Go.RowKit

theorem step_buildSlice {P : Program} {ops : Array Oper} {o : Oper} {a : Act} {w : World} {K : Act → World → Prop} {Q : Exit → Act → World → Prop} {E : Prop} (hgd : o.guard = none) (t e : TypeId) (len : Nat) (parts : Array (Nat × Operand)) (ho : o.op = .buildSlice t len parts)
    (cells : Array Value) (ie : TypeInfo) (z : Value)
    (hu : P.underlying t = some (.slice e)) (hie : P.info? e = some ie) (hz : ie.zero = some z) (hsmall : ¬ len * ie.size > 2 ^ 24) (hpos : ¬ len * ie.size = 0)
    (hf : Instr.fill (fun i => some (i * ie.size, ie.size)) ((Array.range (len * ie.size)).map (z.cells[· % z.cells.size]!)) (parts.map fun (i, x) => (i, a.eval x)).toList = some cells)
    (h : K (a.put o.dst (.slice (some ⟨w.heap.size, 0, none⟩) len len)) (w.alloc (.cells cells e))) :
    if Region.wanted o (yielded ops a.tmps) = true then Oper.wp P o a w K Q else E := by
  have hw : Region.wanted o (yielded ops a.tmps) = true := by simp [Region.wanted, hgd]
  rw [if_pos hw]
  exact wp_buildSlice t e len parts ho cells ie z hu hie hz hsmall hpos hf h
/-- One write more waits. -/
theorem wr_end {bb : Nat} {va : Option Addr} {vc : Nat} {bl : List (List UInt8)} {wt : List (Nat × List UInt8)} {x : Nat × List UInt8} {w wa w5 w6 : World} {g cap H : Nat} (D : DkAt w bb va vc bl wt)
    (hown : w5.ownsRow (bb + 2) 210 17 (.slice (some ⟨g, 0, none⟩) (wt.length + 1) cap) (wt.length + 1) (wt.flatMap wc ++ wc x)) (hba : Below w.heap.size w wa) (hgrow : wa.grownBy w5 (Value.slice va wt.length vc).ownBlock)
    (hat : (Value.slice va wt.length vc).ownBlock = some g ∨ g = H) (hH : w.heap.size ≤ H) (h6 : w6 = w5.setCell ⟨bb + 1, 1, none⟩ (.slice (some ⟨g, 0, none⟩) (wt.length + 1) cap)) (hx : x.1 < bl.length ∧ x.2.length = 16) :
    DkAt w6 bb (some ⟨g, 0, none⟩) cap bl (wt ++ [x]) ∧ DkBut bb va w w6 ∧ (some (⟨g, 0, none⟩ : Addr) = va ∨ ∀ a : Addr, some (⟨g, 0, none⟩ : Addr) = some a → w.heap.size ≤ a.block) := by
  have hlt := D.lt
  have hob : ∀ k, k < w.heap.size → (∀ a, va = some a → k ≠ a.block) → w5.heap[k]? = w.heap[k]? := fun k hk hne => by
    rw [hgrow.block k (Nat.lt_of_lt_of_le hk hba.size) (fun e => ?_), hba.block k hk]
    cases va with
    | none => simp [Value.ownBlock] at e
    | some a => exact hne a rfl (by simpa [Value.ownBlock] using e)
  have h6b : ∀ k, k ≠ bb + 1 → w6.heap[k]? = w5.heap[k]? := fun k hk => by rw [h6]; exact Below.heap_setCell _ _ _ _ hk
  have hg : bb + 2 ≤ g := (hown.lt g rfl).1
  have hd : w5.heap[bb + 1]? = w.heap[bb + 1]? := hob _ (by omega) (fun a ha => by have := (D.low a ha).1; omega)
  refine ⟨⟨?_, ?_, ?_, D.bl16, ?_⟩, ⟨?_, ?_, ?_, ?_, fun k hk k1 k2 k3 => ?_⟩, ?_⟩
  · rw [h6, row_setCell (hd.trans D.disk)]
    simp
  · rw [h6b _ (by omega), hob _ (by omega) (fun a ha => by have := (D.low a ha).1; omega)]; exact D.blocks
  · rw [List.length_append, List.length_singleton, List.flatMap_append, List.flatMap_singleton]
    refine ⟨hown.1, ?_⟩
    rcases hown.2 with ⟨e, _⟩ | ⟨g', cap', cur, e, h1, h2, h3⟩
    · simp at e
    · refine .inr ⟨g', cap', cur, e, h1, ?_, h3⟩
      rw [h6b _ (by omega)]; exact h2
  · intro z hz
    rcases List.mem_append.1 hz with h | h
    · exact D.wt16 z h
    · rw [List.mem_singleton.1 h]; exact hx
  · rw [h6]; exact hgrow.os.trans hba.os
  · rw [h6]; exact hgrow.tape.trans hba.tape
  · rw [h6]; exact hgrow.output.trans hba.output
  · have : w6.heap.size = w5.heap.size := by rw [h6]; simp [World.setCell]
    have := hgrow.size
    have := hba.size
    omega
  · rw [h6b k k2, hob k hk k3]
  · rcases hat with h | h
    · left
      cases va with
      | none => simp [Value.ownBlock] at h
      | some a =>
        have h' : a.block = g := by simpa [Value.ownBlock] using h
        rw [(D.low a rfl).2.2, h']
    · right
      intro a ha
      cases ha
      show w.heap.size ≤ g
      omega
/-- What Write hands back. -/
def WrPost (bb : Nat) (va : Option Addr) (vc : Nat) (bl : List (List UInt8)) (wt : List (Nat × List UInt8)) (k : Int) (s : ByteArray) (er : Value) (w : World) (e : Ending) (w' : World) : Prop :=
  (hasB bl.length k = true ∧ s.size = 16 ∧ e = .returned .nilIface ∧ ∃ va' vc', DkAt w' bb va' vc' bl (wt ++ [(k.toNat, s.data.toList)]) ∧ DkBut bb va w w' ∧ (va' = va ∨ ∀ a, va' = some a → w.heap.size ≤ a.block)) ∨
  ((hasB bl.length k = false ∨ s.size ≠ 16) ∧ e = .returned er ∧ DkAt w' bb va vc bl wt ∧ Below w.heap.size w w')

set_option maxRecDepth 100000 in
set_option maxHeartbeats 1000000 in
theorem write_any {bb : Nat} {va : Option Addr} {vc : Nat} {bl : List (List UInt8)} {wt : List (Nat × List UInt8)} (k : Int) (s : ByteArray) (er : Value) (w : World) (D : DkAt w bb va vc bl wt) (hE : w.cell? ⟨6, 0, none⟩ = some er) (hwl : wt.length ≤ 100000) :
    Calls Tryz.prog 106 #[.pointer (some ⟨bb + 1, 0, none⟩), .int .i64 k, .string s] w (WrPost bb va vc bl wt k s er w) := by
  have HH := has_any k w D
  cases hh : hasB bl.length k with
  | false =>
    rw [hh] at HH
    have HD : Hid (DkAt w bb va vc bl wt) := D
    clear D
    go_enter Tryz.func106, Tryz.ntmps106
    go_wp2_with (go_at_call 102; refine HH.mono ?_; rintro e w' ⟨rfl, hw⟩; rw [hw]; clear hw)
    go_ret
    exact .inr ⟨.inl hh, rfl, HD.out, Below.refl _ _⟩
  | true =>
    rw [hh] at HH
    by_cases hs : s.size = 16
    · have HD : Hid (DkAt w bb va vc bl wt) := D
      have HK : Hid (((k.toNat : Nat) : Int) = k) := by have := of_decide_eq_true hh; show _ = _; omega
      obtain ⟨cs, hcs⟩ : ∃ cs, cs = wc (k.toNat, s.data.toList) := ⟨_, rfl⟩
      have hcl : cs.length = 17 := by rw [hcs, wc_len]; simp; exact hs
      have HCS : Hid (cs = wc (k.toNat, s.data.toList)) := hcs
      have HC1 : Hid (∀ v ∈ cs, v.oneCell' = true) := by rw [hcs]; exact wc_one _
      have HCP : (Builtin.copy_ #[147, 9] 3 #[.slice (some ⟨w.heap.size, 1, none⟩) 16 16, .string s]).run Tryz.prog (w.alloc (.cells #[.int .i64 k, .int .u8 0, .int .u8 0, .int .u8 0, .int .u8 0, .int .u8 0, .int .u8 0, .int .u8 0, .int .u8 0, .int .u8 0, .int .u8 0, .int .u8 0, .int .u8 0, .int .u8 0, .int .u8 0, .int .u8 0, .int .u8 0] 210)) = .ok (goInt s.size) (w.alloc (.cells cs.toArray 210)) := by
        have hdl : s.data.toList.length = 16 := by simpa using hs
        rw [run_copy_string _ 147 9 3 5 w.heap.size 1 16 16 s Tryz.underlying147 Tryz.sizeOf5 (by omega)
          (fun j hj => by rw [cell_of_row _ _ _ _ _ _ (heap_alloc_last w _)]; simp; omega) (fun j hj => frz (heap_alloc_last w _) _)]
        rw [setCells_new w 210 _ 1 _ (by simp; omega), hcs]
        congr 3
        rw [over]
        simp only [List.length_map, hdl, wc, bc, HK.out]
        show (([.int .i64 k] : List Value) ++ (List.map _ s.data.toList ++ [])).toArray = _
        simp
      obtain ⟨i0, hi0, hz0, hz1, hz2⟩ := info_parts infoWr
      have HF : Hid (∀ Z : Array Value, Z.size = 17 → Instr.fill (fun i => some (i * 17, 17)) Z [(0, .agg cs.toArray)] = some cs.toArray) := fun Z hZ => by
        have h := Go.Great.fill_whole (s := 17) (by decide) [.agg cs.toArray] Z (by simp [Value.cells, hcl]) (by simp [hZ])
        simpa [Value.cells] using h
      have HV : Hid (k.toNat < bl.length ∧ s.data.toList.length = 16) := ⟨by have := of_decide_eq_true hh; omega, by simpa using hs⟩
      clear D hcs
      go_enter Tryz.func106, Tryz.ntmps106
      go_wp2_with (go_at_call 102; refine HH.mono ?_; rintro e w' ⟨rfl, hw⟩; rw [hw]; clear hw)
      have HS : Hid (∀ w', Below (w.heap.size + 1) (w.alloc (.cells cs.toArray 210)) w' → w'.rangeAt w.heap.size 0 cs) := fun w' h j v hj => by
        rw [h.cell (p := ⟨w.heap.size, 0 + j, none⟩) (Nat.lt_succ_self _), cell_of_row _ _ _ _ _ _ (heap_alloc_last w _)]
        simpa using hj
      have HG : Hid (∀ w', Below w.heap.size w w' → w'.cell? ⟨bb + 1, 1, none⟩ = some (.slice va wt.length vc)) := fun w' h => by rw [h.cell (p := ⟨bb + 1, 1, none⟩) HD.out.lt]; exact HD.out.cells.2.1
      have hsz1 : (w.alloc (.cells cs.toArray 210)).drew.heap.size = w.heap.size + 1 := by simp
      have HB1 : Hid (Below w.heap.size w (w.alloc (.cells cs.toArray 210))) := (Below.refl _ _).alloc (Nat.le_refl _) _
      refine wp_region_held_drew (S := fun w' => w'.rangeAt w.heap.size 0 cs) (by kernel_rfl) (HS.out _ (Below.refl _ _).drew) (fun hHeld => ?_)
      refine wpAnyH_take (i := 0) (v := .pointer (some ⟨bb + 1, 0, none⟩)) rfl (by kernel_rfl) (by kernel_rfl) (by kernel_rfl) (fun _ _ _ h => h) (Or.inl ⟨by rfl, ?_⟩) hHeld ?_
      · intro w hSw; (try dsimp only at hSw); simp only [List.getElem_toArray, List.getElem_cons_zero]; go_simp
      simp only [List.getElem_toArray, List.getElem_cons_zero, Act.put, List.setIfInBounds_toArray, List.set_cons_zero, List.set_cons_succ]
      refine wpAnyH_take (i := 1) (v := .pointer (some ⟨bb + 1, 0, none⟩)) rfl (by kernel_rfl) (by kernel_rfl) (by kernel_rfl) (fun _ _ _ h => h) (Or.inl ⟨by rfl, ?_⟩) hHeld ?_
      · intro w hSw; (try dsimp only at hSw); simp only [List.getElem_toArray, List.getElem_cons_zero, List.getElem_cons_succ]; go_simp
      simp only [List.getElem_toArray, List.getElem_cons_zero, List.getElem_cons_succ, Act.put, List.setIfInBounds_toArray, List.set_cons_zero, List.set_cons_succ]
      refine wpAnyH_take (i := 2) (v := .pointer (some ⟨bb + 1, 0, none⟩)) rfl (by kernel_rfl) (by kernel_rfl) (by kernel_rfl) (fun _ _ _ h => h) (Or.inl ⟨by rfl, ?_⟩) hHeld ?_
      · intro w hSw; (try dsimp only at hSw); simp only [List.getElem_toArray, List.getElem_cons_zero, List.getElem_cons_succ]; go_simp
      simp only [List.getElem_toArray, List.getElem_cons_zero, List.getElem_cons_succ, Act.put, List.setIfInBounds_toArray, List.set_cons_zero, List.set_cons_succ]
      refine wpAnyH_take (i := 3) (v := .pointer (some ⟨bb + 1, 1, none⟩)) rfl (by kernel_rfl) (by kernel_rfl) (by kernel_rfl) (fun _ _ _ h => h) (Or.inl ⟨by rfl, ?_⟩) hHeld ?_
      · intro w hSw; (try dsimp only at hSw); simp only [List.getElem_toArray, List.getElem_cons_zero, List.getElem_cons_succ]; go_simp
      simp only [List.getElem_toArray, List.getElem_cons_zero, List.getElem_cons_succ, Act.put, List.setIfInBounds_toArray, List.set_cons_zero, List.set_cons_succ]
      refine wpAnyH_take (i := 5) (v := .agg cs.toArray) rfl (by kernel_rfl) (by kernel_rfl) (by kernel_rfl) (fun _ _ _ h => h) (yieldsIf_load_mid (by rfl) 210 _ (by rfl) w.heap.size 0 (by rfl) cs _ (fun w h => h) Tryz.underlying210 rfl (by rw [hi0]; simp [hz1, hcl])) hHeld ?_
      simp only [List.getElem_toArray, List.getElem_cons_zero, List.getElem_cons_succ, Act.put, List.setIfInBounds_toArray, List.set_cons_zero, List.set_cons_succ]
      refine wpAnyH_ready (rs := [4, 6]) (by kernel_rfl) (by simp) ?_
      refine AllReadyH.cons rfl (fun K' hK => ?_) (AllReadyH.cons rfl (fun K' hK => ?_) AllReadyH.nil)
      · skip
        simp only [List.getElem_toArray, List.getElem_cons_zero, List.getElem_cons_succ]
        have c28 := HG.out _ (HB1.out.drew)
        have c0 := HD.out.cells.2.1
        have hltD := HD.out.lt
        have hltE : bb + 1 < w.heap.size + 1 := by omega
        have hneD : ¬ bb + 1 = w.heap.size + 1 := by omega
        have hneE : ¬ bb + 1 = w.heap.size := by omega
        go_simp
        go_wp2_with fail
        clear c28 c0 hltD hltE hneD hneE
        refine hK.out _ _ (HS.out _ ((Below.refl _ _).drew)) (fun hHeld' => ?_)
        clear hK K' hHeld
        have hHeld := hHeld'
        clear hHeld'
        refine wpAnyH_ready (rs := [6]) (by kernel_rfl) (by simp) ?_
        refine AllReadyH.cons rfl (fun K' hK => ?_) AllReadyH.nil
        refine step_buildSlice (by rfl) 157 210 1 _ (by rfl) cs.toArray i0 _ Tryz.underlying157 hi0 hz0 (by rw [hz1]; decide) (by rw [hz1]; decide) (by rw [hz1]; simp only [List.map_toArray, List.map_cons, List.map_nil]; exact HF.out _ (by simp)) ?_
        simp only [List.getElem_toArray, List.getElem_cons_zero, List.getElem_cons_succ, Act.put, List.setIfInBounds_toArray, List.set_cons_zero, List.set_cons_succ, hsz1]
        refine hK.out _ _ (HS.out _ (((Below.refl _ _).drew).alloc (by simp) _)) (fun hHeld' => ?_)
        clear hK K' hHeld
        have hHeld := hHeld'
        clear hHeld'
        have HBA : Hid (Below w.heap.size w ((w.alloc (.cells cs.toArray 210)).drew.alloc (.cells cs.toArray 210))) := HB1.out.drew.alloc (by simp) _
        have HOW : Hid (((w.alloc (.cells cs.toArray 210)).drew.alloc (.cells cs.toArray 210)).ownsRow (bb + 2) 210 17 (.slice va wt.length vc) wt.length (wt.flatMap wc)) := (HD.out.below (Nat.le_refl _) HBA.out).waits
        have HN2 : Hid (((w.alloc (.cells cs.toArray 210)).drew.alloc (.cells cs.toArray 210)).heap[w.heap.size + 1]? = some (.cells cs.toArray 210 (0, 0))) := by
          have h := heap_alloc_last (w.alloc (.cells cs.toArray 210)).drew (.cells cs.toArray 210)
          have e : (w.alloc (.cells cs.toArray 210)).drew.heap.size = w.heap.size + 1 := by simp
          rw [e] at h; exact h
        refine wpAnyH_ready (rs := [7]) (by kernel_rfl) (by simp) ?_
        refine AllReadyH.cons rfl (fun K' hK => ?_) AllReadyH.nil
        refine step_append_lies _ (by rfl) _ _ _ (by rfl) (bb + 2) 210 i0 _ 17 24 Tryz.underlying157 hi0 hz0 hz1 hz2 rfl (by omega) (.slice va wt.length vc) wt.length (wt.flatMap wc) (by rfl) HOW.out ⟨w.heap.size + 1, 0, none⟩ 1 1 cs (by rfl) (by rw [hcl]) (World.news_of_block (cs := cs.toArray) (t := 210) (fr := (0, 0)) HN2.out) HC1.out (by omega) (by unfold maxLen; omega) (by omega) (by have := HD.out.lt; simp; omega) (w.heap.size + 2) (by simp) ?_
        intro g cap w5 hown5 hgrow hat hlt5
        have HE : Hid _ := wr_end (w6 := w5.setCell ⟨bb + 1, 1, none⟩ (.slice (some ⟨g, 0, none⟩) (wt.length + 1) cap)) HD.out (x := (k.toNat, s.data.toList)) (by rw [← HCS.out]; exact hown5) HBA.out hgrow hat (by omega) rfl HV.out
        have hz5 := hgrow.size
        have e5 : w5.heap[bb + 1]? = ((w.alloc (.cells cs.toArray 210)).drew.alloc (.cells cs.toArray 210)).heap[bb + 1]? := hgrow.block _ (by have := HD.out.lt; simp; omega) (fun e => by have := (World.ownsRow.lt HOW.out _ e.symm).1; omega)
        have d5 : w5.heap[bb + 1]? = some (.cells #[.slice (some ⟨bb, 0, none⟩) bl.length bl.length, .slice va wt.length vc] 159 (0, 0)) := by rw [e5]; exact (HD.out.below (Nat.le_refl _) HBA.out).disk
        have c5 : w5.cell? ⟨bb + 1, 1, none⟩ = some (.slice va wt.length vc) := by rw [cell_of_row w5 _ _ _ _ _ d5]; rfl
        have f5 : w5.frozen? ⟨bb + 1, 1, none⟩ = false := frz d5 1
        have HS5 : Hid (w5.rangeAt w.heap.size 0 cs) := fun j v hj => by
          have e : w5.heap[w.heap.size]? = ((w.alloc (.cells cs.toArray 210)).drew.alloc (.cells cs.toArray 210)).heap[w.heap.size]? := hgrow.block _ (by simp; omega) (fun e => by have := (World.ownsRow.lt HD.out.waits _ e.symm).2; omega)
          rw [World.cell?_of_block e]; exact HS.out _ (((Below.refl _ _).drew).alloc (by simp) _) j v hj
        have HS6 : Hid ((w5.setCell ⟨bb + 1, 1, none⟩ (.slice (some ⟨g, 0, none⟩) (wt.length + 1) cap)).rangeAt w.heap.size 0 cs) := fun j v hj => by
          have hne : w.heap.size ≠ bb + 1 := by have := HD.out.lt; omega
          rw [World.cell?_of_block (Below.heap_setCell _ _ _ _ hne)]; exact HS5.out j v hj
        clear hown5 hgrow hat e5 d5
        simp only [List.getElem_toArray, List.getElem_cons_zero, List.getElem_cons_succ, Act.put, List.setIfInBounds_toArray, List.set_cons_zero, List.set_cons_succ]
        refine hK.out _ _ HS5.out (fun hHeld' => ?_)
        clear hK K' hHeld
        have hHeld := hHeld'
        clear hHeld'
        refine wpAnyH_take (i := 8) (v := .pointer (some ⟨bb + 1, 0, none⟩)) rfl (by kernel_rfl) (by kernel_rfl) (by kernel_rfl) (fun _ _ _ h => h) (Or.inl ⟨by rfl, ?_⟩) hHeld ?_
        · intro w hSw; (try dsimp only at hSw); simp only [List.getElem_toArray, List.getElem_cons_zero, List.getElem_cons_succ]; go_simp
        simp only [List.getElem_toArray, List.getElem_cons_zero, List.getElem_cons_succ, Act.put, List.setIfInBounds_toArray, List.set_cons_zero, List.set_cons_succ]
        refine wpAnyH_take (i := 9) (v := .pointer (some ⟨bb + 1, 1, none⟩)) rfl (by kernel_rfl) (by kernel_rfl) (by kernel_rfl) (fun _ _ _ h => h) (Or.inl ⟨by rfl, ?_⟩) hHeld ?_
        · intro w hSw; (try dsimp only at hSw); simp only [List.getElem_toArray, List.getElem_cons_zero, List.getElem_cons_succ]; go_simp
        simp only [List.getElem_toArray, List.getElem_cons_zero, List.getElem_cons_succ, Act.put, List.setIfInBounds_toArray, List.set_cons_zero, List.set_cons_succ]
        refine wpAnyH_ready (rs := [10]) (by kernel_rfl) (by simp) ?_
        refine AllReadyH.cons rfl (fun K' hK => ?_) AllReadyH.nil
        simp only [List.getElem_toArray, List.getElem_cons_zero, List.getElem_cons_succ]
        go_simp
        go_wp2_with fail
        refine hK.out _ _ HS6.out (fun hHeld' => ?_)
        clear hK K' hHeld
        have hHeld := hHeld'
        clear hHeld'
        refine wpAnyH_done (by kernel_rfl) ?_ _
        go_wp2_with fail
        go_ret
        exact .inl ⟨hh, hs, rfl, _, _, HE.out⟩
      · skip
        refine step_buildSlice (by rfl) 157 210 1 _ (by rfl) cs.toArray i0 _ Tryz.underlying157 hi0 hz0 (by rw [hz1]; decide) (by rw [hz1]; decide) (by rw [hz1]; simp only [List.map_toArray, List.map_cons, List.map_nil]; exact HF.out _ (by simp)) ?_
        simp only [List.getElem_toArray, List.getElem_cons_zero, List.getElem_cons_succ, Act.put, List.setIfInBounds_toArray, List.set_cons_zero, List.set_cons_succ, hsz1]
        refine hK.out _ _ (HS.out _ (((Below.refl _ _).drew).alloc (by simp) _)) (fun hHeld' => ?_)
        clear hK K' hHeld
        have hHeld := hHeld'
        clear hHeld'
        refine wpAnyH_ready (rs := [4]) (by kernel_rfl) (by simp) ?_
        refine AllReadyH.cons rfl (fun K' hK => ?_) AllReadyH.nil
        simp only [List.getElem_toArray, List.getElem_cons_zero, List.getElem_cons_succ]
        have c28 := HG.out _ ((HB1.out.drew.alloc (by simp) _ : Below w.heap.size w ((w.alloc (.cells cs.toArray 210)).drew.alloc (.cells cs.toArray 210))))
        have c0 := HD.out.cells.2.1
        have hltD := HD.out.lt
        have hltE : bb + 1 < w.heap.size + 1 := by omega
        have hneD : ¬ bb + 1 = w.heap.size + 1 := by omega
        have hneE : ¬ bb + 1 = w.heap.size := by omega
        go_simp
        go_wp2_with fail
        clear c28 c0 hltD hltE hneD hneE
        refine hK.out _ _ (HS.out _ ((((Below.refl _ _).drew).alloc (by simp) _ : Below (w.heap.size + 1) (w.alloc (.cells cs.toArray 210)) ((w.alloc (.cells cs.toArray 210)).drew.alloc (.cells cs.toArray 210))))) (fun hHeld' => ?_)
        clear hK K' hHeld
        have hHeld := hHeld'
        clear hHeld'
        have HBA : Hid (Below w.heap.size w ((w.alloc (.cells cs.toArray 210)).drew.alloc (.cells cs.toArray 210))) := HB1.out.drew.alloc (by simp) _
        have HOW : Hid (((w.alloc (.cells cs.toArray 210)).drew.alloc (.cells cs.toArray 210)).ownsRow (bb + 2) 210 17 (.slice va wt.length vc) wt.length (wt.flatMap wc)) := (HD.out.below (Nat.le_refl _) HBA.out).waits
        have HN2 : Hid (((w.alloc (.cells cs.toArray 210)).drew.alloc (.cells cs.toArray 210)).heap[w.heap.size + 1]? = some (.cells cs.toArray 210 (0, 0))) := by
          have h := heap_alloc_last (w.alloc (.cells cs.toArray 210)).drew (.cells cs.toArray 210)
          have e : (w.alloc (.cells cs.toArray 210)).drew.heap.size = w.heap.size + 1 := by simp
          rw [e] at h; exact h
        refine wpAnyH_ready (rs := [7]) (by kernel_rfl) (by simp) ?_
        refine AllReadyH.cons rfl (fun K' hK => ?_) AllReadyH.nil
        refine step_append_lies _ (by rfl) _ _ _ (by rfl) (bb + 2) 210 i0 _ 17 24 Tryz.underlying157 hi0 hz0 hz1 hz2 rfl (by omega) (.slice va wt.length vc) wt.length (wt.flatMap wc) (by rfl) HOW.out ⟨w.heap.size + 1, 0, none⟩ 1 1 cs (by rfl) (by rw [hcl]) (World.news_of_block (cs := cs.toArray) (t := 210) (fr := (0, 0)) HN2.out) HC1.out (by omega) (by unfold maxLen; omega) (by omega) (by have := HD.out.lt; simp; omega) (w.heap.size + 2) (by simp) ?_
        intro g cap w5 hown5 hgrow hat hlt5
        have HE : Hid _ := wr_end (w6 := w5.setCell ⟨bb + 1, 1, none⟩ (.slice (some ⟨g, 0, none⟩) (wt.length + 1) cap)) HD.out (x := (k.toNat, s.data.toList)) (by rw [← HCS.out]; exact hown5) HBA.out hgrow hat (by omega) rfl HV.out
        have hz5 := hgrow.size
        have e5 : w5.heap[bb + 1]? = ((w.alloc (.cells cs.toArray 210)).drew.alloc (.cells cs.toArray 210)).heap[bb + 1]? := hgrow.block _ (by have := HD.out.lt; simp; omega) (fun e => by have := (World.ownsRow.lt HOW.out _ e.symm).1; omega)
        have d5 : w5.heap[bb + 1]? = some (.cells #[.slice (some ⟨bb, 0, none⟩) bl.length bl.length, .slice va wt.length vc] 159 (0, 0)) := by rw [e5]; exact (HD.out.below (Nat.le_refl _) HBA.out).disk
        have c5 : w5.cell? ⟨bb + 1, 1, none⟩ = some (.slice va wt.length vc) := by rw [cell_of_row w5 _ _ _ _ _ d5]; rfl
        have f5 : w5.frozen? ⟨bb + 1, 1, none⟩ = false := frz d5 1
        have HS5 : Hid (w5.rangeAt w.heap.size 0 cs) := fun j v hj => by
          have e : w5.heap[w.heap.size]? = ((w.alloc (.cells cs.toArray 210)).drew.alloc (.cells cs.toArray 210)).heap[w.heap.size]? := hgrow.block _ (by simp; omega) (fun e => by have := (World.ownsRow.lt HD.out.waits _ e.symm).2; omega)
          rw [World.cell?_of_block e]; exact HS.out _ (((Below.refl _ _).drew).alloc (by simp) _) j v hj
        have HS6 : Hid ((w5.setCell ⟨bb + 1, 1, none⟩ (.slice (some ⟨g, 0, none⟩) (wt.length + 1) cap)).rangeAt w.heap.size 0 cs) := fun j v hj => by
          have hne : w.heap.size ≠ bb + 1 := by have := HD.out.lt; omega
          rw [World.cell?_of_block (Below.heap_setCell _ _ _ _ hne)]; exact HS5.out j v hj
        clear hown5 hgrow hat e5 d5
        simp only [List.getElem_toArray, List.getElem_cons_zero, List.getElem_cons_succ, Act.put, List.setIfInBounds_toArray, List.set_cons_zero, List.set_cons_succ]
        refine hK.out _ _ HS5.out (fun hHeld' => ?_)
        clear hK K' hHeld
        have hHeld := hHeld'
        clear hHeld'
        refine wpAnyH_take (i := 8) (v := .pointer (some ⟨bb + 1, 0, none⟩)) rfl (by kernel_rfl) (by kernel_rfl) (by kernel_rfl) (fun _ _ _ h => h) (Or.inl ⟨by rfl, ?_⟩) hHeld ?_
        · intro w hSw; (try dsimp only at hSw); simp only [List.getElem_toArray, List.getElem_cons_zero, List.getElem_cons_succ]; go_simp
        simp only [List.getElem_toArray, List.getElem_cons_zero, List.getElem_cons_succ, Act.put, List.setIfInBounds_toArray, List.set_cons_zero, List.set_cons_succ]
        refine wpAnyH_take (i := 9) (v := .pointer (some ⟨bb + 1, 1, none⟩)) rfl (by kernel_rfl) (by kernel_rfl) (by kernel_rfl) (fun _ _ _ h => h) (Or.inl ⟨by rfl, ?_⟩) hHeld ?_
        · intro w hSw; (try dsimp only at hSw); simp only [List.getElem_toArray, List.getElem_cons_zero, List.getElem_cons_succ]; go_simp
        simp only [List.getElem_toArray, List.getElem_cons_zero, List.getElem_cons_succ, Act.put, List.setIfInBounds_toArray, List.set_cons_zero, List.set_cons_succ]
        refine wpAnyH_ready (rs := [10]) (by kernel_rfl) (by simp) ?_
        refine AllReadyH.cons rfl (fun K' hK => ?_) AllReadyH.nil
        simp only [List.getElem_toArray, List.getElem_cons_zero, List.getElem_cons_succ]
        go_simp
        go_wp2_with fail
        refine hK.out _ _ HS6.out (fun hHeld' => ?_)
        clear hK K' hHeld
        have hHeld := hHeld'
        clear hHeld'
        refine wpAnyH_done (by kernel_rfl) ?_ _
        go_wp2_with fail
        go_ret
        exact .inl ⟨hh, hs, rfl, _, _, HE.out⟩
    · have HD : Hid (DkAt w bb va vc bl wt) := D
      have hs' : ((s.size : Int) == 16) = false := beq_eq_false_iff_ne.2 (by omega)
      clear D
      go_enter Tryz.func106, Tryz.ntmps106
      go_wp2_with (go_at_call 102; refine HH.mono ?_; rintro e w' ⟨rfl, hw⟩; rw [hw]; clear hw)
      go_ret
      exact .inr ⟨.inr hs, rfl, HD.out, Below.refl _ _⟩
end Go.Proofs.YteefneelcgeioaaGreatDoor
