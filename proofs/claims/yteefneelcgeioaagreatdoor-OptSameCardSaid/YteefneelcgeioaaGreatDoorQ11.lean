/-
  The contract of package inode's Make.
  Conditions: those that each states.
-/
import Derived.Test.YteefneelcgeioaaGreatDoorQ09
import Derived.Test.YteefneelcgeioaaGreatDoorQ10
namespace Go.Proofs.YteefneelcgeioaaGreatDoor
open Go.RowKit Go.Maps

/-- How many blocks bytes need. -/
def needN (s : Nat) : Nat := (s + 15) / 16
theorem need_eq (s : Nat) : needR (s : Int) = (needN s : Int) := by
  unfold needR needN
  split <;> omega
theorem need_fits (s : Nat) : s ≤ needN s * 16 := by unfold needN; omega
/-- A new inode's place. -/
def putN (tab : List (Option Ino)) (x : Ino) : List (Option Ino) := if nextR tab < tab.length then tab.set (nextR tab) (some x) else tab ++ [some x]
theorem putN_slot (tab : List (Option Ino)) (x : Ino) (j : Nat) : slotT (putN tab x) j = if j = nextR tab then some x else slotT tab j := by
  unfold putN
  split
  · rename_i h
    exact slotT_set h _ j
  · rename_i h
    have e : nextR tab = tab.length := by have := nextR_le tab; omega
    rw [e]
    unfold slotT
    by_cases hj : j = tab.length
    · subst hj; simp
    · rw [if_neg hj]
      by_cases hlt : j < tab.length
      · rw [List.getElem?_append_left hlt]
      · rw [List.getElem?_append_right (by omega), List.getElem?_eq_none (l := tab) (by omega)]
        have : j - tab.length ≠ 0 := by omega
        obtain ⟨q, hq⟩ : ∃ q, j - tab.length = q + 1 := ⟨j - tab.length - 1, by omega⟩
        rw [hq]; rfl
theorem putN_len (tab : List (Option Ino)) (x : Ino) : (putN tab x).length ≤ tab.length + 1 := by
  unfold putN
  split <;> simp

theorem step_mapPut {P : Program} {ops : Array Oper} {o : Oper} {a : Act} {w w' : World} {K : Act → World → Prop} {Q : Exit → Act → World → Prop} {E : Prop} (hgd : o.guard = none) (m x v : Operand) (t : TypeId) (ho : o.op = .mapUpdate t m x v) (mv xv vv : Value)
    (hm : a.eval m = mv) (hx : a.eval x = xv) (hv : a.eval v = vv) (hr : (Instr.mapUpdate t mv xv vv).run P w = .ok () w') (h : K (a.put o.dst undef) w') :
    if Region.wanted o (yielded ops a.tmps) = true then Oper.wp P o a w K Q else E := by
  rw [if_pos (by simp [Region.wanted, hgd])]
  unfold Oper.wp
  simp only [execOp, ho, hm, hx, hv]
  simp [hr, Result.andThen, Oper.upon]
  exact h
theorem mapNil (mb : Nat) (W : World) : (binOp .eql 100 (.map (some mb)) (.map none)).run Tryz.prog W = .ok (.bool false) W := by kernel_rfl

section
variable {F : Nat → Prop} {T0 tb bb sp sb cap mb n : Nat} {bl : List (List UInt8)} {u : List Bool} {tab : List (Option Ino)}
set_option maxRecDepth 100000 in
set_option maxHeartbeats 1000000 in
theorem im_make_big (data : ByteArray) (ex : Bool) (hd : 2000 < data.size) (hd2 : data.size ≤ 1000000) (er : Value) (p : Value) (w : World) (hE : w.cell? ⟨6, 0, none⟩ = some er) :
    Calls Tryz.prog 64 #[p, .string data, .bool ex] w fun e w' => e = .returned (.tuple #[.int .i64 0, er]) ∧ Below w.heap.size w w' := by
  have hdi : (2000 : Int) < (data.size : Int) := by omega
  go_enter Tryz.func64, Tryz.ntmps64
  go_wp2_with fail
  go_quiet (fail)
  go_wp2_with fail
  go_ret2
  exact ⟨rfl, ⟨rfl, rfl, rfl, Nat.le_refl _, fun _ _ => rfl⟩⟩
set_option maxRecDepth 100000 in
set_option maxHeartbeats 1000000 in
theorem im_make_full (data : ByteArray) (ex : Bool) (hd : data.size ≤ 2000) (hf : (freeR u).length < needN data.size) (tS : Nat) (pf : Value) (w : World) (T : TbAt w F T0 tb bb sp sb cap mb n bl u tab) (hE : w.cell? ⟨0, 0, none⟩ = some (.iface tS pf)) :
    Calls Tryz.prog 64 #[.pointer (some ⟨tb, 0, none⟩), .string data, .bool ex] w fun e w' => e = .returned (.tuple #[.int .i64 0, .iface tS pf]) ∧ Below w.heap.size w w' := by
  obtain ⟨ef, hef⟩ : ∃ ef : Value, ef = .iface tS pf := ⟨_, rfl⟩
  have hdi : ¬ (2000 : Int) < (data.size : Int) := by omega
  obtain ⟨_, c1, c2⟩ := T.cells
  have HS5 : Hid (w.drew.cell? ⟨tb, 1, none⟩ = some (.pointer (some ⟨sp, 0, none⟩))) := c1
  have HND : Hid (∀ W, Calls Tryz.prog 62 #[.int .i64 (data.size : Int)] W fun e w' => e = .returned (.int .i64 (needN data.size : Int)) ∧ w' = W) := fun W => by
    have := sp_need (data.size : Int) W (by omega)
    rw [need_eq] at this
    exact this
  have HTK : Hid (∀ W, W = w.drew → Calls Tryz.prog 89 #[.pointer (some ⟨sp, 0, none⟩), .int .i64 (needN data.size : Int)] W fun e w' => e = .returned (.tuple #[.slice none 0 0, ef]) ∧ Below w.heap.size w w' ∧ w'.cell? ⟨tb, 1, none⟩ = some (.pointer (some ⟨sp, 0, none⟩))) := fun W hW => by
    have hbd : Below w.heap.size w W := by rw [hW]; exact (Below.refl _ _).drew
    refine (sp_take_full (needN data.size : Int) (by omega) ef W (T.space.below hbd) T.low.2.2.2.2.1 (by rw [hW, hef]; exact hE)).mono ?_
    rintro e w' ⟨rfl, hb⟩
    exact ⟨rfl, hbd.trans (hb.mono hbd.size), (T.below (hbd.trans (hb.mono hbd.size))).cells.2.1⟩
  generalize needN data.size = nd at *
  clear T hf
  have hmn := mapNil mb
  go_enter Tryz.func64, Tryz.ntmps64
  go_wp2_with fail
  refine wp_region_held_drew (S := fun w' => w'.cell? ⟨tb, 1, none⟩ = some (.pointer (some ⟨sp, 0, none⟩))) (by kernel_rfl) (HS5.out) (fun hHeld => ?_)
  refine wpAnyH_take (i := 0) (v := (.pointer (some ⟨tb, 0, none⟩))) rfl (by kernel_rfl) (by kernel_rfl) (by kernel_rfl) (fun _ _ _ h => h) (Or.inl ⟨by rfl, ?_⟩) hHeld ?_
  · intro w hSw; (try dsimp only at hSw); simp only [List.getElem_toArray, List.getElem_cons_zero]; go_simp
  simp only [List.getElem_toArray, List.getElem_cons_zero, Act.put, List.setIfInBounds_toArray, List.set_cons_zero, List.set_cons_succ]
  refine wpAnyH_take (i := 1) (v := (.pointer (some ⟨tb, 0, none⟩))) rfl (by kernel_rfl) (by kernel_rfl) (by kernel_rfl) (fun _ _ _ h => h) (Or.inl ⟨by rfl, ?_⟩) hHeld ?_
  · intro w hSw; (try dsimp only at hSw); simp only [List.getElem_toArray, List.getElem_cons_zero, List.getElem_cons_succ]; go_simp
  simp only [List.getElem_toArray, List.getElem_cons_zero, List.getElem_cons_succ, Act.put, List.setIfInBounds_toArray, List.set_cons_zero, List.set_cons_succ]
  refine wpAnyH_take (i := 2) (v := (.pointer (some ⟨tb, 1, none⟩))) rfl (by kernel_rfl) (by kernel_rfl) (by kernel_rfl) (fun _ _ _ h => h) (Or.inl ⟨by rfl, ?_⟩) hHeld ?_
  · intro w hSw; (try dsimp only at hSw); simp only [List.getElem_toArray, List.getElem_cons_zero, List.getElem_cons_succ]; go_simp
  simp only [List.getElem_toArray, List.getElem_cons_zero, List.getElem_cons_succ, Act.put, List.setIfInBounds_toArray, List.set_cons_zero, List.set_cons_succ]
  refine wpAnyH_take (i := 3) (v := (.pointer (some ⟨sp, 0, none⟩))) rfl (by kernel_rfl) (by kernel_rfl) (by kernel_rfl) (fun _ _ _ h => h) (Or.inl ⟨by rfl, ?_⟩) hHeld ?_
  · intro w hSw; (try dsimp only at hSw); simp only [List.getElem_toArray, List.getElem_cons_zero, List.getElem_cons_succ]; go_simp
  simp only [List.getElem_toArray, List.getElem_cons_zero, List.getElem_cons_succ, Act.put, List.setIfInBounds_toArray, List.set_cons_zero, List.set_cons_succ]
  refine wpAnyH_take (i := 4) (v := (.string data)) rfl (by kernel_rfl) (by kernel_rfl) (by kernel_rfl) (fun _ _ _ h => h) (Or.inl ⟨by rfl, ?_⟩) hHeld ?_
  · intro w hSw; (try dsimp only at hSw); simp only [List.getElem_toArray, List.getElem_cons_zero, List.getElem_cons_succ]; go_simp
  simp only [List.getElem_toArray, List.getElem_cons_zero, List.getElem_cons_succ, Act.put, List.setIfInBounds_toArray, List.set_cons_zero, List.set_cons_succ]
  refine wpAnyH_take (i := 5) (v := (.int .i64 (data.size : Int))) rfl (by kernel_rfl) (by kernel_rfl) (by kernel_rfl) (fun _ _ _ h => h) (Or.inl ⟨by rfl, ?_⟩) hHeld ?_
  · intro w hSw; (try dsimp only at hSw); simp only [List.getElem_toArray, List.getElem_cons_zero, List.getElem_cons_succ]; go_simp
  simp only [List.getElem_toArray, List.getElem_cons_zero, List.getElem_cons_succ, Act.put, List.setIfInBounds_toArray, List.set_cons_zero, List.set_cons_succ]
  refine wpAnyH_ready (rs := [6]) (by kernel_rfl) (by simp) ?_
  refine AllReadyH.cons rfl (fun K' hK => ?_) AllReadyH.nil
  simp only [List.getElem_toArray, List.getElem_cons_zero, List.getElem_cons_succ]
  go_simp
  refine Calls.mono (HND.out _) ?_
  rintro e wx ⟨rfl, hw⟩
  rw [hw]
  clear hw
  go_wp2_with fail
  refine hK.out _ _ (HS5.out) (fun hHeld' => ?_)
  clear hK K' hHeld
  have hHeld := hHeld'
  clear hHeld'
  refine wpAnyH_ready (rs := [7]) (by kernel_rfl) (by simp) ?_
  refine AllReadyH.cons rfl (fun K' hK => ?_) AllReadyH.nil
  simp only [List.getElem_toArray, List.getElem_cons_zero, List.getElem_cons_succ]
  go_simp
  refine Calls.mono (HTK.out _ rfl) ?_
  rintro e wx ⟨rfl, h1, h2⟩
  have H1 : Hid _ := h1
  clear h1
  go_wp2_with fail
  refine hK.out _ _ (h2) (fun hHeld' => ?_)
  clear hK K' hHeld
  have hHeld := hHeld'
  clear hHeld'
  refine wpAnyH_take (i := 8) (v := (.tuple #[(.slice none 0 0), ef])) rfl (by kernel_rfl) (by kernel_rfl) (by kernel_rfl) (fun _ _ _ h => h) (Or.inl ⟨by rfl, ?_⟩) hHeld ?_
  · intro w hSw; (try dsimp only at hSw); simp only [List.getElem_toArray, List.getElem_cons_zero, List.getElem_cons_succ]; go_simp
  simp only [List.getElem_toArray, List.getElem_cons_zero, List.getElem_cons_succ, Act.put, List.setIfInBounds_toArray, List.set_cons_zero, List.set_cons_succ]
  refine wpAnyH_take (i := 9) (v := (.slice none 0 0)) rfl (by kernel_rfl) (by kernel_rfl) (by kernel_rfl) (fun _ _ _ h => h) (Or.inl ⟨by rfl, ?_⟩) hHeld ?_
  · intro w hSw; (try dsimp only at hSw); simp only [List.getElem_toArray, List.getElem_cons_zero, List.getElem_cons_succ]; go_simp
  simp only [List.getElem_toArray, List.getElem_cons_zero, List.getElem_cons_succ, Act.put, List.setIfInBounds_toArray, List.set_cons_zero, List.set_cons_succ]
  refine wpAnyH_take (i := 10) (v := (ef)) rfl (by kernel_rfl) (by kernel_rfl) (by kernel_rfl) (fun _ _ _ h => h) (Or.inl ⟨by rfl, ?_⟩) hHeld ?_
  · intro w hSw; (try dsimp only at hSw); simp only [List.getElem_toArray, List.getElem_cons_zero, List.getElem_cons_succ]; go_simp
  simp only [List.getElem_toArray, List.getElem_cons_zero, List.getElem_cons_succ, Act.put, List.setIfInBounds_toArray, List.set_cons_zero, List.set_cons_succ]
  refine wpAnyH_take (i := 11) (v := (.slice none 0 0)) rfl (by kernel_rfl) (by kernel_rfl) (by kernel_rfl) (fun _ _ _ h => h) (Or.inl ⟨by rfl, ?_⟩) hHeld ?_
  · intro w hSw; (try dsimp only at hSw); simp only [List.getElem_toArray, List.getElem_cons_zero, List.getElem_cons_succ]; go_simp
  simp only [List.getElem_toArray, List.getElem_cons_zero, List.getElem_cons_succ, Act.put, List.setIfInBounds_toArray, List.set_cons_zero, List.set_cons_succ]
  refine wpAnyH_take (i := 12) (v := (ef)) rfl (by kernel_rfl) (by kernel_rfl) (by kernel_rfl) (fun _ _ _ h => h) (Or.inl ⟨by rfl, ?_⟩) hHeld ?_
  · intro w hSw; (try dsimp only at hSw); simp only [List.getElem_toArray, List.getElem_cons_zero, List.getElem_cons_succ]; go_simp
  simp only [List.getElem_toArray, List.getElem_cons_zero, List.getElem_cons_succ, Act.put, List.setIfInBounds_toArray, List.set_cons_zero, List.set_cons_succ]
  refine wpAnyH_done (by kernel_rfl) ?_ _
  rw [hef]
  go_wp2_with fail
  go_ret2
  have h := H1.out
  exact ⟨rfl, ⟨h.os, h.tape, h.output, h.size, h.block⟩⟩
theorem TbAt.made {w2 w3 : World} {f : Nat → Option Nat} {v : Value} {x : Ino} (T : TbAt w2 F T0 tb bb sp sb cap mb n bl u tab) (N : NdAt w2 F T0 mb n tab f) (hn : n < 100000) (hv : IntsT w2 v (ints x.blocks)) (hrv : RowV w2 F v) (hT : T0 ≤ w2.heap.size)
    (M : MpAt w3 mb (n + 1) (upd f (nextR tab) (some w2.heap.size))) (hg : (w2.drew.alloc (.cells #[.int .i64 (x.bytes : Int), .int .i64 (x.links : Int), .bool x.exec, v, .int .u32 (x.sum : Int)] 54)).grownBy w3 (some mb)) :
    TbAt w3 F T0 tb bb sp sb cap mb (n + 1) bl u (putN tab x) ∧ TbBut T0 mb w2 w3 := by
  have hmb : mb < w2.heap.size := by obtain ⟨es, c, h⟩ := N.map.obj; exact (Array.getElem?_eq_some_iff.1 h).1
  have hsz : (w2.drew.alloc (.cells #[.int .i64 (x.bytes : Int), .int .i64 (x.links : Int), .bool x.exec, v, .int .u32 (x.sum : Int)] 54)).heap.size = w2.heap.size + 1 := World.size_alloc _ _
  have hkeep : ∀ (k : Nat), k < w2.heap.size → k ≠ mb → w3.heap[k]? = w2.heap[k]? := fun k hk hne => by
    rw [hg.block k (by omega) (fun e => hne (by simpa using e))]
    exact Below.heap_alloc w2.drew _ k hk
  have ht : Turn mpTy w2 w3 := fun k o hk hp => by
    have hkl := (Array.getElem?_eq_some_iff.1 hk).1
    by_cases e : k = mb
    · subst e
      obtain ⟨es, c, h⟩ := N.map.obj
      rw [h] at hk; cases hk; exact absurd (show true = false from hp) (by simp)
    · rw [hkeep k hkl e]; exact hk
  have hnew : StAt w3 F w2.heap.size x := by
    refine ⟨v, ?_, hv.turn ht (fun _ _ => rfl), hrv.turn ht (fun _ _ => rfl)⟩
    rw [hg.block w2.heap.size (by omega) (fun e => by simp at e; omega)]
    exact heap_alloc_last w2.drew _
  refine ⟨⟨ht _ _ T.box rfl, T.disk.turn ht (fun _ _ => rfl) (fun _ _ => rfl) (fun _ _ => rfl), T.space.turn ht (fun _ _ => rfl) (fun _ _ => rfl), ⟨_, M, fun k y hy => ?_, fun k hk => ?_, fun k j b hk hj => ?_⟩, ?_⟩, ?_⟩
  · rw [putN_slot] at hy
    unfold upd
    split at hy
    · rename_i e
      cases hy
      exact ⟨_, by rw [if_pos e], hT, hnew⟩
    · rename_i e
      obtain ⟨b, h1, h2, h3⟩ := N.some_ k y hy
      exact ⟨b, by rw [if_neg e]; exact h1, h2, h3.turn ht (fun _ _ => rfl) (fun _ _ => rfl)⟩
  · rw [putN_slot] at hk
    unfold upd
    split at hk
    · cases hk
    · rename_i e; rw [if_neg e]; exact N.none_ k hk
  · have hlt : ∀ (q b : Nat), f q = some b → b < w2.heap.size := fun q b hq => by
      cases hs : slotT tab q with
      | none => rw [N.none_ q hs] at hq; cases hq
      | some y =>
        obtain ⟨b', h1, _, ⟨_, h3, _⟩⟩ := N.some_ q y hs
        rw [hq] at h1; cases h1
        exact (Array.getElem?_eq_some_iff.1 h3).1
    unfold upd at hk hj
    split at hk <;> split at hj
    · omega
    · cases hk; have := hlt _ _ hj; omega
    · cases hj; have := hlt _ _ hk; omega
    · exact N.inj k j b hk hj
  · obtain ⟨l1, l2, l3, l4, l5, l6, l7⟩ := T.low
    have := putN_len tab x
    exact ⟨l1, l2, l3, l4, l5, by omega, by omega⟩
  · refine ⟨hg.os, hg.tape, hg.output, by have := hg.size; omega, fun k o hk hp => ?_, fun k o hk _ hm => by rw [hkeep k (Array.getElem?_eq_some_iff.1 hk).1 hm]; exact hk⟩
    have hkl := (Array.getElem?_eq_some_iff.1 hk).1
    have hne : k ≠ mb := fun e => by
      rcases hp with hp | hp
      · have := T.low.2.2.1; omega
      · subst e
        obtain ⟨es, c, h⟩ := N.map.obj
        rw [h] at hk; cases hk; exact absurd (show true = false from hp) (by simp)
    rw [hkeep k hkl hne]; exact hk
/-- The writes of data, settled. -/
def writeR (bl : List (List UInt8)) (blocks : List Nat) (data : ByteArray) : List (List UInt8) := setl (fun _ => true) (wtR blocks data blocks.length) bl blocks.length
theorem IntsT.but {w w' : World} {v : Value} {l : List Int} (I : IntsT w v l) (h : TbBut T0 mb w w') : IntsT w' v l := I.keep fun b cur hb => by rw [hb]; exact h.block _ _ hb (.inr rfl)
theorem TbBut.cellE {w w' : World} (h : TbBut T0 mb w w') {g : Nat} {e : Value} (hg : g < T0) (hc : w.cell? ⟨g, 0, none⟩ = some e) : w'.cell? ⟨g, 0, none⟩ = some e := by
  cases ho : w.heap[g]? with
  | none => simp [World.cell?, ho] at hc
  | some o => rw [h.cell ho (.inl hg)]; exact hc
set_option maxRecDepth 100000 in
set_option maxHeartbeats 600000 in
theorem im_make (data : ByteArray) (ex : Bool) (bks : List Nat) (hd : data.size ≤ 2000) (hb : bks = (freeR u).take (needN data.size)) (hf : needN data.size ≤ (freeR u).length) (hn : n < 100000) (hbl : u.length = bl.length) (er : Value) (w : World) (T : TbAt w F T0 tb bb sp sb cap mb n bl u tab) (hE : w.cell? ⟨6, 0, none⟩ = some er) (hgT : 6 < T0) (hT : T0 ≤ w.heap.size) (hF : ∀ g, F g → g < w.heap.size) :
    Calls Tryz.prog 64 #[.pointer (some ⟨tb, 0, none⟩), .string data, .bool ex] w fun e w' => e = .returned (.tuple #[.int .i64 (nextR tab : Int), .nilIface]) ∧ TbAt w' F T0 tb bb sp sb cap mb (n + 1) (writeR bl bks data) (markR u true bks) (putN tab ⟨data.size, 1, ex, bks, crcR data⟩) ∧ TbBut T0 mb w w' := by
  obtain ⟨c, hc⟩ : ∃ c, c = crcR data := ⟨_, rfl⟩
  rw [← hc]
  have hdi : ¬ (2000 : Int) < (data.size : Int) := by omega
  have hbln : bks.length = needN data.size := by rw [hb, List.length_take]; omega
  have hfit := need_fits data.size
  have hnd : needN data.size ≤ 1000 := by unfold needN; omega
  have hin : ∀ k ∈ bks, k < bl.length := fun k hk => by rw [hb] at hk; rw [← hbl]; exact whereR_lt (List.mem_of_mem_take hk)
  obtain ⟨_, c1, c2⟩ := T.cells
  have HS5 : Hid (w.drew.cell? ⟨tb, 1, none⟩ = some (.pointer (some ⟨sp, 0, none⟩))) := c1
  have HND : Hid (∀ W, Calls Tryz.prog 62 #[.int .i64 (data.size : Int)] W fun e w' => e = .returned (.int .i64 (needN data.size : Int)) ∧ w' = W) := fun W => by
    have := sp_need (data.size : Int) W (by omega)
    rw [need_eq] at this
    exact this
  have HTK : Hid (∀ W, W = w.drew → Calls Tryz.prog 89 #[.pointer (some ⟨sp, 0, none⟩), .int .i64 (needN data.size : Int)] W fun e w' => ∃ ad vc, e = .returned (.tuple #[.slice ad bks.length vc, .nilIface]) ∧ ((IntsT w' (.slice ad bks.length vc) (ints bks) ∧ RowV w' F (.slice ad bks.length vc)) ∧ TbAt w' F T0 tb bb sp sb cap mb n bl (markR u true bks) tab ∧ TbBut T0 mb w w') ∧ w'.cell? ⟨tb, 1, none⟩ = some (.pointer (some ⟨sp, 0, none⟩))) := fun W hW => by
    have hbd : Below w.heap.size w W := by rw [hW]; exact (Below.refl _ _).drew
    have TW := T.below hbd
    refine (sp_take (needN data.size) hf W TW.space T.low.2.2.2.2.1).mono ?_
    rintro e w' ⟨v, rfl, ho, hS, hg⟩
    rw [← hb] at ho hS
    obtain ⟨ad, vc, rfl⟩ := own_form ho
    have T1 := TW.marks hS (markR_len _ _ _) hg
    exact ⟨ad, vc, rfl, ⟨⟨ho.t, RowV.of_own ho (fun g hg => Nat.lt_of_lt_of_le (hF g hg) hbd.size)⟩, T1, (TbBut.of_below hbd).trans (TbBut.of_marks TW.space TW.low.2.1 hg)⟩, T1.cells.2.1⟩
  have HWR : Hid (∀ w1 ad vc, (IntsT w1 (.slice ad bks.length vc) (ints bks) ∧ RowV w1 F (.slice ad bks.length vc)) → TbAt w1 F T0 tb bb sp sb cap mb n bl (markR u true bks) tab → TbBut T0 mb w w1 → Calls Tryz.prog 90 #[.pointer (some ⟨bb + 1, 0, none⟩), .slice ad bks.length vc, .string data] w1 fun e w' => e = .returned (.tuple #[]) ∧ (IntsT w' (.slice ad bks.length vc) (ints bks) ∧ RowV w' F (.slice ad bks.length vc)) ∧ TbAt w' F T0 tb bb sp sb cap mb n (writeR bl bks data) (markR u true bks) tab ∧ TbBut T0 mb w w') := fun w1 ad vc iv T1 B1 => by
    refine (im_write0 (.slice ad bks.length vc) bks data er w1 T1 iv.1 hin (by omega) (by rw [hbln]; exact hfit) (B1.cellE hgT hE) hgT).mono ?_
    rintro e w' ⟨rfl, T2, B2⟩
    exact ⟨rfl, ⟨iv.1.but B2, fun a l c ev => by obtain ⟨h1, cur, h2⟩ := iv.2 a l c ev; exact ⟨h1, cur, B2.block _ _ h2 (.inr rfl)⟩⟩, T2, B1.trans B2⟩
  have HNX : Hid (∀ w2, TbAt w2 F T0 tb bb sp sb cap mb n (writeR bl bks data) (markR u true bks) tab → Calls Tryz.prog 91 #[.pointer (some ⟨tb, 0, none⟩)] w2 fun e w' => e = .returned (.int .i64 (nextR tab : Int)) ∧ w' = w2) := fun w2 T2 => im_next w2 T2
  have HSM : Hid (∀ W, Calls Tryz.prog 53 #[.string data] W fun e w' => e = .returned (.int .u32 (c : Int)) ∧ w' = W) := fun W => by rw [hc]; exact sum_any data (by omega) W
  clear hc
  have hnx1 := nextR_le tab
  have hnx2 := T.low.2.2.2.2.2.1
  have HPUT : Hid (∀ w2 ad vc, (IntsT w2 (.slice ad bks.length vc) (ints bks) ∧ RowV w2 F (.slice ad bks.length vc)) → TbAt w2 F T0 tb bb sp sb cap mb n (writeR bl bks data) (markR u true bks) tab → TbBut T0 mb w w2 → ∃ w3, (Instr.mapUpdate 100 (.map (some mb)) (.int .i64 (nextR tab : Int)) (.pointer (some ⟨w2.heap.size, 0, none⟩))).run Tryz.prog (w2.drew.alloc (.cells #[.int .i64 (data.size : Int), .int .i64 1, .bool ex, .slice ad bks.length vc, .int .u32 (c : Int)] 54)) = .ok () w3 ∧ TbAt w3 F T0 tb bb sp sb cap mb (n + 1) (writeR bl bks data) (markR u true bks) (putN tab ⟨data.size, 1, ex, bks, c⟩) ∧ TbBut T0 mb w w3) := fun w2 ad vc iv T2 B2 => by
    obtain ⟨f, N⟩ := T2.nodes
    have Ma : MpAt (w2.drew.alloc (.cells #[.int .i64 (data.size : Int), .int .i64 1, .bool ex, .slice ad bks.length vc, .int .u32 (c : Int)] 54)) mb n f := N.map.keep (by
      obtain ⟨es, c, h⟩ := N.map.obj
      exact Below.heap_alloc w2.drew _ mb (Array.getElem?_eq_some_iff.1 h).1)
    obtain ⟨w3, hrun, M3, hg⟩ := Ma.put (k := nextR tab) (by unfold maxLen; omega) (wf_nat (by omega)) w2.heap.size
    obtain ⟨T3, B3⟩ := TbAt.made (x := ⟨data.size, 1, ex, bks, c⟩) T2 N hn iv.1 iv.2 (Nat.le_trans hT B2.size) M3 hg
    exact ⟨w3, hrun, T3, B2.trans B3⟩
  generalize nextR tab = nx at *
  clear T hb hf hin hfit hE hbln hnd hbl
  have hmn := mapNil mb
  generalize needN data.size = nd at *
  go_enter Tryz.func64, Tryz.ntmps64
  go_wp2_with fail
  refine wp_region_held_drew (S := fun w' => w'.cell? ⟨tb, 1, none⟩ = some (.pointer (some ⟨sp, 0, none⟩))) (by kernel_rfl) (HS5.out) (fun hHeld => ?_)
  refine wpAnyH_take (i := 0) (v := (.pointer (some ⟨tb, 0, none⟩))) rfl (by kernel_rfl) (by kernel_rfl) (by kernel_rfl) (fun _ _ _ h => h) (Or.inl ⟨by rfl, ?_⟩) hHeld ?_
  · intro w hSw; (try dsimp only at hSw); simp only [List.getElem_toArray, List.getElem_cons_zero]; go_simp
  simp only [List.getElem_toArray, List.getElem_cons_zero, Act.put, List.setIfInBounds_toArray, List.set_cons_zero, List.set_cons_succ]
  refine wpAnyH_take (i := 1) (v := (.pointer (some ⟨tb, 0, none⟩))) rfl (by kernel_rfl) (by kernel_rfl) (by kernel_rfl) (fun _ _ _ h => h) (Or.inl ⟨by rfl, ?_⟩) hHeld ?_
  · intro w hSw; (try dsimp only at hSw); simp only [List.getElem_toArray, List.getElem_cons_zero, List.getElem_cons_succ]; go_simp
  simp only [List.getElem_toArray, List.getElem_cons_zero, List.getElem_cons_succ, Act.put, List.setIfInBounds_toArray, List.set_cons_zero, List.set_cons_succ]
  refine wpAnyH_take (i := 2) (v := (.pointer (some ⟨tb, 1, none⟩))) rfl (by kernel_rfl) (by kernel_rfl) (by kernel_rfl) (fun _ _ _ h => h) (Or.inl ⟨by rfl, ?_⟩) hHeld ?_
  · intro w hSw; (try dsimp only at hSw); simp only [List.getElem_toArray, List.getElem_cons_zero, List.getElem_cons_succ]; go_simp
  simp only [List.getElem_toArray, List.getElem_cons_zero, List.getElem_cons_succ, Act.put, List.setIfInBounds_toArray, List.set_cons_zero, List.set_cons_succ]
  refine wpAnyH_take (i := 3) (v := (.pointer (some ⟨sp, 0, none⟩))) rfl (by kernel_rfl) (by kernel_rfl) (by kernel_rfl) (fun _ _ _ h => h) (Or.inl ⟨by rfl, ?_⟩) hHeld ?_
  · intro w hSw; (try dsimp only at hSw); simp only [List.getElem_toArray, List.getElem_cons_zero, List.getElem_cons_succ]; go_simp
  simp only [List.getElem_toArray, List.getElem_cons_zero, List.getElem_cons_succ, Act.put, List.setIfInBounds_toArray, List.set_cons_zero, List.set_cons_succ]
  refine wpAnyH_take (i := 4) (v := (.string data)) rfl (by kernel_rfl) (by kernel_rfl) (by kernel_rfl) (fun _ _ _ h => h) (Or.inl ⟨by rfl, ?_⟩) hHeld ?_
  · intro w hSw; (try dsimp only at hSw); simp only [List.getElem_toArray, List.getElem_cons_zero, List.getElem_cons_succ]; go_simp
  simp only [List.getElem_toArray, List.getElem_cons_zero, List.getElem_cons_succ, Act.put, List.setIfInBounds_toArray, List.set_cons_zero, List.set_cons_succ]
  refine wpAnyH_take (i := 5) (v := (.int .i64 (data.size : Int))) rfl (by kernel_rfl) (by kernel_rfl) (by kernel_rfl) (fun _ _ _ h => h) (Or.inl ⟨by rfl, ?_⟩) hHeld ?_
  · intro w hSw; (try dsimp only at hSw); simp only [List.getElem_toArray, List.getElem_cons_zero, List.getElem_cons_succ]; go_simp
  simp only [List.getElem_toArray, List.getElem_cons_zero, List.getElem_cons_succ, Act.put, List.setIfInBounds_toArray, List.set_cons_zero, List.set_cons_succ]
  refine wpAnyH_ready (rs := [6]) (by kernel_rfl) (by simp) ?_
  refine AllReadyH.cons rfl (fun K' hK => ?_) AllReadyH.nil
  simp only [List.getElem_toArray, List.getElem_cons_zero, List.getElem_cons_succ]
  go_simp
  refine Calls.mono (HND.out _) ?_
  rintro e wx ⟨rfl, hw⟩
  rw [hw]
  clear hw
  go_wp2_with fail
  refine hK.out _ _ (HS5.out) (fun hHeld' => ?_)
  clear hK K' hHeld
  have hHeld := hHeld'
  clear hHeld'
  refine wpAnyH_ready (rs := [7]) (by kernel_rfl) (by simp) ?_
  refine AllReadyH.cons rfl (fun K' hK => ?_) AllReadyH.nil
  simp only [List.getElem_toArray, List.getElem_cons_zero, List.getElem_cons_succ]
  go_simp
  refine Calls.mono (HTK.out _ rfl) ?_
  rintro e wx ⟨ad, vc, rfl, h1, h2⟩
  have H1 : Hid _ := h1
  clear h1
  go_wp2_with fail
  refine hK.out _ _ (h2) (fun hHeld' => ?_)
  clear hK K' hHeld
  have hHeld := hHeld'
  clear hHeld'
  refine wpAnyH_take (i := 8) (v := (.tuple #[(.slice ad bks.length vc), .nilIface])) rfl (by kernel_rfl) (by kernel_rfl) (by kernel_rfl) (fun _ _ _ h => h) (Or.inl ⟨by rfl, ?_⟩) hHeld ?_
  · intro w hSw; (try dsimp only at hSw); simp only [List.getElem_toArray, List.getElem_cons_zero, List.getElem_cons_succ]; go_simp
  simp only [List.getElem_toArray, List.getElem_cons_zero, List.getElem_cons_succ, Act.put, List.setIfInBounds_toArray, List.set_cons_zero, List.set_cons_succ]
  refine wpAnyH_take (i := 9) (v := (.slice ad bks.length vc)) rfl (by kernel_rfl) (by kernel_rfl) (by kernel_rfl) (fun _ _ _ h => h) (Or.inl ⟨by rfl, ?_⟩) hHeld ?_
  · intro w hSw; (try dsimp only at hSw); simp only [List.getElem_toArray, List.getElem_cons_zero, List.getElem_cons_succ]; go_simp
  simp only [List.getElem_toArray, List.getElem_cons_zero, List.getElem_cons_succ, Act.put, List.setIfInBounds_toArray, List.set_cons_zero, List.set_cons_succ]
  refine wpAnyH_take (i := 10) (v := (.nilIface)) rfl (by kernel_rfl) (by kernel_rfl) (by kernel_rfl) (fun _ _ _ h => h) (Or.inl ⟨by rfl, ?_⟩) hHeld ?_
  · intro w hSw; (try dsimp only at hSw); simp only [List.getElem_toArray, List.getElem_cons_zero, List.getElem_cons_succ]; go_simp
  simp only [List.getElem_toArray, List.getElem_cons_zero, List.getElem_cons_succ, Act.put, List.setIfInBounds_toArray, List.set_cons_zero, List.set_cons_succ]
  refine wpAnyH_take (i := 11) (v := (.slice ad bks.length vc)) rfl (by kernel_rfl) (by kernel_rfl) (by kernel_rfl) (fun _ _ _ h => h) (Or.inl ⟨by rfl, ?_⟩) hHeld ?_
  · intro w hSw; (try dsimp only at hSw); simp only [List.getElem_toArray, List.getElem_cons_zero, List.getElem_cons_succ]; go_simp
  simp only [List.getElem_toArray, List.getElem_cons_zero, List.getElem_cons_succ, Act.put, List.setIfInBounds_toArray, List.set_cons_zero, List.set_cons_succ]
  refine wpAnyH_take (i := 12) (v := (.nilIface)) rfl (by kernel_rfl) (by kernel_rfl) (by kernel_rfl) (fun _ _ _ h => h) (Or.inl ⟨by rfl, ?_⟩) hHeld ?_
  · intro w hSw; (try dsimp only at hSw); simp only [List.getElem_toArray, List.getElem_cons_zero, List.getElem_cons_succ]; go_simp
  simp only [List.getElem_toArray, List.getElem_cons_zero, List.getElem_cons_succ, Act.put, List.setIfInBounds_toArray, List.set_cons_zero, List.set_cons_succ]
  refine wpAnyH_done (by kernel_rfl) ?_ _
  obtain ⟨iv1, T1, B1⟩ := H1.out
  have HW1 := HWR.out _ _ _ iv1 T1 B1
  have ct1 := T1.cells.1
  clear iv1 T1 B1
  go_wp2_with (first
    | (go_at_call 90; refine HW1.mono ?_; rintro e w2 ⟨rfl, iv2, T2, B2⟩; (have H2 : Hid _ := And.intro iv2 (And.intro T2 B2)); (have HX2 := HNX.out _ T2); clear iv2 T2 B2)
    | (go_at_call 91; refine HX2.mono ?_; rintro e w2' ⟨rfl, hw⟩; rw [hw]; clear hw))
  obtain ⟨iv2, T2, B2⟩ := H2.out
  obtain ⟨w3, hput, T3, B3⟩ := HPUT.out _ _ _ iv2 T2 B2
  have HS10 : Hid (w2.drew.cell? ⟨tb, 2, none⟩ = some (.map (some mb))) := T2.cells.2.2
  have HS10a : Hid ((w2.drew.alloc (.cells #[.int .i64 (data.size : Int), .int .i64 1, .bool ex, .slice ad bks.length vc, .int .u32 (c : Int)] 54)).cell? ⟨tb, 2, none⟩ = some (.map (some mb))) := by
    show _ = _
    rw [World.cell?_of_block (a := ⟨tb, 2, none⟩) (Below.heap_alloc w2.drew _ tb (Array.getElem?_eq_some_iff.1 T2.box).1)]
    exact T2.cells.2.2
  have HS10b : Hid (w3.cell? ⟨tb, 2, none⟩ = some (.map (some mb))) := T3.cells.2.2
  have H3 : Hid _ := And.intro T3 B3
  have hput2 : (Instr.mapUpdate 100 (.map (some mb)) (.int .i64 (nx : Int)) (.pointer (some ⟨w2.heap.size, 0, none⟩))).run Tryz.prog (w2.alloc (.cells #[.int .i64 (data.size : Int), .int .i64 1, .bool ex, .slice ad bks.length vc, .int .u32 (c : Int)] 54)).drew = .ok () w3 := hput
  clear iv2 T2 B2 T3 B3 hput
  refine wp_region_held_drew (S := fun w' => w'.cell? ⟨tb, 2, none⟩ = some (.map (some mb))) (by kernel_rfl) (HS10.out) (fun hHeld => ?_)
  refine wpAnyH_take (i := 0) (v := (.pointer (some ⟨tb, 0, none⟩))) rfl (by kernel_rfl) (by kernel_rfl) (by kernel_rfl) (fun _ _ _ h => h) (Or.inl ⟨by rfl, ?_⟩) hHeld ?_
  · intro w hSw; (try dsimp only at hSw); simp only [List.getElem_toArray, List.getElem_cons_zero]; go_simp
  simp only [List.getElem_toArray, List.getElem_cons_zero, Act.put, List.setIfInBounds_toArray, List.set_cons_zero, List.set_cons_succ]
  refine wpAnyH_take (i := 1) (v := (.pointer (some ⟨tb, 0, none⟩))) rfl (by kernel_rfl) (by kernel_rfl) (by kernel_rfl) (fun _ _ _ h => h) (Or.inl ⟨by rfl, ?_⟩) hHeld ?_
  · intro w hSw; (try dsimp only at hSw); simp only [List.getElem_toArray, List.getElem_cons_zero, List.getElem_cons_succ]; go_simp
  simp only [List.getElem_toArray, List.getElem_cons_zero, List.getElem_cons_succ, Act.put, List.setIfInBounds_toArray, List.set_cons_zero, List.set_cons_succ]
  refine wpAnyH_take (i := 2) (v := (.pointer (some ⟨tb, 2, none⟩))) rfl (by kernel_rfl) (by kernel_rfl) (by kernel_rfl) (fun _ _ _ h => h) (Or.inl ⟨by rfl, ?_⟩) hHeld ?_
  · intro w hSw; (try dsimp only at hSw); simp only [List.getElem_toArray, List.getElem_cons_zero, List.getElem_cons_succ]; go_simp
  simp only [List.getElem_toArray, List.getElem_cons_zero, List.getElem_cons_succ, Act.put, List.setIfInBounds_toArray, List.set_cons_zero, List.set_cons_succ]
  refine wpAnyH_take (i := 3) (v := (.map (some mb))) rfl (by kernel_rfl) (by kernel_rfl) (by kernel_rfl) (fun _ _ _ h => h) (Or.inl ⟨by rfl, ?_⟩) hHeld ?_
  · intro w hSw; (try dsimp only at hSw); simp only [List.getElem_toArray, List.getElem_cons_zero, List.getElem_cons_succ]; go_simp
  simp only [List.getElem_toArray, List.getElem_cons_zero, List.getElem_cons_succ, Act.put, List.setIfInBounds_toArray, List.set_cons_zero, List.set_cons_succ]
  refine wpAnyH_take (i := 4) (v := (.int .i64 (nx : Int))) rfl (by kernel_rfl) (by kernel_rfl) (by kernel_rfl) (fun _ _ _ h => h) (Or.inl ⟨by rfl, ?_⟩) hHeld ?_
  · intro w hSw; (try dsimp only at hSw); simp only [List.getElem_toArray, List.getElem_cons_zero, List.getElem_cons_succ]; go_simp
  simp only [List.getElem_toArray, List.getElem_cons_zero, List.getElem_cons_succ, Act.put, List.setIfInBounds_toArray, List.set_cons_zero, List.set_cons_succ]
  refine wpAnyH_take (i := 5) (v := (.string data)) rfl (by kernel_rfl) (by kernel_rfl) (by kernel_rfl) (fun _ _ _ h => h) (Or.inl ⟨by rfl, ?_⟩) hHeld ?_
  · intro w hSw; (try dsimp only at hSw); simp only [List.getElem_toArray, List.getElem_cons_zero, List.getElem_cons_succ]; go_simp
  simp only [List.getElem_toArray, List.getElem_cons_zero, List.getElem_cons_succ, Act.put, List.setIfInBounds_toArray, List.set_cons_zero, List.set_cons_succ]
  refine wpAnyH_take (i := 6) (v := (.int .i64 (data.size : Int))) rfl (by kernel_rfl) (by kernel_rfl) (by kernel_rfl) (fun _ _ _ h => h) (Or.inl ⟨by rfl, ?_⟩) hHeld ?_
  · intro w hSw; (try dsimp only at hSw); simp only [List.getElem_toArray, List.getElem_cons_zero, List.getElem_cons_succ]; go_simp
  simp only [List.getElem_toArray, List.getElem_cons_zero, List.getElem_cons_succ, Act.put, List.setIfInBounds_toArray, List.set_cons_zero, List.set_cons_succ]
  refine wpAnyH_take (i := 7) (v := (.bool ex)) rfl (by kernel_rfl) (by kernel_rfl) (by kernel_rfl) (fun _ _ _ h => h) (Or.inl ⟨by rfl, ?_⟩) hHeld ?_
  · intro w hSw; (try dsimp only at hSw); simp only [List.getElem_toArray, List.getElem_cons_zero, List.getElem_cons_succ]; go_simp
  simp only [List.getElem_toArray, List.getElem_cons_zero, List.getElem_cons_succ, Act.put, List.setIfInBounds_toArray, List.set_cons_zero, List.set_cons_succ]
  refine wpAnyH_take (i := 8) (v := (.slice ad bks.length vc)) rfl (by kernel_rfl) (by kernel_rfl) (by kernel_rfl) (fun _ _ _ h => h) (Or.inl ⟨by rfl, ?_⟩) hHeld ?_
  · intro w hSw; (try dsimp only at hSw); simp only [List.getElem_toArray, List.getElem_cons_zero, List.getElem_cons_succ]; go_simp
  simp only [List.getElem_toArray, List.getElem_cons_zero, List.getElem_cons_succ, Act.put, List.setIfInBounds_toArray, List.set_cons_zero, List.set_cons_succ]
  refine wpAnyH_take (i := 9) (v := (.string data)) rfl (by kernel_rfl) (by kernel_rfl) (by kernel_rfl) (fun _ _ _ h => h) (Or.inl ⟨by rfl, ?_⟩) hHeld ?_
  · intro w hSw; (try dsimp only at hSw); simp only [List.getElem_toArray, List.getElem_cons_zero, List.getElem_cons_succ]; go_simp
  simp only [List.getElem_toArray, List.getElem_cons_zero, List.getElem_cons_succ, Act.put, List.setIfInBounds_toArray, List.set_cons_zero, List.set_cons_succ]
  refine wpAnyH_ready (rs := [10]) (by kernel_rfl) (by simp) ?_
  refine AllReadyH.cons rfl (fun K' hK => ?_) AllReadyH.nil
  simp only [List.getElem_toArray, List.getElem_cons_zero, List.getElem_cons_succ]
  go_simp
  refine Calls.mono (HSM.out _) ?_
  rintro e wx ⟨rfl, hw⟩
  rw [hw]
  clear hw
  go_wp2_with fail
  refine hK.out _ _ (HS10.out) (fun hHeld' => ?_)
  clear hK K' hHeld
  have hHeld := hHeld'
  clear hHeld'
  refine wpAnyH_take (i := 11) (v := (.agg #[.int .i64 (data.size : Int), .int .i64 1, .bool ex, .slice ad bks.length vc, .int .u32 (c : Int)])) rfl (by kernel_rfl) (by kernel_rfl) (by kernel_rfl) (fun _ _ _ h => h) (Or.inl ⟨by rfl, ?_⟩) hHeld ?_
  · intro w hSw; (try dsimp only at hSw); simp only [List.getElem_toArray, List.getElem_cons_zero, List.getElem_cons_succ]; go_simp
  simp only [List.getElem_toArray, List.getElem_cons_zero, List.getElem_cons_succ, Act.put, List.setIfInBounds_toArray, List.set_cons_zero, List.set_cons_succ]
  refine wpAnyH_ready (rs := [12]) (by kernel_rfl) (by simp) ?_
  refine AllReadyH.cons rfl (fun K' hK => ?_) AllReadyH.nil
  go_wp2_with fail
  refine hK.out _ _ (HS10a.out) (fun hHeld' => ?_)
  clear hK K' hHeld
  have hHeld := hHeld'
  clear hHeld'
  refine wpAnyH_ready (rs := [13]) (by kernel_rfl) (by simp) ?_
  refine AllReadyH.cons rfl (fun K' hK => ?_) AllReadyH.nil
  refine step_mapPut (by rfl) _ _ _ 100 (by rfl) (.map (some mb)) (.int .i64 (nx : Int)) (.pointer (some ⟨w2.heap.size, 0, none⟩)) (by rfl) (by rfl) (by rfl) hput2 ?_
  simp only [List.getElem_toArray, List.getElem_cons_zero, List.getElem_cons_succ, Act.put]
  refine hK.out _ _ (HS10b.out) (fun hHeld' => ?_)
  clear hK K' hHeld
  have hHeld := hHeld'
  clear hHeld'
  refine wpAnyH_done (by kernel_rfl) ?_ _
  go_wp2_with fail
  go_ret2
  exact ⟨rfl, H3.out⟩
end
end Go.Proofs.YteefneelcgeioaaGreatDoor
