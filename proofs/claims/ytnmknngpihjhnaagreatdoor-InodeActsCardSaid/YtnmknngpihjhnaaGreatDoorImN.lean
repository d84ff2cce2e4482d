/-
  The contracts of package inode's New, find, next, Link and Free.
  Conditions: the table lies in memory; package api's errors are errors.
-/
import Derived.Test.YtnmknngpihjhnaaGreatDoorIm
namespace Go.Proofs.YtnmknngpihjhnaaGreatDoor
open Go.RowKit Go.Maps

theorem slotT_lt {tab : List (Option Ino)} {k : Nat} {x : Ino} (h : slotT tab k = some x) : k < tab.length := by
  unfold slotT at h
  by_cases hk : k < tab.length
  · exact hk
  · rw [List.getElem?_eq_none (by omega)] at h; cases h
theorem slotT_get {tab : List (Option Ino)} {k : Nat} {x : Ino} (h : slotT tab k = some x) : tab[k]? = some (some x) := by
  have hk := slotT_lt h
  unfold slotT at h
  rw [List.getElem?_eq_getElem hk] at h ⊢
  simpa using h
theorem slotT_of {tab : List (Option Ino)} {k : Nat} {o : Option Ino} (h : tab[k]? = some o) : slotT tab k = o := by
  unfold slotT; rw [h]; rfl
theorem slotT_set {tab : List (Option Ino)} {k : Nat} (hk : k < tab.length) (o : Option Ino) (j : Nat) : slotT (tab.set k o) j = if j = k then o else slotT tab j := by
  unfold slotT
  by_cases e : j = k
  · subst e; rw [List.getElem?_set_self hk, if_pos rfl]; rfl
  · rw [List.getElem?_set_ne (fun h => e h.symm), if_neg e]
def slotI (tab : List (Option Ino)) (k : Int) : Option Ino := if 0 ≤ k then slotT tab k.toNat else none
theorem slotI_nat (tab : List (Option Ino)) (k : Nat) : slotI tab (k : Int) = slotT tab k := by simp [slotI]
theorem slotI_some {tab : List (Option Ino)} {k : Int} {x : Ino} (h : slotI tab k = some x) : ∃ j : Nat, k = (j : Int) ∧ slotT tab j = some x := by
  unfold slotI at h
  split at h
  · exact ⟨k.toNat, by omega, h⟩
  · cases h
theorem NdAt.no {w : World} {F : Nat → Prop} {T0 mb n : Nat} {tab : List (Option Ino)} {f : Nat → Option Nat} (N : NdAt w F T0 mb n tab f) {k : Int} (h : slotI tab k = none) : atI f k = none := by
  unfold slotI at h
  unfold atI
  split
  · rw [if_pos (by assumption)] at h; exact N.none_ _ h
  · rfl
/-- The least number that is free. -/
def nextR (tab : List (Option Ino)) : Nat := tab.findIdx (·.isNone)
theorem nextR_le (tab : List (Option Ino)) : nextR tab ≤ tab.length := List.findIdx_le_length
theorem next_some {tab : List (Option Ino)} {j : Nat} (h : j < nextR tab) : ∃ x, slotT tab j = some x := by
  have h1 : j < tab.length := Nat.lt_of_lt_of_le h (nextR_le tab)
  have h2 := List.not_of_lt_findIdx h
  cases e : tab[j] with
  | none => rw [e] at h2; simp at h2
  | some x => exact ⟨x, slotT_of (by rw [List.getElem?_eq_getElem h1, e])⟩
theorem next_none (tab : List (Option Ino)) : slotT tab (nextR tab) = none := by
  unfold slotT
  by_cases h : nextR tab < tab.length
  · rw [List.getElem?_eq_getElem h]
    have := List.findIdx_getElem (p := fun o : Option Ino => o.isNone) (xs := tab) (w := h)
    simp only [Option.isNone_iff_eq_none] at this
    unfold nextR
    rw [this]; rfl
  · rw [List.getElem?_eq_none (by omega)]; rfl
theorem wf_nat {k : Nat} (h : k ≤ 1000000) : (Lit.int .i64 (k : Int)).wf = true := WalkArith.wf_i64 (by omega)

section
variable {F : Nat → Prop} {T0 tb bb sp sb cap mb n : Nat} {bl : List (List UInt8)} {u : List Bool} {tab : List (Option Ino)}
set_option maxRecDepth 100000 in
set_option maxHeartbeats 1000000 in
theorem im_find {f : Nat → Option Nat} (k : Int) (hk : (Lit.int .i64 k).wf = true) (w : World) (T : TbAt w F T0 tb bb sp sb cap mb n bl u tab) (N : NdAt w F T0 mb n tab f) :
    Calls Tryz.prog 28 #[.pointer (some ⟨tb, 0, none⟩), .int .i64 k] w fun e w' => e = .returned (ptrO (atI f k)) ∧ w' = w := by
  have HL := N.map.look hk
  obtain ⟨_, _, c2⟩ := T.cells
  clear T N hk
  obtain ⟨v, hv⟩ : ∃ v, v = ptrO (atI f k) := ⟨_, rfl⟩
  rw [← hv] at HL ⊢
  clear hv
  go_enter Tryz.func28, Tryz.ntmps28
  go_wp2_with fail
  go_ret
  exact ⟨rfl, rfl⟩
set_option maxRecDepth 100000 in
set_option maxHeartbeats 1000000 in
theorem im_next (w : World) (T : TbAt w F T0 tb bb sp sb cap mb n bl u tab) :
    Calls Tryz.prog 40 #[.pointer (some ⟨tb, 0, none⟩)] w fun e w' => e = .returned (.int .i64 (nextR tab : Int)) ∧ w' = w := by
  obtain ⟨f, N⟩ := T.nodes
  obtain ⟨_, _, c2⟩ := T.cells
  have hle := nextR_le tab
  obtain ⟨_, _, _, _, _, hl1, hl2⟩ := T.low
  have HL : Hid (∀ j : Nat, j ≤ nextR tab → (Instr.lookup 74 (.map (some mb)) (.int .i64 (j : Int)) false).run Tryz.prog w = .ok (ptrO (f j)) w) := fun j hj => by
    rw [N.map.look (wf_nat (by omega)), atI_nat]
  have HS : Hid (∀ j : Nat, j < nextR tab → ∃ b, f j = some b) := fun j hj => by
    obtain ⟨x, hx⟩ := next_some hj
    obtain ⟨b, e, _⟩ := N.some_ j x hx
    exact ⟨b, e⟩
  have HN : Hid (f (nextR tab) = none) := N.none_ _ (next_none tab)
  have hm : nextR tab ≤ 100000 := by omega
  clear T N hl1 hl2 hle
  generalize nextR tab = m at *
  go_enter Tryz.func40, Tryz.ntmps40
  go_wp2_with fail
  go_loopw [3] (fun i wr => ∃ j : Nat, j ≤ m ∧ i = .int .i64 j ∧ wr = w) (fun i _ => m - (intOf i).toNat)
  case atStart => exact ⟨0, Nat.zero_le _, rfl, rfl⟩
  case round =>
    obtain ⟨j, hj, rfl, rfl⟩ := hrel
    have hl := HL.out j hj
    by_cases hlt : j < m
    · obtain ⟨b, e⟩ := HS.out j hlt
      rw [e] at hl
      clear e
      unfold ptrO at hl
      simp only [Option.map_some] at hl
      go_wp2_with fail
      exact ⟨⟨j + 1, by omega, by simp, by first | rfl | trivial⟩, by simp [intOf]; omega⟩
    · obtain rfl : j = m := by omega
      rw [HN.out] at hl
      unfold ptrO at hl
      simp only [Option.map_none] at hl
      go_wp2_with fail
      go_ret
      exact ⟨rfl, rfl⟩
theorem NdAt.links {w : World} {f : Nat → Option Nat} {k b : Nat} {x : Ino} (N : NdAt w F T0 mb n tab f) (hx : slotT tab k = some x) (e : f k = some b) (S : StAt w F b x) (l : Nat) : NdAt (w.setCell ⟨b, 1, none⟩ (.int .i64 (l : Int))) F T0 mb n (tab.set k (some { x with links := l })) f := by
  obtain ⟨v, hb, _⟩ := id S
  have ht := Turn.of_stat (i := 1) hb (.int .i64 (l : Int))
  refine ⟨N.map.turn ht (fun _ _ => rfl), fun j y hy => ?_, fun j hj => ?_, N.inj⟩
  · rw [slotT_set (slotT_lt hx)] at hy
    split at hy
    · rename_i ej
      subst ej; cases hy
      obtain ⟨b', e', hb', _⟩ := N.some_ _ x hx
      rw [e] at e'; cases e'
      exact ⟨b, e, hb', S.links l⟩
    · rename_i ej
      obtain ⟨b', e', hb', S'⟩ := N.some_ j y hy
      exact ⟨b', e', hb', S'.other S (fun h => ej (N.inj _ _ _ (by rw [e', h]) e)) _⟩
  · rw [slotT_set (slotT_lt hx)] at hj
    split at hj
    · cases hj
    · exact N.none_ j hj
theorem TbAt.links {w : World} {f : Nat → Option Nat} {k b : Nat} {x : Ino} (T : TbAt w F T0 tb bb sp sb cap mb n bl u tab) (N : NdAt w F T0 mb n tab f) (hx : slotT tab k = some x) (e : f k = some b) (S : StAt w F b x) (l : Nat) : TbAt (w.setCell ⟨b, 1, none⟩ (.int .i64 (l : Int))) F T0 tb bb sp sb cap mb n bl u (tab.set k (some { x with links := l })) := by
  obtain ⟨v, hb, _⟩ := id S
  have ht := Turn.of_stat (i := 1) hb (.int .i64 (l : Int))
  refine ⟨ht _ _ T.box rfl, T.disk.turn ht (fun _ _ => rfl) (fun _ _ => rfl) (fun _ _ => rfl), T.space.turn ht (fun _ _ => rfl) (fun _ _ => rfl), ⟨f, N.links hx e S l⟩, by rw [List.length_set]; exact T.low⟩
theorem StAt.cells {w : World} {b : Nat} {x : Ino} (S : StAt w F b x) : w.cell? ⟨b, 0, none⟩ = some (.int .i64 (x.bytes : Int)) ∧ w.cell? ⟨b, 1, none⟩ = some (.int .i64 (x.links : Int)) ∧ w.frozen? ⟨b, 1, none⟩ = false ∧ w.cell? ⟨b, 2, none⟩ = some (.bool x.exec) ∧ w.cell? ⟨b, 4, none⟩ = some (.int .u32 (x.sum : Int)) ∧ ∃ v, w.cell? ⟨b, 3, none⟩ = some v ∧ IntsT w v (ints x.blocks) := by
  obtain ⟨v, hb, hv⟩ := S
  refine ⟨?_, ?_, by simp [World.frozen?, hb], ?_, ?_, v, ?_, hv.1⟩ <;> rw [cell_of_row _ _ _ _ _ _ hb] <;> rfl
set_option maxRecDepth 100000 in
set_option maxHeartbeats 1000000 in
theorem im_link_none (k : Int) (hk : (Lit.int .i64 k).wf = true) (hx : slotI tab k = none) (er : Value) (w : World) (T : TbAt w F T0 tb bb sp sb cap mb n bl u tab) (hE : w.cell? ⟨1, 0, none⟩ = some er) :
    Calls Tryz.prog 20 #[.pointer (some ⟨tb, 0, none⟩), .int .i64 k] w fun e w' => e = .returned er ∧ w' = w := by
  obtain ⟨f, N⟩ := T.nodes
  have HF := im_find k hk w T N
  rw [N.no hx] at HF
  unfold ptrO at HF
  simp only [Option.map_none] at HF
  clear T N hk hx
  go_enter Tryz.func20, Tryz.ntmps20
  go_wp2_with (go_at_call 28; refine HF.mono ?_; rintro e w1 ⟨rfl, hw⟩; rw [hw]; clear hw)
  go_ret
  exact ⟨rfl, rfl⟩
set_option maxRecDepth 100000 in
set_option maxHeartbeats 1000000 in
theorem im_link (k : Nat) (x : Ino) (hx : slotT tab k = some x) (hl : x.links ≤ 1000000) (w : World) (T : TbAt w F T0 tb bb sp sb cap mb n bl u tab) :
    Calls Tryz.prog 20 #[.pointer (some ⟨tb, 0, none⟩), .int .i64 (k : Int)] w fun e w' => e = .returned .nilIface ∧ TbAt w' F T0 tb bb sp sb cap mb n bl u (tab.set k (some { x with links := x.links + 1 })) ∧ TbBut T0 w w' := by
  obtain ⟨f, N⟩ := T.nodes
  obtain ⟨b, eb, hb, S⟩ := N.some_ k x hx
  have hkl := slotT_lt hx
  obtain ⟨_, _, _, _, _, hl1, hl2⟩ := T.low
  have HF := im_find (k : Int) (wf_nat (by omega)) w T N
  rw [atI_nat, eb] at HF
  unfold ptrO at HF
  simp only [Option.map_some] at HF
  obtain ⟨_, c1, f1, _⟩ := S.cells
  have HT : Hid (TbAt (w.setCell ⟨b, 1, none⟩ (.int .i64 ((x.links + 1 : Nat) : Int))) F T0 tb bb sp sb cap mb n bl u (tab.set k (some { x with links := x.links + 1 })) ∧ TbBut T0 w (w.setCell ⟨b, 1, none⟩ (.int .i64 ((x.links + 1 : Nat) : Int)))) := ⟨T.links N hx eb S _, TbBut.of_stat S hb _⟩
  clear T N S hx eb hkl hl1
  go_enter Tryz.func20, Tryz.ntmps20
  go_wp2_with (go_at_call 28; refine HF.mono ?_; rintro e w1 ⟨rfl, hw⟩; rw [hw]; clear hw)
  go_ret
  exact ⟨rfl, by simpa using HT.out⟩
set_option maxRecDepth 100000 in
set_option maxHeartbeats 1000000 in
theorem im_free (w : World) (T : TbAt w F T0 tb bb sp sb cap mb n bl u tab) :
    Calls Tryz.prog 17 #[.pointer (some ⟨tb, 0, none⟩)] w fun e w' => e = .returned (.int .i64 ((freeR u).length : Int)) ∧ Below w.heap.size w w' := by
  have HF := sp_Free w T.space T.low.2.2.2.2.1
  obtain ⟨_, c1, _⟩ := T.cells
  clear T
  go_enter Tryz.func17, Tryz.ntmps17
  go_wp2_with (go_at_call 41; refine HF.mono ?_; rintro e w1 ⟨rfl, h2⟩)
  go_ret
  exact ⟨rfl, h2⟩
set_option maxRecDepth 100000 in
set_option maxHeartbeats 1000000 in
theorem im_new (w : World) (D : DkAt w bb none 0 bl []) (h1 : 1 ≤ bl.length) (h2 : bl.length ≤ 512) (hT : T0 ≤ bb) (hT' : T0 ≤ w.heap.size) :
    Calls Tryz.prog 8 #[.pointer (some ⟨bb + 1, 0, none⟩)] w fun e w' => ∃ tb sp sb cap mb, e = .returned (.tuple #[.pointer (some ⟨tb, 0, none⟩), .nilIface]) ∧ TbAt w' F T0 tb bb sp sb cap mb 0 bl (List.replicate bl.length false) [] ∧ Below w.heap.size w w' := by
  have HL := len_any w D
  have HS := sp_new bl.length h1 h2 w
  have HD : Hid (DkAt w bb none 0 bl []) := D
  have hmm := @run_makeMap Tryz.prog
  clear D
  go_enter Tryz.func8, Tryz.ntmps8
  go_wp2_with (first
    | (go_at_call 27; refine HL.mono ?_; rintro e w1 ⟨rfl, hw⟩; rw [hw]; clear hw)
    | (go_at_call 26; refine HS.mono ?_; rintro e w1 ⟨rfl, hS, hb⟩))
  go_ret2
  have hb1 : Below w.heap.size w1 ((w1.alloc (.map #[] 0)).alloc (.cells #[.pointer (some ⟨bb + 1, 0, none⟩), .pointer (some ⟨w.heap.size + 1, 0, none⟩), .map (some w1.heap.size)] 76)) := ((Below.refl _ w1).alloc (hb.size) _).alloc (by have := hb.size; simp; omega) _
  have hb2 : Below w1.heap.size w1 ((w1.alloc (.map #[] 0)).alloc (.cells #[.pointer (some ⟨bb + 1, 0, none⟩), .pointer (some ⟨w.heap.size + 1, 0, none⟩), .map (some w1.heap.size)] 76)) := ((Below.refl _ w1).alloc (Nat.le_refl _) _).alloc (by simp) _
  refine ⟨w1.heap.size + 1, w.heap.size + 1, w.heap.size, bl.length, w1.heap.size, by simp, ⟨?_, HD.out.below (Nat.le_refl _) (hb.trans hb1), hS.below hb2, ⟨fun _ => none, (MpAt.made w1).keep ?_, fun k x hx => ?_, fun _ _ => rfl, fun _ _ _ h => by cases h⟩, hT, hT', Nat.le_trans hT' hb.size, h2, by simpa using h2, by simp, by omega⟩, hb.trans hb1⟩
  · have h := heap_alloc_last (w1.alloc (.map #[] 0)) (.cells #[.pointer (some ⟨bb + 1, 0, none⟩), .pointer (some ⟨w.heap.size + 1, 0, none⟩), .map (some w1.heap.size)] 76)
    rw [World.size_alloc] at h
    exact h
  · exact Below.heap_alloc _ _ _ (by simp)
  · simp [slotT] at hx
end
end Go.Proofs.YtnmknngpihjhnaaGreatDoor
