/-
  The contract of tree.Copy: a copy of a node, in new memory of its own.
  Conditions: the tree lies in memory below block B.
-/
import Derived.Test.YtpjjpmikhjlgnaaGreatDoorOwn
import Derived.Deep.RegionHeld3
import Derived.Deep.DrawnRows
import Derived.Deep.AppendLies
import Derived.Deep.DeepCutAuto
import Derived.Deep.DeepFit
namespace Go.Proofs.YtpjjpmikhjlgnaaGreatDoor
open Go.RowKit
attribute [local go_sem ↓] Go.wp_at_zero Go.wp_at_succ

/-- The state of the loop: so many kids are copied. -/
structure CopyOw (w : World) (d : Nat) (t : Tree) (j : Nat) (us : List Value) (v : Value) (wr : World) : Prop where
  box : wr.heap[w.heap.size]? = some (.cells #[.string t.kind, .string t.data, .bool t.exec, v] 24 (0, 0))
  res : wr.heap[w.heap.size + 1]? = some (.cells #[.string { data := #[] }, .string { data := #[] }, .bool false, .slice none 0 0] 24 (0, 0))
  len : us.length = j
  own : wr.ownsRow (w.heap.size + 1 + 1) 65 5 v j (kidCells (t.kids.take j) us)
  kids : ∃ Qs : Nat → Nat → Prop, (∀ (i : Nat) (x : ByteArray × Tree) (u : Value), t.kids[i]? = some x → us[i]? = some u → OwnT wr (Qs i) d x.2.kids u) ∧ (∀ i b, Qs i b → w.heap.size + 1 + 1 ≤ b ∧ b < wr.heap.size ∧ v.ownBlock ≠ some b) ∧ ∀ i j b, i ≠ j → Qs i b → ¬ Qs j b
  below : Below w.heap.size w wr

/-- One kid more. -/
theorem copy_nextO {w wr w2 wa w5 w6 : World} {d : Nat} {t : Tree} {j : Nat} {us : List Value} {v u' : Value} {x : ByteArray × Tree} {g cap H : Nat} (O : CopyOw w d t j us v wr) (hx : t.kids[j]? = some x)
    (hb2 : Below wr.heap.size wr w2) (hu' : OwnT w2 (fun b => wr.heap.size ≤ b ∧ b < w2.heap.size) d x.2.kids u') (hba : Below w2.heap.size w2 wa)
    (hown1 : w5.ownsRow (w.heap.size + 1 + 1) 65 5 (.slice (some ⟨g, 0, none⟩) (j + 1) cap) (j + 1) (kidCells (t.kids.take j) us ++ [.string x.1, .string x.2.kind, .string x.2.data, .bool x.2.exec, u']))
    (hgrow : wa.grownBy w5 v.ownBlock) (hat : v.ownBlock = some g ∨ g = H) (hH : w2.heap.size ≤ H) (h6 : w6 = w5.setCell ⟨w.heap.size, 3, none⟩ (.slice (some ⟨g, 0, none⟩) (j + 1) cap)) :
    CopyOw w d t (j + 1) (us ++ [u']) (.slice (some ⟨g, 0, none⟩) (j + 1) cap) w6 := by
  have hbr := lt_of_row O.box
  have hbs := lt_of_row O.res
  have hlt := fun k hk => O.own.lt k hk
  have h5 : ∀ k, k < w2.heap.size → v.ownBlock ≠ some k → w5.heap[k]? = w2.heap[k]? := fun k hk hne => by
    rw [hgrow.block k (Nat.lt_of_lt_of_le hk hba.size) (fun e => hne e.symm), hba.block k hk]
  have h5r : ∀ k, k < wr.heap.size → v.ownBlock ≠ some k → w5.heap[k]? = wr.heap[k]? := fun k hk hne => by
    rw [h5 k (Nat.lt_of_lt_of_le hk hb2.size) hne, hb2.block k hk]
  have hs5 : w2.heap.size ≤ w5.heap.size := Nat.le_trans hba.size hgrow.size
  have h6b : ∀ k, k ≠ w.heap.size → w6.heap[k]? = w5.heap[k]? := fun k hk => by rw [h6]; exact Below.heap_setCell _ _ _ _ hk
  have hs6 : w6.heap.size = w5.heap.size := by rw [h6]; simp [World.setCell]
  have hj : j < t.kids.length := (List.getElem?_eq_some_iff.1 hx).1
  have hwr : w.heap.size ≤ wr.heap.size := O.below.size
  have hbox5 : w5.heap[w.heap.size]? = some (.cells #[.string t.kind, .string t.data, .bool t.exec, v] 24 (0, 0)) := by
    rw [h5r _ hbr (fun e => by have := (hlt _ e).1; omega)]; exact O.box
  refine ⟨?_, ?_, ?_, ?_, ?_, ?_⟩
  · rw [h6]
    simp [World.setCell, Array.getElem?_modify, hbox5]
  · rw [h6b _ (by omega), h5r _ hbs (fun e => by have := (hlt _ e).1; omega)]; exact O.res
  · simp [O.len]
  · have e : t.kids.take (j + 1) = t.kids.take j ++ [x] := by rw [List.take_succ_eq_append_getElem hj, (List.getElem?_eq_some_iff.1 hx).2]
    rw [e, kidCells_snoc _ _ _ _ (by rw [O.len, List.length_take]; omega)]
    refine ownsRow_ext' hown1 fun k hk => h6b k ?_
    simp only [Value.ownBlock, Option.some.injEq] at hk
    subst hk
    rcases hat with h | h
    · have := (hlt g h).1; omega
    · have := hb2.size; omega
  · obtain ⟨Qs, k1, k2, k3⟩ := O.kids
    have hold : ∀ k, k < wr.heap.size → v.ownBlock ≠ some k → some g ≠ some k := fun k hk hne e => by
      simp only [Option.some.injEq] at e
      rcases hat with h | h
      · exact hne (by rw [h, e])
      · have := hb2.size; omega
    refine ⟨fun i => if i = j then (fun b => wr.heap.size ≤ b ∧ b < w2.heap.size) else Qs i, fun i y u hy hu => ?_, fun i b hb => ?_, fun i i' b hne hb hb' => ?_⟩
    · by_cases hi : i < us.length
      · rw [List.getElem?_append_left hi] at hu
        have hij : i ≠ j := by have := O.len; omega
        simp only [if_neg hij]
        exact (k1 i y u hy hu).kept (fun k hk => (h6b k (by have := k2 i k hk; omega)).trans (h5r k (k2 i k hk).2.1 (k2 i k hk).2.2)) (fun _ hk => hk)
      · have hle : us.length ≤ i := by omega
        rw [List.getElem?_append_right hle] at hu
        have hi0 : i - us.length = 0 := by
          rcases Nat.eq_zero_or_pos (i - us.length) with h | h
          · exact h
          · rw [List.getElem?_eq_none (by simp; omega)] at hu; cases hu
        rw [hi0] at hu
        simp only [List.getElem?_cons_zero, Option.some.injEq] at hu
        have hij : i = j := by have := O.len; omega
        subst hij
        rw [hx] at hy
        simp only [Option.some.injEq] at hy
        subst hy; subst hu
        simp only [if_true]
        exact hu'.kept (fun k hk => (h6b k (by omega)).trans (h5 k hk.2 (fun e => by have := (hlt k e).2; omega))) (fun _ hk => hk)
    · by_cases hij : i = j
      · simp only [if_pos hij] at hb
        refine ⟨by omega, by omega, ?_⟩
        simp only [Value.ownBlock, ne_eq, Option.some.injEq]
        rcases hat with h | h
        · have := (hlt g h).2; omega
        · omega
      · simp only [if_neg hij] at hb
        have := k2 i b hb
        exact ⟨this.1, by have := hb2.size; omega, hold b this.2.1 this.2.2⟩
    · by_cases hij : i = j
      · have hij' : i' ≠ j := by omega
        simp only [if_pos hij] at hb
        simp only [if_neg hij'] at hb'
        have := k2 i' b hb'
        omega
      · simp only [if_neg hij] at hb
        by_cases hij' : i' = j
        · simp only [if_pos hij'] at hb'
          have := k2 i b hb
          omega
        · simp only [if_neg hij'] at hb'
          exact k3 i i' b hne hb hb'
  · refine ⟨?_, ?_, ?_, ?_, fun k hk => ?_⟩
    · rw [h6]; exact hgrow.os.trans (hba.os.trans (hb2.os.trans O.below.os))
    · rw [h6]; exact hgrow.tape.trans (hba.tape.trans (hb2.tape.trans O.below.tape))
    · rw [h6]; exact hgrow.output.trans (hba.output.trans (hb2.output.trans O.below.output))
    · have := hb2.size; omega
    · rw [h6b k (by omega), h5r k (Nat.lt_of_lt_of_le hk O.below.size) (fun e => by have := (hlt k e).1; omega)]
      exact O.below.block k hk
/-- All kids are copied. -/
theorem copy_endO {w wr w' : World} {d : Nat} {t : Tree} {j : Nat} {us : List Value} {v : Value} (O : CopyOw w d t j us v wr) (hj : j = t.kids.length) (hlen : t.kids.length ≤ 1759218604390) (hs : ∀ x ∈ t.kids, x.1.size ≤ 140737488355328)
    (hos : w'.os = wr.os) (hta : w'.tape = wr.tape) (hou : w'.output = wr.output) (hsz : w'.heap.size = wr.heap.size) (hw : ∀ k, k ≠ w.heap.size + 1 → w'.heap[k]? = wr.heap[k]?) :
    OwnT w' (fun b => w.heap.size ≤ b ∧ b < w'.heap.size) (d + 1) t.kids v ∧ Below w.heap.size w w' := by
  subst hj
  have hown := O.own
  rw [List.take_length] at hown
  have hlt := fun k hk => hown.lt k hk
  obtain ⟨Qs, k1, k2, k3⟩ := O.kids
  refine ⟨⟨hlen, hs, us, Qs, O.len, ?_, fun g hg => ⟨by have := (hlt g hg).1; omega, by have := (hlt g hg).2; omega⟩, fun i x u hx hu => ?_, fun i b hb => ?_, k3⟩, ?_⟩
  · exact ownsRow_lower (ownsRow_ext' hown fun k hk => hw k (by have := (hlt k hk).1; omega)) (Nat.zero_le _)
  · exact (k1 i x u hx hu).kept (fun k hk => hw k (by have := k2 i k hk; omega)) (fun _ hk => hk)
  · have := k2 i b hb
    exact ⟨⟨by omega, by omega⟩, this.2.2⟩
  · exact ⟨hos.trans O.below.os, hta.trans O.below.tape, hou.trans O.below.output, by rw [hsz]; exact O.below.size, fun k hk => by rw [hw k (by omega)]; exact O.below.block k hk⟩

set_option maxRecDepth 100000 in
set_option maxHeartbeats 4000000 in
theorem copy_own (B : Nat) : ∀ (d : Nat) (t : Tree) (u : Value) (w : World), B ≤ w.heap.size → Lies w B d t.kids u →
    Calls Tryz.prog 39 #[.agg #[.string t.kind, .string t.data, .bool t.exec, u]] w fun e w' => ∃ u', e = .returned (.agg #[.string t.kind, .string t.data, .bool t.exec, u']) ∧ OwnT w' (fun b => w.heap.size ≤ b ∧ b < w'.heap.size) d t.kids u' ∧ Below w.heap.size w w' := by
  intro d
  induction d with
  | zero => intro t u w _ hl; exact absurd hl (by simp [Lies])
  | succ d ih =>
    intro t u w hB hl
    have hlo := hl.open
    obtain ⟨ta, tc, rfl⟩ := hl.form
    obtain ⟨i0, hi0, hz0, hz1, hz2⟩ := info_parts infoKid
    have HL : Hid _ := hlo
    have HIH : Hid _ := ih
    have hlen := hlo.1
    have HN : Hid (∀ x ∈ t.kids, x.1.size ≤ 140737488355328) := fun x hx => by
      obtain ⟨i, hi, he⟩ := List.getElem_of_mem hx
      have hxi : t.kids[i]? = some x := by rw [List.getElem?_eq_getElem hi, he]
      rcases hlo.2 with ⟨h0, _⟩ | ⟨b, off, cp, _, _, hk⟩
      · rw [h0] at hxi; simp at hxi
      · obtain ⟨u, K⟩ := hk i x hxi
        exact K.size
    clear hlo hl ih
    go_enter Tryz.func39, Tryz.ntmps39
    go_wp2_with fail
    go_loopw [11] (fun i wr => ∃ (j : Nat) (us : List Value) (va : Option Addr) (vc : Nat), j ≤ t.kids.length ∧ i = .int .i64 j ∧ CopyOw w d t j us (.slice va j vc) wr) (fun i _ => t.kids.length - (intOf i).toNat)
    case atStart =>
      refine ⟨0, [], none, 0, Nat.zero_le _, rfl, ⟨?_, ?_, rfl, ?_, ?_, ?_⟩⟩
      · rw [Below.heap_alloc _ _ _ (by simp)]; exact row_alloc' _ _ _
      · have := row_alloc' (w.alloc (.cells #[.string t.kind, .string t.data, .bool t.exec, .slice none 0 0] 24)) #[.string { data := #[] }, .string { data := #[] }, .bool false, .slice none 0 0] 24
        simpa using this
      · have e : kidCells (t.kids.take 0) [] = [] := by simp [kidCells]
        rw [e]; exact World.ownsRow_nil _ _ _ _
      · exact ⟨fun _ _ => False, fun i x u _ h => by simp at h, fun _ _ h => h.elim, fun _ _ _ _ h => h.elim⟩
      · exact ((Below.refl _ _).alloc (Nat.le_refl _) _).alloc (by simp) _
    case round =>
      obtain ⟨j, us, va, vc, hj, rfl, O⟩ := hrel
      have g3 : wr.cell? ⟨w.heap.size, 3, none⟩ = some (.slice va j vc) := by rw [cell_of_row wr _ _ _ _ _ O.box]; rfl
      by_cases hlt : j < t.kids.length
      · obtain ⟨x, hx⟩ : ∃ x, t.kids[j]? = some x := ⟨t.kids[j], List.getElem?_eq_getElem hlt⟩
        obtain ⟨b, off, rfl, ux, K0⟩ : ∃ b off, ta = some ⟨b, off, none⟩ ∧ ∃ u, KidAt w B d b off j x u := by
          rcases HL.out.2 with ⟨h0, _⟩ | ⟨b, off, cp, e, _, hk⟩
          · rw [h0] at hlt; exact absurd hlt (by simp)
          · simp only [Value.slice.injEq] at e
            exact ⟨b, off, e.1, hk j x hx⟩
        have K := K0.below O.below hB
        obtain ⟨xa, xc, rfl⟩ := K.lies.form
        have n0 := K.name
        have n1 := K.kind
        have n2 := K.data
        have n3 := K.exec
        have n4 := K.kids
        have hBr : B ≤ wr.heap.size := Nat.le_trans hB O.below.size
        have lb : b < wr.heap.size := Nat.lt_of_lt_of_le K.lt hBr
        have lw : w.heap.size < wr.heap.size := lt_of_row O.box
        have lw1 : w.heap.size + 1 < wr.heap.size := lt_of_row O.res
        have hA1 : Below wr.heap.size wr (wr.alloc (.cells #[.string x.1, .string x.2.kind, .string x.2.data, .bool x.2.exec, .slice xa x.2.kids.length xc] 65)) := (Below.refl _ _).alloc (Nat.le_refl _) _
        have hrow1 := row_alloc' wr #[.string x.1, .string x.2.kind, .string x.2.data, .bool x.2.exec, .slice xa x.2.kids.length xc] 65
        have hz1' : (wr.alloc (.cells #[.string x.1, .string x.2.kind, .string x.2.data, .bool x.2.exec, .slice xa x.2.kids.length xc] 65)).heap.size = wr.heap.size + 1 := by simp
        have HC : Hid (∀ w', Below (wr.alloc (.cells #[.string x.1, .string x.2.kind, .string x.2.data, .bool x.2.exec, .slice xa x.2.kids.length xc] 65)).heap.size (wr.alloc (.cells #[.string x.1, .string x.2.kind, .string x.2.data, .bool x.2.exec, .slice xa x.2.kids.length xc] 65)) w' → Calls Tryz.prog 39 #[.agg #[.string x.2.kind, .string x.2.data, .bool x.2.exec, .slice xa x.2.kids.length xc]] w' fun e w'' => ∃ u', e = .returned (.agg #[.string x.2.kind, .string x.2.data, .bool x.2.exec, u']) ∧ OwnT w'' (fun b => w'.heap.size ≤ b ∧ b < w''.heap.size) d x.2.kids u' ∧ Below w'.heap.size w' w'') := fun w' h =>
          HIH.out x.2 (.slice xa x.2.kids.length xc) w' (by have := h.size; omega) (K.lies.below (hA1.trans (h.mono (by omega))) hBr)
        have HS : Hid (∀ w', Below (wr.alloc (.cells #[.string x.1, .string x.2.kind, .string x.2.data, .bool x.2.exec, .slice xa x.2.kids.length xc] 65)).heap.size (wr.alloc (.cells #[.string x.1, .string x.2.kind, .string x.2.data, .bool x.2.exec, .slice xa x.2.kids.length xc] 65)) w' → ((fun w' => w'.cell? ⟨wr.heap.size, 0, none⟩ = some (.string x.1) ∧ w'.cell? ⟨wr.heap.size, 1, none⟩ = some (.string x.2.kind) ∧ w'.cell? ⟨wr.heap.size, 2, none⟩ = some (.string x.2.data) ∧ w'.cell? ⟨wr.heap.size, 3, none⟩ = some (.bool x.2.exec) ∧ w'.cell? ⟨wr.heap.size, 4, none⟩ = some (.slice xa x.2.kids.length xc)) w' : Prop)) := fun w' h => by
          have hk : w'.heap[wr.heap.size]? = some (.cells #[.string x.1, .string x.2.kind, .string x.2.data, .bool x.2.exec, .slice xa x.2.kids.length xc] 65 (0, 0)) := (h.block _ (by omega)).trans hrow1
          refine ⟨?_, ?_, ?_, ?_, ?_⟩
          all_goals (rw [cell_of_row w' _ _ _ _ _ hk]; rfl)
        have HG3 : Hid (∀ w', Below (wr.alloc (.cells #[.string x.1, .string x.2.kind, .string x.2.data, .bool x.2.exec, .slice xa x.2.kids.length xc] 65)).heap.size (wr.alloc (.cells #[.string x.1, .string x.2.kind, .string x.2.data, .bool x.2.exec, .slice xa x.2.kids.length xc] 65)) w' → w'.cell? ⟨w.heap.size, 3, none⟩ = some (.slice va j vc)) := fun w' h => by
          rw [h.cell (p := ⟨w.heap.size, 3, none⟩) (show w.heap.size < _ by omega), hA1.cell (p := ⟨w.heap.size, 3, none⟩) lw]; exact g3
        have hj0 : (0 : Int) ≤ (j : Int) := by omega
        have hj1 : (j : Int) < (t.kids.length : Int) := by omega
        have HO : Hid (CopyOw w d t j us (.slice va j vc) wr) := O
        have HX : Hid _ := hx
        have HA1 : Hid _ := hA1
        have f3 : ∀ w', Below wr.heap.size wr w' → w'.frozen? ⟨w.heap.size, 3, none⟩ = false := fun w' h => by rw [h.frozen (p := ⟨w.heap.size, 3, none⟩) lw]; exact free_of_row O.box 3
        have HF3 : Hid _ := f3
        clear O K K0 hx hA1 hrow1 f3
        go_upto_region 6 with fail
        refine wp_region_held_drew (S := fun w' => w'.cell? ⟨wr.heap.size, 0, none⟩ = some (.string x.1) ∧ w'.cell? ⟨wr.heap.size, 1, none⟩ = some (.string x.2.kind) ∧ w'.cell? ⟨wr.heap.size, 2, none⟩ = some (.string x.2.data) ∧ w'.cell? ⟨wr.heap.size, 3, none⟩ = some (.bool x.2.exec) ∧ w'.cell? ⟨wr.heap.size, 4, none⟩ = some (.slice xa x.2.kids.length xc)) (by kernel_rfl) (HS.out _ (Below.refl _ _).drew) (fun hHeld => ?_)
        refine wpAnyH_take (i := 0) (v := .pointer (some ⟨w.heap.size, 3, none⟩)) rfl (by kernel_rfl) (by kernel_rfl) (by kernel_rfl) (fun _ _ _ h => h) (Or.inl ⟨by rfl, ?_⟩) hHeld ?_
        · intro w hSw; (try dsimp only at hSw); simp only [List.getElem_toArray, List.getElem_cons_zero]; go_simp
        simp only [List.getElem_toArray, List.getElem_cons_zero, Act.put, List.setIfInBounds_toArray, List.set_cons_zero, List.set_cons_succ]
        refine wpAnyH_take (i := 2) (v := .pointer (some ⟨wr.heap.size, 0, none⟩)) rfl (by kernel_rfl) (by kernel_rfl) (by kernel_rfl) (fun _ _ _ h => h) (Or.inl ⟨by rfl, ?_⟩) hHeld ?_
        · intro w hSw; (try dsimp only at hSw); simp only [List.getElem_toArray, List.getElem_cons_zero, List.getElem_cons_succ]; go_simp
        simp only [List.getElem_toArray, List.getElem_cons_zero, List.getElem_cons_succ, Act.put, List.setIfInBounds_toArray, List.set_cons_zero, List.set_cons_succ]
        refine wpAnyH_take (i := 3) (v := .string x.1) rfl (by kernel_rfl) (by kernel_rfl) (by kernel_rfl) (fun _ _ _ h => h) (Or.inl ⟨by rfl, ?_⟩) hHeld ?_
        · intro w hSw; (try dsimp only at hSw); simp only [List.getElem_toArray, List.getElem_cons_zero, List.getElem_cons_succ]; go_simp
        simp only [List.getElem_toArray, List.getElem_cons_zero, List.getElem_cons_succ, Act.put, List.setIfInBounds_toArray, List.set_cons_zero, List.set_cons_succ]
        refine wpAnyH_take (i := 4) (v := .pointer (some ⟨wr.heap.size, 1, none⟩)) rfl (by kernel_rfl) (by kernel_rfl) (by kernel_rfl) (fun _ _ _ h => h) (Or.inl ⟨by rfl, ?_⟩) hHeld ?_
        · intro w hSw; (try dsimp only at hSw); simp only [List.getElem_toArray, List.getElem_cons_zero, List.getElem_cons_succ]; go_simp
        simp only [List.getElem_toArray, List.getElem_cons_zero, List.getElem_cons_succ, Act.put, List.setIfInBounds_toArray, List.set_cons_zero, List.set_cons_succ]
        refine wpAnyH_take (i := 5) (v := .agg #[.string x.2.kind, .string x.2.data, .bool x.2.exec, .slice xa x.2.kids.length xc]) rfl (by kernel_rfl) (by kernel_rfl) (by kernel_rfl) (fun _ _ _ h => h) (Or.inl ⟨by rfl, ?_⟩) hHeld ?_
        · intro w hSw; (try dsimp only at hSw); simp only [List.getElem_toArray, List.getElem_cons_zero, List.getElem_cons_succ]; go_simp
        simp only [List.getElem_toArray, List.getElem_cons_zero, List.getElem_cons_succ, Act.put, List.setIfInBounds_toArray, List.set_cons_zero, List.set_cons_succ]
        refine wpAnyH_ready (rs := [1, 6]) (by kernel_rfl) (by simp) ?_
        refine AllReadyH.cons rfl (fun K' hK => ?_) (AllReadyH.cons rfl (fun K' hK => ?_) AllReadyH.nil)
        focus
          simp only [List.getElem_toArray, List.getElem_cons_zero, List.getElem_cons_succ]
          have c13 := HG3.out _ ((Below.refl _ _).drew)
          go_simp
          go_wp2_with fail
          clear c13
          refine hK.out _ _ (HS.out _ ((Below.refl _ _).drew)) (fun hHeld' => ?_)
          clear hK K' hHeld
          have hHeld := hHeld'
          clear hHeld'
          refine wpAnyH_ready (rs := [6]) (by kernel_rfl) (by simp) ?_
          refine AllReadyH.cons rfl (fun K' hK => ?_) AllReadyH.nil
          simp only [List.getElem_toArray, List.getElem_cons_zero, List.getElem_cons_succ]
          go_simp
          refine Calls.mono (HC.out _ (Below.refl _ _).drew) ?_
          rintro e wx ⟨u', rfl, hq, hb2⟩
          obtain ⟨ya, yc, rfl⟩ := hq.form
          have HB2 : Hid (Below (wr.alloc (.cells #[.string x.1, .string x.2.kind, .string x.2.data, .bool x.2.exec, .slice xa x.2.kids.length xc] 65)).heap.size (wr.alloc (.cells #[.string x.1, .string x.2.kind, .string x.2.data, .bool x.2.exec, .slice xa x.2.kids.length xc] 65)) wx) := (Below.refl _ _).drew.trans hb2
          have HBR : Hid (Below wr.heap.size wr wx) := HA1.out.trans (HB2.out.mono (by omega))
          have HQ : Hid (OwnT wx (fun b => wr.heap.size ≤ b ∧ b < wx.heap.size) d x.2.kids (.slice ya x.2.kids.length yc)) := OwnT.kept (fun _ _ => rfl) (fun k hk => ⟨by have h := hk.1; have h2 : (wr.alloc (.cells #[.string x.1, .string x.2.kind, .string x.2.data, .bool x.2.exec, .slice xa x.2.kids.length xc] 65)).drew.heap.size = wr.heap.size + 1 := hz1'; omega, hk.2⟩) hq
          have hzx := HBR.out.size
          clear hq hb2
          go_wp2_with fail
          refine hK.out _ _ (HS.out _ HB2.out) (fun hHeld' => ?_)
          clear hK K' hHeld
          have hHeld := hHeld'
          clear hHeld'
          refine wpAnyH_take (i := 7) (v := .agg #[.string x.1, .string x.2.kind, .string x.2.data, .bool x.2.exec, .slice ya x.2.kids.length yc]) rfl (by kernel_rfl) (by kernel_rfl) (by kernel_rfl) (fun _ _ _ h => h) (Or.inl ⟨by rfl, ?_⟩) hHeld ?_
          · intro w hSw; (try dsimp only at hSw); simp only [List.getElem_toArray, List.getElem_cons_zero, List.getElem_cons_succ]; go_simp
          simp only [List.getElem_toArray, List.getElem_cons_zero, List.getElem_cons_succ, Act.put, List.setIfInBounds_toArray, List.set_cons_zero, List.set_cons_succ]
          refine wpAnyH_ready (rs := [8]) (by kernel_rfl) (by simp) ?_
          refine AllReadyH.cons rfl (fun K' hK => ?_) AllReadyH.nil
          simp only [List.getElem_toArray, List.getElem_cons_zero, List.getElem_cons_succ]
          go_simp
          go_wp2_with fail
          have HBA : Hid (Below (wr.alloc (.cells #[.string x.1, .string x.2.kind, .string x.2.data, .bool x.2.exec, .slice xa x.2.kids.length xc] 65)).heap.size (wr.alloc (.cells #[.string x.1, .string x.2.kind, .string x.2.data, .bool x.2.exec, .slice xa x.2.kids.length xc] 65)) (wx.alloc (.cells #[.string x.1, .string x.2.kind, .string x.2.data, .bool x.2.exec, .slice ya x.2.kids.length yc] 65))) := HB2.out.alloc HB2.out.size _
          have HOW : Hid ((wx.alloc (.cells #[.string x.1, .string x.2.kind, .string x.2.data, .bool x.2.exec, .slice ya x.2.kids.length yc] 65)).ownsRow (w.heap.size + 1 + 1) 65 5 (.slice va j vc) j (kidCells (t.kids.take j) us)) := World.ownsRow.alloc (ownsRow_ext' HO.out.own fun k hk => HBR.out.block k (HO.out.own.lt k hk).2) _
          have HN2 : Hid ((wx.alloc (.cells #[.string x.1, .string x.2.kind, .string x.2.data, .bool x.2.exec, .slice ya x.2.kids.length yc] 65)).heap[wx.heap.size]? = some (.cells #[.string x.1, .string x.2.kind, .string x.2.data, .bool x.2.exec, .slice ya x.2.kids.length yc] 65 (0, 0))) := row_alloc' wx #[.string x.1, .string x.2.kind, .string x.2.data, .bool x.2.exec, .slice ya x.2.kids.length yc] 65
          refine hK.out _ _ (HS.out _ HBA.out) (fun hHeld' => ?_)
          clear hK K' hHeld
          have hHeld := hHeld'
          clear hHeld'
        rotate_left
        focus
          simp only [List.getElem_toArray, List.getElem_cons_zero, List.getElem_cons_succ]
          go_simp
          refine Calls.mono (HC.out _ (Below.refl _ _).drew) ?_
          rintro e wx ⟨u', rfl, hq, hb2⟩
          obtain ⟨ya, yc, rfl⟩ := hq.form
          have HB2 : Hid (Below (wr.alloc (.cells #[.string x.1, .string x.2.kind, .string x.2.data, .bool x.2.exec, .slice xa x.2.kids.length xc] 65)).heap.size (wr.alloc (.cells #[.string x.1, .string x.2.kind, .string x.2.data, .bool x.2.exec, .slice xa x.2.kids.length xc] 65)) wx) := (Below.refl _ _).drew.trans hb2
          have HBR : Hid (Below wr.heap.size wr wx) := HA1.out.trans (HB2.out.mono (by omega))
          have HQ : Hid (OwnT wx (fun b => wr.heap.size ≤ b ∧ b < wx.heap.size) d x.2.kids (.slice ya x.2.kids.length yc)) := OwnT.kept (fun _ _ => rfl) (fun k hk => ⟨by have h := hk.1; have h2 : (wr.alloc (.cells #[.string x.1, .string x.2.kind, .string x.2.data, .bool x.2.exec, .slice xa x.2.kids.length xc] 65)).drew.heap.size = wr.heap.size + 1 := hz1'; omega, hk.2⟩) hq
          have hzx := HBR.out.size
          clear hq hb2
          go_wp2_with fail
          refine hK.out _ _ (HS.out _ HB2.out) (fun hHeld' => ?_)
          clear hK K' hHeld
          have hHeld := hHeld'
          clear hHeld'
          refine wpAnyH_take (i := 7) (v := .agg #[.string x.1, .string x.2.kind, .string x.2.data, .bool x.2.exec, .slice ya x.2.kids.length yc]) rfl (by kernel_rfl) (by kernel_rfl) (by kernel_rfl) (fun _ _ _ h => h) (Or.inl ⟨by rfl, ?_⟩) hHeld ?_
          · intro w hSw; (try dsimp only at hSw); simp only [List.getElem_toArray, List.getElem_cons_zero, List.getElem_cons_succ]; go_simp
          simp only [List.getElem_toArray, List.getElem_cons_zero, List.getElem_cons_succ, Act.put, List.setIfInBounds_toArray, List.set_cons_zero, List.set_cons_succ]
          refine wpAnyH_ready (rs := [1, 8]) (by kernel_rfl) (by simp) ?_
          refine AllReadyH.cons rfl (fun K' hK => ?_) (AllReadyH.cons rfl (fun K' hK => ?_) AllReadyH.nil)
          focus
            simp only [List.getElem_toArray, List.getElem_cons_zero, List.getElem_cons_succ]
            have c13 := HG3.out _ (HB2.out)
            go_simp
            go_wp2_with fail
            clear c13
            refine hK.out _ _ (HS.out _ (HB2.out)) (fun hHeld' => ?_)
            clear hK K' hHeld
            have hHeld := hHeld'
            clear hHeld'
            refine wpAnyH_ready (rs := [8]) (by kernel_rfl) (by simp) ?_
            refine AllReadyH.cons rfl (fun K' hK => ?_) AllReadyH.nil
            simp only [List.getElem_toArray, List.getElem_cons_zero, List.getElem_cons_succ]
            go_simp
            go_wp2_with fail
            have HBA : Hid (Below (wr.alloc (.cells #[.string x.1, .string x.2.kind, .string x.2.data, .bool x.2.exec, .slice xa x.2.kids.length xc] 65)).heap.size (wr.alloc (.cells #[.string x.1, .string x.2.kind, .string x.2.data, .bool x.2.exec, .slice xa x.2.kids.length xc] 65)) (wx.alloc (.cells #[.string x.1, .string x.2.kind, .string x.2.data, .bool x.2.exec, .slice ya x.2.kids.length yc] 65))) := HB2.out.alloc HB2.out.size _
            have HOW : Hid ((wx.alloc (.cells #[.string x.1, .string x.2.kind, .string x.2.data, .bool x.2.exec, .slice ya x.2.kids.length yc] 65)).ownsRow (w.heap.size + 1 + 1) 65 5 (.slice va j vc) j (kidCells (t.kids.take j) us)) := World.ownsRow.alloc (ownsRow_ext' HO.out.own fun k hk => HBR.out.block k (HO.out.own.lt k hk).2) _
            have HN2 : Hid ((wx.alloc (.cells #[.string x.1, .string x.2.kind, .string x.2.data, .bool x.2.exec, .slice ya x.2.kids.length yc] 65)).heap[wx.heap.size]? = some (.cells #[.string x.1, .string x.2.kind, .string x.2.data, .bool x.2.exec, .slice ya x.2.kids.length yc] 65 (0, 0))) := row_alloc' wx #[.string x.1, .string x.2.kind, .string x.2.data, .bool x.2.exec, .slice ya x.2.kids.length yc] 65
            refine hK.out _ _ (HS.out _ HBA.out) (fun hHeld' => ?_)
            clear hK K' hHeld
            have hHeld := hHeld'
            clear hHeld'
          rotate_left
          focus
            simp only [List.getElem_toArray, List.getElem_cons_zero, List.getElem_cons_succ]
            go_simp
            go_wp2_with fail
            have HBA : Hid (Below (wr.alloc (.cells #[.string x.1, .string x.2.kind, .string x.2.data, .bool x.2.exec, .slice xa x.2.kids.length xc] 65)).heap.size (wr.alloc (.cells #[.string x.1, .string x.2.kind, .string x.2.data, .bool x.2.exec, .slice xa x.2.kids.length xc] 65)) (wx.alloc (.cells #[.string x.1, .string x.2.kind, .string x.2.data, .bool x.2.exec, .slice ya x.2.kids.length yc] 65))) := HB2.out.alloc HB2.out.size _
            have HOW : Hid ((wx.alloc (.cells #[.string x.1, .string x.2.kind, .string x.2.data, .bool x.2.exec, .slice ya x.2.kids.length yc] 65)).ownsRow (w.heap.size + 1 + 1) 65 5 (.slice va j vc) j (kidCells (t.kids.take j) us)) := World.ownsRow.alloc (ownsRow_ext' HO.out.own fun k hk => HBR.out.block k (HO.out.own.lt k hk).2) _
            have HN2 : Hid ((wx.alloc (.cells #[.string x.1, .string x.2.kind, .string x.2.data, .bool x.2.exec, .slice ya x.2.kids.length yc] 65)).heap[wx.heap.size]? = some (.cells #[.string x.1, .string x.2.kind, .string x.2.data, .bool x.2.exec, .slice ya x.2.kids.length yc] 65 (0, 0))) := row_alloc' wx #[.string x.1, .string x.2.kind, .string x.2.data, .bool x.2.exec, .slice ya x.2.kids.length yc] 65
            refine hK.out _ _ (HS.out _ HBA.out) (fun hHeld' => ?_)
            clear hK K' hHeld
            have hHeld := hHeld'
            clear hHeld'
            refine wpAnyH_ready (rs := [1]) (by kernel_rfl) (by simp) ?_
            refine AllReadyH.cons rfl (fun K' hK => ?_) AllReadyH.nil
            simp only [List.getElem_toArray, List.getElem_cons_zero, List.getElem_cons_succ]
            have c13 := HG3.out _ (HBA.out)
            go_simp
            go_wp2_with fail
            clear c13
            refine hK.out _ _ (HS.out _ (HBA.out)) (fun hHeld' => ?_)
            clear hK K' hHeld
            have hHeld := hHeld'
            clear hHeld'
        all_goals
          refine wpAnyH_ready (rs := [9]) (by kernel_rfl) (by simp) ?_
          refine AllReadyH.cons rfl (fun K' hK => ?_) AllReadyH.nil
          refine step_append_lies _ (by rfl) _ _ _ (by rfl) (w.heap.size + 1 + 1) 65 i0 _ 5 80 Tryz.underlying22 hi0 hz0 hz1 hz2 rfl (by omega) (.slice va j vc) j (kidCells (t.kids.take j) us) (by rfl) HOW.out ⟨wx.heap.size, 0, none⟩ 1 1 [.string x.1, .string x.2.kind, .string x.2.data, .bool x.2.exec, .slice ya x.2.kids.length yc] (by rfl) (by rfl) (World.news_of_block (cs := #[.string x.1, .string x.2.kind, .string x.2.data, .bool x.2.exec, .slice ya x.2.kids.length yc]) (t := 65) (fr := (0, 0)) HN2.out) (by simp [Value.oneCell']) (by omega) (by unfold maxLen; omega) (by omega) (by simp; omega) (wx.heap.size + 1) (by simp) ?_
          intro g cap w5 hown5 hgrow hat hlt5
          have hz5 := hgrow.size
          have HOWN5 : Hid _ := hown5
          have HGROW : Hid _ := hgrow
          have HAT : Hid _ := hat
          have hH5 : ∀ k, k < wx.heap.size + 1 → (Value.slice va j vc).ownBlock ≠ some k → w5.heap[k]? = (wx.alloc (.cells #[.string x.1, .string x.2.kind, .string x.2.data, .bool x.2.exec, .slice ya x.2.kids.length yc] 65)).heap[k]? := fun k hk hne => hgrow.block k (by simp; omega) (fun e => hne e.symm)
          have a1 : (Value.slice va j vc).ownBlock ≠ some w.heap.size := fun e => by have := (HO.out.own.lt _ e).1; omega
          have a2 : (Value.slice va j vc).ownBlock ≠ some wr.heap.size := fun e => by have := (HO.out.own.lt _ e).2; omega
          have e1 := hH5 w.heap.size (by omega) a1
          have e2 := hH5 wr.heap.size (by have := HB2.out.size; omega) a2
          have k2 : ∀ o, w5.cell? ⟨wr.heap.size, o, none⟩ = (wx.alloc (.cells #[.string x.1, .string x.2.kind, .string x.2.data, .bool x.2.exec, .slice ya x.2.kids.length yc] 65)).cell? ⟨wr.heap.size, o, none⟩ := fun o => World.cell?_of_block e2
          have HS5 : Hid ((fun w' => w'.cell? ⟨wr.heap.size, 0, none⟩ = some (.string x.1) ∧ w'.cell? ⟨wr.heap.size, 1, none⟩ = some (.string x.2.kind) ∧ w'.cell? ⟨wr.heap.size, 2, none⟩ = some (.string x.2.data) ∧ w'.cell? ⟨wr.heap.size, 3, none⟩ = some (.bool x.2.exec) ∧ w'.cell? ⟨wr.heap.size, 4, none⟩ = some (.slice xa x.2.kids.length xc)) w5 : Prop) := by
            have h := HS.out _ HBA.out
            simp only [← k2] at h
            exact h
          have hb5 : w5.heap[w.heap.size]? = some (.cells #[.string t.kind, .string t.data, .bool t.exec, .slice va j vc] 24 (0, 0)) := by
            rw [e1, Below.heap_alloc _ _ _ (by omega), HBR.out.block _ lw]; exact HO.out.box
          have f53 : w5.frozen? ⟨w.heap.size, 3, none⟩ = false := free_of_row hb5 3
          have c53 : w5.cell? ⟨w.heap.size, 3, none⟩ = some (.slice va j vc) := by rw [cell_of_row w5 _ _ _ _ _ hb5]; rfl
          have hneq : wr.heap.size ≠ w.heap.size := by omega
          have HS6 : Hid (∀ v, ((fun w' => w'.cell? ⟨wr.heap.size, 0, none⟩ = some (.string x.1) ∧ w'.cell? ⟨wr.heap.size, 1, none⟩ = some (.string x.2.kind) ∧ w'.cell? ⟨wr.heap.size, 2, none⟩ = some (.string x.2.data) ∧ w'.cell? ⟨wr.heap.size, 3, none⟩ = some (.bool x.2.exec) ∧ w'.cell? ⟨wr.heap.size, 4, none⟩ = some (.slice xa x.2.kids.length xc)) (w5.setCell ⟨w.heap.size, 3, none⟩ v) : Prop)) := fun v => by
            have h := HS5.out
            have k3 : ∀ o, (w5.setCell ⟨w.heap.size, 3, none⟩ v).cell? ⟨wr.heap.size, o, none⟩ = w5.cell? ⟨wr.heap.size, o, none⟩ := fun o => World.cell?_of_block (Below.heap_setCell _ _ _ _ hneq)
            simp only [← k3] at h
            exact h
          have HNX : Hid (CopyOw w d t (j + 1) (us ++ [.slice ya x.2.kids.length yc]) (.slice (some ⟨g, 0, none⟩) (j + 1) cap) (w5.setCell ⟨w.heap.size, 3, none⟩ (.slice (some ⟨g, 0, none⟩) (j + 1) cap))) := copy_nextO HO.out HX.out HBR.out HQ.out (wa := (wx.alloc (.cells #[.string x.1, .string x.2.kind, .string x.2.data, .bool x.2.exec, .slice ya x.2.kids.length yc] 65))) ((Below.refl _ _).alloc (Nat.le_refl _) _) HOWN5.out HGROW.out HAT.out (by omega) rfl
          clear hown5 hgrow hat hH5 a1 a2 e1 e2 k2 hb5
          refine hK.out _ _ HS5.out (fun hHeld' => ?_)
          clear hK K' hHeld
          have hHeld := hHeld'
          clear hHeld'
          refine wpAnyH_take (i := 10) (v := .pointer (some ⟨w.heap.size, 3, none⟩)) rfl (by kernel_rfl) (by kernel_rfl) (by kernel_rfl) (fun _ _ _ h => h) (Or.inl ⟨by rfl, ?_⟩) hHeld ?_
          · intro w hSw; (try dsimp only at hSw); simp only [List.getElem_toArray, List.getElem_cons_zero, List.getElem_cons_succ]; go_simp
          simp only [List.getElem_toArray, List.getElem_cons_zero, List.getElem_cons_succ, Act.put, List.setIfInBounds_toArray, List.set_cons_zero, List.set_cons_succ]
          refine wpAnyH_ready (rs := [11]) (by kernel_rfl) (by simp) ?_
          refine AllReadyH.cons rfl (fun K' hK => ?_) AllReadyH.nil
          simp only [List.getElem_toArray, List.getElem_cons_zero, List.getElem_cons_succ]
          go_simp
          go_wp2_with fail
          refine hK.out _ _ (HS6.out _) (fun hHeld' => ?_)
          clear hK K' hHeld
          have hHeld := hHeld'
          clear hHeld'
          refine wpAnyH_done (by kernel_rfl) ?_ _
          go_wp2_with fail
          go_roundw
          case rel => exact ⟨j + 1, us ++ [.slice ya x.2.kids.length yc], some ⟨g, 0, none⟩, cap, by omega, by go_num, HNX.out⟩
          case measure => simp [intOf]; omega
      · have r0 : wr.cell? ⟨w.heap.size + 1, 0, none⟩ = some (.string { data := #[] }) := by rw [cell_of_row wr _ _ _ _ _ O.res]; rfl
        have r1 : wr.cell? ⟨w.heap.size + 1, 1, none⟩ = some (.string { data := #[] }) := by rw [cell_of_row wr _ _ _ _ _ O.res]; rfl
        have r2 : wr.cell? ⟨w.heap.size + 1, 2, none⟩ = some (.bool false) := by rw [cell_of_row wr _ _ _ _ _ O.res]; rfl
        have r3 : wr.cell? ⟨w.heap.size + 1, 3, none⟩ = some (.slice none 0 0) := by rw [cell_of_row wr _ _ _ _ _ O.res]; rfl
        have s0 : wr.frozen? ⟨w.heap.size + 1, 0, none⟩ = false := free_of_row O.res 0
        have s1 : wr.frozen? ⟨w.heap.size + 1, 1, none⟩ = false := free_of_row O.res 1
        have s2 : wr.frozen? ⟨w.heap.size + 1, 2, none⟩ = false := free_of_row O.res 2
        have s3 : wr.frozen? ⟨w.heap.size + 1, 3, none⟩ = false := free_of_row O.res 3
        have g0 : wr.cell? ⟨w.heap.size, 0, none⟩ = some (.string t.kind) := by rw [cell_of_row wr _ _ _ _ _ O.box]; rfl
        have g1 : wr.cell? ⟨w.heap.size, 1, none⟩ = some (.string t.data) := by rw [cell_of_row wr _ _ _ _ _ O.box]; rfl
        have g2 : wr.cell? ⟨w.heap.size, 2, none⟩ = some (.bool t.exec) := by rw [cell_of_row wr _ _ _ _ _ O.box]; rfl
        have HE : Hid _ := copy_endO (w' := ((((wr.setCell ⟨w.heap.size + 1, 0, none⟩ (.string t.kind)).setCell ⟨w.heap.size + 1, 1, none⟩ (.string t.data)).setCell ⟨w.heap.size + 1, 2, none⟩ (.bool t.exec)).setCell ⟨w.heap.size + 1, 3, none⟩ (.slice va j vc)))
          O (by omega) hlen HN.out rfl rfl rfl (by simp [World.setCell]) (fun k h2 => by
            rw [Below.heap_setCell _ _ _ _ h2, Below.heap_setCell _ _ _ _ h2, Below.heap_setCell _ _ _ _ h2, Below.heap_setCell _ _ _ _ h2])
        clear O
        go_wp2_with fail
        refine bodyPost_ret (v := .agg #[.string t.kind, .string t.data, .bool t.exec, .slice va j vc]) (by simp [results, Tryz.results39, go_sem, r0, r1, r2, r3]) rfl ⟨.slice va j vc, rfl, ?_, ?_⟩
        · exact HE.out.1
        · exact HE.out.2
/-- The copy, without its memory's own blocks. -/
theorem copy_any (B : Nat) (d : Nat) (t : Tree) (u : Value) (w : World) (hB : B ≤ w.heap.size) (hl : Lies w B d t.kids u) :
    Calls Tryz.prog 39 #[.agg #[.string t.kind, .string t.data, .bool t.exec, u]] w fun e w' => ∃ u', e = .returned (.agg #[.string t.kind, .string t.data, .bool t.exec, u']) ∧ LiesQ w' (fun b => w.heap.size ≤ b ∧ b < w'.heap.size) d t.kids u' ∧ Below w.heap.size w w' := by
  refine (copy_own B d t u w hB hl).mono ?_
  rintro e w' ⟨u', h1, h2, h3⟩
  exact ⟨u', h1, h2.liesQ, h3⟩
end Go.Proofs.YtpjjpmikhjlgnaaGreatDoor
