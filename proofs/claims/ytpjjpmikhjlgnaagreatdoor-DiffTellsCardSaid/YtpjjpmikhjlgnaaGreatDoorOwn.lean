/-
  The contract of the statements' own OwnNode: a copy of a node in memory of its own.
  Conditions: the node lies in memory below block B.
-/
import Derived.Test.YtpjjpmikhjlgnaaGreatDoorLeafs
import Derived.Test.YtpjjpmikhjlgnaaGreatDoorOwnT
import Derived.Deep.RegionHeld3
import Derived.Deep.DrawnRows
import Derived.Deep.AppendLies
import Derived.OwnWalk
import Derived.WalkSmall
import Derived.OneCell
namespace Go.Proofs.YtpjjpmikhjlgnaaGreatDoor
open Go.RowKit
attribute [local go_sem ↓] Go.wp_at_zero Go.wp_at_succ

theorem infoKid : (Tryz.prog.info? 65).map (fun i => (i.zero, i.size, i.bytes)) = some (some (.agg #[.string { data := #[] }, .string { data := #[] }, .string { data := #[] }, .bool false, .slice none 0 0]), 5, 80) := by kernel_rfl

/-- The state of the loop: so many kids are copied. -/
structure OwnAt (w : World) (d : Nat) (t : Tree) (ta : Option Addr) (tc : Nat) (j : Nat) (us : List Value) (v : Value) (wr : World) : Prop where
  box : wr.heap[w.heap.size]? = some (.cells #[.string t.kind, .string t.data, .bool t.exec, .slice ta t.kids.length tc] 24 (0, 0))
  res : wr.heap[w.heap.size + 1]? = some (.cells #[.string { data := #[] }, .string { data := #[] }, .bool false, .slice none 0 0] 24 (0, 0))
  len : us.length = j
  own : wr.ownsRow (w.heap.size + 1 + 1) 65 5 v j (kidCells (t.kids.take j) us)
  kids : ∃ Qs : Nat → Nat → Prop, (∀ (i : Nat) (x : ByteArray × Tree) (u : Value), t.kids[i]? = some x → us[i]? = some u → OwnT wr (Qs i) d x.2.kids u) ∧ (∀ i b, Qs i b → w.heap.size + 1 + 1 ≤ b ∧ b < wr.heap.size ∧ v.ownBlock ≠ some b) ∧ ∀ i j b, i ≠ j → Qs i b → ¬ Qs j b
  below : Below w.heap.size w wr

/-- One kid more. -/
theorem own_next {w wr w2 wa w5 : World} {d : Nat} {t : Tree} {ta : Option Addr} {tc j : Nat} {us : List Value} {v u' : Value} {x : ByteArray × Tree} {g cap H : Nat} (O : OwnAt w d t ta tc j us v wr) (hx : t.kids[j]? = some x)
    (hb2 : Below wr.heap.size wr w2) (hu' : OwnT w2 (fun b => wr.heap.size ≤ b ∧ b < w2.heap.size) d x.2.kids u') (hba : Below w2.heap.size w2 wa)
    (hown1 : w5.ownsRow (w.heap.size + 1 + 1) 65 5 (.slice (some ⟨g, 0, none⟩) (j + 1) cap) (j + 1) (kidCells (t.kids.take j) us ++ [.string x.1, .string x.2.kind, .string x.2.data, .bool x.2.exec, u']))
    (hgrow : wa.grownBy w5 v.ownBlock) (hat : v.ownBlock = some g ∨ g = H) (hH : w2.heap.size ≤ H) : OwnAt w d t ta tc (j + 1) (us ++ [u']) (.slice (some ⟨g, 0, none⟩) (j + 1) cap) w5 := by
  have hbr := lt_of_row O.box
  have hbs := lt_of_row O.res
  have hlt := fun k hk => O.own.lt k hk
  have h5 : ∀ k, k < w2.heap.size → v.ownBlock ≠ some k → w5.heap[k]? = w2.heap[k]? := fun k hk hne => by
    rw [hgrow.block k (Nat.lt_of_lt_of_le hk hba.size) (fun e => hne e.symm), hba.block k hk]
  have h5r : ∀ k, k < wr.heap.size → v.ownBlock ≠ some k → w5.heap[k]? = wr.heap[k]? := fun k hk hne => by
    rw [h5 k (Nat.lt_of_lt_of_le hk hb2.size) hne, hb2.block k hk]
  have hs5 : w2.heap.size ≤ w5.heap.size := Nat.le_trans hba.size hgrow.size
  have hj : j < t.kids.length := (List.getElem?_eq_some_iff.1 hx).1
  refine ⟨?_, ?_, ?_, ?_, ?_, ?_⟩
  · rw [h5r _ hbr (fun e => by have := (hlt _ e).1; omega)]; exact O.box
  · rw [h5r _ hbs (fun e => by have := (hlt _ e).1; omega)]; exact O.res
  · simp [O.len]
  · have e : t.kids.take (j + 1) = t.kids.take j ++ [x] := by rw [List.take_succ_eq_append_getElem hj, (List.getElem?_eq_some_iff.1 hx).2]
    rw [e, kidCells_snoc _ _ _ _ (by rw [O.len, List.length_take]; omega)]
    exact hown1
  · obtain ⟨Qs, k1, k2, k3⟩ := O.kids
    have hwr : w.heap.size ≤ wr.heap.size := O.below.size
    have hold : ∀ k, k < wr.heap.size → v.ownBlock ≠ some k → some g ≠ some k := fun k hk hne e => by
      simp only [Option.some.injEq] at e
      rcases hat with h | h
      · exact hne (by rw [h, e])
      · have := hb2.size; omega
    refine ⟨fun i => if i = j then (fun b => wr.heap.size ≤ b ∧ b < w2.heap.size) else Qs i, fun i y u hy hu => ?_, fun i b hb => ?_, fun i i' b hne hb hb' => ?_⟩
    · by_cases hi : i < us.length
      · rw [List.getElem?_append_left hi] at hu
        have hij : i ≠ j := by have := O.len; omega
        simp only [if_neg hij]
        exact (k1 i y u hy hu).kept (fun k hk => h5r k (k2 i k hk).2.1 (k2 i k hk).2.2) (fun _ hk => hk)
      · have hle : us.length ≤ i := by omega
        rw [List.getElem?_append_right hle] at hu
        have hi0 : i - us.length = 0 := by
          rcases Nat.eq_zero_or_pos (i - us.length) with h | h
          · exact h
          · rw [List.getElem?_eq_none (by simp; omega)] at hu; cases hu
        rw [hi0] at hu
        simp only [List.getElem?_cons_zero, Option.some.injEq] at hu
        have hij : i = j := by have := O.len; omega
        subst hij
        rw [hx] at hy
        simp only [Option.some.injEq] at hy
        subst hy; subst hu
        simp only [if_true]
        exact hu'.kept (fun k hk => h5 k hk.2 (fun e => by have := (hlt k e).2; omega)) (fun _ hk => hk)
    · by_cases hij : i = j
      · simp only [if_pos hij] at hb
        refine ⟨by omega, by omega, ?_⟩
        simp only [Value.ownBlock, ne_eq, Option.some.injEq]
        rcases hat with h | h
        · have := (hlt g h).2; omega
        · omega
      · simp only [if_neg hij] at hb
        have := k2 i b hb
        exact ⟨this.1, by have := hb2.size; omega, hold b this.2.1 this.2.2⟩
    · by_cases hij : i = j
      · have hij' : i' ≠ j := by omega
        simp only [if_pos hij] at hb
        simp only [if_neg hij'] at hb'
        have := k2 i' b hb'
        omega
      · simp only [if_neg hij] at hb
        by_cases hij' : i' = j
        · simp only [if_pos hij'] at hb'
          have := k2 i b hb
          omega
        · simp only [if_neg hij'] at hb'
          exact k3 i i' b hne hb hb'
  · refine ⟨?_, ?_, ?_, ?_, fun k hk => ?_⟩
    · exact hgrow.os.trans (hba.os.trans (hb2.os.trans O.below.os))
    · exact hgrow.tape.trans (hba.tape.trans (hb2.tape.trans O.below.tape))
    · exact hgrow.output.trans (hba.output.trans (hb2.output.trans O.below.output))
    · exact Nat.le_trans O.below.size (Nat.le_trans hb2.size hs5)
    · rw [h5r k (Nat.lt_of_lt_of_le hk O.below.size) (fun e => by have := (hlt k e).1; omega)]
      exact O.below.block k hk

/-- All kids are copied. -/
theorem own_end {w wr w' : World} {d : Nat} {t : Tree} {ta : Option Addr} {tc j : Nat} {us : List Value} {v : Value} (O : OwnAt w d t ta tc j us v wr) (hj : j = t.kids.length) (hlen : t.kids.length ≤ 1759218604390) (hs : ∀ x ∈ t.kids, x.1.size ≤ 140737488355328)
    (hos : w'.os = wr.os) (hta : w'.tape = wr.tape) (hou : w'.output = wr.output) (hsz : w'.heap.size = wr.heap.size) (hw : ∀ k, k ≠ w.heap.size → k ≠ w.heap.size + 1 → w'.heap[k]? = wr.heap[k]?) :
    OwnT w' (fun b => w.heap.size ≤ b ∧ b < w'.heap.size) (d + 1) t.kids v ∧ Below w.heap.size w w' := by
  subst hj
  have hown := O.own
  rw [List.take_length] at hown
  have hlt := fun k hk => hown.lt k hk
  obtain ⟨Qs, k1, k2, k3⟩ := O.kids
  refine ⟨⟨hlen, hs, us, Qs, O.len, ?_, fun g hg => ⟨by have := (hlt g hg).1; omega, by have := (hlt g hg).2; omega⟩, fun i x u hx hu => ?_, fun i b hb => ?_, k3⟩, ?_⟩
  · exact ownsRow_lower (ownsRow_ext' hown fun k hk => hw k (by have := (hlt k hk).1; omega) (by have := (hlt k hk).1; omega)) (Nat.zero_le _)
  · exact (k1 i x u hx hu).kept (fun k hk => hw k (by have := k2 i k hk; omega) (by have := k2 i k hk; omega)) (fun _ hk => hk)
  · have := k2 i b hb
    exact ⟨⟨by omega, by omega⟩, this.2.2⟩
  · exact ⟨hos.trans O.below.os, hta.trans O.below.tape, hou.trans O.below.output, by rw [hsz]; exact O.below.size, fun k hk => by rw [hw k (by omega) (by omega)]; exact O.below.block k hk⟩

set_option maxRecDepth 100000 in
set_option maxHeartbeats 2000000 in
theorem own_own (B : Nat) : ∀ (d : Nat) (t : Tree) (u : Value) (w : World), B ≤ w.heap.size → Lies w B d t.kids u →
    Calls Tryz.prog 7 #[.agg #[.string t.kind, .string t.data, .bool t.exec, u]] w fun e w' => ∃ u', e = .returned (.agg #[.string t.kind, .string t.data, .bool t.exec, u']) ∧ OwnT w' (fun b => w.heap.size ≤ b ∧ b < w'.heap.size) d t.kids u' ∧ Below w.heap.size w w' := by
  intro d
  induction d with
  | zero => intro t u w _ hl; exact absurd hl (by simp [Lies])
  | succ d ih =>
    intro t u w hB hl
    have hlo := hl.open
    obtain ⟨ta, tc, rfl⟩ := hl.form
    obtain ⟨i0, hi0, hz0, hz1, hz2⟩ := info_parts infoKid
    have HL : Hid _ := hlo
    have HIH : Hid _ := ih
    have hlen := hlo.1
    have HN : Hid (∀ x ∈ t.kids, x.1.size ≤ 140737488355328) := fun x hx => by
      obtain ⟨i, hi, he⟩ := List.getElem_of_mem hx
      have hxi : t.kids[i]? = some x := by rw [List.getElem?_eq_getElem hi, he]
      rcases hlo.2 with ⟨h0, _⟩ | ⟨b, off, cp, _, _, hk⟩
      · rw [h0] at hxi; simp at hxi
      · obtain ⟨u, K⟩ := hk i x hxi
        exact K.size
    clear hlo hl ih
    go_enter Tryz.func7, Tryz.ntmps7
    go_wp2_with fail
    go_loopw [3, 4] (fun v i wr => ∃ (j : Nat) (us : List Value) (va : Option Addr) (vc : Nat), j ≤ t.kids.length ∧ i = .int .i64 j ∧ v = .slice va j vc ∧ OwnAt w d t ta tc j us (.slice va j vc) wr) (fun _ i _ => t.kids.length - (intOf i).toNat)
    case atStart =>
      refine ⟨0, [], none, 0, Nat.zero_le _, rfl, rfl, ⟨?_, ?_, rfl, ?_, ?_, ?_⟩⟩
      · rw [Below.heap_alloc _ _ _ (by simp)]; exact row_alloc' _ _ _
      · have := row_alloc' (w.alloc (.cells #[.string t.kind, .string t.data, .bool t.exec, .slice ta t.kids.length tc] 24)) #[.string { data := #[] }, .string { data := #[] }, .bool false, .slice none 0 0] 24
        simpa using this
      · have e : kidCells (t.kids.take 0) [] = [] := by simp [kidCells]
        rw [e]; exact World.ownsRow_nil _ _ _ _
      · exact ⟨fun _ _ => False, fun i x u _ h => by simp at h, fun _ _ h => h.elim, fun _ _ _ _ h => h.elim⟩
      · exact ((Below.refl _ _).alloc (Nat.le_refl _) _).alloc (by simp) _
    case round =>
      obtain ⟨j, us, va, vc, hj, rfl, rfl, O⟩ := hrel
      have hrow := O.box
      have g0 : wr.cell? ⟨w.heap.size, 0, none⟩ = some (.string t.kind) := by rw [cell_of_row wr _ _ _ _ _ O.box]; rfl
      have g1 : wr.cell? ⟨w.heap.size, 1, none⟩ = some (.string t.data) := by rw [cell_of_row wr _ _ _ _ _ O.box]; rfl
      have g2 : wr.cell? ⟨w.heap.size, 2, none⟩ = some (.bool t.exec) := by rw [cell_of_row wr _ _ _ _ _ O.box]; rfl
      have g3 : wr.cell? ⟨w.heap.size, 3, none⟩ = some (.slice ta t.kids.length tc) := by rw [cell_of_row wr _ _ _ _ _ O.box]; rfl
      by_cases hlt : j < t.kids.length
      · obtain ⟨x, hx⟩ : ∃ x, t.kids[j]? = some x := ⟨t.kids[j], List.getElem?_eq_getElem hlt⟩
        obtain ⟨b, off, rfl, ux, K0⟩ : ∃ b off, ta = some ⟨b, off, none⟩ ∧ ∃ u, KidAt w B d b off j x u := by
          rcases HL.out.2 with ⟨h0, _⟩ | ⟨b, off, cp, e, _, hk⟩
          · rw [h0] at hlt; exact absurd hlt (by simp)
          · simp only [Value.slice.injEq] at e
            exact ⟨b, off, e.1, hk j x hx⟩
        have K := K0.below O.below hB
        obtain ⟨xa, xc, rfl⟩ := K.lies.form
        have n0 := K.name
        have n1 := K.kind
        have n2 := K.data
        have n3 := K.exec
        have n4 := K.kids
        have hBr : B ≤ wr.heap.size := Nat.le_trans hB O.below.size
        have lb : b < wr.heap.size := Nat.lt_of_lt_of_le K.lt hBr
        have lw : w.heap.size < wr.heap.size := lt_of_row O.box
        have HC : Hid _ := HIH.out x.2 (.slice xa x.2.kids.length xc) wr hBr K.lies
        have hj0 : (0 : Int) ≤ (j : Int) := by omega
        have hj1 : (j : Int) < (t.kids.length : Int) := by omega
        have HKLT : Hid (b < B) := K.lt
        have HO : Hid _ := O
        have HX : Hid _ := hx
        clear O hrow K K0 hx
        go_wp2_with fail
        refine Calls.mono HC.out ?_
        rintro e w2 ⟨u', rfl, hq, hb2⟩
        obtain ⟨xa', xc', rfl⟩ := hq.form
        have g3' : w2.cell? ⟨w.heap.size, 3, none⟩ = some (.slice (some ⟨b, off, none⟩) t.kids.length tc) := by rw [hb2.cell (p := ⟨w.heap.size, 3, none⟩) lw]; exact g3
        have n0' : w2.cell? ⟨b, off + j * 5, none⟩ = some (.string x.1) := by rw [hb2.cell (p := ⟨b, off + j * 5, none⟩) lb]; exact n0
        have lw2 : w.heap.size < w2.heap.size := Nat.lt_of_lt_of_le lw hb2.size
        have lb2 : b < w2.heap.size := Nat.lt_of_lt_of_le lb hb2.size
        have hown2 : w2.ownsRow (w.heap.size + 1 + 1) 65 5 (.slice va j vc) j (kidCells (t.kids.take j) us) := ownsRow_ext' HO.out.own fun k hk => hb2.block k (HO.out.own.lt k hk).2
        have HOW2 : Hid _ := hown2
        have HQ : Hid (OwnT w2 (fun b => wr.heap.size ≤ b ∧ b < w2.heap.size) d x.2.kids (.slice xa' x.2.kids.length xc')) := hq
        have HB2 : Hid _ := hb2
        have HN2 : Hid (∀ o, ((w2.alloc o).alloc (.cells #[.string x.1, .string x.2.kind, .string x.2.data, .bool x.2.exec, .slice xa' x.2.kids.length xc'] 65)).heap[w2.heap.size + 1]? = some (.cells #[.string x.1, .string x.2.kind, .string x.2.data, .bool x.2.exec, .slice xa' x.2.kids.length xc'] 65 (0, 0))) := fun o => by
          have := row_alloc' (w2.alloc o) #[.string x.1, .string x.2.kind, .string x.2.data, .bool x.2.exec, .slice xa' x.2.kids.length xc'] 65
          simpa using this
        have a1 : (Value.slice va j vc).ownBlock ≠ some w.heap.size := fun e => by have := (HO.out.own.lt _ e).1; omega
        have a2 : (Value.slice va j vc).ownBlock ≠ some b := fun e => by have := (HO.out.own.lt _ e).1; have := HKLT.out; omega
        have a3 : (Value.slice va j vc).ownBlock ≠ some w2.heap.size := fun e => by have := (HO.out.own.lt _ e).2; have := hb2.size; omega
        have hbs : w.heap.size + 1 + 1 ≤ w2.heap.size := by have := lt_of_row HO.out.res; have := hb2.size; omega
        clear hown2 hq hb2 n0 n1 n2 n3 n4 g0 g1 g2 g3
        go_wp2_with fail
        go_region_held3 (fun w' => w'.cell? ⟨w.heap.size, 3, none⟩ = some (.slice (some ⟨b, off, none⟩) t.kids.length tc) ∧ w'.cell? ⟨b, off + j * 5, none⟩ = some (.string x.1) ∧ w'.cell? ⟨w2.heap.size, 0, none⟩ = some (.string x.2.kind) ∧ w'.cell? ⟨w2.heap.size, 1, none⟩ = some (.string x.2.data) ∧ w'.cell? ⟨w2.heap.size, 2, none⟩ = some (.bool x.2.exec) ∧ w'.cell? ⟨w2.heap.size, 3, none⟩ = some (.slice xa' x.2.kids.length xc'))
          (first
            | go_keep
            | (go_split_ands
               refine ⟨?_, ?_, ?_, ?_, ?_, ?_⟩
               · (rw [hgrow.cell_far _ (by first | (simp; done) | (simp; omega)) (Ne.symm a1)]; assumption)
               · (rw [hgrow.cell_far _ (by first | (simp; done) | (simp; omega)) (Ne.symm a2)]; assumption)
               · (rw [hgrow.cell_far _ (by first | (simp; done) | (simp; omega)) (Ne.symm a3)]; assumption)
               · (rw [hgrow.cell_far _ (by first | (simp; done) | (simp; omega)) (Ne.symm a3)]; assumption)
               · (rw [hgrow.cell_far _ (by first | (simp; done) | (simp; omega)) (Ne.symm a3)]; assumption)
               · (rw [hgrow.cell_far _ (by first | (simp; done) | (simp; omega)) (Ne.symm a3)]; assumption)))
          ((refine step_append_lies _ (by rfl) _ _ _ (by rfl) (w.heap.size + 1 + 1) 65 i0 _ 5 80 Tryz.underlying22 hi0 hz0 hz1 hz2 rfl (by omega) (.slice va j vc) j (kidCells (t.kids.take j) us) (by rfl) ((World.ownsRow.alloc (World.ownsRow.alloc HOW2.out _) _).drew) ⟨w2.heap.size + 1, 0, none⟩ 1 1 [.string x.1, .string x.2.kind, .string x.2.data, .bool x.2.exec, .slice xa' x.2.kids.length xc'] (by rfl) (by rfl) (World.news_of_block (cs := #[.string x.1, .string x.2.kind, .string x.2.data, .bool x.2.exec, .slice xa' x.2.kids.length xc']) (t := 65) (fr := (0, 0)) (HN2.out _)) (by simp [Value.oneCell']) (by omega) (by unfold maxLen; omega) (by omega) (by simp; omega) (w2.heap.size + 1 + 1) (by simp) ?_; intro g cap' w5 hown5 hgrow hat hlt5))
        go_wp2_with fail
        have hO := own_next HO.out HX.out HB2.out HQ.out (wa := ((w2.alloc (.cells #[.string x.2.kind, .string x.2.data, .bool x.2.exec, .slice xa' x.2.kids.length xc'] 24)).alloc (.cells #[.string x.1, .string x.2.kind, .string x.2.data, .bool x.2.exec, .slice xa' x.2.kids.length xc'] 65)).drew) (by go_grown) hown5 hgrow hat (by omega)
        go_roundw
        case rel => exact ⟨j + 1, us ++ [.slice xa' x.2.kids.length xc'], some ⟨g, 0, none⟩, cap', by omega, by go_num, rfl, hO⟩
        case measure => simp [intOf]; omega
      · have f3 : wr.frozen? ⟨w.heap.size, 3, none⟩ = false := free_of_row O.box 3
        have r0 : wr.cell? ⟨w.heap.size + 1, 0, none⟩ = some (.string { data := #[] }) := by rw [cell_of_row wr _ _ _ _ _ O.res]; rfl
        have r1 : wr.cell? ⟨w.heap.size + 1, 1, none⟩ = some (.string { data := #[] }) := by rw [cell_of_row wr _ _ _ _ _ O.res]; rfl
        have r2 : wr.cell? ⟨w.heap.size + 1, 2, none⟩ = some (.bool false) := by rw [cell_of_row wr _ _ _ _ _ O.res]; rfl
        have r3 : wr.cell? ⟨w.heap.size + 1, 3, none⟩ = some (.slice none 0 0) := by rw [cell_of_row wr _ _ _ _ _ O.res]; rfl
        have s0 : wr.frozen? ⟨w.heap.size + 1, 0, none⟩ = false := free_of_row O.res 0
        have s1 : wr.frozen? ⟨w.heap.size + 1, 1, none⟩ = false := free_of_row O.res 1
        have s2 : wr.frozen? ⟨w.heap.size + 1, 2, none⟩ = false := free_of_row O.res 2
        have s3 : wr.frozen? ⟨w.heap.size + 1, 3, none⟩ = false := free_of_row O.res 3
        have HE : Hid _ := own_end (w' := (((((wr.setCell ⟨w.heap.size, 3, none⟩ (.slice va j vc)).setCell ⟨w.heap.size + 1, 0, none⟩ (.string t.kind)).setCell ⟨w.heap.size + 1, 1, none⟩ (.string t.data)).setCell ⟨w.heap.size + 1, 2, none⟩ (.bool t.exec)).setCell ⟨w.heap.size + 1, 3, none⟩ (.slice va j vc)))
          O (by omega) hlen HN.out rfl rfl rfl (by simp [World.setCell]) (fun k h1 h2 => by
            rw [Below.heap_setCell _ _ _ _ h2, Below.heap_setCell _ _ _ _ h2, Below.heap_setCell _ _ _ _ h2, Below.heap_setCell _ _ _ _ h2, Below.heap_setCell _ _ _ _ h1])
        clear O hrow
        go_wp2_with fail
        refine bodyPost_ret (v := .agg #[.string t.kind, .string t.data, .bool t.exec, .slice va j vc]) (by simp [results, Tryz.results7, go_sem, r0, r1, r2, r3]) rfl ⟨.slice va j vc, rfl, ?_, ?_⟩
        · exact HE.out.1
        · exact HE.out.2
/-- The copy, without its memory's own blocks. -/
theorem own_any (B : Nat) (d : Nat) (t : Tree) (u : Value) (w : World) (hB : B ≤ w.heap.size) (hl : Lies w B d t.kids u) :
    Calls Tryz.prog 7 #[.agg #[.string t.kind, .string t.data, .bool t.exec, u]] w fun e w' => ∃ u', e = .returned (.agg #[.string t.kind, .string t.data, .bool t.exec, u']) ∧ LiesQ w' (fun b => w.heap.size ≤ b ∧ b < w'.heap.size) d t.kids u' ∧ Below w.heap.size w w' := by
  refine (own_own B d t u w hB hl).mono ?_
  rintro e w' ⟨u', h1, h2, h3⟩
  exact ⟨u', h1, h2.liesQ, h3⟩
end Go.Proofs.YtpjjpmikhjlgnaaGreatDoor
