/-
  The contract of tree.Files: the paths of a tree's files in the order of the walk; nothing of one that is not well.
  Conditions: as those of tree.Check; there are not too many of them.
-/
import Derived.Test.YtilkjafggfdjeaaDoorTells
import Derived.Deep.AppendLies
import Derived.OwnWalk
import Derived.Deep.DeepMust
namespace Go.Proofs.YtilkjafggfdjeaaDoor
open Go.RowKit

def flStep (l : List ByteArray) (x : ByteArray × Nat × Tree) : List ByteArray := if isFile x.2.2 = true then l ++ [if x.1.toList.isEmpty = true then slash else x.1] else l
def flOk (l : List ByteArray) (x : ByteArray × Nat × Tree) : Prop := l.length ≤ 1000000 ∧ x.1.size ≤ maxLen ∧ x.2.1 ≤ 4611686018427387904
/-- A slice of texts in the variable of block c, its array behind c. -/
def flJ (B c : Nat) (l : List ByteArray) (C : Nat → Prop) (w : World) : Prop :=
  ∃ v, (∀ k, C k ↔ k = c ∨ v.ownBlock = some k) ∧ B ≤ c ∧ w.heap[c]? = some (.cells #[v] 36 (0, 0)) ∧ w.ownsRow (c + 1) 9 1 v l.length (l.map Value.string)

theorem ownsRow_ext {w w' : World} {base : Nat} {e : TypeId} {size : Nat} {v : Value} {n : Nat} {xs : List Value} (h : w.ownsRow base e size v n xs) (hb : ∀ k, v.ownBlock = some k → w'.heap[k]? = w.heap[k]?) : w'.ownsRow base e size v n xs := by
  obtain ⟨h1, h2⟩ := h
  refine ⟨h1, ?_⟩
  rcases h2 with h2 | ⟨g, cap, cur, hv, hg, hh, r⟩
  · exact .inl h2
  · subst hv
    exact .inr ⟨g, cap, cur, rfl, hg, by rw [hb g rfl]; exact hh, r⟩
theorem flJ_low {B c : Nat} {l : List ByteArray} {C : Nat → Prop} {w : World} (h : flJ B c l C w) (k : Nat) (hk : C k) : B ≤ k ∧ k < w.heap.size := by
  obtain ⟨v, h1, h2, h3, h4⟩ := h
  rcases (h1 k).1 hk with h | h
  · subst h; exact ⟨h2, lt_of_row h3⟩
  · have := h4.lt k h; exact ⟨by omega, this.2⟩
theorem flJ_ext {B c : Nat} {l : List ByteArray} {C : Nat → Prop} {w w' : World} (h : flJ B c l C w) (hb : ∀ k, C k → w'.heap[k]? = w.heap[k]?) : flJ B c l C w' := by
  obtain ⟨v, h1, h2, h3, h4⟩ := h
  exact ⟨v, h1, h2, by rw [hb c ((h1 c).2 (.inl rfl))]; exact h3, ownsRow_ext h4 fun k hk => hb k ((h1 k).2 (.inr hk))⟩
theorem infoStr : (Tryd.prog.info? 9).map (fun i => (i.zero, i.size, i.bytes)) = some (some (.string { data := #[] }), 1, 16) := by kernel_rfl

theorem far_row {w wa w1 : World} {row : Option Nat} {c : Nat} {o : Obj} (h : w.heap[c]? = some o) (hba : Below w.heap.size w wa) (hg : wa.grownBy w1 row) (hne : row ≠ some c) : w1.heap[c]? = some o := by
  have hcl := lt_of_row h
  rw [hg.block c (Nat.lt_of_lt_of_le hcl hba.size) (fun e => hne e.symm), hba.block c hcl]
  exact h
/-- What an append of one text makes of the state. -/
theorem fl_next {B c : Nat} {l : List ByteArray} {C : Nat → Prop} {w wa w1 : World} {v : Value} {q : ByteArray} {g cap H : Nat} (hC : ∀ k, C k ↔ k = c ∨ v.ownBlock = some k) (hBc : B ≤ c) (hrow : w.heap[c]? = some (.cells #[v] 36 (0, 0))) (hown : w.ownsRow (c + 1) 9 1 v l.length (l.map Value.string))
    (hba : Below w.heap.size w wa) (hown1 : w1.ownsRow (c + 1) 9 1 (.slice (some ⟨g, 0, none⟩) (l.length + 1) cap) (l.length + 1) (l.map Value.string ++ [.string q])) (hgrow : wa.grownBy w1 v.ownBlock) (hat : v.ownBlock = some g ∨ g = H) (hH : w.heap.size ≤ H) :
    ∃ C', flJ B c (l ++ [q]) C' (w1.setCell ⟨c, 0, none⟩ (.slice (some ⟨g, 0, none⟩) (l.length + 1) cap)) ∧ Kept C w (w1.setCell ⟨c, 0, none⟩ (.slice (some ⟨g, 0, none⟩) (l.length + 1) cap)) ∧ ∀ j, C' j → C j ∨ w.heap.size ≤ j := by
  have hcl : c < w.heap.size := lt_of_row hrow
  have hgc := (hown1.lt g rfl).1
  have hvc : v.ownBlock ≠ some c := fun h => by have := (hown.lt c h).1; omega
  refine ⟨fun k => k = c ∨ k = g, ⟨.slice (some ⟨g, 0, none⟩) (l.length + 1) cap, fun k => ?_, hBc, ?_, ?_⟩, ?_, ?_⟩
  · simp only [Value.ownBlock, Option.some.injEq]
    exact ⟨fun h => h.imp_right Eq.symm, fun h => h.imp_right Eq.symm⟩
  · refine row1_setCell (x := v) ?_
    rw [hgrow.block c (Nat.lt_of_lt_of_le hcl hba.size) (fun h => hvc h.symm), hba.block c hcl]
    exact hrow
  · have := ownsRow_setCell_other hown1 (a := ⟨c, 0, none⟩) (by simp only [Value.ownBlock, ne_eq, Option.some.injEq]; omega) (.slice (some ⟨g, 0, none⟩) (l.length + 1) cap)
    simpa using this
  · refine ⟨?_, ?_, ?_, ?_, fun k hk hc => ?_⟩
    · exact hgrow.os.trans hba.os
    · exact hgrow.tape.trans hba.tape
    · exact hgrow.output.trans hba.output
    · simp only [World.setCell, Array.size_modify]; exact Nat.le_trans hba.size hgrow.size
    · have hn : ¬ (k = c ∨ v.ownBlock = some k) := fun h => hc ((hC k).2 h)
      rw [Below.heap_setCell _ _ _ _ (fun e => hn (.inl e)), hgrow.block k (Nat.lt_of_lt_of_le hk hba.size) (fun h => hn (.inr h.symm)), hba.block k hk]
  · intro j hj
    rcases hj with h | h
    · exact .inl ((hC j).2 (.inl h))
    · rcases hat with h' | h'
      · exact .inl ((hC j).2 (.inr (by rw [h]; exact h')))
      · exact .inr (by omega)

set_option maxRecDepth 100000 in
set_option maxHeartbeats 1000000 in
theorem files1_told (c B : Nat) : Told 46 (.pointer (some ⟨c, 0, none⟩)) B flStep flOk (flJ B c) where
  low _ _ _ h := flJ_low h
  ext _ _ _ _ h := flJ_ext h
  bound _ _ h := ⟨h.2.1, h.2.2⟩
  call := by
    intro l C w d p k t u hJ hB hl ⟨hn, _⟩
    obtain ⟨v, hC, hBc, hrow, hown⟩ := hJ
    obtain ⟨ad, cap, rfl⟩ := hl.form
    have hcl : c < w.heap.size := lt_of_row hrow
    have q0 := cell_of_one hrow
    have f0 := free_of_one hrow
    have HC : Hid _ := hC
    have HROW : Hid _ := hrow
    have HOWN : Hid _ := hown
    have HW : Hid (∀ o o', Below w.heap.size w ((w.alloc o).alloc o')) := fun o o' => ((Below.refl _ _).alloc (Nat.le_refl _) o).alloc (by simp) o'
    have HV : Hid (v.ownBlock ≠ some c) := fun h => by have := (hown.lt c h).1; omega
    obtain ⟨i0, hi0, hz0, hz1, hz2⟩ := info_parts infoStr
    cases hf : (t.kind.toList == [102, 105, 108, 101])
    · have HE : Hid (flStep l (p, k, t) = l) := show _ = _ by unfold flStep isFile; simp only [hf]; rfl
      clear hC hrow hl hown
      go_enter Tryd.func46, Tryd.ntmps46
      go_wp2
      go_returns
      refine ⟨rfl, C, ?_, Kept.of_below ((Below.refl _ _).alloc (Nat.le_refl _) _), fun j h => .inl h⟩
      rw [HE.out]
      exact flJ_ext ⟨v, HC.out, hBc, HROW.out, HOWN.out⟩ fun k hk => Below.heap_alloc _ _ _ (flJ_low ⟨v, HC.out, hBc, HROW.out, HOWN.out⟩ k hk).2
    · cases hp : p.toList.isEmpty
      · have HE : Hid (flStep l (p, k, t) = l ++ [p]) := show _ = _ by unfold flStep isFile; simp only [hf, hp]; rfl
        clear hC hrow hl hown
        have hN : ∀ o, ((w.alloc o).alloc (.cells #[.string p] 9)).heap[w.heap.size + 1]? = some (.cells #[.string p] 9 (0, 0)) := fun o => by
          have := row_alloc (w.alloc o) #[.string p] 9
          simpa using this
        have HN : Hid _ := hN
        clear hN
        go_enter Tryd.func46, Tryd.ntmps46
        go_wp2_with (at_builtin; go_must (refine wpList_append_lies _ (by rfl) _ _ 36 (by rfl) (c + 1) 9 i0 (.string { data := #[] }) 1 16 Tryd.underlying36 hi0 hz0 hz1 hz2 rfl (by omega) v l.length (l.map Value.string) (by rfl) (World.ownsRow.alloc (World.ownsRow.alloc HOWN.out _) _) ⟨w.heap.size + 1, 0, none⟩ 1 1 [.string p] (by rfl) (by rfl) (World.news_of_block (cs := #[.string p]) (t := 9) (fr := (0, 0)) (HN.out _)) (by simp [Value.oneCell']) (by omega) (by unfold maxLen; omega) (by omega) (by simp; omega) (w.heap.size + 1 + 1) (by simp) ?_; intro g cap' w1 hown1 hgrow hat hlt; have e1 := cell_of_one (far_row HROW.out (HW.out _ _) hgrow HV.out); have e2 := free_of_one (far_row HROW.out (HW.out _ _) hgrow HV.out); have HG : Hid _ := hgrow; have HO1 : Hid _ := hown1; have HAT : Hid _ := hat; clear hgrow hown1 hat))
        go_end0
        obtain ⟨C', j1, j2, j3⟩ := fl_next (B := B) (C := C) HC.out hBc HROW.out HOWN.out (HW.out _ _) HO1.out HG.out HAT.out (by omega)
        exact ⟨rfl, C', by rw [HE.out]; exact j1, j2, j3⟩
      · have HE : Hid (flStep l (p, k, t) = l ++ [slash]) := show _ = _ by unfold flStep isFile; simp only [hf, hp]; rfl
        clear hC hrow hl hown
        have hN : ∀ o, ((w.alloc o).alloc (.cells #[.string { data := #[47] }] 9)).heap[w.heap.size + 1]? = some (.cells #[.string { data := #[47] }] 9 (0, 0)) := fun o => by
          have := row_alloc (w.alloc o) #[.string { data := #[47] }] 9
          simpa using this
        have HN : Hid _ := hN
        clear hN
        go_enter Tryd.func46, Tryd.ntmps46
        go_wp2_with (at_builtin; go_must (refine wpList_append_lies _ (by rfl) _ _ 36 (by rfl) (c + 1) 9 i0 (.string { data := #[] }) 1 16 Tryd.underlying36 hi0 hz0 hz1 hz2 rfl (by omega) v l.length (l.map Value.string) (by rfl) (World.ownsRow.alloc (World.ownsRow.alloc HOWN.out _) _) ⟨w.heap.size + 1, 0, none⟩ 1 1 [.string { data := #[47] }] (by rfl) (by rfl) (World.news_of_block (cs := #[.string { data := #[47] }]) (t := 9) (fr := (0, 0)) (HN.out _)) (by simp [Value.oneCell']) (by omega) (by unfold maxLen; omega) (by omega) (by simp; omega) (w.heap.size + 1 + 1) (by simp) ?_; intro g cap' w1 hown1 hgrow hat hlt; have e1 := cell_of_one (far_row HROW.out (HW.out _ _) hgrow HV.out); have e2 := free_of_one (far_row HROW.out (HW.out _ _) hgrow HV.out); have HG : Hid _ := hgrow; have HO1 : Hid _ := hown1; have HAT : Hid _ := hat; clear hgrow hown1 hat))
        go_end0
        obtain ⟨C', j1, j2, j3⟩ := fl_next (B := B) (C := C) HC.out hBc HROW.out HOWN.out (HW.out _ _) HO1.out HG.out HAT.out (by omega)
        exact ⟨rfl, C', by rw [HE.out]; exact j1, j2, j3⟩

def filesOf (d : Nat) (t : Tree) : List ByteArray := match treeErr d t with | none => (pre d ByteArray.empty 0 t).foldl flStep [] | some _ => []
set_option maxHeartbeats 1000000 in
theorem files_any (a : Nat → Addr) (d B : Nat) (t : Tree) (u : Value) (w : World) (S : SentsB a B w) (hB : B ≤ w.heap.size) (hl : Lies w B d t.kids u) (hal : Alive ck ckOk 0 (pre d ByteArray.empty 0 t))
    (hal2 : treeErr d t = none → Alive (fun s x => (flStep s x, none)) flOk [] (pre d ByteArray.empty 0 t)) :
    Calls Tryd.prog 24 #[.agg #[.string t.kind, .string t.data, .bool t.exec, u]] w fun e w' => ∃ v, e = .returned v ∧ w'.ownsRow (w.heap.size + 1 + 1) 9 1 v (filesOf d t).length ((filesOf d t).map Value.string) ∧ Below w.heap.size w w' := by
  obtain ⟨ad, cap, rfl⟩ := hl.form
  have hW : ∀ o o', Below w.heap.size w ((w.alloc o).alloc o') := fun o o' => ((Below.refl _ _).alloc (Nat.le_refl _) o).alloc (by simp) o'
  have hrow : ∀ o, ((w.alloc o).alloc (.cells #[.slice none 0 0] 36)).heap[w.heap.size + 1]? = some (.cells #[.slice none 0 0] 36 (0, 0)) := fun o => by
    have := row_alloc (w.alloc o) #[.slice none 0 0] 36
    simpa using this
  have HW : Hid _ := hW
  cases hE : treeErr d t with
  | some er =>
    have HO : Hid (filesOf d t = []) := show _ = _ by unfold filesOf; rw [hE]
    have hcall := fun o o' => each_no_Files1 a d B t (.slice ad t.kids.length cap) ⟨w.heap.size + 1, 0, none⟩ ((w.alloc o).alloc o') (S.below (hW o o') hB) (by simp; omega) (hl.below (hW o o') hB) hal er hE
    have HCALL : Hid _ := hcall
    have HROW : Hid _ := hrow
    clear hcall hW hrow S hl hal hal2 hE
    go_enter Tryd.func24, Tryd.ntmps24
    go_wp2_with fail
    refine Calls.mono (HCALL.out _ _) ?_
    rintro e w2 ⟨rfl, hb⟩
    have g0 : w2.cell? ⟨w.heap.size + 1, 0, none⟩ = some (.slice none 0 0) := cell_of_one (by rw [hb.block _ (by simp)]; exact HROW.out _)
    have HB : Hid _ := hb
    clear hb
    go_wp2_with fail
    go_ret
    refine ⟨.slice none 0 0, rfl, ?_, (HW.out _ _).trans (HB.out.mono (by simp; omega))⟩
    rw [HO.out]
    exact World.ownsRow_nil _ _ _ _
  | none =>
    have HO : Hid (filesOf d t = (pre d ByteArray.empty 0 t).foldl flStep []) := show _ = _ by unfold filesOf; rw [hE]
    have hcall := fun o => each_yes_Files1 a d w.heap.size t (.slice ad t.kids.length cap) ⟨w.heap.size + 1, 0, none⟩ (files1_told (w.heap.size + 1) w.heap.size) [] (fun k => k = w.heap.size + 1) ((w.alloc o).alloc (.cells #[.slice none 0 0] 36))
      ⟨.slice none 0 0, fun k => by simp [Value.ownBlock], by omega, hrow o, World.ownsRow_nil _ _ _ _⟩ (S.is.atB.below (hW o _) (Nat.le_refl _)) (by simp; omega) (Lies.below (hl.up hB (Nat.le_refl _)) (hW o _) (Nat.le_refl _)) hal hE (hal2 hE)
    have HCALL : Hid _ := hcall
    clear hcall hW hrow S hl hal hal2 hE
    go_enter Tryd.func24, Tryd.ntmps24
    go_wp2_with fail
    refine Calls.mono (HCALL.out _) ?_
    rintro e w2 ⟨rfl, C2, ⟨v, h1, h2, h3, h4⟩, hK, hC⟩
    have g0 := cell_of_one h3
    have HK : Hid _ := hK
    have H4 : Hid _ := h4
    clear h1 h2 h3 h4 hK hC
    go_wp2_with fail
    go_ret
    refine ⟨v, rfl, ?_, (HW.out _ _).trans (HK.out.below (fun k hk => by omega) (by simp; omega))⟩
    rw [HO.out]
    exact H4.out
end Go.Proofs.YtilkjafggfdjeaaDoor
