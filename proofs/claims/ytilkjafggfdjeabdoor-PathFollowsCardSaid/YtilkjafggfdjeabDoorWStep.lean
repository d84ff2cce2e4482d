/-
  The contract of path's walker's method step: one name.
  Conditions: the walker lies in a block of its own; the tree lies below it; its kids' names rise, its links are short; the sentinels hold what the program's text lays.
-/
import Derived.Test.YtilkjafggfdjeabDoorWalker
namespace Go.Proofs.YtilkjafggfdjeabDoor
open Go.RowKit
attribute [local go_sem ↓] Go.wp_at_zero Go.wp_at_succ

theorem ownsRow_take {w : World} {base m n : Nat} {e : TypeId} {ha : Option Addr} {hn hc : Nat} {xs : List Value} (h : w.ownsRow base e 1 (.slice ha hn hc) n xs) (hm : m ≤ n) : w.ownsRow base e 1 (.slice ha m hc) m (xs.take m) := by
  obtain ⟨h1, h2⟩ := h
  refine ⟨by rw [List.length_take]; omega, ?_⟩
  rcases h2 with ⟨e1, e2⟩ | ⟨g, cap, cur, e1, hb, hh, hnc, hcm, hs, ht⟩
  · simp only [Value.slice.injEq] at e1
    obtain ⟨rfl, rfl, rfl⟩ := e1
    left
    obtain rfl : m = 0 := by omega
    exact ⟨rfl, rfl⟩
  · simp only [Value.slice.injEq] at e1
    obtain ⟨rfl, rfl, rfl⟩ := e1
    refine .inr ⟨g, hc, cur, rfl, hb, hh, by omega, hcm, hs, ?_⟩
    rw [← ht, List.take_take]
    congr 1
    omega
/-- Appended to a row of one's own: the old value owns what it did. -/
theorem run_append_keep {P : Program} (w : World) (t ty : TypeId) (base : Nat) (e : TypeId) (i : TypeInfo) (z : Value) (bytes : Nat) (ht : P.underlying t = some (.slice e)) (hi : P.info? e = some i) (hz : i.zero = some z)
    (hsize : i.size = 1) (hby : i.bytes = bytes) (hzs : z.cells.size = 1)
    (v : Value) (n : Nat) (xs : List Value) (hown : w.ownsRow base e 1 v n xs)
    (ad : Addr) (m c : Nat) (news : List Value) (hl : news.length = m * 1) (hnews : ∀ j u, news[j]? = some u → w.cell? (ad.add j) = some u) (h1 : ∀ u ∈ news, u.oneCell' = true)
    (hm : 0 < m) (h63 : n + m ≤ maxLen) (hbytes : (n + m) * bytes ≤ 140737488355328) (hbase : base ≤ w.heap.size) :
    ∃ g cap w', (Builtin.append_ #[t, t] ty #[v, .slice (some ad) m c]).run P w = .ok (.slice (some ⟨g, 0, none⟩) (n + m) cap) w' ∧
      w'.ownsRow base e 1 (.slice (some ⟨g, 0, none⟩) (n + m) cap) (n + m) (xs ++ news) ∧ w.grownBy w' v.ownBlock ∧ (v.ownBlock = some g ∨ g = w.heap.size) ∧ g < w'.heap.size ∧ w'.ownsRow base e 1 v n xs := by
  obtain ⟨g, cap, w', hr, h2, h3, h4, h5⟩ := run_append_lies (P := P) w t ty base e i z 1 bytes ht hi hz hsize hby hzs (by omega) v n xs hown ad m c news hl hnews h1 hm h63 hbytes hbase _ rfl
  rcases hown.2 with ⟨rfl, rfl⟩ | ⟨g0, cap0, cur, rfl, hbg, hg, hnc, hcm, hcs, htake⟩
  · refine ⟨g, cap, w', hr, h2, h3, h4, h5, ?_⟩
    have hx : xs = [] := List.eq_nil_of_length_eq_zero (by simpa using hown.1)
    subst hx
    exact World.ownsRow_nil _ _ _ _
  · by_cases hroom : n + m ≤ cap0
    · obtain ⟨w2, hr2, k2, k3⟩ := run_append_fits (P := P) w base t ty e i 1 ht hi hsize g0 n cap0 xs hown ad m c news hl hnews h1 hroom
      refine ⟨g0, cap0, w2, hr2, k2, k3, .inl rfl, (k2.lt g0 rfl).2, ?_⟩
      have h := ownsRow_take k2 (m := n) (by omega)
      rw [List.take_left' (by rw [hown.1]; omega)] at h
      exact h
    · have holds : ∀ j u, xs[j]? = some u → w.cell? ((⟨g0, 0, none⟩ : Addr).add j) = some u := hown.cells (g := g0) rfl
      have hsmall : n + m ≤ 9223372036854775807 := by simp only [maxLen] at h63; omega
      have hr2 := run_append_grow (P := P) w t ty e i z ht hi hz ⟨g0, 0, none⟩ n cap0 xs (by rw [hsize]; exact hown.1) holds ad m c news (by rw [hsize]; exact hl) hnews (by omega) (by omega) (growslice_fits (by omega) (by rw [hby]; exact hbytes))
      refine ⟨g, cap, w', hr, h2, h3, h4, h5, ?_⟩
      rw [hr2] at hr
      simp only [Result.ok.injEq] at hr
      rw [← hr.2]
      exact World.ownsRow.alloc hown.drew _
theorem wpList_append_keep {P : Program} {ops : Array Oper} {rest : List Oper} {o : Oper} {a : Act} {Q : Exit → Act → World → Prop} (w : World) (hgd : o.guard = none) (s x : Operand) (t : TypeId)
    (ho : o.op = .call { callee := .builtin .append, args := #[s, x], argTypes := #[t, t] })
    (base : Nat) (e : TypeId) (i : TypeInfo) (z : Value) (bytes : Nat) (ht : P.underlying t = some (.slice e)) (hi : P.info? e = some i) (hz : i.zero = some z)
    (hsize : i.size = 1) (hby : i.bytes = bytes) (hzs : z.cells.size = 1)
    (v : Value) (n : Nat) (xs : List Value) (hs : a.eval s = v) (hown : w.ownsRow base e 1 v n xs)
    (ad : Addr) (m c : Nat) (news : List Value) (hx : a.eval x = .slice (some ad) m c) (hl : news.length = m * 1) (hnews : ∀ j u, news[j]? = some u → w.cell? (ad.add j) = some u) (h1 : ∀ u ∈ news, u.oneCell' = true)
    (hm : 0 < m) (h63 : n + m ≤ maxLen) (hbytes : (n + m) * bytes ≤ 140737488355328) (hbase : base ≤ w.heap.size)
    (h : ∀ g cap w', w'.ownsRow base e 1 (.slice (some ⟨g, 0, none⟩) (n + m) cap) (n + m) (xs ++ news) → w.grownBy w' v.ownBlock → (v.ownBlock = some g ∨ g = w.heap.size) → w'.ownsRow base e 1 v n xs → wpList P ops Q rest (a.put o.dst (.slice (some ⟨g, 0, none⟩) (n + m) cap)) w') : wpList P ops Q (o :: rest) a w := by
  obtain ⟨g, cap, w', hr, h2, h3, h4, h5, h6⟩ := run_append_keep (P := P) w t o.type base e i z bytes ht hi hz hsize hby hzs v n xs hown ad m c news hl hnews h1 hm h63 hbytes hbase
  refine wpList_plain hgd fun _ hK => ?_
  unfold Oper.wp execOp
  simp only [ho, resolve, invoke, builtin, Sem.run_bind, Sem.run_pure, Result.andThen_ok, List.map_toArray, List.map_cons, List.map_nil, hs, hx, hr]
  exact hK _ _ (h g cap w' h2 h3 h4 h6)

theorem WkAt.on {w0 wr w' : World} {t : Tree} {ta : Option Addr} {tc : Nat} {s : WkS} {hv av : Value} (W : WkAt w0 t ta tc s hv av wr) (hb : Below wr.heap.size wr w') : WkAt w0 t ta tc s hv av w' := by
  have zb := lt_of_row W.box
  refine ⟨(hb.block _ zb).trans W.box, ownsRow_ext' W.own fun k hk => hb.block k (W.own.lt k hk).2, ?_, W.below.trans (hb.mono W.below.size)⟩
  obtain ⟨ad, cap, e, h1, h2, h3⟩ := W.txt
  refine ⟨ad, cap, e, h1, h2, fun i x hx => ?_⟩
  obtain ⟨b, off, e1, e2, e3, e4⟩ := h3 i x hx
  exact ⟨b, off, e1, e2, e3, by rw [hb.cell (p := ⟨b, off + i, none⟩) (lt_of_cell e4)]; exact e4⟩
/-- The next name is taken. -/
theorem wk_tail {w0 wr : World} {t : Tree} {ta : Option Addr} {tc n b off cap : Nat} {x : ByteArray} {h al : List ByteArray} {hv : Value} (W : WkAt w0 t ta tc ⟨h, x :: al, n⟩ hv (.slice (some ⟨b, off, none⟩) (al.length + 1) cap) wr) {av' : Value} (hav : ∃ ad', av' = .slice ad' al.length (cap - 1) ∧ (0 < al.length → ad' = some ⟨b, off + 1, none⟩)) :
    WkAt w0 t ta tc ⟨h, al, n⟩ hv av' (wr.setCell ⟨w0.heap.size, 5, none⟩ av') := by
  obtain ⟨ad', rfl, had⟩ := hav
  have hlt := fun k hk => W.own.lt k hk
  have h6b : ∀ k, k ≠ w0.heap.size → (wr.setCell ⟨w0.heap.size, 5, none⟩ (.slice ad' al.length (cap - 1))).heap[k]? = wr.heap[k]? := fun k hk => Below.heap_setCell _ _ _ _ hk
  refine ⟨?_, ?_, ?_, below_set W.below _ _⟩
  · rw [setCell_row7 W.box]; rfl
  · exact ownsRow_ext' W.own fun k hk => h6b k (by have := (hlt k hk).1; omega)
  · obtain ⟨ad, cap', e, h1, h2, h3⟩ := W.txt
    simp only [Value.slice.injEq] at e
    obtain ⟨rfl, _, rfl⟩ := e
    simp only [List.length_cons] at h1
    refine ⟨ad', cap - 1, rfl, by simp only; omega, by omega, fun i y hy => ?_⟩
    simp only at hy
    have hi := (List.getElem?_eq_some_iff.1 hy).1
    obtain ⟨b', off', e1, e2, e3, e4⟩ := h3 (i + 1) y (by simpa using hy)
    simp only [Option.some.injEq, Addr.mk.injEq, and_true] at e1
    obtain ⟨rfl, rfl⟩ := e1
    exact ⟨b, off + 1, had (by omega), e2, e3, by rw [World.cell?_of_block (h6b b e2), show off + 1 + i = off + (i + 1) by omega]; exact e4⟩
/-- One up. -/
theorem wk_up {w0 wr : World} {t : Tree} {ta : Option Addr} {tc n hc m : Nat} {h al : List ByteArray} {ha : Option Addr} {av : Value} (W : WkAt w0 t ta tc ⟨h, al, n⟩ (.slice ha h.length hc) av wr) (hm : m = h.length - 1) :
    WkAt w0 t ta tc ⟨h.dropLast, al, n⟩ (.slice ha m hc) av (wr.setCell ⟨w0.heap.size, 4, none⟩ (.slice ha m hc)) := by
  subst hm
  have hlt := fun k hk => W.own.lt k hk
  have h6b : ∀ k, k ≠ w0.heap.size → (wr.setCell ⟨w0.heap.size, 4, none⟩ (.slice ha (h.length - 1) hc)).heap[k]? = wr.heap[k]? := fun k hk => Below.heap_setCell _ _ _ _ hk
  have ho := ownsRow_take W.own (m := h.length - 1) (by simp only; omega)
  have hlt2 := fun k hk => ho.lt k hk
  refine ⟨?_, ?_, ?_, below_set W.below _ _⟩
  · rw [setCell_row7 W.box]; rfl
  · have h2 := ownsRow_ext' ho (w' := wr.setCell ⟨w0.heap.size, 4, none⟩ (.slice ha (h.length - 1) hc)) fun k hk => h6b k (by have := (hlt2 k hk).1; omega)
    rw [← List.map_take, ← List.dropLast_eq_take] at h2
    simp only [List.length_dropLast]
    exact h2
  · obtain ⟨ad, cap, e, h1, h2, h3⟩ := W.txt
    refine ⟨ad, cap, e, h1, h2, fun i x hx => ?_⟩
    obtain ⟨b, off, e1, e2, e3, e4⟩ := h3 i x hx
    refine ⟨b, off, e1, e2, ?_, by rw [World.cell?_of_block (h6b b e2)]; exact e4⟩
    cases ha with
    | none => simp [Value.ownBlock]
    | some a => simpa [Value.ownBlock] using e3
/-- A name more, ahead of looking. -/
theorem wk_there {w0 wr wa w5 : World} {t : Tree} {ta : Option Addr} {tc : Nat} {s : WkS} {hv av : Value} (W : WkAt w0 t ta tc s hv av wr) (hba : Below wr.heap.size wr wa) (hgrow : wa.grownBy w5 hv.ownBlock) (hkeep : w5.ownsRow (w0.heap.size + 1) 9 1 hv s.here.length (s.here.map Value.string)) : WkAt w0 t ta tc s hv av w5 := by
  have WA := W.on hba
  have zb := lt_of_row WA.box
  have hne : some w0.heap.size ≠ hv.ownBlock := fun e => by have := (WA.own.lt _ e.symm).1; omega
  refine ⟨(hgrow.block _ zb hne).trans WA.box, hkeep, ?_, WA.below.grown hgrow WA.below.size fun k hk => by have := (WA.own.lt _ hk).1; omega⟩
  obtain ⟨ad, cap, e, h1, h2, h3⟩ := WA.txt
  refine ⟨ad, cap, e, h1, h2, fun i x hx => ?_⟩
  obtain ⟨b, off, e1, e2, e3, e4⟩ := h3 i x hx
  exact ⟨b, off, e1, e2, e3, by rw [hgrow.cell_far ⟨b, off + i, none⟩ (lt_of_cell e4) (fun e => e3 e.symm)]; exact e4⟩
/-- It is there. -/
theorem wk_here {w0 wr wa w5 w6 : World} {t : Tree} {ta : Option Addr} {tc n g cap : Nat} {h al : List ByteArray} {x : ByteArray} {hv av : Value} (W : WkAt w0 t ta tc ⟨h, al, n⟩ hv av wr) (hba : Below wr.heap.size wr wa) (hgrow : wa.grownBy w5 hv.ownBlock)
    (hkeep : w5.ownsRow (w0.heap.size + 1) 9 1 hv h.length (h.map Value.string)) (hown : w5.ownsRow (w0.heap.size + 1) 9 1 (.slice (some ⟨g, 0, none⟩) (h.length + 1) cap) (h.length + 1) (h.map Value.string ++ [.string x])) (hat : hv.ownBlock = some g ∨ g = wa.heap.size) (hb6 : Below w5.heap.size w5 w6) :
    WkAt w0 t ta tc ⟨h ++ [x], al, n⟩ (.slice (some ⟨g, 0, none⟩) (h.length + 1) cap) av (w6.setCell ⟨w0.heap.size, 4, none⟩ (.slice (some ⟨g, 0, none⟩) (h.length + 1) cap)) := by
  have W6 := (wk_there W hba hgrow hkeep).on hb6
  have h6b : ∀ k, k ≠ w0.heap.size → (w6.setCell ⟨w0.heap.size, 4, none⟩ (.slice (some ⟨g, 0, none⟩) (h.length + 1) cap)).heap[k]? = w6.heap[k]? := fun k hk => Below.heap_setCell _ _ _ _ hk
  have hlt := hown.lt g rfl
  refine ⟨?_, ?_, ?_, below_set W6.below _ _⟩
  · rw [setCell_row7 W6.box]; rfl
  · have h2 := ownsRow_ext' hown (w' := w6.setCell ⟨w0.heap.size, 4, none⟩ (.slice (some ⟨g, 0, none⟩) (h.length + 1) cap)) fun k hk => by
      have hk2 := hown.lt k hk
      rw [h6b k (by omega)]
      exact hb6.block k hk2.2
    simpa using h2
  · obtain ⟨ad, cap', e, h1, h2, h3⟩ := W.txt
    refine ⟨ad, cap', e, h1, h2, fun i y hy => ?_⟩
    obtain ⟨b, off, e1, e2, e3, e4⟩ := h3 i y hy
    have hbl := lt_of_cell e4
    have hz := hba.size
    refine ⟨b, off, e1, e2, ?_, ?_⟩
    · simp only [Value.ownBlock, ne_eq, Option.some.injEq]
      intro e
      subst e
      rcases hat with h | h
      · exact e3 h
      · simp only at hbl
        omega
    · obtain ⟨ad6, cap6, e', _, _, k3⟩ := W6.txt
      obtain ⟨b6, off6, e1', _, _, e4'⟩ := k3 i y hy
      rw [e] at e'
      simp only [Value.slice.injEq] at e'
      rw [← e'.1, e1] at e1'
      simp only [Option.some.injEq, Addr.mk.injEq, and_true] at e1'
      rw [World.cell?_of_block (h6b b e2), e1'.1, e1'.2]
      exact e4'
theorem txt_is (x : ByteArray) (l : List UInt8) : (x.toList == l) = decide (x = ⟨l.toArray⟩) := by
  rw [ba_toList]
  by_cases h : x = ⟨l.toArray⟩
  · subst h
    simp
  · rw [decide_eq_false h]
    simp only [beq_eq_false_iff_ne, ne_eq]
    intro e
    apply h
    cases x with
    | mk d => simp only [ByteArray.mk.injEq]; simp only at e; rw [← e]

set_option maxRecDepth 100000 in
set_option maxHeartbeats 4000000 in
theorem wstep_any (a : Nat → Addr) (w0 : World) (t : Tree) (ta : Option Addr) (tc B d ds : Nat) (hB : B ≤ w0.heap.size) (hl : Lies w0 B d t.kids (.slice ta t.kids.length tc)) (hr : RisesD d t) (hsh : ShortD ds t) (x : ByteArray) (h al : List ByteArray) (n : Nat) (hv av : Value) (wr : World) (W : WkAt w0 t ta tc ⟨h, x :: al, n⟩ hv av wr) (S : PSen a w0) (hn : n ≤ 16) (hal : al.length ≤ 1000) (hhl : h.length ≤ 1000) (hxs : x.size ≤ maxLen) :
    Calls Tryd.prog 32 #[.pointer (some ⟨w0.heap.size, 0, none⟩)] wr (WkPost a w0 t ta tc (stepR t x h al n)) := by
  obtain ⟨ad0, acap, rfl, hac, hacm, htx⟩ := W.txt
  simp only [List.length_cons] at hac W
  obtain ⟨b, off, rfl, hbw, hbo, hx0⟩ := htx 0 x rfl
  rw [Nat.add_zero] at hx0
  obtain ⟨ha, hc, hvf⟩ : ∃ ha hc, hv = .slice ha h.length hc := by
    rcases W.own.2 with ⟨e, e0⟩ | ⟨g, cap, cur, e, _⟩
    · exact ⟨none, 0, by rw [e]; simp only at e0; rw [e0]⟩
    · exact ⟨_, _, e⟩
  subst hvf
  have hhc : h.length ≤ hc := by
    rcases W.own.2 with ⟨e, e0⟩ | ⟨g, cap, cur, e, _, _, h2, _⟩
    · simp only at e0; omega
    · simp only [Value.slice.injEq] at e; simp only at h2; omega
  obtain ⟨⟨q0, q1, q2, q3, q4, q5, q6⟩, fz⟩ := row7 W.box
  have f5 := fz 5
  have zb := lt_of_row W.box
  have zx := lt_of_cell hx0
  have HT : Hid (∀ av', (∃ ad', av' = .slice ad' al.length (acap - 1) ∧ (0 < al.length → ad' = some ⟨b, off + 1, none⟩)) → WkAt w0 t ta tc ⟨h, al, n⟩ (.slice ha h.length hc) av' (wr.setCell ⟨w0.heap.size, 5, none⟩ av')) := fun av' h => wk_tail W h
  have HS0 : Hid (PSen a w0) := S
  have HLI : Hid (Lies w0 B d t.kids (.slice ta t.kids.length tc)) := hl
  have HRI : Hid (RisesD d t) := hr
  have HSH : Hid (ShortD ds t) := hsh
  have a0 : (0 : Int) < (al.length : Int) + 1 := by omega
  have a1 : (1 : Int) ≤ (al.length : Int) + 1 := by omega
  have a2 : al.length + 1 ≤ acap := hac
  clear W S hl hr hsh htx fz hbo
  go_enter Tryd.func32, Tryd.ntmps32
  go_upto_region 3 with fail
  generalize hgen : (if acap = 1 then some (⟨b, off, none⟩ : Addr) else some ⟨b, off + 1, none⟩) = ad1
  have had : 0 < al.length → ad1 = some ⟨b, off + 1, none⟩ := fun h0 => by rw [← hgen, if_neg (by omega)]
  have hW1 := HT.out (.slice ad1 al.length (acap - 1)) ⟨ad1, rfl, had⟩
  clear HT hgen had q0 q1 q2 q3 q4 q5 q6 f5 zb zx hx0 hbw
  generalize wr.setCell ⟨w0.heap.size, 5, none⟩ (.slice ad1 al.length (acap - 1)) = w1 at hW1 ⊢
  generalize acap - 1 = ac1 at hW1 ⊢
  have W1 : Hid _ := hW1
  clear hW1
  by_cases h0 : x = ByteArray.empty
  · have HR : Hid (stepR t x h al n = .ok ⟨h, al, n⟩) := show _ = _ by unfold stepR; rw [if_pos (.inl h0)]
    have e0 : (x.toList == []) = true := by rw [txt_is]; exact decide_eq_true h0
    clear h0
    go_wp2_with fail
    go_ret
    exact .inr ⟨_, _, _, HR.out, rfl, W1.out⟩
  have e0 : (x.toList == []) = false := by rw [txt_is]; exact decide_eq_false h0
  by_cases h1 : x = dotB
  · have HR : Hid (stepR t x h al n = .ok ⟨h, al, n⟩) := show _ = _ by unfold stepR; rw [if_pos (.inr h1)]
    have e1 : (x.toList == [46]) = true := by rw [txt_is]; exact decide_eq_true h1
    clear h0 h1
    go_wp2_with fail
    go_ret
    exact .inr ⟨_, _, _, HR.out, rfl, W1.out⟩
  have e1 : (x.toList == [46]) = false := by rw [txt_is]; exact decide_eq_false h1
  have h01 : ¬ (x = ByteArray.empty ∨ x = dotB) := fun h => h.elim h0 h1
  by_cases h2 : x = dotsB
  · have HR : Hid (stepR t x h al n = .ok ⟨h.dropLast, al, n⟩) := show _ = _ by unfold stepR; rw [if_neg h01, if_pos h2]
    have e2 : (x.toList == [46, 46]) = true := by rw [txt_is]; exact decide_eq_true h2
    obtain ⟨⟨q0, q1, q2, q3, q4, q5, q6⟩, fz⟩ := row7 W1.out.box
    have f4 := fz 4
    have zb := lt_of_row W1.out.box
    have HUP : Hid (∀ m, m = h.length - 1 → WkAt w0 t ta tc ⟨h.dropLast, al, n⟩ (.slice ha m hc) (.slice ad1 al.length ac1) (w1.setCell ⟨w0.heap.size, 4, none⟩ (.slice ha m hc))) := fun m hm => wk_up W1.out hm
    clear h0 h1 h2 h01 fz
    have hlw : IntKind.i64.wrap ((h.length : Int) - 1) = (h.length : Int) - 1 := by simp (disch := omega) only [IntWalk.i64_in]
    go_upto_region 8 with fail
    go_region
    go_wp2_with fail
    go_ret
    exact .inr ⟨_, _, _, HR.out, rfl, (HUP.out _ (by omega)).on (Below.refl _ _).drew⟩
  have e2 : (x.toList == [46, 46]) = false := by rw [txt_is]; exact decide_eq_false h2
  have SR : PSen a w1 := HS0.out.below W1.out.below
  have HNM : Hid _ := name_any x w1 hxs
  cases hnm : nameB x with
  | false =>
    have HR : Hid (stepR t x h al n = .error 4) := show _ = _ by unfold stepR; rw [if_neg h01, if_neg h2, if_pos hnm]
    rw [hnm] at HNM
    have c4 := SR.is.name
    have z4 := lt_of_cell c4
    have HB : Hid (Below w0.heap.size w0 w1) := W1.out.below
    clear h0 h1 h2 h01 SR
    go_wp2_with fail
    refine Calls.mono HNM.out ?_
    rintro e w2 ⟨rfl, rfl⟩
    go_wp2_with fail
    go_ret
    exact .inl ⟨4, HR.out, rfl, HB.out⟩
  | true =>
  rw [hnm] at HNM
  obtain ⟨⟨q0, q1, q2, q3, q4, q5, q6⟩, fz⟩ := row7 W1.out.box
  have zb := lt_of_row W1.out.box
  obtain ⟨i0, hi0, hz⟩ := Option.map_eq_some_iff.1 infoStr
  simp only [Prod.mk.injEq] at hz
  obtain ⟨hz0, hz1, hz2⟩ := hz
  have HOWN : Hid (w1.ownsRow (w0.heap.size + 1) 9 1 (.slice ha h.length hc) h.length (h.map Value.string)) := W1.out.own
  have HN : Hid ((w1.alloc (.cells #[.string x] 9)).heap[w1.heap.size]? = some (.cells #[.string x] 9 (0, 0))) := heap_alloc_new w1 _
  have HNO : Hid (atR (h ++ [x]) t = none → stepR t x h al n = .error 5) := fun he => by unfold stepR; rw [if_neg h01, if_neg h2, if_neg (by rw [hnm]; decide), he]
  have HYES : Hid (∀ k, atR (h ++ [x]) t = some k → stepR t x h al n = if isLink k = true then linkR k.data h al n else .ok ⟨h ++ [x], al, n⟩) := fun k he => by unfold stepR; rw [if_neg h01, if_neg h2, if_neg (by rw [hnm]; decide), he]
  clear h0 h1 h2 h01 SR fz hnm
  go_wp2_with fail
  refine Calls.mono HNM.out ?_
  rintro e w2 ⟨rfl, rfl⟩
  clear HNM
  go_wp2_with (at_builtin; go_must (refine wpList_append_keep _ (by rfl) _ _ 39 (by rfl) (w0.heap.size + 1) 9 i0 (.string { data := #[] }) 16 Tryd.underlying39 hi0 hz0 hz1 hz2 rfl (.slice ha h.length hc) h.length (h.map Value.string) (by rfl) (World.ownsRow.alloc HOWN.out _) ⟨w2.heap.size, 0, none⟩ 1 1 [.string x] (by rfl) (by rfl) (World.news_of_block (cs := #[.string x]) (t := 9) (fr := (0, 0)) HN.out) (by simp [Value.oneCell']) (by omega) (by unfold maxLen; omega) (by omega) (by simp; omega) ?_; intro g cap' w4 hown1 hgrow hat hkeep; have HG : Hid _ := hgrow; have HO1 : Hid _ := hown1; have HAT : Hid _ := hat; have HKE : Hid _ := hkeep; clear hgrow hown1 hat hkeep))
  have hba : Below w2.heap.size w2 (w2.alloc (.cells #[.string x] 9)) := (Below.refl _ _).alloc (Nat.le_refl _) _
  have W4 : Hid (WkAt w0 t ta tc ⟨h, al, n⟩ (.slice ha h.length hc) (.slice ad1 al.length ac1) w4) := wk_there W1.out hba HG.out HKE.out
  have HH6 : Hid (∀ w6, Below w4.heap.size w4 w6 → WkAt w0 t ta tc ⟨h ++ [x], al, n⟩ (.slice (some ⟨g, 0, none⟩) (h.length + 1) cap') (.slice ad1 al.length ac1) (w6.setCell ⟨w0.heap.size, 4, none⟩ (.slice (some ⟨g, 0, none⟩) (h.length + 1) cap'))) := fun w6 hb6 => wk_here W1.out hba HG.out HKE.out HO1.out HAT.out hb6
  have HTX : Hid (Texts w4 (.slice (some ⟨g, 0, none⟩) (h.length + 1) cap') (h ++ [x])) := Texts.of_own (base := w0.heap.size + 1) (by rw [List.length_append, List.map_append]; exact HO1.out)
  clear hba HG HKE HO1 HAT HN HOWN q0 q1 q2 q3 q4 q5 q6 hz0 hz1 hz2 hi0 W1
  have zb4 := lt_of_row W4.out.box
  obtain ⟨⟨q0, q1, q2, q3, _⟩, _⟩ := row7 W4.out.box
  have HNA : Hid (NodeAt w4 (w0.heap.size + 1) d w0.heap.size 0 t) := ⟨by omega, _, q0, q1, q2, q3, (HLI.out.below W4.out.below hB).up (by omega) (Nat.le_refl _)⟩
  have HAT : Hid _ := at_any (w0.heap.size + 1) d w0.heap.size 0 t (h ++ [x]) _ w4 (by omega) HNA.out HRI.out HTX.out (by rw [List.length_append, List.length_singleton]; omega)
  clear q0 q1 q2 q3 HNA HTX HRI
  refine Calls.mono HAT.out ?_
  clear HAT
  rintro e w5 ⟨hb5, ⟨h3, rfl⟩ | ⟨k, d', kb, ko, h3, rfl, hk, hd'⟩⟩
  · have HR : Hid (stepR t x h al n = .error 5) := HNO.out h3
    have W5 : Hid _ := W4.out.on hb5
    have HB : Hid (Below w0.heap.size w0 w5) := W5.out.below
    have c5 := (HS0.out.below HB.out).no
    have z5 := lt_of_cell c5
    clear hb5 h3
    go_wp2_with fail
    go_ret
    exact .inl ⟨5, HR.out, rfl, HB.out⟩
  have W5 : Hid (WkAt w0 t ta tc ⟨h, al, n⟩ (.slice ha h.length hc) (.slice ad1 al.length ac1) w5) := W4.out.on hb5
  have HH5 : Hid _ := HH6.out w5 hb5
  obtain ⟨hkb, uk, c0, c1, c2, c3, hlk⟩ := hk.below hb5 (by omega)
  cases hik : isLink k with
  | true =>
    have HR : Hid (stepR t x h al n = linkR k.data h al n) := show _ = _ by rw [HYES.out k h3, if_pos hik]
    have HF : Hid _ := wfollow_any a w0 t ta tc h al n _ _ k.data w5 W5.out HS0.out (short_link HSH.out h3 hik) hn hal
    have e3 : (k.kind.toList == [108, 105, 110, 107]) = true := hik
    clear hb5 h3 hk hlk hik HYES HNO HH5 HH6
    go_wp2_with fail
    refine Calls.mono HF.out ?_
    intro e w6 hp
    have HP : Hid _ := hp
    clear hp HF c0 c1 c2 c3
    rcases HP.out with ⟨er, h1, rfl, h2⟩ | ⟨s6, hv6, av6, h1, rfl, h2⟩
    · have H2 : Hid _ := h2
      clear h2
      go_wp2_with fail
      go_ret
      exact .inl ⟨er, HR.out.trans h1, rfl, H2.out⟩
    · have H2 : Hid _ := h2
      clear h2
      go_wp2_with fail
      go_ret
      exact .inr ⟨s6, hv6, av6, HR.out.trans h1, rfl, H2.out⟩
  | false =>
    have HR : Hid (stepR t x h al n = .ok ⟨h ++ [x], al, n⟩) := show _ = _ by rw [HYES.out k h3, if_neg (by rw [hik]; decide)]
    have e3 : (k.kind.toList == [108, 105, 110, 107]) = false := hik
    obtain ⟨⟨q0, q1, q2, q3, q4, q5, q6⟩, fz⟩ := row7 W5.out.box
    have f4 := fz 4
    have zb5 := lt_of_row W5.out.box
    clear hb5 h3 hk hlk hik HYES HNO HH6 fz
    go_wp2_with fail
    go_ret
    exact .inr ⟨_, _, _, HR.out, rfl, HH5.out⟩
end Go.Proofs.YtilkjafggfdjeabDoor
