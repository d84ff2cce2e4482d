/-
  The contract of path's walker's method step: one name.
  The library's contract of strings.Join, at this program's numbers.
  The contract of path.Follow.
  Conditions: those that each states.
-/
import Derived.Test.YtpjjpmikhjlgnaaGreatDoorM25
import Derived.Shelf.Strings.OnBuilder
import Derived.Test.YtpjjpmikhjlgnaaGreatDoorProg
import Derived.Test.YtpjjpmikhjlgnaaGreatDoorM21
namespace Go.Proofs.YtpjjpmikhjlgnaaGreatDoor
open Go.RowKit
attribute [local go_sem ↓] Go.wp_at_zero Go.wp_at_succ

theorem ownsRow_take {w : World} {base m n : Nat} {e : TypeId} {ha : Option Addr} {hn hc : Nat} {xs : List Value} (h : w.ownsRow base e 1 (.slice ha hn hc) n xs) (hm : m ≤ n) : w.ownsRow base e 1 (.slice ha m hc) m (xs.take m) := by
  obtain ⟨h1, h2⟩ := h
  refine ⟨by rw [List.length_take]; omega, ?_⟩
  rcases h2 with ⟨e1, e2⟩ | ⟨g, cap, cur, e1, hb, hh, hnc, hcm, hs, ht⟩
  · simp only [Value.slice.injEq] at e1
    obtain ⟨rfl, rfl, rfl⟩ := e1
    left
    obtain rfl : m = 0 := by omega
    exact ⟨rfl, rfl⟩
  · simp only [Value.slice.injEq] at e1
    obtain ⟨rfl, rfl, rfl⟩ := e1
    refine .inr ⟨g, hc, cur, rfl, hb, hh, by omega, hcm, hs, ?_⟩
    rw [← ht, List.take_take]
    congr 1
    omega
/-- Appended to a row of one's own: the old value owns what it did. -/
theorem run_append_keep {P : Program} (w : World) (t ty : TypeId) (base : Nat) (e : TypeId) (i : TypeInfo) (z : Value) (bytes : Nat) (ht : P.underlying t = some (.slice e)) (hi : P.info? e = some i) (hz : i.zero = some z)
    (hsize : i.size = 1) (hby : i.bytes = bytes) (hzs : z.cells.size = 1)
    (v : Value) (n : Nat) (xs : List Value) (hown : w.ownsRow base e 1 v n xs)
    (ad : Addr) (m c : Nat) (news : List Value) (hl : news.length = m * 1) (hnews : ∀ j u, news[j]? = some u → w.cell? (ad.add j) = some u) (h1 : ∀ u ∈ news, u.oneCell' = true)
    (hm : 0 < m) (h63 : n + m ≤ maxLen) (hbytes : (n + m) * bytes ≤ 140737488355328) (hbase : base ≤ w.heap.size) :
    ∃ g cap w', (Builtin.append_ #[t, t] ty #[v, .slice (some ad) m c]).run P w = .ok (.slice (some ⟨g, 0, none⟩) (n + m) cap) w' ∧
      w'.ownsRow base e 1 (.slice (some ⟨g, 0, none⟩) (n + m) cap) (n + m) (xs ++ news) ∧ w.grownBy w' v.ownBlock ∧ (v.ownBlock = some g ∨ g = w.heap.size) ∧ g < w'.heap.size ∧ w'.ownsRow base e 1 v n xs := by
  obtain ⟨g, cap, w', hr, h2, h3, h4, h5⟩ := run_append_lies (P := P) w t ty base e i z 1 bytes ht hi hz hsize hby hzs (by omega) v n xs hown ad m c news hl hnews h1 hm h63 hbytes hbase _ rfl
  rcases hown.2 with ⟨rfl, rfl⟩ | ⟨g0, cap0, cur, rfl, hbg, hg, hnc, hcm, hcs, htake⟩
  · refine ⟨g, cap, w', hr, h2, h3, h4, h5, ?_⟩
    have hx : xs = [] := List.eq_nil_of_length_eq_zero (by simpa using hown.1)
    subst hx
    exact World.ownsRow_nil _ _ _ _
  · by_cases hroom : n + m ≤ cap0
    · obtain ⟨w2, hr2, k2, k3⟩ := run_append_fits (P := P) w base t ty e i 1 ht hi hsize g0 n cap0 xs hown ad m c news hl hnews h1 hroom
      refine ⟨g0, cap0, w2, hr2, k2, k3, .inl rfl, (k2.lt g0 rfl).2, ?_⟩
      have h := ownsRow_take k2 (m := n) (by omega)
      rw [List.take_left' (by rw [hown.1]; omega)] at h
      exact h
    · have holds : ∀ j u, xs[j]? = some u → w.cell? ((⟨g0, 0, none⟩ : Addr).add j) = some u := hown.cells (g := g0) rfl
      have hsmall : n + m ≤ 9223372036854775807 := by simp only [maxLen] at h63; omega
      have hr2 := run_append_grow (P := P) w t ty e i z ht hi hz ⟨g0, 0, none⟩ n cap0 xs (by rw [hsize]; exact hown.1) holds ad m c news (by rw [hsize]; exact hl) hnews (by omega) (by omega) (growslice_fits (by omega) (by rw [hby]; exact hbytes))
      refine ⟨g, cap, w', hr, h2, h3, h4, h5, ?_⟩
      rw [hr2] at hr
      simp only [Result.ok.injEq] at hr
      rw [← hr.2]
      exact World.ownsRow.alloc hown.drew _
theorem wpList_append_keep {P : Program} {ops : Array Oper} {rest : List Oper} {o : Oper} {a : Act} {Q : Exit → Act → World → Prop} (w : World) (hgd : o.guard = none) (s x : Operand) (t : TypeId)
    (ho : o.op = .call { callee := .builtin .append, args := #[s, x], argTypes := #[t, t] })
    (base : Nat) (e : TypeId) (i : TypeInfo) (z : Value) (bytes : Nat) (ht : P.underlying t = some (.slice e)) (hi : P.info? e = some i) (hz : i.zero = some z)
    (hsize : i.size = 1) (hby : i.bytes = bytes) (hzs : z.cells.size = 1)
    (v : Value) (n : Nat) (xs : List Value) (hs : a.eval s = v) (hown : w.ownsRow base e 1 v n xs)
    (ad : Addr) (m c : Nat) (news : List Value) (hx : a.eval x = .slice (some ad) m c) (hl : news.length = m * 1) (hnews : ∀ j u, news[j]? = some u → w.cell? (ad.add j) = some u) (h1 : ∀ u ∈ news, u.oneCell' = true)
    (hm : 0 < m) (h63 : n + m ≤ maxLen) (hbytes : (n + m) * bytes ≤ 140737488355328) (hbase : base ≤ w.heap.size)
    (h : ∀ g cap w', w'.ownsRow base e 1 (.slice (some ⟨g, 0, none⟩) (n + m) cap) (n + m) (xs ++ news) → w.grownBy w' v.ownBlock → (v.ownBlock = some g ∨ g = w.heap.size) → w'.ownsRow base e 1 v n xs → wpList P ops Q rest (a.put o.dst (.slice (some ⟨g, 0, none⟩) (n + m) cap)) w') : wpList P ops Q (o :: rest) a w := by
  obtain ⟨g, cap, w', hr, h2, h3, h4, h5, h6⟩ := run_append_keep (P := P) w t o.type base e i z bytes ht hi hz hsize hby hzs v n xs hown ad m c news hl hnews h1 hm h63 hbytes hbase
  refine wpList_plain hgd fun _ hK => ?_
  unfold Oper.wp execOp
  simp only [ho, resolve, invoke, builtin, Sem.run_bind, Sem.run_pure, Result.andThen_ok, List.map_toArray, List.map_cons, List.map_nil, hs, hx, hr]
  exact hK _ _ (h g cap w' h2 h3 h4 h6)

theorem WkAt.on {w0 wr w' : World} {t : Tree} {ta : Option Addr} {tc : Nat} {s : WkS} {hv av : Value} (W : WkAt w0 t ta tc s hv av wr) (hb : Below wr.heap.size wr w') : WkAt w0 t ta tc s hv av w' := by
  have zb := lt_of_row W.box
  refine ⟨(hb.block _ zb).trans W.box, ownsRow_ext' W.own fun k hk => hb.block k (W.own.lt k hk).2, ?_, W.below.trans (hb.mono W.below.size)⟩
  obtain ⟨ad, cap, e, h1, h2, h3⟩ := W.txt
  refine ⟨ad, cap, e, h1, h2, fun i x hx => ?_⟩
  obtain ⟨b, off, e1, e2, e3, e4⟩ := h3 i x hx
  exact ⟨b, off, e1, e2, e3, by rw [hb.cell (p := ⟨b, off + i, none⟩) (lt_of_cell e4)]; exact e4⟩
/-- The next name is taken. -/
theorem wk_tail {w0 wr : World} {t : Tree} {ta : Option Addr} {tc n b off cap : Nat} {x : ByteArray} {h al : List ByteArray} {hv : Value} (W : WkAt w0 t ta tc ⟨h, x :: al, n⟩ hv (.slice (some ⟨b, off, none⟩) (al.length + 1) cap) wr) {av' : Value} (hav : ∃ ad', av' = .slice ad' al.length (cap - 1) ∧ (0 < al.length → ad' = some ⟨b, off + 1, none⟩)) :
    WkAt w0 t ta tc ⟨h, al, n⟩ hv av' (wr.setCell ⟨w0.heap.size, 5, none⟩ av') := by
  obtain ⟨ad', rfl, had⟩ := hav
  have hlt := fun k hk => W.own.lt k hk
  have h6b : ∀ k, k ≠ w0.heap.size → (wr.setCell ⟨w0.heap.size, 5, none⟩ (.slice ad' al.length (cap - 1))).heap[k]? = wr.heap[k]? := fun k hk => Below.heap_setCell _ _ _ _ hk
  refine ⟨?_, ?_, ?_, below_set W.below _ _⟩
  · rw [setCell_row7 W.box]; rfl
  · exact ownsRow_ext' W.own fun k hk => h6b k (by have := (hlt k hk).1; omega)
  · obtain ⟨ad, cap', e, h1, h2, h3⟩ := W.txt
    simp only [Value.slice.injEq] at e
    obtain ⟨rfl, _, rfl⟩ := e
    simp only [List.length_cons] at h1
    refine ⟨ad', cap - 1, rfl, by simp only; omega, by omega, fun i y hy => ?_⟩
    simp only at hy
    have hi := (List.getElem?_eq_some_iff.1 hy).1
    obtain ⟨b', off', e1, e2, e3, e4⟩ := h3 (i + 1) y (by simpa using hy)
    simp only [Option.some.injEq, Addr.mk.injEq, and_true] at e1
    obtain ⟨rfl, rfl⟩ := e1
    exact ⟨b, off + 1, had (by omega), e2, e3, by rw [World.cell?_of_block (h6b b e2), show off + 1 + i = off + (i + 1) by omega]; exact e4⟩
/-- One up. -/
theorem wk_up {w0 wr : World} {t : Tree} {ta : Option Addr} {tc n hc m : Nat} {h al : List ByteArray} {ha : Option Addr} {av : Value} (W : WkAt w0 t ta tc ⟨h, al, n⟩ (.slice ha h.length hc) av wr) (hm : m = h.length - 1) :
    WkAt w0 t ta tc ⟨h.dropLast, al, n⟩ (.slice ha m hc) av (wr.setCell ⟨w0.heap.size, 4, none⟩ (.slice ha m hc)) := by
  subst hm
  have hlt := fun k hk => W.own.lt k hk
  have h6b : ∀ k, k ≠ w0.heap.size → (wr.setCell ⟨w0.heap.size, 4, none⟩ (.slice ha (h.length - 1) hc)).heap[k]? = wr.heap[k]? := fun k hk => Below.heap_setCell _ _ _ _ hk
  have ho := ownsRow_take W.own (m := h.length - 1) (by simp only; omega)
  have hlt2 := fun k hk => ho.lt k hk
  refine ⟨?_, ?_, ?_, below_set W.below _ _⟩
  · rw [setCell_row7 W.box]; rfl
  · have h2 := ownsRow_ext' ho (w' := wr.setCell ⟨w0.heap.size, 4, none⟩ (.slice ha (h.length - 1) hc)) fun k hk => h6b k (by have := (hlt2 k hk).1; omega)
    rw [← List.map_take, ← List.dropLast_eq_take] at h2
    simp only [List.length_dropLast]
    exact h2
  · obtain ⟨ad, cap, e, h1, h2, h3⟩ := W.txt
    refine ⟨ad, cap, e, h1, h2, fun i x hx => ?_⟩
    obtain ⟨b, off, e1, e2, e3, e4⟩ := h3 i x hx
    refine ⟨b, off, e1, e2, ?_, by rw [World.cell?_of_block (h6b b e2)]; exact e4⟩
    cases ha with
    | none => simp [Value.ownBlock]
    | some a => simpa [Value.ownBlock] using e3
/-- A name more, ahead of looking. -/
theorem wk_there {w0 wr wa w5 : World} {t : Tree} {ta : Option Addr} {tc : Nat} {s : WkS} {hv av : Value} (W : WkAt w0 t ta tc s hv av wr) (hba : Below wr.heap.size wr wa) (hgrow : wa.grownBy w5 hv.ownBlock) (hkeep : w5.ownsRow (w0.heap.size + 1) 9 1 hv s.here.length (s.here.map Value.string)) : WkAt w0 t ta tc s hv av w5 := by
  have WA := W.on hba
  have zb := lt_of_row WA.box
  have hne : some w0.heap.size ≠ hv.ownBlock := fun e => by have := (WA.own.lt _ e.symm).1; omega
  refine ⟨(hgrow.block _ zb hne).trans WA.box, hkeep, ?_, WA.below.grown hgrow WA.below.size fun k hk => by have := (WA.own.lt _ hk).1; omega⟩
  obtain ⟨ad, cap, e, h1, h2, h3⟩ := WA.txt
  refine ⟨ad, cap, e, h1, h2, fun i x hx => ?_⟩
  obtain ⟨b, off, e1, e2, e3, e4⟩ := h3 i x hx
  exact ⟨b, off, e1, e2, e3, by rw [hgrow.cell_far ⟨b, off + i, none⟩ (lt_of_cell e4) (fun e => e3 e.symm)]; exact e4⟩
/-- It is there. -/
theorem wk_here {w0 wr wa w5 w6 : World} {t : Tree} {ta : Option Addr} {tc n g cap : Nat} {h al : List ByteArray} {x : ByteArray} {hv av : Value} (W : WkAt w0 t ta tc ⟨h, al, n⟩ hv av wr) (hba : Below wr.heap.size wr wa) (hgrow : wa.grownBy w5 hv.ownBlock)
    (hkeep : w5.ownsRow (w0.heap.size + 1) 9 1 hv h.length (h.map Value.string)) (hown : w5.ownsRow (w0.heap.size + 1) 9 1 (.slice (some ⟨g, 0, none⟩) (h.length + 1) cap) (h.length + 1) (h.map Value.string ++ [.string x])) (hat : hv.ownBlock = some g ∨ g = wa.heap.size) (hb6 : Below w5.heap.size w5 w6) :
    WkAt w0 t ta tc ⟨h ++ [x], al, n⟩ (.slice (some ⟨g, 0, none⟩) (h.length + 1) cap) av (w6.setCell ⟨w0.heap.size, 4, none⟩ (.slice (some ⟨g, 0, none⟩) (h.length + 1) cap)) := by
  have W6 := (wk_there W hba hgrow hkeep).on hb6
  have h6b : ∀ k, k ≠ w0.heap.size → (w6.setCell ⟨w0.heap.size, 4, none⟩ (.slice (some ⟨g, 0, none⟩) (h.length + 1) cap)).heap[k]? = w6.heap[k]? := fun k hk => Below.heap_setCell _ _ _ _ hk
  have hlt := hown.lt g rfl
  refine ⟨?_, ?_, ?_, below_set W6.below _ _⟩
  · rw [setCell_row7 W6.box]; rfl
  · have h2 := ownsRow_ext' hown (w' := w6.setCell ⟨w0.heap.size, 4, none⟩ (.slice (some ⟨g, 0, none⟩) (h.length + 1) cap)) fun k hk => by
      have hk2 := hown.lt k hk
      rw [h6b k (by omega)]
      exact hb6.block k hk2.2
    simpa using h2
  · obtain ⟨ad, cap', e, h1, h2, h3⟩ := W.txt
    refine ⟨ad, cap', e, h1, h2, fun i y hy => ?_⟩
    obtain ⟨b, off, e1, e2, e3, e4⟩ := h3 i y hy
    have hbl := lt_of_cell e4
    have hz := hba.size
    refine ⟨b, off, e1, e2, ?_, ?_⟩
    · simp only [Value.ownBlock, ne_eq, Option.some.injEq]
      intro e
      subst e
      rcases hat with h | h
      · exact e3 h
      · simp only at hbl
        omega
    · obtain ⟨ad6, cap6, e', _, _, k3⟩ := W6.txt
      obtain ⟨b6, off6, e1', _, _, e4'⟩ := k3 i y hy
      rw [e] at e'
      simp only [Value.slice.injEq] at e'
      rw [← e'.1, e1] at e1'
      simp only [Option.some.injEq, Addr.mk.injEq, and_true] at e1'
      rw [World.cell?_of_block (h6b b e2), e1'.1, e1'.2]
      exact e4'
theorem txt_is (x : ByteArray) (l : List UInt8) : (x.toList == l) = decide (x = ⟨l.toArray⟩) := by
  rw [ba_toList]
  by_cases h : x = ⟨l.toArray⟩
  · subst h
    simp
  · rw [decide_eq_false h]
    simp only [beq_eq_false_iff_ne, ne_eq]
    intro e
    apply h
    cases x with
    | mk d => simp only [ByteArray.mk.injEq]; simp only at e; rw [← e]

set_option maxRecDepth 100000 in
set_option maxHeartbeats 4000000 in
theorem wstep_any (a : Nat → Addr) (w0 : World) (t : Tree) (ta : Option Addr) (tc B d ds : Nat) (hB : B ≤ w0.heap.size) (hl : Lies w0 B d t.kids (.slice ta t.kids.length tc)) (hr : RisesD d t) (hsh : ShortD ds t) (x : ByteArray) (h al : List ByteArray) (n : Nat) (hv av : Value) (wr : World) (W : WkAt w0 t ta tc ⟨h, x :: al, n⟩ hv av wr) (S : PSen a w0) (hn : n ≤ 16) (hal : al.length ≤ 1000) (hhl : h.length ≤ 1000) (hxs : x.size ≤ maxLen) :
    Calls Tryz.prog 48 #[.pointer (some ⟨w0.heap.size, 0, none⟩)] wr (WkPost a w0 t ta tc (stepR t x h al n)) := by
  obtain ⟨ad0, acap, rfl, hac, hacm, htx⟩ := W.txt
  simp only [List.length_cons] at hac W
  obtain ⟨b, off, rfl, hbw, hbo, hx0⟩ := htx 0 x rfl
  rw [Nat.add_zero] at hx0
  obtain ⟨ha, hc, hvf⟩ : ∃ ha hc, hv = .slice ha h.length hc := by
    rcases W.own.2 with ⟨e, e0⟩ | ⟨g, cap, cur, e, _⟩
    · exact ⟨none, 0, by rw [e]; simp only at e0; rw [e0]⟩
    · exact ⟨_, _, e⟩
  subst hvf
  have hhc : h.length ≤ hc := by
    rcases W.own.2 with ⟨e, e0⟩ | ⟨g, cap, cur, e, _, _, h2, _⟩
    · simp only at e0; omega
    · simp only [Value.slice.injEq] at e; simp only at h2; omega
  obtain ⟨⟨q0, q1, q2, q3, q4, q5, q6⟩, fz⟩ := row7 W.box
  have f5 := fz 5
  have zb := lt_of_row W.box
  have zx := lt_of_cell hx0
  have HT : Hid (∀ av', (∃ ad', av' = .slice ad' al.length (acap - 1) ∧ (0 < al.length → ad' = some ⟨b, off + 1, none⟩)) → WkAt w0 t ta tc ⟨h, al, n⟩ (.slice ha h.length hc) av' (wr.setCell ⟨w0.heap.size, 5, none⟩ av')) := fun av' h => wk_tail W h
  have HS0 : Hid (PSen a w0) := S
  have HLI : Hid (Lies w0 B d t.kids (.slice ta t.kids.length tc)) := hl
  have HRI : Hid (RisesD d t) := hr
  have HSH : Hid (ShortD ds t) := hsh
  have a0 : (0 : Int) < (al.length : Int) + 1 := by omega
  have a1 : (1 : Int) ≤ (al.length : Int) + 1 := by omega
  have a2 : al.length + 1 ≤ acap := hac
  clear W S hl hr hsh htx fz hbo
  go_enter Tryz.func48, Tryz.ntmps48
  go_upto_region 3 with fail
  generalize hgen : (if acap = 1 then some (⟨b, off, none⟩ : Addr) else some ⟨b, off + 1, none⟩) = ad1
  have had : 0 < al.length → ad1 = some ⟨b, off + 1, none⟩ := fun h0 => by rw [← hgen, if_neg (by omega)]
  have hW1 := HT.out (.slice ad1 al.length (acap - 1)) ⟨ad1, rfl, had⟩
  clear HT hgen had q0 q1 q2 q3 q4 q5 q6 f5 zb zx hx0 hbw
  generalize wr.setCell ⟨w0.heap.size, 5, none⟩ (.slice ad1 al.length (acap - 1)) = w1 at hW1 ⊢
  generalize acap - 1 = ac1 at hW1 ⊢
  have W1 : Hid _ := hW1
  clear hW1
  by_cases h0 : x = ByteArray.empty
  · have HR : Hid (stepR t x h al n = .ok ⟨h, al, n⟩) := show _ = _ by unfold stepR; rw [if_pos (.inl h0)]
    have e0 : (x.toList == []) = true := by rw [txt_is]; exact decide_eq_true h0
    clear h0
    go_wp2_with fail
    go_ret
    exact .inr ⟨_, _, _, HR.out, rfl, W1.out⟩
  have e0 : (x.toList == []) = false := by rw [txt_is]; exact decide_eq_false h0
  by_cases h1 : x = dotB
  · have HR : Hid (stepR t x h al n = .ok ⟨h, al, n⟩) := show _ = _ by unfold stepR; rw [if_pos (.inr h1)]
    have e1 : (x.toList == [46]) = true := by rw [txt_is]; exact decide_eq_true h1
    clear h0 h1
    go_wp2_with fail
    go_ret
    exact .inr ⟨_, _, _, HR.out, rfl, W1.out⟩
  have e1 : (x.toList == [46]) = false := by rw [txt_is]; exact decide_eq_false h1
  have h01 : ¬ (x = ByteArray.empty ∨ x = dotB) := fun h => h.elim h0 h1
  by_cases h2 : x = dotsB
  · have HR : Hid (stepR t x h al n = .ok ⟨h.dropLast, al, n⟩) := show _ = _ by unfold stepR; rw [if_neg h01, if_pos h2]
    have e2 : (x.toList == [46, 46]) = true := by rw [txt_is]; exact decide_eq_true h2
    obtain ⟨⟨q0, q1, q2, q3, q4, q5, q6⟩, fz⟩ := row7 W1.out.box
    have f4 := fz 4
    have zb := lt_of_row W1.out.box
    have HUP : Hid (∀ m, m = h.length - 1 → WkAt w0 t ta tc ⟨h.dropLast, al, n⟩ (.slice ha m hc) (.slice ad1 al.length ac1) (w1.setCell ⟨w0.heap.size, 4, none⟩ (.slice ha m hc))) := fun m hm => wk_up W1.out hm
    clear h0 h1 h2 h01 fz
    have hlw : IntKind.i64.wrap ((h.length : Int) - 1) = (h.length : Int) - 1 := by simp (disch := omega) only [IntWalk.i64_in]
    go_upto_region 8 with fail
    go_region
    go_wp2_with fail
    go_ret
    exact .inr ⟨_, _, _, HR.out, rfl, (HUP.out _ (by omega)).on (Below.refl _ _).drew⟩
  have e2 : (x.toList == [46, 46]) = false := by rw [txt_is]; exact decide_eq_false h2
  have SR : PSen a w1 := HS0.out.below W1.out.below
  have HNM : Hid _ := name_any x w1 hxs
  cases hnm : nameB x with
  | false =>
    have HR : Hid (stepR t x h al n = .error 4) := show _ = _ by unfold stepR; rw [if_neg h01, if_neg h2, if_pos hnm]
    rw [hnm] at HNM
    have c4 := SR.is.name
    have z4 := lt_of_cell c4
    have HB : Hid (Below w0.heap.size w0 w1) := W1.out.below
    clear h0 h1 h2 h01 SR
    go_wp2_with fail
    refine Calls.mono HNM.out ?_
    rintro e w2 ⟨rfl, rfl⟩
    go_wp2_with fail
    go_ret
    exact .inl ⟨4, HR.out, rfl, HB.out⟩
  | true =>
  rw [hnm] at HNM
  obtain ⟨⟨q0, q1, q2, q3, q4, q5, q6⟩, fz⟩ := row7 W1.out.box
  have zb := lt_of_row W1.out.box
  obtain ⟨i0, hi0, hz⟩ := Option.map_eq_some_iff.1 infoStr
  simp only [Prod.mk.injEq] at hz
  obtain ⟨hz0, hz1, hz2⟩ := hz
  have HOWN : Hid (w1.ownsRow (w0.heap.size + 1) 9 1 (.slice ha h.length hc) h.length (h.map Value.string)) := W1.out.own
  have HN : Hid ((w1.alloc (.cells #[.string x] 9)).heap[w1.heap.size]? = some (.cells #[.string x] 9 (0, 0))) := heap_alloc_new w1 _
  have HNO : Hid (atR (h ++ [x]) t = none → stepR t x h al n = .error 5) := fun he => by unfold stepR; rw [if_neg h01, if_neg h2, if_neg (by rw [hnm]; decide), he]
  have HYES : Hid (∀ k, atR (h ++ [x]) t = some k → stepR t x h al n = if isLink k = true then linkR k.data h al n else .ok ⟨h ++ [x], al, n⟩) := fun k he => by unfold stepR; rw [if_neg h01, if_neg h2, if_neg (by rw [hnm]; decide), he]
  clear h0 h1 h2 h01 SR fz hnm
  go_wp2_with fail
  refine Calls.mono HNM.out ?_
  rintro e w2 ⟨rfl, rfl⟩
  clear HNM
  go_wp2_with (at_builtin; go_must (refine wpList_append_keep _ (by rfl) _ _ 28 (by rfl) (w0.heap.size + 1) 9 i0 (.string { data := #[] }) 16 Tryz.underlying28 hi0 hz0 hz1 hz2 rfl (.slice ha h.length hc) h.length (h.map Value.string) (by rfl) (World.ownsRow.alloc HOWN.out _) ⟨w2.heap.size, 0, none⟩ 1 1 [.string x] (by rfl) (by rfl) (World.news_of_block (cs := #[.string x]) (t := 9) (fr := (0, 0)) HN.out) (by simp [Value.oneCell']) (by omega) (by unfold maxLen; omega) (by omega) (by simp; omega) ?_; intro g cap' w4 hown1 hgrow hat hkeep; have HG : Hid _ := hgrow; have HO1 : Hid _ := hown1; have HAT : Hid _ := hat; have HKE : Hid _ := hkeep; clear hgrow hown1 hat hkeep))
  have hba : Below w2.heap.size w2 (w2.alloc (.cells #[.string x] 9)) := (Below.refl _ _).alloc (Nat.le_refl _) _
  have W4 : Hid (WkAt w0 t ta tc ⟨h, al, n⟩ (.slice ha h.length hc) (.slice ad1 al.length ac1) w4) := wk_there W1.out hba HG.out HKE.out
  have HH6 : Hid (∀ w6, Below w4.heap.size w4 w6 → WkAt w0 t ta tc ⟨h ++ [x], al, n⟩ (.slice (some ⟨g, 0, none⟩) (h.length + 1) cap') (.slice ad1 al.length ac1) (w6.setCell ⟨w0.heap.size, 4, none⟩ (.slice (some ⟨g, 0, none⟩) (h.length + 1) cap'))) := fun w6 hb6 => wk_here W1.out hba HG.out HKE.out HO1.out HAT.out hb6
  have HTX : Hid (Texts w4 (.slice (some ⟨g, 0, none⟩) (h.length + 1) cap') (h ++ [x])) := Texts.of_own (base := w0.heap.size + 1) (by rw [List.length_append, List.map_append]; exact HO1.out)
  clear hba HG HKE HO1 HAT HN HOWN q0 q1 q2 q3 q4 q5 q6 hz0 hz1 hz2 hi0 W1
  have zb4 := lt_of_row W4.out.box
  obtain ⟨⟨q0, q1, q2, q3, _⟩, _⟩ := row7 W4.out.box
  have HNA : Hid (NodeAt w4 (w0.heap.size + 1) d w0.heap.size 0 t) := ⟨by omega, _, q0, q1, q2, q3, (HLI.out.below W4.out.below hB).up (by omega) (Nat.le_refl _)⟩
  have HAT : Hid _ := at_any (w0.heap.size + 1) d w0.heap.size 0 t (h ++ [x]) _ w4 (by omega) HNA.out HRI.out HTX.out (by rw [List.length_append, List.length_singleton]; omega)
  clear q0 q1 q2 q3 HNA HTX HRI
  refine Calls.mono HAT.out ?_
  clear HAT
  rintro e w5 ⟨hb5, ⟨h3, rfl⟩ | ⟨k, d', kb, ko, h3, rfl, hk, hd'⟩⟩
  · have HR : Hid (stepR t x h al n = .error 5) := HNO.out h3
    have W5 : Hid _ := W4.out.on hb5
    have HB : Hid (Below w0.heap.size w0 w5) := W5.out.below
    have c5 := (HS0.out.below HB.out).no
    have z5 := lt_of_cell c5
    clear hb5 h3
    go_wp2_with fail
    go_ret
    exact .inl ⟨5, HR.out, rfl, HB.out⟩
  have W5 : Hid (WkAt w0 t ta tc ⟨h, al, n⟩ (.slice ha h.length hc) (.slice ad1 al.length ac1) w5) := W4.out.on hb5
  have HH5 : Hid _ := HH6.out w5 hb5
  obtain ⟨hkb, uk, c0, c1, c2, c3, hlk⟩ := hk.below hb5 (by omega)
  cases hik : isLink k with
  | true =>
    have HR : Hid (stepR t x h al n = linkR k.data h al n) := show _ = _ by rw [HYES.out k h3, if_pos hik]
    have HF : Hid _ := wfollow_any a w0 t ta tc h al n _ _ k.data w5 W5.out HS0.out (short_link HSH.out h3 hik) hn hal
    have e3 : (k.kind.toList == [108, 105, 110, 107]) = true := hik
    clear hb5 h3 hk hlk hik HYES HNO HH5 HH6
    go_wp2_with fail
    refine Calls.mono HF.out ?_
    intro e w6 hp
    have HP : Hid _ := hp
    clear hp HF c0 c1 c2 c3
    rcases HP.out with ⟨er, h1, rfl, h2⟩ | ⟨s6, hv6, av6, h1, rfl, h2⟩
    · have H2 : Hid _ := h2
      clear h2
      go_wp2_with fail
      go_ret
      exact .inl ⟨er, HR.out.trans h1, rfl, H2.out⟩
    · have H2 : Hid _ := h2
      clear h2
      go_wp2_with fail
      go_ret
      exact .inr ⟨s6, hv6, av6, HR.out.trans h1, rfl, H2.out⟩
  | false =>
    have HR : Hid (stepR t x h al n = .ok ⟨h ++ [x], al, n⟩) := show _ = _ by rw [HYES.out k h3, if_neg (by rw [hik]; decide)]
    have e3 : (k.kind.toList == [108, 105, 110, 107]) = false := hik
    obtain ⟨⟨q0, q1, q2, q3, q4, q5, q6⟩, fz⟩ := row7 W5.out.box
    have f4 := fz 4
    have zb5 := lt_of_row W5.out.box
    clear hb5 h3 hk hlk hik HYES HNO HH6 fz
    go_wp2_with fail
    go_ret
    exact .inr ⟨_, _, _, HR.out, rfl, HH5.out⟩
end Go.Proofs.YtpjjpmikhjlgnaaGreatDoor
namespace Go.Proofs.YtpjjpmikhjlgnaaGreatDoor
open Go.Shelf Go.RowKit

/-- The numbers of the library's texts at this program. -/
def jren : Go.Shelf.Ren := ⟨fun | 156 => 49 | 165 => 72 | 166 => 73 | 169 => 74 | 240 => 100 | 241 => 101 | 276 => 110 | 277 => 111 | n => n, fun | 0 => 0 | 3 => 3 | 4 => 4 | 5 => 5 | 9 => 9 | 20 => 20 | 31 => 28 | 37 => 121 | 70 => 120 | 72 => 123 | 75 => 30 | 76 => 125 | 80 => 127 | 127 => 151 | 164 => 133 | n => n, fun | n => n⟩
theorem lays156 : Lays.n156 Tryz.prog jren := {
  mixed := by kernel_rfl
  f156 := Tryz.func49.trans (congrArg some (by kernel_rfl))
  f165 := Tryz.func72.trans (congrArg some (by kernel_rfl))
  f166 := Tryz.func73.trans (congrArg some (by kernel_rfl))
  f169 := Tryz.func74.trans (congrArg some (by kernel_rfl))
  f240 := Tryz.func100.trans (congrArg some (by kernel_rfl))
  f241 := Tryz.func101.trans (congrArg some (by kernel_rfl))
  f276 := Tryz.func110.trans (congrArg some (by kernel_rfl))
  f277 := Tryz.func111.trans (congrArg some (by kernel_rfl))
  t0 := Tryz.underlying0
  a0 := Tryz.isAgg0
  z0 := Tryz.sizeOf0
  v0 := Tryz.zeroValue0
  t3 := Tryz.underlying3
  a3 := Tryz.isAgg3
  z3 := Tryz.sizeOf3
  v3 := Tryz.zeroValue3
  t4 := Tryz.underlying4
  a4 := Tryz.isAgg4
  z4 := Tryz.sizeOf4
  v4 := Tryz.zeroValue4
  t9 := Tryz.underlying9
  a9 := Tryz.isAgg9
  z9 := Tryz.sizeOf9
  v9 := Tryz.zeroValue9
  t20 := Tryz.underlying20
  a20 := Tryz.isAgg20
  z20 := Tryz.sizeOf20
  v20 := Tryz.zeroValue20
  t31 := Tryz.underlying28
  a31 := Tryz.isAgg28
  z31 := Tryz.sizeOf28
  v31 := Tryz.zeroValue28
  t37 := Tryz.underlying121
  a37 := Tryz.isAgg121
  z37 := Tryz.sizeOf121
  v37 := Tryz.zeroValue121
  t70 := Tryz.underlying120
  a70 := Tryz.isAgg120
  z70 := Tryz.sizeOf120
  v70 := Tryz.zeroValue120
  t72 := Tryz.underlying123
  a72 := Tryz.isAgg123
  z72 := Tryz.sizeOf123
  v72 := Tryz.zeroValue123
  t75 := Tryz.underlying30
  a75 := Tryz.isAgg30
  z75 := Tryz.sizeOf30
  v75 := Tryz.zeroValue30
  t76 := Tryz.underlying125
  a76 := Tryz.isAgg125
  z76 := Tryz.sizeOf125
  v76 := Tryz.zeroValue125
  t127 := Tryz.underlying151
  a127 := Tryz.isAgg151
  z127 := Tryz.sizeOf151
  v127 := Tryz.zeroValue151
  t164 := Tryz.underlying133
  a164 := Tryz.isAgg133
  z164 := Tryz.sizeOf133
  v164 := Tryz.zeroValue133 }
theorem jextra : Builder.Extra Tryz.prog jren := {
  sizeBuilder := by kernel_rfl
  liesBuilder := by kernel_rfl
  t5 := Tryz.underlying5
  a5 := Tryz.isAgg5
  z5 := Tryz.sizeOf5
  v5 := Tryz.zeroValue5
  infoByte := by kernel_rfl
  cellsByte := by kernel_rfl
  sizeByte := by kernel_rfl
  neB5 := by decide }
/-- Texts joined by strokes. -/
theorem join_any (xs : List ByteArray) (v : Value) (base : Nat) (w : World) (h : w.ownsRow base 9 1 v xs.length (xs.map Value.string)) (hN : xs.length ≤ 100000) (hlen : (Lib.join (xs.map (·.data.toList)) [47]).length ≤ 140737488355328) :
    Calls Tryz.prog 49 #[v, .string { data := #[47] }] w fun e w' => e = .returned (.string ⟨(Lib.join (xs.map (·.data.toList)) [47]).toArray⟩) ∧ Below w.heap.size w w' := by
  rcases h.2 with ⟨rfl, h0⟩ | ⟨g, cap, cur, rfl, hb, hh, hnc, hcm, _⟩
  · obtain rfl : xs = [] := List.eq_nil_of_length_eq_zero h0
    go_enter Tryz.func49, Tryz.ntmps49
    go_wp2_with fail
    go_ret
    exact ⟨rfl, Below.refl _ _⟩
  · refine Any.strings_Join lays156 jextra g 0 cap xs { data := #[47] } w (fun j x hx => ?_) (lt_of_row hh) (by omega) hnc hlen
    have hc := h.cells (g := g) rfl j (.string x) (by rw [List.getElem?_map, hx]; rfl)
    have hadd : (⟨g, 0, none⟩ : Addr).add j = ⟨g, 0 + j, none⟩ := by unfold Addr.add; split <;> simp_all
    rw [hadd] at hc
    exact hc
end Go.Proofs.YtpjjpmikhjlgnaaGreatDoor
namespace Go.Proofs.YtpjjpmikhjlgnaaGreatDoor
open Go.RowKit
attribute [local go_sem ↓] Go.wp_at_zero Go.wp_at_succ

/-- What Follow tells: an error's number, or a path. -/
def followT (d : Nat) (t : Tree) (s : ByteArray) : Except Nat ByteArray := match treeErr d t with
  | some e => .error e
  | none => match splitR s with
    | none => .error 4
    | some l => match followS t ⟨[], l, 0⟩ with
      | .error e => .error e
      | .ok h => .ok (tellP h)
theorem followT_tree {d er : Nat} {t : Tree} {s : ByteArray} (h : treeErr d t = some er) : followT d t s = .error er := by unfold followT; rw [h]
theorem followT_split {d : Nat} {t : Tree} {s : ByteArray} (h : treeErr d t = none) (h2 : splitR s = none) : followT d t s = .error 4 := by unfold followT; rw [h]; simp only [h2]
theorem followT_err {d er : Nat} {t : Tree} {s : ByteArray} {l : List ByteArray} (h : treeErr d t = none) (h2 : splitR s = some l) (h3 : followS t ⟨[], l, 0⟩ = .error er) : followT d t s = .error er := by unfold followT; rw [h]; simp only [h2, h3]
theorem followT_ok {d : Nat} {t : Tree} {s : ByteArray} {l r : List ByteArray} (h : treeErr d t = none) (h2 : splitR s = some l) (h3 : followS t ⟨[], l, 0⟩ = .ok r) : followT d t s = .ok (tellP r) := by unfold followT; rw [h]; simp only [h2, h3]
/-- What Follow hands back. -/
def FolPost (a : Nat → Addr) (d : Nat) (t : Tree) (s : ByteArray) (w : World) (e : Ending) (w' : World) : Prop := Below w.heap.size w w' ∧
  ((∃ er, followT d t s = .error er ∧ e = .returned (.tuple #[.string { data := #[] }, .iface 181 (.pointer (some (a er)))])) ∨ ∃ p, followT d t s = .ok p ∧ e = .returned (.tuple #[.string p, .nilIface]))
theorem join_tell (l : List ByteArray) : strokeB ++ ⟨(Lib.join (l.map (·.data.toList)) [47]).toArray⟩ = tellP l := by
  unfold tellP
  rw [joinB_isEmpty]
  apply ba_ext'
  cases l with
  | nil => rfl
  | cons x r =>
    rw [if_neg (by simp), ByteArray.data_append, Array.toList_append, joinB_list, List.map_cons, Lib.join_cons]
    show [47] ++ (x.data.toList ++ Lib.joinTail [47] (r.map (·.data.toList))) = joinL (x :: r)
    have e : Lib.joinTail [47] (r.map (·.data.toList)) = joinL r := by
      unfold Lib.joinTail joinL
      rw [List.map_map, List.flatMap_def]
      rfl
    rw [e]
    rfl
theorem join_short {l : List ByteArray} (h8 : l.length ≤ 8) (hn : l.all nameB = true) : (Lib.join (l.map (·.data.toList)) [47]).length ≤ 1000 := by
  have h := tell_size h8 hn
  rw [← join_tell, ByteArray.size_append] at h
  have e : (ByteArray.mk (Lib.join (l.map (·.data.toList)) [47]).toArray).size = (Lib.join (l.map (·.data.toList)) [47]).length := by
    show (Lib.join (l.map (·.data.toList)) [47]).toArray.size = _
    simp
  omega
/-- The measure, read in memory. -/
def wkMem (b : Nat) (w : World) : Nat := match w.cell? ⟨b, 5, none⟩, w.cell? ⟨b, 6, none⟩ with
  | some (.slice _ n _), some (.int _ k) => n + 42 * (17 - k.toNat)
  | _, _ => 0
theorem wkMem_is {w0 wr : World} {t : Tree} {ta : Option Addr} {tc : Nat} {s : WkS} {hv av : Value} (W : WkAt w0 t ta tc s hv av wr) : wkMem w0.heap.size wr = wkM s := by
  obtain ⟨⟨_, _, _, _, _, q5, q6⟩, _⟩ := row7 W.box
  obtain ⟨ad, cap, e, _⟩ := W.txt
  unfold wkMem wkM
  rw [q5, q6, e]
  simp
/-- The state of the loop. -/
structure FolAt (w0 : World) (t : Tree) (ta : Option Addr) (tc : Nat) (l : List ByteArray) (s : WkS) (hv av : Value) (wr : World) : Prop where
  at_ : WkAt w0 t ta tc s hv av wr
  clear : Clear t s.here
  links : s.links ≤ 16
  sizes : ∀ y ∈ s.ahead, y.size ≤ 40
  less : wkM s ≤ 722
  same : followS t s = followS t ⟨[], l, 0⟩

set_option maxRecDepth 100000 in
set_option maxHeartbeats 4000000 in
theorem follow_any (a : Nat → Addr) (d B : Nat) (t : Tree) (u : Value) (s : ByteArray) (w : World) (S : PSen a w) (hB : B ≤ w.heap.size) (hl : Lies w B d t.kids u) (hal : Alive ck ckOk 0 (pre d ByteArray.empty 0 t)) (hs : s.size < 4294967281) :
    Calls Tryz.prog 19 #[.agg #[.string t.kind, .string t.data, .bool t.exec, u], .string s] w (FolPost a d t s w) := by
  obtain ⟨ta, tc, rfl⟩ := hl.form
  have hfit : Fit d t := hl.fit
  have hA : Below w.heap.size w (w.alloc (.cells #[.string t.kind, .string t.data, .bool t.exec, .slice ta t.kids.length tc] 24)) := (Below.refl _ _).alloc (Nat.le_refl _) _
  have hz : (w.alloc (.cells #[.string t.kind, .string t.data, .bool t.exec, .slice ta t.kids.length tc] 24)).heap.size = w.heap.size + 1 := by simp
  have hbox := row_alloc' w #[.string t.kind, .string t.data, .bool t.exec, .slice ta t.kids.length tc] 24
  have HBG : Hid _ := pbegin_any a d B t (.slice ta t.kids.length tc) s _ (S.below hA) (by rw [hz]; omega) (hl.below hA hB) hal hs
  have HSE : Hid (PSen a w) := S
  have HA : Hid _ := hA
  have HLI : Hid (Lies w B d t.kids (.slice ta t.kids.length tc)) := hl
  have HBOX : Hid _ := hbox
  have HFIT : Hid (Fit d t) := hfit
  clear hA S hl hal hbox hfit
  go_enter Tryz.func19, Tryz.ntmps19
  go_wp2_with fail
  refine Calls.mono HBG.out ?_
  clear HBG
  rintro e w1 ⟨hb1, h1⟩
  have HB1 : Hid (Below w.heap.size w w1) := HA.out.trans (hb1.mono (by omega))
  have hz1 := hb1.size
  rw [hz] at hz1
  have hbox1 := (hb1.block w.heap.size (by omega)).trans HBOX.out
  rcases h1 with ⟨er, ht, rfl⟩ | ⟨ht, h2, rfl⟩ | ⟨l, v, ht, h2, rfl, hv, hrm⟩
  · have HP : Hid (FolPost a d t s w (.returned (.tuple #[.string { data := #[] }, .iface 181 (.pointer (some (a er)))])) w1) := ⟨HB1.out, .inl ⟨er, followT_tree ht, rfl⟩⟩
    clear ht hb1 hbox1
    go_wp2_with fail
    go_ret2
    exact HP.out
  · have HP : Hid (FolPost a d t s w (.returned (.tuple #[.string { data := #[] }, .iface 181 (.pointer (some (a 4)))])) w1) := ⟨HB1.out, .inl ⟨4, followT_split ht h2, rfl⟩⟩
    clear ht h2 hb1 hbox1
    go_wp2_with fail
    go_ret2
    exact HP.out
  obtain ⟨va, vc, rfl, hvc, hvm⟩ := hrm
  obtain ⟨va', vc', e', hcs⟩ := hv
  simp only [Value.slice.injEq] at e'
  obtain ⟨rfl, _, rfl⟩ := e'
  obtain ⟨⟨y0, y1, y2, y3⟩, _⟩ := row4b hbox1
  have hl8 := splitR_len h2
  have HN : Hid (∀ y ∈ l, y.size ≤ 40) := fun y hy => name_short (List.all_eq_true.1 (splitR_names h2) y hy)
  have HT : Hid (treeErr d t = none) := ht
  have H2 : Hid (splitR s = some l) := h2
  have hW0 : WkAt w1 t ta tc ⟨[], l, 0⟩ (.slice none 0 0) (.slice va l.length vc) (w1.alloc (.cells #[.string t.kind, .string t.data, .bool t.exec, .slice ta t.kids.length tc, .slice none 0 0, .slice va l.length vc, .int .i64 0] 91)) := by
    refine ⟨row_alloc' w1 _ _, World.ownsRow_nil _ _ _ _, ⟨va, vc, rfl, hvc, hvm, fun i x hx => ?_⟩, (Below.refl _ _).alloc (Nat.le_refl _) _⟩
    obtain ⟨b, off, e1, e2⟩ := hcs i x hx
    have hlt := lt_of_cell e2
    exact ⟨b, off, e1, by simp only at hlt; omega, by simp [Value.ownBlock], by rw [((Below.refl w1.heap.size w1).alloc (Nat.le_refl _) _).cell (p := ⟨b, off + i, none⟩) hlt]; exact e2⟩
  have HW0 : Hid _ := hW0
  have HSH : Hid (ShortD d t) := short_well HFIT.out ht
  have HRI : Hid (RisesD d t) := rises_well HFIT.out ht
  have HLI1 : Hid (Lies w1 B d t.kids (.slice ta t.kids.length tc)) := HLI.out.below HB1.out hB
  have HS1 : Hid (PSen a w1) := HSE.out.below HB1.out
  clear ht h2 hb1 hbox1 hcs hW0
  go_wp2_with fail
  go_loopw [] (fun wr => ∃ s hv av, FolAt w1 t ta tc l s hv av wr) (fun wr => wkMem w1.heap.size wr)
  case atStart =>
    exact ⟨⟨[], l, 0⟩, _, _, HW0.out, clear_nil t, Nat.zero_le _, HN.out, by unfold wkM; simp only; omega, rfl⟩
  case round =>
    obtain ⟨⟨h, al, n⟩, hv, av, F⟩ := hrel
    have HF : Hid (FolAt w1 t ta tc l ⟨h, al, n⟩ hv av wr) := F
    obtain ⟨⟨q0, q1, q2, q3, q4, q5, q6⟩, _⟩ := row7 F.at_.box
    obtain ⟨ad, acap, rfl, _, _, _⟩ := F.at_.txt
    have zb := lt_of_row F.at_.box
    have h8 : h.length ≤ 8 := clear_len HFIT.out HT.out F.clear
    have hms : wkMem w1.heap.size wr = wkM ⟨h, al, n⟩ := wkMem_is F.at_
    have HM : Hid _ := hms
    have hless := F.less
    unfold wkM at hless
    simp only at hless q5
    obtain ⟨ha, hc, rfl⟩ : ∃ ha hc, hv = .slice ha h.length hc := by
      rcases F.at_.own.2 with ⟨e, e0⟩ | ⟨g, cap, cur, e, _⟩
      · exact ⟨none, 0, by rw [e]; simp only at e0; rw [e0]⟩
      · exact ⟨_, _, e⟩
    cases al with
    | nil =>
      have hJ := join_any h _ _ wr F.at_.own (by omega) (by have := join_short h8 (List.all_eq_true.2 F.clear.1); omega)
      have hsh := join_short h8 (List.all_eq_true.2 F.clear.1)
      have htl := join_tell h
      have hJs : (ByteArray.mk (Lib.join (h.map (·.data.toList)) [47]).toArray).size ≤ 1000 := by
        show (Lib.join (h.map (·.data.toList)) [47]).toArray.size ≤ _
        simpa using hsh
      generalize (ByteArray.mk (Lib.join (h.map (·.data.toList)) [47]).toArray) = J at hJ htl hJs
      have hadd : ∀ w', (Op.stringOp .add { data := #[47] } J).run Tryz.prog w' = .ok (.string (tellP h)) w' := fun w' => by
        have e := run_string_add_sum (P := Tryz.prog) w' strokeB J (by have : strokeB.size = 1 := rfl; omega)
        rw [htl] at e
        exact e
      have HJ : Hid _ := hJ
      have hR : followT d t s = .ok (tellP h) := followT_ok HT.out H2.out (by rw [← F.same]; exact followS_end)
      have HR : Hid _ := hR
      have HB : Hid (Below w.heap.size w wr) := HB1.out.trans (F.at_.below.mono HB1.out.size)
      clear F hms hless hR hJ hsh htl hJs
      generalize tellP h = p at hadd HR
      go_wp2_with fail
      refine Calls.mono HJ.out ?_
      clear HJ q0 q1 q2 q3 q4 q5 q6
      rintro e w3 ⟨rfl, hb3⟩
      have HP : Hid (FolPost a d t s w (.returned (.tuple #[.string p, .nilIface])) w3) := ⟨HB.out.trans (hb3.mono HB.out.size), .inr ⟨p, HR.out, rfl⟩⟩
      clear hb3
      go_wp2_with fail
      go_ret2
      exact HP.out
    | cons x al =>
      have HST : Hid _ := wstep_any a w1 t ta tc B d d (by omega) HLI1.out HRI.out HSH.out x h al n _ _ wr F.at_ HS1.out F.links (by simp only [List.length_cons] at hless; omega) (by omega) (by have := F.sizes x (by simp); unfold maxLen; omega)
      have ha0 : (0 : Int) < (al.length : Int) + 1 := by omega
      clear F hms hless
      go_wp2_with fail
      refine Calls.mono HST.out ?_
      clear HST q0 q1 q2 q3 q4 q5 q6
      rintro e w3 (⟨er, h3, rfl, hb3⟩ | ⟨s3, hv3, av3, h3, rfl, hw3⟩)
      · have hR : followT d t s = .error er := followT_err HT.out H2.out (by rw [← HF.out.same]; exact followS_err h3)
        have HP : Hid (FolPost a d t s w (.returned (.tuple #[.string { data := #[] }, .iface 181 (.pointer (some (a er)))])) w3) := ⟨HB1.out.trans (hb3.mono HB1.out.size), .inl ⟨er, hR, rfl⟩⟩
        clear h3 hb3 hR
        go_wp2_with fail
        go_ret2
        exact HP.out
      · have F := HF.out
        have hln : n ≤ 16 := F.links
        have hsl := step_less HSH.out hln h3
        have hms3 := wkMem_is hw3
        have HNX : Hid (FolAt w1 t ta tc l s3 hv3 av3 w3) := ⟨hw3, clear_step F.clear h3, hsl.2, sizes_step HSH.out h3 fun y hy => F.sizes y (by simp [hy]), by have := F.less; omega, by rw [← F.same]; exact (followS_on HSH.out hln h3).symm⟩
        have hmm : wkMem w1.heap.size w3 < wkMem w1.heap.size wr := by rw [hms3, HM.out]; exact hsl.1
        have HMM : Hid _ := hmm
        clear h3 hw3 F hln hsl hms3 hmm
        go_wp2_with fail
        go_roundw
        case rel => exact ⟨s3, hv3, av3, HNX.out⟩
        case measure => exact HMM.out
end Go.Proofs.YtpjjpmikhjlgnaaGreatDoor
