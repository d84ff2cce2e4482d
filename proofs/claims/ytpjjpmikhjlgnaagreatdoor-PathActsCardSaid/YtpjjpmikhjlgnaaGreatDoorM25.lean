/-
  Package path's walker in memory, and the contract of its method follow.
  Conditions: those that each states.
-/
import Derived.Test.YtpjjpmikhjlgnaaGreatDoorM21
import Derived.Test.YtpjjpmikhjlgnaaGreatDoorM12
import Derived.Test.YtpjjpmikhjlgnaaGreatDoorM24
import Derived.Lib.SplitLaws
import Derived.Laws.OwnMore
import Derived.Deep.RegionHeld3
import Derived.Deep.DrawnRows
import Derived.Deep.AppendLies
import Derived.Deep.DeepCutAuto
import Derived.Deep.DeepFit
namespace Go.Proofs.YtpjjpmikhjlgnaaGreatDoor
open Go.RowKit
attribute [local go_sem ↓] Go.wp_at_zero Go.wp_at_succ

theorem infoStr : (Tryz.prog.info? 9).map (fun i => (i.zero, i.size, i.bytes)) = some (some (.string { data := #[] }), 1, 16) := by kernel_rfl
theorem cutL_count : ∀ (l : List UInt8), (cutL l).length = l.count 47 + 1
  | [] => rfl
  | c :: l => by
    have ih := cutL_count l
    by_cases hc : c = 47
    · subst hc
      rw [cutL_stroke, List.length_cons, ih, List.count_cons_self]
    · obtain ⟨h, t, e⟩ : ∃ h t, cutL l = h :: t := by
        cases h : cutL l with
        | nil => exact absurd h (cutL_ne l)
        | cons a b => exact ⟨a, b, rfl⟩
      rw [cutL_byte hc e, List.count_cons_of_ne (Ne.symm (Ne.symm hc))]
      rw [e] at ih
      simpa using ih
theorem split_all (s : ByteArray) : Lib.splitB strokeB 0 (Lib.countB s strokeB) s = cutB s ∧ Lib.countB s strokeB + 1 = (cutB s).length := by
  have hc : Lib.countB s strokeB = s.data.toList.count 47 := Lib.count_one 47 s.data.toList
  have hl := cutL_count s.data.toList
  have hd := Lib.splitB_data strokeB 0 (Lib.countB s strokeB) s
  rw [show strokeB.data.toList = [47] from rfl, (splitK_cut (Lib.countB s strokeB) s.data.toList).1 (by omega)] at hd
  have e : Lib.splitB strokeB 0 (Lib.countB s strokeB) s = cutB s := by
    unfold cutB
    rw [← hd, map_back]
  exact ⟨e, by unfold cutB; rw [List.length_map]; omega⟩
theorem row7 {w : World} {h : Nat} {x0 x1 x2 x3 x4 x5 x6 : Value} {t : TypeId} (hr : w.heap[h]? = some (.cells #[x0, x1, x2, x3, x4, x5, x6] t (0, 0))) :
    (w.cell? ⟨h, 0, none⟩ = some x0 ∧ w.cell? ⟨h, 1, none⟩ = some x1 ∧ w.cell? ⟨h, 2, none⟩ = some x2 ∧ w.cell? ⟨h, 3, none⟩ = some x3 ∧ w.cell? ⟨h, 4, none⟩ = some x4 ∧ w.cell? ⟨h, 5, none⟩ = some x5 ∧ w.cell? ⟨h, 6, none⟩ = some x6) ∧ ∀ i, w.frozen? ⟨h, i, none⟩ = false := by
  refine ⟨⟨?_, ?_, ?_, ?_, ?_, ?_, ?_⟩, fun i => free_of_row hr i⟩
  all_goals (rw [cell_of_row w _ _ _ _ _ hr]; rfl)

/-- The walker in its block: where it is in a row of its own; what is left in any row but that. -/
structure WkAt (w0 : World) (t : Tree) (ta : Option Addr) (tc : Nat) (s : WkS) (hv av : Value) (wr : World) : Prop where
  box : wr.heap[w0.heap.size]? = some (.cells #[.string t.kind, .string t.data, .bool t.exec, .slice ta t.kids.length tc, hv, av, .int .i64 (s.links : Int)] 91 (0, 0))
  own : wr.ownsRow (w0.heap.size + 1) 9 1 hv s.here.length (s.here.map Value.string)
  txt : ∃ ad cap, av = .slice ad s.ahead.length cap ∧ s.ahead.length ≤ cap ∧ cap ≤ maxLen ∧ ∀ (i : Nat) (x : ByteArray), s.ahead[i]? = some x → ∃ b off, ad = some ⟨b, off, none⟩ ∧ b ≠ w0.heap.size ∧ hv.ownBlock ≠ some b ∧ wr.cell? ⟨b, off + i, none⟩ = some (.string x)
  below : Below w0.heap.size w0 wr
theorem WkAt.ev {w0 : World} {t : Tree} {ta : Option Addr} {tc : Nat} {s s' : WkS} {hv av : Value} {wr : World} (W : WkAt w0 t ta tc s hv av wr) (e : s = s') : WkAt w0 t ta tc s' hv av wr := e ▸ W
/-- What a step of the walker hands back. -/
def WkPost (a : Nat → Addr) (w0 : World) (t : Tree) (ta : Option Addr) (tc : Nat) (R : Except Nat WkS) (e : Ending) (w' : World) : Prop :=
  (∃ er, R = .error er ∧ e = .returned (.iface 181 (.pointer (some (a er)))) ∧ Below w0.heap.size w0 w') ∨ ∃ s hv av, R = .ok s ∧ e = .returned .nilIface ∧ WkAt w0 t ta tc s hv av w'
theorem setCell_row7 {w : World} {b : Nat} {c : Array Value} {t : TypeId} (h : w.heap[b]? = some (.cells c t (0, 0))) (i : Nat) (v : Value) : (w.setCell ⟨b, i, none⟩ v).heap[b]? = some (.cells (c.setIfInBounds i v) t (0, 0)) := by
  simp [World.setCell, Array.getElem?_modify, h]
theorem below_set {w0 w' : World} (h : Below w0.heap.size w0 w') (i : Nat) (v : Value) : Below w0.heap.size w0 (w'.setCell ⟨w0.heap.size, i, none⟩ v) := h.setCell (p := ⟨w0.heap.size, i, none⟩) (Nat.le_refl _) v
theorem wk_links {w0 wr : World} {t : Tree} {ta : Option Addr} {tc n : Nat} {h al : List ByteArray} {hv av : Value} (W : WkAt w0 t ta tc ⟨h, al, n⟩ hv av wr) (m : Nat) {v : Int} (hm : v = (m : Int)) : WkAt w0 t ta tc ⟨h, al, m⟩ hv av (wr.setCell ⟨w0.heap.size, 6, none⟩ (.int .i64 v)) := by
  subst hm
  have hlt := fun k hk => W.own.lt k hk
  have h6b : ∀ k, k ≠ w0.heap.size → (wr.setCell ⟨w0.heap.size, 6, none⟩ (.int .i64 (m : Int))).heap[k]? = wr.heap[k]? := fun k hk => Below.heap_setCell _ _ _ _ hk
  refine ⟨?_, ?_, ?_, below_set W.below _ _⟩
  · rw [setCell_row7 W.box]; rfl
  · exact ownsRow_ext' W.own fun k hk => h6b k (by have := (hlt k hk).1; omega)
  · obtain ⟨ad, cap, e, h1, h2, h3⟩ := W.txt
    refine ⟨ad, cap, e, h1, h2, fun i x hx => ?_⟩
    obtain ⟨b, off, e1, e2, e3, e4⟩ := h3 i x hx
    exact ⟨b, off, e1, e2, e3, by rw [World.cell?_of_block (h6b b e2)]; exact e4⟩
theorem wk_home {w0 wr : World} {t : Tree} {ta : Option Addr} {tc n : Nat} {h al : List ByteArray} {hv av hv' : Value} (W : WkAt w0 t ta tc ⟨h, al, n⟩ hv av wr) (hh : hv' = .slice none 0 0) : WkAt w0 t ta tc ⟨[], al, n⟩ hv' av (wr.setCell ⟨w0.heap.size, 4, none⟩ hv') := by
  subst hh
  have h6b : ∀ k, k ≠ w0.heap.size → (wr.setCell ⟨w0.heap.size, 4, none⟩ (.slice none 0 0)).heap[k]? = wr.heap[k]? := fun k hk => Below.heap_setCell _ _ _ _ hk
  refine ⟨?_, World.ownsRow_nil _ _ _ _, ?_, below_set W.below _ _⟩
  · rw [setCell_row7 W.box]; rfl
  · obtain ⟨ad, cap, e, h1, h2, h3⟩ := W.txt
    refine ⟨ad, cap, e, h1, h2, fun i x hx => ?_⟩
    obtain ⟨b, off, e1, e2, e3, e4⟩ := h3 i x hx
    exact ⟨b, off, e1, e2, by simp [Value.ownBlock], by rw [World.cell?_of_block (h6b b e2)]; exact e4⟩
/-- What is left is another row, made since. -/
theorem wk_next {w0 wc w5 w6 : World} {t : Tree} {ta : Option Addr} {tc n : Nat} {h al L : List ByteArray} {hv av v5 : Value} (W : WkAt w0 t ta tc ⟨h, al, n⟩ hv av wc) (hb : Below wc.heap.size wc w5) (hown : w5.ownsRow wc.heap.size 9 1 v5 L.length (L.map Value.string)) (h6 : w6 = w5.setCell ⟨w0.heap.size, 5, none⟩ v5) : WkAt w0 t ta tc ⟨h, L, n⟩ hv v5 w6 := by
  have zb := lt_of_row W.box
  have hlt := fun k hk => W.own.lt k hk
  have h6b : ∀ k, k ≠ w0.heap.size → w6.heap[k]? = w5.heap[k]? := fun k hk => by rw [h6]; exact Below.heap_setCell _ _ _ _ hk
  have hbox5 := (hb.block _ zb).trans W.box
  refine ⟨?_, ?_, ?_, ?_⟩
  · rw [h6, setCell_row7 hbox5]
    rfl
  · exact ownsRow_ext' W.own fun k hk => by rw [h6b k (by have := (hlt k hk).1; omega)]; exact hb.block k (hlt k hk).2
  · rcases hown.2 with ⟨e, e0⟩ | ⟨g, cap, cur, e, hg, hh, hlc, hcm, _⟩
    · refine ⟨none, 0, by rw [e]; simp only [e0], by simp only; omega, by unfold maxLen; omega, fun i x hx => ?_⟩
      have := (List.getElem?_eq_some_iff.1 hx).1
      simp only at this
      omega
    · refine ⟨_, cap, e, hlc, hcm, fun i x hx => ⟨g, 0, rfl, by omega, fun hk => by have := (hlt g hk).2; omega, ?_⟩⟩
      have hc := hown.cells (g := g) (by rw [e]; rfl) i (.string x) (by rw [List.getElem?_map]; simp only at hx; rw [hx]; rfl)
      have hadd : (⟨g, 0, none⟩ : Addr).add i = ⟨g, 0 + i, none⟩ := by unfold Addr.add; split <;> simp_all
      rw [hadd] at hc
      rw [World.cell?_of_block (h6b g (by omega))]
      exact hc
  · rw [h6]
    exact below_set (W.below.trans (hb.mono W.below.size)) _ _

/-- A row just made is owned. -/
theorem ownsRow_made (w : World) (base : Nat) (e : TypeId) (l : List Value) (hb : base ≤ w.heap.size) (hl : l.length ≤ maxLen) : (w.alloc (.cells l.toArray e)).ownsRow base e 1 (.slice (some ⟨w.heap.size, 0, none⟩) l.length l.length) l.length l := by
  refine ⟨by simp, .inr ⟨w.heap.size, l.length, l.toArray, rfl, hb, heap_alloc_new w _, Nat.le_refl _, hl, by simp, ?_⟩⟩
  rw [List.take_of_length_le (by simp)]
theorem append_zero {P : Program} (w : World) (base : Nat) (t ty e : TypeId) (i : TypeInfo) (size : Nat) (ht : P.underlying t = some (.slice e)) (hi : P.info? e = some i)
    (v : Value) (n : Nat) (xs : List Value) (hown : w.ownsRow base e size v n xs) (ad : Option Addr) (c : Nat) :
    (Builtin.append_ #[t, t] ty #[v, .slice ad 0 c]).run P w = .ok v w := by
  cases ad with
  | none =>
    rcases hown.2 with ⟨rfl, rfl⟩ | ⟨g, cap, cur, rfl, _, _, hnc, _⟩
    · simp [Builtin.append_, run_underlying ht, sizeOf, typeInfo, hi, Builtin.lenOf, Builtin.firstCells]
    · simp [Builtin.append_, run_underlying ht, sizeOf, typeInfo, hi, Builtin.lenOf, Builtin.firstCells, hnc, storeCells]
  | some a =>
    rcases hown.2 with ⟨rfl, rfl⟩ | ⟨g, cap, cur, rfl, _, _, hnc, _⟩
    · simp [Builtin.append_, run_underlying ht, sizeOf, typeInfo, hi, Builtin.lenOf, Builtin.firstCells, loadCells, loadCellsFrom]
    · simp [Builtin.append_, run_underlying ht, sizeOf, typeInfo, hi, Builtin.lenOf, Builtin.firstCells, hnc, storeCells, loadCells, loadCellsFrom]
/-- A row of texts, and texts that lie somewhere behind it. -/
theorem step_append_strs {ops : Array Oper} {o : Oper} {a : Act} {K : Act → World → Prop} {Q : Exit → Act → World → Prop} {E : Prop} (w : World) (hgd : o.guard = none) (s x : Operand)
    (ho : o.op = .call { callee := .builtin .append, args := #[s, x], argTypes := #[28, 28] }) (base : Nat) (v : Value) (L al : List ByteArray) (hs : a.eval s = v) (hown : w.ownsRow base 9 1 v L.length (L.map Value.string))
    (ad : Option Addr) (c : Nat) (hx : a.eval x = .slice ad al.length c) (htx : ∀ (i : Nat) (x : ByteArray), al[i]? = some x → ∃ b off, ad = some ⟨b, off, none⟩ ∧ w.cell? ⟨b, off + i, none⟩ = some (.string x))
    (hle : L.length + al.length ≤ 100000) (hbase : base ≤ w.heap.size)
    (h : ∀ va vn vc w', w'.ownsRow base 9 1 (.slice va vn vc) (L ++ al).length ((L ++ al).map Value.string) → w.grownBy w' v.ownBlock → K (a.put o.dst (.slice va vn vc)) w') :
    if Region.wanted o (yielded ops a.tmps) = true then Oper.wp Tryz.prog o a w K Q else E := by
  obtain ⟨i0, hi0, hz⟩ := Option.map_eq_some_iff.1 infoStr
  simp only [Prod.mk.injEq] at hz
  obtain ⟨hz0, hz1, hz2⟩ := hz
  cases al with
  | nil =>
    have hw : Region.wanted o (yielded ops a.tmps) = true := by simp [Region.wanted, hgd]
    rw [if_pos hw]
    have hr := append_zero (P := Tryz.prog) w base 28 o.type 9 i0 1 Tryz.underlying28 hi0 v L.length (L.map Value.string) hown ad c
    unfold Oper.wp execOp
    simp only [List.length_nil] at hx
    simp only [ho, resolve, invoke, builtin, Sem.run_bind, Sem.run_pure, Result.andThen_ok, List.map_toArray, List.map_cons, List.map_nil, hs, hx, hr]
    have hg : w.grownBy w v.ownBlock := ⟨rfl, rfl, rfl, Nat.le_refl _, fun _ _ _ => rfl⟩
    obtain ⟨va, vn, vc, rfl⟩ : ∃ va vn vc, v = .slice va vn vc := by
      rcases hown.2 with ⟨e, _⟩ | ⟨g, cap, cur, e, _⟩
      · exact ⟨_, _, _, e⟩
      · exact ⟨_, _, _, e⟩
    exact h va vn vc w (by simpa using hown) hg
  | cons y al =>
    obtain ⟨b, off, rfl, _⟩ := htx 0 y rfl
    refine step_append_lies w hgd s x 28 ho base 9 i0 (.string { data := #[] }) 1 16 Tryz.underlying28 hi0 hz0 hz1 hz2 rfl (by omega) v L.length (L.map Value.string) hs hown ⟨b, off, none⟩ (y :: al).length c ((y :: al).map Value.string) hx (by simp) ?_ ?_ (by simp) (by unfold maxLen; omega) (by omega) hbase w.heap.size rfl ?_
    · intro j u hu
      rw [List.getElem?_map] at hu
      obtain ⟨z, hz, rfl⟩ := Option.map_eq_some_iff.1 hu
      obtain ⟨b', off', e, hc⟩ := htx j z hz
      simp only [Option.some.injEq, Addr.mk.injEq, and_true] at e
      obtain ⟨rfl, rfl⟩ := e
      have hadd : (⟨b, off, none⟩ : Addr).add j = ⟨b, off + j, none⟩ := by unfold Addr.add; split <;> simp_all
      rw [hadd]
      exact hc
    · intro u hu
      obtain ⟨z, _, rfl⟩ := List.mem_map.1 hu
      rfl
    · intro g cap w1 hown1 hgrow _ _
      exact h _ _ _ w1 (by rw [List.length_append, List.map_append]; exact hown1) hgrow

set_option maxRecDepth 100000 in
set_option maxHeartbeats 4000000 in
theorem wfollow_any (a : Nat → Addr) (w0 : World) (t : Tree) (ta : Option Addr) (tc : Nat) (h al : List ByteArray) (n : Nat) (hv av : Value) (s : ByteArray) (wr : World) (W : WkAt w0 t ta tc ⟨h, al, n⟩ hv av wr) (S : PSen a w0) (hs : s.size ≤ 40) (hn : n ≤ 16) (hal : al.length ≤ 1000) :
    Calls Tryz.prog 71 #[.pointer (some ⟨w0.heap.size, 0, none⟩), .string s] wr (WkPost a w0 t ta tc (linkR s h al n)) := by
  obtain ⟨ad, acap, rfl, hac, hacm, htx⟩ := W.txt
  simp only at htx
  obtain ⟨ha, hc, hvf⟩ : ∃ ha hc, hv = .slice ha h.length hc := by
    rcases W.own.2 with ⟨e, e0⟩ | ⟨g, cap, cur, e, _⟩
    · exact ⟨none, 0, by rw [e]; simp only at e0; rw [e0]⟩
    · exact ⟨_, _, e⟩
  subst hvf
  obtain ⟨⟨q0, q1, q2, q3, q4, q5, q6⟩, fz⟩ := row7 W.box
  simp only at q6
  have SR := S.below W.below
  have zb := lt_of_row W.box
  have hn1 : IntKind.i64.wrap ((n : Int) + 1) = (n : Int) + 1 := by simp (disch := omega) only [IntWalk.i64_in]
  have HW : Hid (WkAt w0 t ta tc ⟨h, al, n⟩ (.slice ha h.length hc) (.slice ad al.length acap) wr) := W
  have HTX : Hid _ := htx
  have HS0 : Hid (PSen a w0) := S
  by_cases h16 : 16 < n + 1
  · have HR : Hid (linkR s h al n = .error 8) := show _ = _ by unfold linkR; rw [if_pos h16]
    have h16' : (16 : Int) < (n : Int) + 1 := by omega
    have c8 := SR.is.deep
    have z8 := lt_of_cell c8
    have z8' : 8 < w0.heap.size := lt_of_cell S.is.deep
    have hne8 : 8 ≠ w0.heap.size := by omega
    have f6 := fz 6
    have HB : Hid (∀ i v, Below w0.heap.size w0 (wr.setCell ⟨w0.heap.size, i, none⟩ v)) := fun i v => below_set W.below i v
    clear W htx SR S fz
    go_enter Tryz.func71, Tryz.ntmps71
    go_wp2_with fail
    go_ret
    exact .inl ⟨8, HR.out, rfl, HB.out _ _⟩
  · have HR : Hid (linkR s h al n = .ok ⟨if rooted s = true then [] else h, cutB s ++ al, n + 1⟩) := show _ = _ by unfold linkR; rw [if_neg h16]
    have h16' : (n : Int) + 1 ≤ 16 := by omega
    have HHP : Hid (∀ w', Calls Tryz.prog 98 #[.string s, .string { data := #[47] }] w' fun e w'' => e = .returned (.bool (rooted s)) ∧ w'' = w') := fun w' => Tryz.strings_HasPrefix s { data := #[47] } w'
    have f6 := fz 6
    have f4 := fz 4
    have HW1 : Hid (WkAt w0 t ta tc ⟨h, al, n + 1⟩ (.slice ha h.length hc) (.slice ad al.length acap) (wr.setCell ⟨w0.heap.size, 6, none⟩ (.int .i64 ((n : Int) + 1)))) := wk_links W (n + 1) rfl
    have HW2 : Hid (WkAt w0 t ta tc ⟨[], al, n + 1⟩ (.slice none 0 0) (.slice ad al.length acap) ((wr.setCell ⟨w0.heap.size, 6, none⟩ (.int .i64 ((n : Int) + 1))).setCell ⟨w0.heap.size, 4, none⟩ (.slice none 0 0))) := wk_home HW1.out rfl
    clear W htx SR S
    go_enter Tryz.func71, Tryz.ntmps71
    go_wp2_with fail
    refine Calls.mono (HHP.out _) ?_
    rintro e w1 ⟨rfl, rfl⟩
    go_upto_if 19 with fail
    go_cut [4] (fun _ wx => ∃ ha2 hn2 hc2, Hid (WkAt w0 t ta tc ⟨if rooted s = true then [] else h, al, n + 1⟩ (.slice ha2 hn2 hc2) (.slice ad al.length acap) wx))
    case first =>
      cases hrt : rooted s with
      | true =>
        have HRT : Hid (rooted s = true) := hrt
        go_wp2_with fail
        go_meet
        case rel => exact ⟨none, 0, 0, HW2.out.ev (by simp [HRT.out])⟩
      | false =>
        have HRT : Hid (rooted s = false) := hrt
        go_wp2_with fail
        go_meet
        case rel => exact ⟨ha, _, hc, HW1.out.ev (by simp [HRT.out])⟩
    case rest =>
    obtain ⟨ha2, hn2, hc2, HWC⟩ := hcut
    clear HW1 HW2 q0 q1 q2 q3 q4 q5 q6 fz f6 f4 zb HHP HW HTX
    have zb := HWC.out.box
    obtain ⟨⟨_, _, _, _, _, q5, _⟩, fz⟩ := row7 zb
    have f5 := fz 5
    have zc := lt_of_row zb
    have hsp := split_all s
    have hcl := cutB_len s
    have HSP : Hid (∀ w', Below wc.heap.size wc w' → Calls Tryz.prog 99 #[.string s, .string { data := #[47] }] w' fun e w'' => e = .returned (.slice (some ⟨w'.heap.size, 0, none⟩) (cutB s).length (cutB s).length) ∧ w'' = w'.alloc (.cells ((cutB s).map Value.string).toArray 9)) := fun w' hb => by
      obtain ⟨m, hm⟩ := ((HS0.out.below HWC.out.below).below hb).max
      have h := Tryz.strings_Split s { data := #[47] } m w' (by omega) hm (by decide)
      rw [show ({ data := #[47] } : ByteArray) = strokeB from rfl] at h
      rw [hsp.1, hsp.2] at h
      exact h
    have HTX : Hid (∀ w', Below wc.heap.size wc w' → ∀ (i : Nat) (x : ByteArray), al[i]? = some x → ∃ b off, ad = some ⟨b, off, none⟩ ∧ w'.cell? ⟨b, off + i, none⟩ = some (.string x)) := fun w' hb i x hx => by
      obtain ⟨ad', cap', e, _, _, h3⟩ := HWC.out.txt
      simp only [Value.slice.injEq] at e
      obtain ⟨rfl, _, rfl⟩ := e
      obtain ⟨b, off, e1, _, _, e4⟩ := h3 i x hx
      exact ⟨b, off, e1, by rw [hb.cell (p := ⟨b, off + i, none⟩) (lt_of_cell e4)]; exact e4⟩
    have HQ5 : Hid (∀ w', Below wc.heap.size wc w' → w'.cell? ⟨w0.heap.size, 5, none⟩ = some (.slice ad al.length acap)) := fun w' hb => by
      rw [hb.cell (p := ⟨w0.heap.size, 5, none⟩) zc]; exact q5
    have HF5 : Hid (∀ w', Below wc.heap.size wc w' → w'.frozen? ⟨w0.heap.size, 5, none⟩ = false) := fun w' hb => by
      rw [hb.frozen (p := ⟨w0.heap.size, 5, none⟩) zc]; exact f5
    have hcl2 : (cutB s).length + al.length ≤ 100000 := by omega
    clear zb q5 fz f5 hsp hcl
    go_upto_region 6 with fail
    refine wp_region_held_drew (S := fun _ => True) (by kernel_rfl) (trivial) (fun hHeld => ?_)
    refine wpAnyH_take (i := 0) (v := .pointer (some ⟨w0.heap.size, 0, none⟩)) rfl (by kernel_rfl) (by kernel_rfl) (by kernel_rfl) (fun _ _ _ h => h) (Or.inl ⟨by rfl, ?_⟩) hHeld ?_
    · intro w hSw; (try dsimp only at hSw); simp only [List.getElem_toArray, List.getElem_cons_zero]; go_simp
    simp only [List.getElem_toArray, List.getElem_cons_zero, Act.put, List.setIfInBounds_toArray, List.set_cons_zero, List.set_cons_succ]
    refine wpAnyH_take (i := 1) (v := .string s) rfl (by kernel_rfl) (by kernel_rfl) (by kernel_rfl) (fun _ _ _ h => h) (Or.inl ⟨by rfl, ?_⟩) hHeld ?_
    · intro w hSw; (try dsimp only at hSw); simp only [List.getElem_toArray, List.getElem_cons_zero, List.getElem_cons_succ]; go_simp
    simp only [List.getElem_toArray, List.getElem_cons_zero, List.getElem_cons_succ, Act.put, List.setIfInBounds_toArray, List.set_cons_zero, List.set_cons_succ]
    refine wpAnyH_take (i := 3) (v := .pointer (some ⟨w0.heap.size, 0, none⟩)) rfl (by kernel_rfl) (by kernel_rfl) (by kernel_rfl) (fun _ _ _ h => h) (Or.inl ⟨by rfl, ?_⟩) hHeld ?_
    · intro w hSw; (try dsimp only at hSw); simp only [List.getElem_toArray, List.getElem_cons_zero, List.getElem_cons_succ]; go_simp
    simp only [List.getElem_toArray, List.getElem_cons_zero, List.getElem_cons_succ, Act.put, List.setIfInBounds_toArray, List.set_cons_zero, List.set_cons_succ]
    refine wpAnyH_take (i := 4) (v := .pointer (some ⟨w0.heap.size, 0, none⟩)) rfl (by kernel_rfl) (by kernel_rfl) (by kernel_rfl) (fun _ _ _ h => h) (Or.inl ⟨by rfl, ?_⟩) hHeld ?_
    · intro w hSw; (try dsimp only at hSw); simp only [List.getElem_toArray, List.getElem_cons_zero, List.getElem_cons_succ]; go_simp
    simp only [List.getElem_toArray, List.getElem_cons_zero, List.getElem_cons_succ, Act.put, List.setIfInBounds_toArray, List.set_cons_zero, List.set_cons_succ]
    refine wpAnyH_take (i := 5) (v := .pointer (some ⟨w0.heap.size, 5, none⟩)) rfl (by kernel_rfl) (by kernel_rfl) (by kernel_rfl) (fun _ _ _ h => h) (Or.inl ⟨by rfl, ?_⟩) hHeld ?_
    · intro w hSw; (try dsimp only at hSw); simp only [List.getElem_toArray, List.getElem_cons_zero, List.getElem_cons_succ]; go_simp
    simp only [List.getElem_toArray, List.getElem_cons_zero, List.getElem_cons_succ, Act.put, List.setIfInBounds_toArray, List.set_cons_zero, List.set_cons_succ]
    refine wpAnyH_ready (rs := [2, 6]) (by kernel_rfl) (by simp) ?_
    refine AllReadyH.cons rfl (fun K' hK => ?_) (AllReadyH.cons rfl (fun K' hK => ?_) AllReadyH.nil)
    · skip
      simp only [List.getElem_toArray, List.getElem_cons_zero, List.getElem_cons_succ]
      go_simp
      refine Calls.mono (HSP.out _ ((Below.refl _ _).drew)) ?_
      rintro e wx ⟨rfl, hwx⟩
      have HB2 : Hid (Below wc.heap.size wc wx) := by rw [hwx]; exact (Below.refl _ _).drew.alloc (Nat.le_refl _) _
      have HOW : Hid (wx.ownsRow wc.heap.size 9 1 (.slice (some ⟨wc.heap.size, 0, none⟩) (cutB s).length (cutB s).length) (cutB s).length ((cutB s).map Value.string)) := by
        rw [hwx]
        have h := ownsRow_made wc.drew wc.heap.size 9 ((cutB s).map Value.string) (Nat.le_refl _) (by rw [List.length_map]; unfold maxLen; omega)
        rw [List.length_map] at h
        exact h
      clear hwx
      go_wp2_with fail
      refine hK.out _ _ (trivial) (fun hHeld' => ?_)
      clear hK K' hHeld
      have hHeld := hHeld'
      clear hHeld'
      refine wpAnyH_ready (rs := [6]) (by kernel_rfl) (by simp) ?_
      refine AllReadyH.cons rfl (fun K' hK => ?_) AllReadyH.nil
      simp only [List.getElem_toArray, List.getElem_cons_zero, List.getElem_cons_succ]
      have c6 := HQ5.out _ (HB2.out)
      go_simp
      go_wp2_with fail
      clear c6
      refine hK.out _ _ trivial (fun hHeld' => ?_)
      clear hK K' hHeld
      have hHeld := hHeld'
      clear hHeld'
      refine wpAnyH_ready (rs := [7]) (by kernel_rfl) (by simp) ?_
      refine AllReadyH.cons rfl (fun K' hK => ?_) AllReadyH.nil
      refine step_append_strs _ (by rfl) _ _ (by rfl) wc.heap.size (.slice (some ⟨wc.heap.size, 0, none⟩) (cutB s).length (cutB s).length) (cutB s) al (by rfl) HOW.out ad acap (by rfl) (HTX.out _ HB2.out) hcl2 HB2.out.size ?_
      intro va vn vc w5 hown5 hgrow
      have HB5 : Hid (Below wc.heap.size wc w5) := HB2.out.grown hgrow HB2.out.size (fun k hk => by simp [Value.ownBlock] at hk; omega)
      have HOWN5 : Hid _ := hown5
      have c5 := HQ5.out _ HB5.out
      have f5 := HF5.out _ HB5.out
      have HNX : Hid (WkAt w0 t ta tc ⟨if rooted s = true then [] else h, cutB s ++ al, n + 1⟩ (.slice ha2 hn2 hc2) (.slice va vn vc) (w5.setCell ⟨w0.heap.size, 5, none⟩ (.slice va vn vc))) := wk_next HWC.out HB5.out HOWN5.out rfl
      clear hown5 hgrow
      refine hK.out _ _ trivial (fun hHeld' => ?_)
      clear hK K' hHeld
      have hHeld := hHeld'
      clear hHeld'
      refine wpAnyH_take (i := 8) (v := .pointer (some ⟨w0.heap.size, 0, none⟩)) rfl (by kernel_rfl) (by kernel_rfl) (by kernel_rfl) (fun _ _ _ h => h) (Or.inl ⟨by rfl, ?_⟩) hHeld ?_
      · intro w hSw; (try dsimp only at hSw); simp only [List.getElem_toArray, List.getElem_cons_zero, List.getElem_cons_succ]; go_simp
      simp only [List.getElem_toArray, List.getElem_cons_zero, List.getElem_cons_succ, Act.put, List.setIfInBounds_toArray, List.set_cons_zero, List.set_cons_succ]
      refine wpAnyH_take (i := 9) (v := .pointer (some ⟨w0.heap.size, 5, none⟩)) rfl (by kernel_rfl) (by kernel_rfl) (by kernel_rfl) (fun _ _ _ h => h) (Or.inl ⟨by rfl, ?_⟩) hHeld ?_
      · intro w hSw; (try dsimp only at hSw); simp only [List.getElem_toArray, List.getElem_cons_zero, List.getElem_cons_succ]; go_simp
      simp only [List.getElem_toArray, List.getElem_cons_zero, List.getElem_cons_succ, Act.put, List.setIfInBounds_toArray, List.set_cons_zero, List.set_cons_succ]
      refine wpAnyH_ready (rs := [10]) (by kernel_rfl) (by simp) ?_
      refine AllReadyH.cons rfl (fun K' hK => ?_) AllReadyH.nil
      simp only [List.getElem_toArray, List.getElem_cons_zero, List.getElem_cons_succ]
      go_simp
      go_wp2_with fail
      refine hK.out _ _ trivial (fun hHeld' => ?_)
      clear hK K' hHeld
      have hHeld := hHeld'
      clear hHeld'
      refine wpAnyH_done (by kernel_rfl) ?_ _
      go_wp2_with fail
      go_ret
      exact .inr ⟨_, _, _, HR.out, rfl, HNX.out⟩
    · skip
      simp only [List.getElem_toArray, List.getElem_cons_zero, List.getElem_cons_succ]
      have c6 := HQ5.out _ ((Below.refl _ _).drew)
      go_simp
      go_wp2_with fail
      clear c6
      refine hK.out _ _ trivial (fun hHeld' => ?_)
      clear hK K' hHeld
      have hHeld := hHeld'
      clear hHeld'
      refine wpAnyH_ready (rs := [2]) (by kernel_rfl) (by simp) ?_
      refine AllReadyH.cons rfl (fun K' hK => ?_) AllReadyH.nil
      simp only [List.getElem_toArray, List.getElem_cons_zero, List.getElem_cons_succ]
      go_simp
      refine Calls.mono (HSP.out _ ((Below.refl _ _).drew)) ?_
      rintro e wx ⟨rfl, hwx⟩
      have HB2 : Hid (Below wc.heap.size wc wx) := by rw [hwx]; exact (Below.refl _ _).drew.alloc (Nat.le_refl _) _
      have HOW : Hid (wx.ownsRow wc.heap.size 9 1 (.slice (some ⟨wc.heap.size, 0, none⟩) (cutB s).length (cutB s).length) (cutB s).length ((cutB s).map Value.string)) := by
        rw [hwx]
        have h := ownsRow_made wc.drew wc.heap.size 9 ((cutB s).map Value.string) (Nat.le_refl _) (by rw [List.length_map]; unfold maxLen; omega)
        rw [List.length_map] at h
        exact h
      clear hwx
      go_wp2_with fail
      refine hK.out _ _ (trivial) (fun hHeld' => ?_)
      clear hK K' hHeld
      have hHeld := hHeld'
      clear hHeld'
      refine wpAnyH_ready (rs := [7]) (by kernel_rfl) (by simp) ?_
      refine AllReadyH.cons rfl (fun K' hK => ?_) AllReadyH.nil
      refine step_append_strs _ (by rfl) _ _ (by rfl) wc.heap.size (.slice (some ⟨wc.heap.size, 0, none⟩) (cutB s).length (cutB s).length) (cutB s) al (by rfl) HOW.out ad acap (by rfl) (HTX.out _ HB2.out) hcl2 HB2.out.size ?_
      intro va vn vc w5 hown5 hgrow
      have HB5 : Hid (Below wc.heap.size wc w5) := HB2.out.grown hgrow HB2.out.size (fun k hk => by simp [Value.ownBlock] at hk; omega)
      have HOWN5 : Hid _ := hown5
      have c5 := HQ5.out _ HB5.out
      have f5 := HF5.out _ HB5.out
      have HNX : Hid (WkAt w0 t ta tc ⟨if rooted s = true then [] else h, cutB s ++ al, n + 1⟩ (.slice ha2 hn2 hc2) (.slice va vn vc) (w5.setCell ⟨w0.heap.size, 5, none⟩ (.slice va vn vc))) := wk_next HWC.out HB5.out HOWN5.out rfl
      clear hown5 hgrow
      refine hK.out _ _ trivial (fun hHeld' => ?_)
      clear hK K' hHeld
      have hHeld := hHeld'
      clear hHeld'
      refine wpAnyH_take (i := 8) (v := .pointer (some ⟨w0.heap.size, 0, none⟩)) rfl (by kernel_rfl) (by kernel_rfl) (by kernel_rfl) (fun _ _ _ h => h) (Or.inl ⟨by rfl, ?_⟩) hHeld ?_
      · intro w hSw; (try dsimp only at hSw); simp only [List.getElem_toArray, List.getElem_cons_zero, List.getElem_cons_succ]; go_simp
      simp only [List.getElem_toArray, List.getElem_cons_zero, List.getElem_cons_succ, Act.put, List.setIfInBounds_toArray, List.set_cons_zero, List.set_cons_succ]
      refine wpAnyH_take (i := 9) (v := .pointer (some ⟨w0.heap.size, 5, none⟩)) rfl (by kernel_rfl) (by kernel_rfl) (by kernel_rfl) (fun _ _ _ h => h) (Or.inl ⟨by rfl, ?_⟩) hHeld ?_
      · intro w hSw; (try dsimp only at hSw); simp only [List.getElem_toArray, List.getElem_cons_zero, List.getElem_cons_succ]; go_simp
      simp only [List.getElem_toArray, List.getElem_cons_zero, List.getElem_cons_succ, Act.put, List.setIfInBounds_toArray, List.set_cons_zero, List.set_cons_succ]
      refine wpAnyH_ready (rs := [10]) (by kernel_rfl) (by simp) ?_
      refine AllReadyH.cons rfl (fun K' hK => ?_) AllReadyH.nil
      simp only [List.getElem_toArray, List.getElem_cons_zero, List.getElem_cons_succ]
      go_simp
      go_wp2_with fail
      refine hK.out _ _ trivial (fun hHeld' => ?_)
      clear hK K' hHeld
      have hHeld := hHeld'
      clear hHeld'
      refine wpAnyH_done (by kernel_rfl) ?_ _
      go_wp2_with fail
      go_ret
      exact .inr ⟨_, _, _, HR.out, rfl, HNX.out⟩
end Go.Proofs.YtpjjpmikhjlgnaaGreatDoor
