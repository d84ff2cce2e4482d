/-
  The contracts of the document's ClosureOf, UsersOf and DeadOf.
  Conditions: the packs and the names lie in memory.
-/
import Derived.Test.YtlaenhohjcjilaaDoorRn
import Derived.Test.YtlaenhohjcjilaaDoorRm
namespace Go.Proofs.YtlaenhohjcjilaaDoor
open Go.RowKit Go.Maps
attribute [local go_sem ↓] Go.wp_at_zero Go.wp_at_succ

/-- A rising list that is a set. -/
structure ClI (S out : List ByteArray) : Prop where
  rise : Rising out
  mem : ∀ x, x ∈ out ↔ x ∈ S
theorem ClI.nil : ClI [] [] := ⟨List.Pairwise.nil, fun _ => Iff.rfl⟩
theorem ClI.more {S out : List ByteArray} (h : ClI S out) (s : ByteArray) : ClI (S ++ [s]) (withR out s) := ⟨rising_withR h.rise, fun x => by rw [mem_withR, h.mem, List.mem_append, List.mem_singleton]; exact Or.comm⟩
theorem ClI.memB {S out : List ByteArray} (h : ClI S out) (s : ByteArray) : memB s out = memB s S := by rw [Bool.eq_iff_iff, memB_iff, memB_iff, h.mem]
theorem withR_len (l : List ByteArray) (s : ByteArray) : (withR l s).length ≤ l.length + 1 := by
  unfold withR
  split
  · omega
  · rw [List.length_append, List.length_cons, List.length_take, List.length_drop]
    have : (l.takeWhile fun x => bl x s).length ≤ l.length := List.Sublist.length_le (List.takeWhile_sublist _)
    omega
/-- What the document's functions answer: a list, and a fault. -/
def DocPost (o : Option (Option Nat × Nat)) (w : World) (P : List ByteArray → Prop) (e : Ending) (w' : World) : Prop := Below w.heap.size w w' ∧ ∃ r va vc, e = .returned (.tuple #[.slice va r.length vc, .agg #[.int .i64 (flC o), .int .i64 (flA o)]]) ∧ TxR w' (.slice va r.length vc) r ∧ r.length ≤ 10000 ∧ (o ≠ none → r = []) ∧ (o = none → P r)
theorem flC_pos {f : Option Nat × Nat} : (0 : Int) < flC (some f) := by
  obtain ⟨x, e⟩ := f
  show (0 : Int) < (e : Int) + 1
  omega
theorem txr_nil (w : World) : TxR w (.slice none 0 0) [] := ⟨texts_none w none 0, none, 0, rfl, Nat.le_refl _, by unfold maxLen; omega, .inl ⟨rfl, rfl⟩⟩
/-- A box that is no text's is set: texts stay. -/
theorem txr_set {w : World} {v : Value} {l : List ByteArray} {k : Nat} (h : TxR w v l) (hq : w.heap[k]? = some (.cells #[.int .i64 0, .int .i64 0] 33 (0, 0))) (x y : Value) : TxR ((w.setCell ⟨k, 0, none⟩ x).setCell ⟨k, 1, none⟩ y) v l := by
  obtain ⟨⟨ad, cap, e, hc⟩, h2⟩ := h
  refine ⟨⟨ad, cap, e, fun i s hs => ?_⟩, h2⟩
  obtain ⟨b, off, e1, c⟩ := hc i s hs
  refine ⟨b, off, e1, ?_⟩
  have hne : b ≠ k := fun e2 => by
    subst e2
    rw [cell_of_row _ _ _ _ _ _ hq] at c
    rcases Nat.lt_or_ge (off + i) 2 with h | h
    · have h3 : off + i = 0 ∨ off + i = 1 := by omega
      rcases h3 with h3 | h3 <;> rw [h3] at c <;> cases c
    · rw [Array.getElem?_eq_none (by simpa using h)] at c; cases c
  rw [World.cell?_of_block (a := ⟨b, off + i, none⟩) ((Below.heap_setCell _ _ _ _ hne).trans (Below.heap_setCell _ _ _ _ hne))]
  exact c
theorem rev_at {l : List Pk} {m : Nat} (h : m < l.length) : l.reverse[l.length - (m + 1)]? = some l[m] := by
  rw [List.getElem?_reverse (by omega)]
  have : l.length - 1 - (l.length - (m + 1)) = m := by omega
  rw [this, List.getElem?_eq_getElem h]
theorem knw_of_chk {l : List Pk} {f : Option Nat × Nat} (names : List ByteArray) (h : chk l = some f) : knw l names = some f := by unfold knw; rw [h]

set_option maxRecDepth 100000 in
set_option maxHeartbeats 4000000 in
theorem closureOf_any (v nv : Value) (l : List Pk) (names : List ByteArray) (w : World) (hv : PksIn w v l) (hl : l.length ≤ 45) (hn : Texts w nv names) (hnl : names.length ≤ 20) :
    Calls Tryd.prog 14 #[v, nv] w (DocPost (knw l names) w fun r => Rising r ∧ ∀ x, x ∈ r ↔ x ∈ needR l names) := by
  obtain ⟨ad, an, cap, rfl⟩ : ∃ ad an cap, v = .slice ad an cap := by obtain ⟨vs, _, ad, cap, e, _⟩ := hv; exact ⟨_, _, _, e⟩
  obtain rfl : an = l.length := by obtain ⟨vs, el, ad', cap', e, _⟩ := hv; simp only [Value.slice.injEq] at e; rw [e.2.1, ← el, List.length_map]
  obtain ⟨na, nc, rfl, _⟩ := id hn
  obtain ⟨W0, hW0⟩ : ∃ W0, W0 = w.alloc (.cells #[.int .i64 0, .int .i64 0] 33) := ⟨_, rfl⟩
  have HX0 : Hid (W0.heap[w.heap.size]? = some (.cells #[.int .i64 0, .int .i64 0] 33 (0, 0))) := by rw [hW0]; exact heap_alloc_last _ _
  have HB0 : Hid (Below w.heap.size w W0) := by rw [hW0]; exact (Below.refl _ _).alloc (Nat.le_refl _) _
  have hws : w.heap.size < W0.heap.size := by rw [hW0]; simp
  have HW0 : Hid (W0 = w.alloc (.cells #[.int .i64 0, .int .i64 0] 33)) := hW0
  have HV : Hid (∀ W, Below w.heap.size w W → PksIn W (.slice ad l.length cap) l) := fun W hb => hv.below hb
  have HN : Hid (∀ W, Below w.heap.size w W → ∀ i x, names[i]? = some x → ∃ b off, na = some ⟨b, off, none⟩ ∧ W.cell? ⟨b, off + i, none⟩ = some (.string x)) := fun W hb => by
    obtain ⟨ad', cap', e, h⟩ := hn.below hb
    simp only [Value.slice.injEq] at e
    obtain ⟨rfl, _, rfl⟩ := e
    exact h
  have HSM : Hid (∀ p ∈ l, p.refs.length ≤ 25) := fun p hp => by
    obtain ⟨vs, rfl, _⟩ := hv
    obtain ⟨x, _, rfl⟩ := List.mem_map.1 hp
    exact x.sl
  have HPF : Hid _ := packsFault_any (.slice ad l.length cap) l W0 (hv.below HB0.out) (by omega)
  clear hv hn hW0
  go_enter Tryd.func14, Tryd.ntmps14
  go_wp2_with fail
  rw [← HW0.out]
  refine Calls.mono HPF.out ?_
  clear HPF
  rintro e w1 ⟨rfl, hb1⟩
  have HB01 : Hid (Below W0.heap.size W0 w1) := hb1
  have HB1 : Hid (Below w.heap.size w w1) := HB0.out.trans (hb1.mono HB0.out.size)
  clear hb1
  obtain ⟨W2, hW2⟩ : ∃ W2, W2 = w1.alloc (.cells #[.int .i64 (flC (chk l)), .int .i64 (flA (chk l))] 33) := ⟨_, rfl⟩
  have q2 : W2.heap[w1.heap.size]? = some (.cells #[.int .i64 (flC (chk l)), .int .i64 (flA (chk l))] 33 (0, 0)) := by rw [hW2]; exact heap_alloc_last _ _
  have hb12 : Below w1.heap.size w1 W2 := by rw [hW2]; exact (Below.refl _ _).alloc (Nat.le_refl _) _
  have HB02 : Hid (Below W0.heap.size W0 W2) := HB01.out.trans (hb12.mono HB01.out.size)
  have HB2 : Hid (Below w.heap.size w W2) := HB1.out.trans (hb12.mono HB1.out.size)
  have HB12 : Hid (Below w1.heap.size w1 W2) := hb12
  have HW2 : Hid (W2 = w1.alloc (.cells #[.int .i64 (flC (chk l)), .int .i64 (flA (chk l))] 33)) := hW2
  have HQ2 : Hid (W2.heap[w1.heap.size]? = some (.cells #[.int .i64 (flC (chk l)), .int .i64 (flA (chk l))] 33 (0, 0))) := q2
  obtain ⟨⟨y0, y1⟩, _⟩ := row2 q2
  have hw1 := HB01.out.size
  clear hb12 hW2 q2
  go_upto_region 2 with fail
  rw [← HW2.out]
  cases hck : chk l with
  | some f =>
    have HK : Hid (knw l names = some f) := knw_of_chk names hck
    rw [hck] at y0 y1 HQ2
    have hp := flC_pos (f := f)
    have q0 := (HB02.out.block _ hws).trans HX0.out
    obtain ⟨⟨x0, x1⟩, f0, f1⟩ := row2 q0
    have HQ0 : Hid (W2.heap[w.heap.size]? = some (.cells #[.int .i64 0, .int .i64 0] 33 (0, 0))) := q0
    obtain ⟨fc, HFC⟩ : ∃ fc, Hid (fc = flC (some f)) := ⟨_, (rfl : flC (some f) = _)⟩
    obtain ⟨fa, HFA⟩ : ∃ fa, Hid (fa = flA (some f)) := ⟨_, (rfl : flA (some f) = _)⟩
    rw [← HFC.out] at hp y0
    rw [← HFA.out] at y1
    rw [← HFC.out, ← HFA.out]
    have y0d : W2.drew.cell? ⟨w1.heap.size, 0, none⟩ = some (.int .i64 fc) := y0
    have y1d : W2.drew.cell? ⟨w1.heap.size, 1, none⟩ = some (.int .i64 fa) := y1
    have x0d : W2.drew.cell? ⟨w.heap.size, 0, none⟩ = some (.int .i64 0) := x0
    have x1d : W2.drew.cell? ⟨w.heap.size, 1, none⟩ = some (.int .i64 0) := x1
    have f0d : W2.drew.frozen? ⟨w.heap.size, 0, none⟩ = false := f0
    have f1d : W2.drew.frozen? ⟨w.heap.size, 1, none⟩ = false := f1
    clear hck q0
    go_wp2_with fail
    go_region
    go_wp2_with fail
    have r0 : ((W2.setCell ⟨w.heap.size, 0, none⟩ (.int .i64 fc)).setCell ⟨w.heap.size, 1, none⟩ (.int .i64 fa)).drew.heap[w.heap.size]? = some (.cells #[.int .i64 fc, .int .i64 fa] 33 (0, 0)) := by
      show ((W2.setCell ⟨w.heap.size, 0, none⟩ (.int .i64 fc)).setCell ⟨w.heap.size, 1, none⟩ (.int .i64 fa)).heap[w.heap.size]? = _
      simp [World.setCell, Array.getElem?_modify, HQ0.out]
    obtain ⟨⟨r1, r2⟩, _⟩ := row2 r0
    refine bodyPost_ret (v := .tuple #[.slice none 0 0, .agg #[.int .i64 fc, .int .i64 fa]]) (by simp [results, Tryd.results14, go_sem, r1, r2]) rfl ?_
    refine ⟨((HB2.out.setCell (Nat.le_refl _) _).setCell (Nat.le_refl _) _).drew, [], none, 0, ?_, txr_nil _, by simp, fun _ => rfl, fun h => by rw [HK.out] at h; cases h⟩
    rw [HK.out, HFC.out, HFA.out]; rfl
  | none =>
  have HCK : Hid (chk l = none) := hck
  have HKN : Hid (knw l names = if (names.all fun x => memB x (l.map Pk.name)) = true then none else some (none, 5)) := show _ = _ by unfold knw; rw [hck]
  rw [hck] at y0
  clear hck
  simp only [flC, flA] at y0 ⊢
  go_wp2_with fail
  go_loopw [7, 8] (fun o i wr => ∃ (k : Nat) (out : List ByteArray) (oa : Option Addr) (oc : Nat), k ≤ names.length ∧ i = .int .i64 k ∧ o = .slice oa out.length oc ∧ out.length ≤ k ∧ Hid (TxR wr (.slice oa out.length oc) out) ∧ Hid (Below W2.heap.size W2 wr ∧ ClI (names.take k) out ∧ ((names.take k).all fun x => memB x (l.map Pk.name)) = true)) (fun _ i _ => names.length - (intOf i).toNat)
  case atStart => exact ⟨0, [], none, 0, Nat.zero_le _, rfl, rfl, Nat.le_refl _, txr_nil _, Below.refl _ _, ClI.nil, rfl⟩
  case round =>
    obtain ⟨k, out, oa, oc, hk, rfl, rfl, hol, HT, HI⟩ := hrel
    have HBr : Hid (Below w.heap.size w wr) := HB2.out.trans (HI.out.1.mono HB2.out.size)
    have HB0r : Hid (Below W0.heap.size W0 wr) := HB02.out.trans (HI.out.1.mono HB02.out.size)
    by_cases hlt : k < names.length
    · obtain ⟨x, hx⟩ : ∃ x, names[k]? = some x := ⟨names[k], List.getElem?_eq_getElem hlt⟩
      obtain ⟨b1, o1, rfl, c1⟩ := HN.out wr HBr.out k x hx
      have HFI : Hid _ := find_any (.slice ad l.length cap) l x wr (HV.out wr HBr.out) (by omega)
      have hkk := List.getElem?_eq_some_iff.1 hx
      have HTK : Hid (names.take (k + 1) = names.take k ++ [x]) := show _ = _ by rw [List.take_succ_eq_append_getElem hkk.1, hkk.2]
      have HXM : Hid (x ∈ names) := List.mem_of_getElem? hx
      clear hx hkk
      go_wp2_with fail
      refine Calls.mono HFI.out ?_
      clear HFI
      rintro e wf ⟨⟨z, rfl, hz⟩, hwf⟩
      obtain rfl := hwf
      cases hm : memB x (l.map Pk.name) with
      | false =>
        have hz0 : z < 0 := by rw [hm] at hz; exact of_decide_eq_true hz
        have HK : Hid (knw l names = some (none, 5)) := show _ = _ by rw [HKN.out, if_neg (fun h => by have := List.all_eq_true.1 h x HXM.out; rw [hm] at this; cases this)]
        clear hz hm
        go_wp2_with fail
        refine Calls.mono (bare_any 6 wf) ?_
        rintro e w3 ⟨rfl, hb3⟩
        have HB03 : Hid (Below W0.heap.size W0 w3) := HB0r.out.trans (hb3.mono HB0r.out.size)
        have HB3 : Hid (Below w.heap.size w w3) := HBr.out.trans (hb3.mono HBr.out.size)
        have q0 := (HB03.out.block _ hws).trans HX0.out
        obtain ⟨⟨x0, x1⟩, f0, f1⟩ := row2 q0
        have HQ0 : Hid (w3.heap[w.heap.size]? = some (.cells #[.int .i64 0, .int .i64 0] 33 (0, 0))) := q0
        clear hb3 q0
        go_wp2_with fail
        have r0 : ((w3.setCell ⟨w.heap.size, 0, none⟩ (.int .i64 6)).setCell ⟨w.heap.size, 1, none⟩ (.int .i64 (-1))).heap[w.heap.size]? = some (.cells #[.int .i64 6, .int .i64 (-1)] 33 (0, 0)) := by
          show ((w3.setCell ⟨w.heap.size, 0, none⟩ (.int .i64 6)).setCell ⟨w.heap.size, 1, none⟩ (.int .i64 (-1))).heap[w.heap.size]? = _
          simp [World.setCell, Array.getElem?_modify, HQ0.out]
        obtain ⟨⟨r1, r2⟩, _⟩ := row2 r0
        refine bodyPost_ret (v := .tuple #[.slice none 0 0, .agg #[.int .i64 6, .int .i64 (-1)]]) (by simp [results, Tryd.results14, go_sem, r1, r2]) rfl ?_
        refine ⟨(HB3.out.setCell (Nat.le_refl _) _).setCell (Nat.le_refl _) _, [], none, 0, ?_, txr_nil _, by simp, fun _ => rfl, fun h => by rw [HK.out] at h; cases h⟩
        rw [HK.out]; rfl
      | true =>
        have hz0 : ¬ z < 0 := by rw [hm] at hz; exact of_decide_eq_false hz
        have HAL : Hid (((names.take (k + 1)).all fun x => memB x (l.map Pk.name)) = true) := show _ = _ by rw [HTK.out, List.all_append, HI.out.2.2]; simp [hm]
        have HWI : Hid _ := with_any x (.slice oa out.length oc) out wf HT.out (by omega)
        have HCI : Hid (ClI (names.take (k + 1)) (withR out x)) := by rw [HTK.out]; exact HI.out.2.1.more x
        have hwl := withR_len out x
        clear hz hm
        go_wp2_with fail
        refine Calls.mono HWI.out ?_
        clear HWI
        rintro e w3 ⟨⟨xa, xc, rfl, htx⟩, hb3⟩
        have HT3 : Hid (TxR w3 (.slice xa (withR out x).length xc) (withR out x)) := htx
        have HB3 : Hid (Below W2.heap.size W2 w3) := HI.out.1.trans (hb3.mono HI.out.1.size)
        obtain ⟨out2, HO2⟩ : ∃ o2, Hid (o2 = withR out x) := ⟨_, (rfl : withR out x = _)⟩
        rw [← HO2.out] at HT3 HCI hwl ⊢
        clear htx hb3
        go_wp2_with fail
        go_roundw
        case rel => exact ⟨k + 1, out2, xa, xc, by omega, by go_num, rfl, by omega, HT3, HB3.out, HCI.out, HAL.out⟩
        case measure => simp [intOf]; omega
    · have hge : ¬ (k : Int) < (names.length : Int) := by omega
      have e : k = names.length := by omega
      have HK : Hid (knw l names = none) := show _ = _ by
        have := HI.out.2.2
        rw [e, List.take_length] at this
        rw [HKN.out, if_pos this]
      have HCI : Hid (ClI names out) := by have := HI.out.2.1; rw [e, List.take_length] at this; exact this
      have hx1 : IntKind.i64.wrap ((l.length : Int) - 1) = (l.length : Int) - 1 := IntWalk.i64_in _ (by omega)
      have hol2 : out.length ≤ 20 := by omega
      clear e
      go_wp2_with fail
      clear hx1
      go_loopw [7, 9] (fun o i wx => ∃ (j : Nat) (out : List ByteArray) (oa : Option Addr) (oc : Nat), j ≤ l.length ∧ i = .int .i64 ((j : Int) - 1) ∧ o = .slice oa out.length oc ∧ out.length + 25 * j ≤ 20 + 25 * l.length ∧ Hid (TxR wx (.slice oa out.length oc) out) ∧ Hid (Below wr.heap.size wr wx ∧ ClI (needTo l names (l.length - j)) out)) (fun _ i _ => (intOf i + 1).toNat)
      case atStart => exact ⟨l.length, out, oa, oc, Nat.le_refl _, rfl, rfl, by omega, HT, Below.refl _ _, by rw [Nat.sub_self]; exact HCI.out⟩
      case round =>
        obtain ⟨j, o1, oa, oc, hj, rfl, rfl, hol3, HT1, HI1⟩ := hrel
        rename World => wx
        have HBx : Hid (Below w.heap.size w wx) := HBr.out.trans (HI1.out.1.mono HBr.out.size)
        have HB0x : Hid (Below W0.heap.size W0 wx) := HB0r.out.trans (HI1.out.1.mono HB0r.out.size)
        cases j with
        | zero =>
          have hneg : ¬ (0 : Int) ≤ ((0 : Nat) : Int) - 1 := by omega
          have HCE : Hid (ClI (needR l names) o1) := by have := HI1.out.2; rw [Nat.sub_zero, needTo_all] at this; exact this
          go_wp2_with fail
          refine Calls.mono (fine_any wx) ?_
          rintro e w3 ⟨rfl, hb3⟩
          have HB03 : Hid (Below W0.heap.size W0 w3) := HB0x.out.trans (hb3.mono HB0x.out.size)
          have HB3 : Hid (Below w.heap.size w w3) := HBx.out.trans (hb3.mono HBx.out.size)
          have HBx3 : Hid (Below wx.heap.size wx w3) := hb3
          have q0 := (HB03.out.block _ hws).trans HX0.out
          obtain ⟨⟨x0, x1⟩, f0, f1⟩ := row2 q0
          have HQ0 : Hid (w3.heap[w.heap.size]? = some (.cells #[.int .i64 0, .int .i64 0] 33 (0, 0))) := q0
          clear hb3 q0
          go_wp2_with fail
          have hb9 : Below wx.heap.size wx ((w3.setCell ⟨w.heap.size, 0, none⟩ (.int .i64 0)).setCell ⟨w.heap.size, 1, none⟩ (.int .i64 (-1))) ∨ True := .inr trivial
          have HTE : Hid (TxR ((w3.setCell ⟨w.heap.size, 0, none⟩ (.int .i64 0)).setCell ⟨w.heap.size, 1, none⟩ (.int .i64 (-1))) (.slice oa o1.length oc) o1) := txr_set (HT1.out.below HBx3.out) HQ0.out _ _
          have r0 : ((w3.setCell ⟨w.heap.size, 0, none⟩ (.int .i64 0)).setCell ⟨w.heap.size, 1, none⟩ (.int .i64 (-1))).heap[w.heap.size]? = some (.cells #[.int .i64 0, .int .i64 (-1)] 33 (0, 0)) := by
            show ((w3.setCell ⟨w.heap.size, 0, none⟩ (.int .i64 0)).setCell ⟨w.heap.size, 1, none⟩ (.int .i64 (-1))).heap[w.heap.size]? = _
            simp [World.setCell, Array.getElem?_modify, HQ0.out]
          obtain ⟨⟨r1, r2⟩, _⟩ := row2 r0
          refine bodyPost_ret (v := .tuple #[.slice oa o1.length oc, .agg #[.int .i64 0, .int .i64 (-1)]]) (by simp [results, Tryd.results14, go_sem, r1, r2]) rfl ?_
          refine ⟨(HB3.out.setCell (Nat.le_refl _) _).setCell (Nat.le_refl _) _, o1, oa, oc, ?_, HTE.out, by omega, fun h => absurd HK.out h, fun _ => ⟨HCE.out.rise, HCE.out.mem⟩⟩
          rw [HK.out]; rfl
        | succ m =>
          have hm : m < l.length := by omega
          have e1 : ((m + 1 : Nat) : Int) - 1 = (m : Int) := by omega
          rw [e1]
          clear e1
          have hp : l[m]? = some l[m] := List.getElem?_eq_getElem hm
          obtain ⟨b, off, ua, uc, rfl, k0, k1, kt⟩ := pks_at (HV.out wx HBx.out) hp
          have HND : Hid (needTo l names (l.length - m) = nd (needTo l names (l.length - (m + 1))) l[m]) := show _ = _ by
            have e : l.length - m = (l.length - (m + 1)) + 1 := by omega
            rw [e, needTo_succ (rev_at hm)]
          obtain ⟨S, HS⟩ : ∃ S, Hid (S = needTo l names (l.length - (m + 1))) := ⟨_, (rfl : needTo l names (l.length - (m + 1)) = _)⟩
          rw [← HS.out] at HND HI1
          have HRL : Hid (l[m].refs.length ≤ 25) := HSM.out _ (List.getElem_mem hm)
          have HIT : Hid _ := inTexts_any l[m].name (.slice oa o1.length oc) o1 wx HT1.out.1 (by omega)
          rw [HI1.out.2.memB] at HIT
          obtain ⟨p, HP⟩ : ∃ p, Hid (p = l[m]) := ⟨_, (rfl : l[m] = _)⟩
          rw [← HP.out] at k0 k1 kt HND HRL HIT
          have hm0 : (0 : Int) ≤ (m : Int) := by omega
          have hm1 : (m : Int) < (l.length : Int) := by omega
          have HKT : Hid (∀ W, Below wx.heap.size wx W → (W.cell? ⟨b, off + m * 6 + 1, none⟩ = some (.slice ua p.refs.length uc)) ∧ ∀ i x, p.refs[i]? = some x → ∃ b off, ua = some ⟨b, off, none⟩ ∧ W.cell? ⟨b, off + i, none⟩ = some (.string x)) := fun W hb => ⟨(hb.cell (p := ⟨b, off + m * 6 + 1, none⟩) (lt_of_cell k1)).trans k1, (texts_open (kt.below hb)).2⟩
          clear hp kt k1
          go_wp2_with fail
          refine Calls.mono HIT.out ?_
          clear HIT
          rintro e wy ⟨rfl, hwy⟩
          obtain rfl := hwy
          cases hb : memB p.name S with
          | false =>
            have HEQ : Hid (needTo l names (l.length - m) = S) := show _ = _ by rw [HND.out]; unfold nd; rw [if_neg (by rw [hb]; simp)]
            clear hb
            have hmw : IntKind.i64.wrap ((m : Int) - 1) = (m : Int) - 1 := IntWalk.i64_in _ (by omega)
            go_wp2_with fail
            go_roundw
            case rel => exact ⟨m, o1, oa, oc, by omega, rfl, rfl, by omega, HT1, HI1.out.1, by rw [HEQ.out]; exact HI1.out.2⟩
            case measure => simp [intOf]
          | true =>
            have HEQ : Hid (needTo l names (l.length - m) = S ++ p.refs) := show _ = _ by rw [HND.out]; unfold nd; rw [if_pos hb]
            clear hb k0
            go_wp2_with fail
            go_loopw [7, 10] (fun o i wv => ∃ (q : Nat) (out : List ByteArray) (oa : Option Addr) (oc : Nat), q ≤ p.refs.length ∧ i = .int .i64 q ∧ o = .slice oa out.length oc ∧ out.length ≤ o1.length + q ∧ Hid (TxR wv (.slice oa out.length oc) out) ∧ Hid (Below wy.heap.size wy wv ∧ ClI (S ++ p.refs.take q) out)) (fun _ i _ => p.refs.length - (intOf i).toNat)
            case atStart => exact ⟨0, o1, oa, oc, Nat.zero_le _, rfl, rfl, by omega, HT1, Below.refl _ _, by rw [List.take_zero, List.append_nil]; exact HI1.out.2⟩
            case round =>
              obtain ⟨q, o2, oa2, oc2, hq, rfl, rfl, hol4, HT2, HI2⟩ := hrel
              rename World => wv
              obtain ⟨k1, hcs⟩ := HKT.out wv HI2.out.1
              by_cases hlq : q < p.refs.length
              · obtain ⟨x, hx⟩ : ∃ x, p.refs[q]? = some x := ⟨p.refs[q], List.getElem?_eq_getElem hlq⟩
                obtain ⟨b5, o5, rfl, c5⟩ := hcs q x hx
                have hkk := List.getElem?_eq_some_iff.1 hx
                have HTK : Hid (S ++ p.refs.take (q + 1) = S ++ p.refs.take q ++ [x]) := show _ = _ by rw [List.take_succ_eq_append_getElem hkk.1, hkk.2, List.append_assoc]
                have hql := HRL.out
                have HWI : Hid _ := with_any x (.slice oa2 o2.length oc2) o2 wv HT2.out (by omega)
                have HCI2 : Hid (ClI (S ++ p.refs.take (q + 1)) (withR o2 x)) := by rw [HTK.out]; exact HI2.out.2.more x
                have hwl := withR_len o2 x
                clear hx hcs hkk
                go_wp2_with fail
                refine Calls.mono HWI.out ?_
                clear HWI
                rintro e w3 ⟨⟨xa, xc, rfl, htx⟩, hb3⟩
                have HT3 : Hid (TxR w3 (.slice xa (withR o2 x).length xc) (withR o2 x)) := htx
                have HB3 : Hid (Below wy.heap.size wy w3) := HI2.out.1.trans (hb3.mono HI2.out.1.size)
                obtain ⟨out2, HO2⟩ : ∃ o2', Hid (o2' = withR o2 x) := ⟨_, (rfl : withR o2 x = _)⟩
                rw [← HO2.out] at HT3 HCI2 hwl ⊢
                clear htx hb3 k1
                go_wp2_with fail
                go_roundw
                case rel => exact ⟨q + 1, out2, xa, xc, by omega, by go_num, rfl, by omega, HT3, HB3.out, HCI2.out⟩
                case measure => simp [intOf]; omega
              · have hge2 : ¬ (q : Int) < (p.refs.length : Int) := by omega
                have HCE : Hid (ClI (needTo l names (l.length - m)) o2) := by
                  have e : q = p.refs.length := by omega
                  have := HI2.out.2
                  rw [e, List.take_length] at this
                  rw [HEQ.out]; exact this
                have hql := HRL.out
                have hmw : IntKind.i64.wrap ((m : Int) - 1) = (m : Int) - 1 := IntWalk.i64_in _ (by omega)
                have HBE : Hid (Below wr.heap.size wr wv) := HI1.out.1.trans (HI2.out.1.mono HI1.out.1.size)
                go_wp2_with fail
                go_roundw
                case rel => exact ⟨m, o2, oa2, oc2, by omega, rfl, rfl, by omega, HT2, HBE.out, HCE.out⟩
                case measure => simp [intOf]
set_option maxRecDepth 100000 in
set_option maxHeartbeats 4000000 in
theorem usersOf_any (v : Value) (l : List Pk) (name : ByteArray) (w : World) (hv : PksIn w v l) (hl : l.length ≤ 45) :
    Calls Tryd.prog 17 #[v, .string name] w (DocPost (knw l [name]) w fun r => Rising r ∧ ∀ x, x ∈ r ↔ x ∈ lf l (usesB name)) := by
  obtain ⟨ad, an, cap, rfl⟩ : ∃ ad an cap, v = .slice ad an cap := by obtain ⟨vs, _, ad, cap, e, _⟩ := hv; exact ⟨_, _, _, e⟩
  obtain rfl : an = l.length := by obtain ⟨vs, el, ad', cap', e, _⟩ := hv; simp only [Value.slice.injEq] at e; rw [e.2.1, ← el, List.length_map]
  obtain ⟨W0, hW0⟩ : ∃ W0, W0 = w.alloc (.cells #[.int .i64 0, .int .i64 0] 33) := ⟨_, rfl⟩
  have HX0 : Hid (W0.heap[w.heap.size]? = some (.cells #[.int .i64 0, .int .i64 0] 33 (0, 0))) := by rw [hW0]; exact heap_alloc_last _ _
  have HB0 : Hid (Below w.heap.size w W0) := by rw [hW0]; exact (Below.refl _ _).alloc (Nat.le_refl _) _
  have hws : w.heap.size < W0.heap.size := by rw [hW0]; simp
  have HW0 : Hid (W0 = w.alloc (.cells #[.int .i64 0, .int .i64 0] 33)) := hW0
  have HV : Hid (∀ W, Below w.heap.size w W → PksIn W (.slice ad l.length cap) l) := fun W hb => hv.below hb
  have HSM : Hid (∀ p ∈ l, p.refs.length ≤ 25) := fun p hp => by
    obtain ⟨vs, rfl, _⟩ := hv
    obtain ⟨x, _, rfl⟩ := List.mem_map.1 hp
    exact x.sl
  have HPF : Hid _ := packsFault_any (.slice ad l.length cap) l W0 (hv.below HB0.out) (by omega)
  clear hv hW0
  go_enter Tryd.func17, Tryd.ntmps17
  go_wp2_with fail
  rw [← HW0.out]
  refine Calls.mono HPF.out ?_
  clear HPF
  rintro e w1 ⟨rfl, hb1⟩
  have HB01 : Hid (Below W0.heap.size W0 w1) := hb1
  have HB1 : Hid (Below w.heap.size w w1) := HB0.out.trans (hb1.mono HB0.out.size)
  clear hb1
  obtain ⟨W2, hW2⟩ : ∃ W2, W2 = w1.alloc (.cells #[.int .i64 (flC (chk l)), .int .i64 (flA (chk l))] 33) := ⟨_, rfl⟩
  have q2 : W2.heap[w1.heap.size]? = some (.cells #[.int .i64 (flC (chk l)), .int .i64 (flA (chk l))] 33 (0, 0)) := by rw [hW2]; exact heap_alloc_last _ _
  have hb12 : Below w1.heap.size w1 W2 := by rw [hW2]; exact (Below.refl _ _).alloc (Nat.le_refl _) _
  have HB02 : Hid (Below W0.heap.size W0 W2) := HB01.out.trans (hb12.mono HB01.out.size)
  have HB2 : Hid (Below w.heap.size w W2) := HB1.out.trans (hb12.mono HB1.out.size)
  have HB12 : Hid (Below w1.heap.size w1 W2) := hb12
  have HW2 : Hid (W2 = w1.alloc (.cells #[.int .i64 (flC (chk l)), .int .i64 (flA (chk l))] 33)) := hW2
  have HQ2 : Hid (W2.heap[w1.heap.size]? = some (.cells #[.int .i64 (flC (chk l)), .int .i64 (flA (chk l))] 33 (0, 0))) := q2
  obtain ⟨⟨y0, y1⟩, _⟩ := row2 q2
  have hw1 := HB01.out.size
  clear hb12 hW2 q2
  go_upto_region 2 with fail
  rw [← HW2.out]
  cases hck : chk l with
  | some f =>
    have HK : Hid (knw l [name] = some f) := knw_of_chk [name] hck
    rw [hck] at y0 y1 HQ2
    have hp := flC_pos (f := f)
    have q0 := (HB02.out.block _ hws).trans HX0.out
    obtain ⟨⟨x0, x1⟩, f0, f1⟩ := row2 q0
    have HQ0 : Hid (W2.heap[w.heap.size]? = some (.cells #[.int .i64 0, .int .i64 0] 33 (0, 0))) := q0
    obtain ⟨fc, HFC⟩ : ∃ fc, Hid (fc = flC (some f)) := ⟨_, (rfl : flC (some f) = _)⟩
    obtain ⟨fa, HFA⟩ : ∃ fa, Hid (fa = flA (some f)) := ⟨_, (rfl : flA (some f) = _)⟩
    rw [← HFC.out] at hp y0
    rw [← HFA.out] at y1
    rw [← HFC.out, ← HFA.out]
    have y0d : W2.drew.cell? ⟨w1.heap.size, 0, none⟩ = some (.int .i64 fc) := y0
    have y1d : W2.drew.cell? ⟨w1.heap.size, 1, none⟩ = some (.int .i64 fa) := y1
    have x0d : W2.drew.cell? ⟨w.heap.size, 0, none⟩ = some (.int .i64 0) := x0
    have x1d : W2.drew.cell? ⟨w.heap.size, 1, none⟩ = some (.int .i64 0) := x1
    have f0d : W2.drew.frozen? ⟨w.heap.size, 0, none⟩ = false := f0
    have f1d : W2.drew.frozen? ⟨w.heap.size, 1, none⟩ = false := f1
    clear hck q0
    go_wp2_with fail
    go_region
    go_wp2_with fail
    have r0 : ((W2.setCell ⟨w.heap.size, 0, none⟩ (.int .i64 fc)).setCell ⟨w.heap.size, 1, none⟩ (.int .i64 fa)).drew.heap[w.heap.size]? = some (.cells #[.int .i64 fc, .int .i64 fa] 33 (0, 0)) := by
      show ((W2.setCell ⟨w.heap.size, 0, none⟩ (.int .i64 fc)).setCell ⟨w.heap.size, 1, none⟩ (.int .i64 fa)).heap[w.heap.size]? = _
      simp [World.setCell, Array.getElem?_modify, HQ0.out]
    obtain ⟨⟨r1, r2⟩, _⟩ := row2 r0
    refine bodyPost_ret (v := .tuple #[.slice none 0 0, .agg #[.int .i64 fc, .int .i64 fa]]) (by simp [results, Tryd.results17, go_sem, r1, r2]) rfl ?_
    refine ⟨((HB2.out.setCell (Nat.le_refl _) _).setCell (Nat.le_refl _) _).drew, [], none, 0, ?_, txr_nil _, by simp, fun _ => rfl, fun h => by rw [HK.out] at h; cases h⟩
    rw [HK.out, HFC.out, HFA.out]; rfl
  | none =>
  have HKN : Hid (knw l [name] = if memB name (l.map Pk.name) = true then none else some (none, 5)) := show _ = _ by unfold knw; rw [hck]; simp
  rw [hck] at y0
  clear hck
  simp only [flC, flA] at y0 ⊢
  have HFI : Hid _ := find_any (.slice ad l.length cap) l name W2 (HV.out W2 HB2.out) (by omega)
  go_wp2_with fail
  refine Calls.mono HFI.out ?_
  clear HFI
  rintro e wf ⟨⟨z, rfl, hz⟩, hwf⟩
  obtain rfl := hwf
  cases hm : memB name (l.map Pk.name) with
  | false =>
    have hz0 : z < 0 := by rw [hm] at hz; exact of_decide_eq_true hz
    have HK : Hid (knw l [name] = some (none, 5)) := show _ = _ by rw [HKN.out, if_neg (by rw [hm]; simp)]
    clear hz hm
    go_wp2_with fail
    refine Calls.mono (bare_any 6 wf) ?_
    rintro e w3 ⟨rfl, hb3⟩
    have HB03 : Hid (Below W0.heap.size W0 w3) := HB02.out.trans (hb3.mono HB02.out.size)
    have HB3 : Hid (Below w.heap.size w w3) := HB2.out.trans (hb3.mono HB2.out.size)
    have q0 := (HB03.out.block _ hws).trans HX0.out
    obtain ⟨⟨x0, x1⟩, f0, f1⟩ := row2 q0
    have HQ0 : Hid (w3.heap[w.heap.size]? = some (.cells #[.int .i64 0, .int .i64 0] 33 (0, 0))) := q0
    clear hb3 q0
    go_wp2_with fail
    have r0 : ((w3.setCell ⟨w.heap.size, 0, none⟩ (.int .i64 6)).setCell ⟨w.heap.size, 1, none⟩ (.int .i64 (-1))).heap[w.heap.size]? = some (.cells #[.int .i64 6, .int .i64 (-1)] 33 (0, 0)) := by
      show ((w3.setCell ⟨w.heap.size, 0, none⟩ (.int .i64 6)).setCell ⟨w.heap.size, 1, none⟩ (.int .i64 (-1))).heap[w.heap.size]? = _
      simp [World.setCell, Array.getElem?_modify, HQ0.out]
    obtain ⟨⟨r1, r2⟩, _⟩ := row2 r0
    refine bodyPost_ret (v := .tuple #[.slice none 0 0, .agg #[.int .i64 6, .int .i64 (-1)]]) (by simp [results, Tryd.results17, go_sem, r1, r2]) rfl ?_
    refine ⟨(HB3.out.setCell (Nat.le_refl _) _).setCell (Nat.le_refl _) _, [], none, 0, ?_, txr_nil _, by simp, fun _ => rfl, fun h => by rw [HK.out] at h; cases h⟩
    rw [HK.out]; rfl
  | true =>
    have hz0 : ¬ z < 0 := by rw [hm] at hz; exact of_decide_eq_false hz
    have HK : Hid (knw l [name] = none) := show _ = _ by rw [HKN.out, if_pos hm]
    clear hz hm
    go_wp2_with fail
    clear hz0
    go_loopw [7, 8] (fun o i wr => ∃ (k : Nat) (out : List ByteArray) (oa : Option Addr) (oc : Nat), k ≤ l.length ∧ i = .int .i64 k ∧ o = .slice oa out.length oc ∧ out.length ≤ k ∧ Hid (TxR wr (.slice oa out.length oc) out) ∧ Hid (Below wf.heap.size wf wr ∧ ClI (((l.take k).filter (usesB name)).map Pk.name) out)) (fun _ i _ => l.length - (intOf i).toNat)
    case atStart => exact ⟨0, [], none, 0, Nat.zero_le _, rfl, rfl, Nat.le_refl _, txr_nil _, Below.refl _ _, ClI.nil⟩
    case round =>
      obtain ⟨k, out, oa, oc, hk, rfl, rfl, hol, HT, HI⟩ := hrel
      have HBr : Hid (Below w.heap.size w wr) := HB2.out.trans (HI.out.1.mono HB2.out.size)
      have HB0r : Hid (Below W0.heap.size W0 wr) := HB02.out.trans (HI.out.1.mono HB02.out.size)
      by_cases hlt : k < l.length
      · obtain ⟨p, hp⟩ : ∃ p, l[k]? = some p := ⟨l[k], List.getElem?_eq_getElem hlt⟩
        obtain ⟨b, off, ua, uc, rfl, k0, k1, kt⟩ := pks_at (HV.out wr HBr.out) hp
        have hkk := List.getElem?_eq_some_iff.1 hp
        have HTK : Hid (((l.take (k + 1)).filter (usesB name)).map Pk.name = ((l.take k).filter (usesB name)).map Pk.name ++ if usesB name p = true then [p.name] else []) := show _ = _ by
          rw [List.take_succ_eq_append_getElem hkk.1, hkk.2, List.filter_append, List.map_append]
          congr 1
          cases hf : usesB name p <;> simp [hf]
        have hrl : p.refs.length ≤ 25 := HSM.out p (List.mem_of_getElem? hp)
        have HIT : Hid _ := inTexts_any name (.slice ua p.refs.length uc) p.refs wr kt (by omega)
        have HWI : Hid _ := with_any p.name (.slice oa out.length oc) out wr HT.out (by omega)
        have hwl := withR_len out p.name
        have hk0 : (0 : Int) ≤ (k : Int) := by omega
        have hk1 : (k : Int) < (l.length : Int) := by omega
        obtain ⟨us, HUS⟩ : ∃ us, Hid (us = usesB name p) := ⟨_, (rfl : usesB name p = _)⟩
        rw [← HUS.out] at HTK
        have HND : Hid (us = true → ∀ va vc w3, TxR w3 (.slice va (withR out p.name).length vc) (withR out p.name) → ClI (((l.take (k + 1)).filter (usesB name)).map Pk.name) (withR out p.name)) := fun h _ _ _ _ => by
          rw [HTK.out, h]
          exact HI.out.2.more p.name
        clear hp hkk kt
        cases hn : (p.name.toList == name.toList) with
        | true =>
          obtain rfl : us = false := by rw [HUS.out]; unfold usesB; rw [hn]; rfl
          go_wp2_with fail
          go_roundw
          case rel => exact ⟨k + 1, out, oa, oc, by omega, by go_num, rfl, by omega, HT, HI.out.1, by rw [HTK.out]; simp only [Bool.false_eq_true, if_false, List.append_nil]; exact HI.out.2⟩
          case measure => simp [intOf]; omega
        | false =>
          have HUM : Hid (us = memB name p.refs) := show _ = _ by rw [HUS.out]; unfold usesB; rw [hn]; rfl
          rw [← HUM.out] at HIT
          go_wp2_with fail
          refine Calls.mono HIT.out ?_
          clear HIT
          rintro e wy ⟨rfl, hwy⟩
          obtain rfl := hwy
          cases us with
          | false =>
            go_wp2_with fail
            go_roundw
            case rel => exact ⟨k + 1, out, oa, oc, by omega, by go_num, rfl, by omega, HT, HI.out.1, by rw [HTK.out]; simp only [Bool.false_eq_true, if_false, List.append_nil]; exact HI.out.2⟩
            case measure => simp [intOf]; omega
          | true =>
            go_wp2_with fail
            refine Calls.mono HWI.out ?_
            clear HWI
            rintro e w3 ⟨⟨xa, xc, rfl, htx⟩, hb3⟩
            have HT3 : Hid (TxR w3 (.slice xa (withR out p.name).length xc) (withR out p.name)) := htx
            have HCI : Hid (ClI (((l.take (k + 1)).filter (usesB name)).map Pk.name) (withR out p.name)) := HND.out (by simp) _ _ _ htx
            have HB3 : Hid (Below wf.heap.size wf w3) := HI.out.1.trans (hb3.mono HI.out.1.size)
            obtain ⟨out2, HO2⟩ : ∃ o2', Hid (o2' = withR out p.name) := ⟨_, (rfl : withR out p.name = _)⟩
            rw [← HO2.out] at HT3 HCI hwl ⊢
            clear htx hb3 k0 k1
            go_wp2_with fail
            go_roundw
            case rel => exact ⟨k + 1, out2, xa, xc, by omega, by go_num, rfl, by omega, HT3, HB3.out, HCI.out⟩
            case measure => simp [intOf]; omega
      · have hge : ¬ (k : Int) < (l.length : Int) := by omega
        have HCE : Hid (∀ x, x ∈ out ↔ x ∈ lf l (usesB name)) := fun x => by
          have e : k = l.length := by omega
          have h := HI.out.2.mem x
          rw [e, List.take_length] at h
          rw [h]
          unfold lf
          simp only [List.mem_map, List.mem_filter, List.mem_reverse]
        have HRI : Hid (Rising out) := HI.out.2.rise
        go_wp2_with fail
        refine Calls.mono (fine_any wr) ?_
        rintro e w3 ⟨rfl, hb3⟩
        have HB03 : Hid (Below W0.heap.size W0 w3) := HB0r.out.trans (hb3.mono HB0r.out.size)
        have HB3 : Hid (Below w.heap.size w w3) := HBr.out.trans (hb3.mono HBr.out.size)
        have HBx3 : Hid (Below wr.heap.size wr w3) := hb3
        have q0 := (HB03.out.block _ hws).trans HX0.out
        obtain ⟨⟨x0, x1⟩, f0, f1⟩ := row2 q0
        have HQ0 : Hid (w3.heap[w.heap.size]? = some (.cells #[.int .i64 0, .int .i64 0] 33 (0, 0))) := q0
        clear hb3 q0
        go_wp2_with fail
        have HTE : Hid (TxR ((w3.setCell ⟨w.heap.size, 0, none⟩ (.int .i64 0)).setCell ⟨w.heap.size, 1, none⟩ (.int .i64 (-1))) (.slice oa out.length oc) out) := txr_set (HT.out.below HBx3.out) HQ0.out _ _
        have r0 : ((w3.setCell ⟨w.heap.size, 0, none⟩ (.int .i64 0)).setCell ⟨w.heap.size, 1, none⟩ (.int .i64 (-1))).heap[w.heap.size]? = some (.cells #[.int .i64 0, .int .i64 (-1)] 33 (0, 0)) := by
          show ((w3.setCell ⟨w.heap.size, 0, none⟩ (.int .i64 0)).setCell ⟨w.heap.size, 1, none⟩ (.int .i64 (-1))).heap[w.heap.size]? = _
          simp [World.setCell, Array.getElem?_modify, HQ0.out]
        obtain ⟨⟨r1, r2⟩, _⟩ := row2 r0
        refine bodyPost_ret (v := .tuple #[.slice oa out.length oc, .agg #[.int .i64 0, .int .i64 (-1)]]) (by simp [results, Tryd.results17, go_sem, r1, r2]) rfl ?_
        refine ⟨(HB3.out.setCell (Nat.le_refl _) _).setCell (Nat.le_refl _) _, out, oa, oc, ?_, HTE.out, by omega, fun h => absurd HK.out h, fun _ => ⟨HRI.out, HCE.out⟩⟩
        rw [HK.out]; rfl
set_option maxRecDepth 100000 in
set_option maxHeartbeats 4000000 in
theorem deadOf_any (v nv : Value) (l : List Pk) (names : List ByteArray) (w : World) (hv : PksIn w v l) (hl : l.length ≤ 45) (hn : Texts w nv names) (hnl : names.length ≤ 20) :
    Calls Tryd.prog 19 #[v, nv] w (DocPost (knw l names) w fun r => r = lf l fun p => !inS (needR l names) p) := by
  obtain ⟨ad, an, cap, rfl⟩ : ∃ ad an cap, v = .slice ad an cap := by obtain ⟨vs, _, ad, cap, e, _⟩ := hv; exact ⟨_, _, _, e⟩
  obtain rfl : an = l.length := by obtain ⟨vs, el, ad', cap', e, _⟩ := hv; simp only [Value.slice.injEq] at e; rw [e.2.1, ← el, List.length_map]
  obtain ⟨na, nc, rfl, _⟩ := id hn
  obtain ⟨W0, hW0⟩ : ∃ W0, W0 = w.alloc (.cells #[.int .i64 0, .int .i64 0] 33) := ⟨_, rfl⟩
  have HX0 : Hid (W0.heap[w.heap.size]? = some (.cells #[.int .i64 0, .int .i64 0] 33 (0, 0))) := by rw [hW0]; exact heap_alloc_last _ _
  have HB0 : Hid (Below w.heap.size w W0) := by rw [hW0]; exact (Below.refl _ _).alloc (Nat.le_refl _) _
  have hws : w.heap.size < W0.heap.size := by rw [hW0]; simp
  have HW0 : Hid (W0 = w.alloc (.cells #[.int .i64 0, .int .i64 0] 33)) := hW0
  have HV : Hid (∀ W, Below w.heap.size w W → PksIn W (.slice ad l.length cap) l) := fun W hb => hv.below hb
  have HPF : Hid _ := closureOf_any (.slice ad l.length cap) (.slice na names.length nc) l names W0 (hv.below HB0.out) hl (hn.below HB0.out) hnl
  clear hv hn hW0
  go_enter Tryd.func19, Tryd.ntmps19
  go_wp2_with fail
  rw [← HW0.out]
  refine Calls.mono HPF.out ?_
  clear HPF
  rintro e w1 ⟨hb1, r, ra, rc, rfl, htr, hrl, _, hP⟩
  have HB01 : Hid (Below W0.heap.size W0 w1) := hb1
  have HB1 : Hid (Below w.heap.size w w1) := HB0.out.trans (hb1.mono HB0.out.size)
  have HTR : Hid (TxR w1 (.slice ra r.length rc) r) := htr
  have HP : Hid (knw l names = none → Rising r ∧ ∀ x, x ∈ r ↔ x ∈ needR l names) := hP
  clear hb1 htr hP
  obtain ⟨W2, hW2⟩ : ∃ W2, W2 = w1.alloc (.cells #[.int .i64 (flC (knw l names)), .int .i64 (flA (knw l names))] 33) := ⟨_, rfl⟩
  have q2 : W2.heap[w1.heap.size]? = some (.cells #[.int .i64 (flC (knw l names)), .int .i64 (flA (knw l names))] 33 (0, 0)) := by rw [hW2]; exact heap_alloc_last _ _
  have hb12 : Below w1.heap.size w1 W2 := by rw [hW2]; exact (Below.refl _ _).alloc (Nat.le_refl _) _
  have HB02 : Hid (Below W0.heap.size W0 W2) := HB01.out.trans (hb12.mono HB01.out.size)
  have HB2 : Hid (Below w.heap.size w W2) := HB1.out.trans (hb12.mono HB1.out.size)
  have HB12 : Hid (Below w1.heap.size w1 W2) := hb12
  have HW2 : Hid (W2 = w1.alloc (.cells #[.int .i64 (flC (knw l names)), .int .i64 (flA (knw l names))] 33)) := hW2
  have HQ2 : Hid (W2.heap[w1.heap.size]? = some (.cells #[.int .i64 (flC (knw l names)), .int .i64 (flA (knw l names))] 33 (0, 0))) := q2
  obtain ⟨⟨y0, y1⟩, _⟩ := row2 q2
  have hw1 := HB01.out.size
  clear hb12 hW2 q2
  go_upto_region 2 with fail
  rw [← HW2.out]
  cases hck : knw l names with
  | some f =>
    have HK : Hid (knw l names = some f) := hck
    rw [hck] at y0 y1 HQ2
    have hp := flC_pos (f := f)
    have q0 := (HB02.out.block _ hws).trans HX0.out
    obtain ⟨⟨x0, x1⟩, f0, f1⟩ := row2 q0
    have HQ0 : Hid (W2.heap[w.heap.size]? = some (.cells #[.int .i64 0, .int .i64 0] 33 (0, 0))) := q0
    obtain ⟨fc, HFC⟩ : ∃ fc, Hid (fc = flC (some f)) := ⟨_, (rfl : flC (some f) = _)⟩
    obtain ⟨fa, HFA⟩ : ∃ fa, Hid (fa = flA (some f)) := ⟨_, (rfl : flA (some f) = _)⟩
    rw [← HFC.out] at hp y0
    rw [← HFA.out] at y1
    rw [← HFC.out, ← HFA.out]
    have y0d : W2.drew.cell? ⟨w1.heap.size, 0, none⟩ = some (.int .i64 fc) := y0
    have y1d : W2.drew.cell? ⟨w1.heap.size, 1, none⟩ = some (.int .i64 fa) := y1
    have x0d : W2.drew.cell? ⟨w.heap.size, 0, none⟩ = some (.int .i64 0) := x0
    have x1d : W2.drew.cell? ⟨w.heap.size, 1, none⟩ = some (.int .i64 0) := x1
    have f0d : W2.drew.frozen? ⟨w.heap.size, 0, none⟩ = false := f0
    have f1d : W2.drew.frozen? ⟨w.heap.size, 1, none⟩ = false := f1
    clear hck q0
    go_wp2_with fail
    go_region
    go_wp2_with fail
    have r0 : ((W2.setCell ⟨w.heap.size, 0, none⟩ (.int .i64 fc)).setCell ⟨w.heap.size, 1, none⟩ (.int .i64 fa)).drew.heap[w.heap.size]? = some (.cells #[.int .i64 fc, .int .i64 fa] 33 (0, 0)) := by
      show ((W2.setCell ⟨w.heap.size, 0, none⟩ (.int .i64 fc)).setCell ⟨w.heap.size, 1, none⟩ (.int .i64 fa)).heap[w.heap.size]? = _
      simp [World.setCell, Array.getElem?_modify, HQ0.out]
    obtain ⟨⟨r1, r2⟩, _⟩ := row2 r0
    refine bodyPost_ret (v := .tuple #[.slice none 0 0, .agg #[.int .i64 fc, .int .i64 fa]]) (by simp [results, Tryd.results19, go_sem, r1, r2]) rfl ?_
    refine ⟨((HB2.out.setCell (Nat.le_refl _) _).setCell (Nat.le_refl _) _).drew, [], none, 0, ?_, txr_nil _, by simp, fun _ => rfl, fun h => by rw [HK.out] at h; cases h⟩
    rw [HK.out, HFC.out, HFA.out]; rfl
  | none =>
  have HK : Hid (knw l names = none) := hck
  have HMB : Hid (∀ x, memB x r = memB x (needR l names)) := fun x => by rw [Bool.eq_iff_iff, memB_iff, memB_iff, (HP.out hck).2]
  rw [hck] at y0
  clear hck HP
  simp only [flC, flA] at y0 ⊢
  have hx1 : IntKind.i64.wrap ((l.length : Int) - 1) = (l.length : Int) - 1 := IntWalk.i64_in _ (by omega)
  go_wp2_with fail
  clear hx1
  go_loopw [8, 9] (fun o i wx => ∃ (j : Nat) (oa : Option Addr) (on oc : Nat), j ≤ l.length ∧ i = .int .i64 ((j : Int) - 1) ∧ o = .slice oa on oc ∧ Hid (on = (lfTo l (fun p => !inS (needR l names) p) (l.length - j)).length) ∧ Hid (OwnS wx W2.heap.size (.slice oa on oc) (lfTo l (fun p => !inS (needR l names) p) (l.length - j)) ∧ Below W2.heap.size W2 wx)) (fun _ i _ => (intOf i + 1).toNat)
  case atStart => exact ⟨l.length, none, 0, 0, Nat.le_refl _, rfl, rfl, by show _ = _; rw [Nat.sub_self]; rfl, by rw [Nat.sub_self]; exact OwnS.nil _ _, Below.refl _ _⟩
  case round =>
    obtain ⟨j, oa, on, oc, hj, rfl, rfl, HON, HI⟩ := hrel
    have HBx : Hid (Below w.heap.size w wr) := HB2.out.trans (HI.out.2.mono HB2.out.size)
    have HB0x : Hid (Below W0.heap.size W0 wr) := HB02.out.trans (HI.out.2.mono HB02.out.size)
    have HB1x : Hid (Below w1.heap.size w1 wr) := HB12.out.trans (HI.out.2.mono HB12.out.size)
    have HLL : Hid ((lfTo l (fun p => !inS (needR l names) p) (l.length - j)).length ≤ l.length) := lfTo_len _ _ _
    cases j with
    | zero =>
      have hneg : ¬ (0 : Int) ≤ ((0 : Nat) : Int) - 1 := by omega
      obtain ⟨L, HL⟩ : ∃ L, Hid (L = lf l fun p => !inS (needR l names) p) := ⟨_, (rfl : (lf l fun p => !inS (needR l names) p) = _)⟩
      have HIL : Hid (OwnS wr W2.heap.size (.slice oa L.length oc) L) := by
        have h := HI.out.1
        have h2 := HON.out
        rw [Nat.sub_zero, lfTo_all, ← HL.out] at h h2
        rw [h2] at h
        exact h
      have HOL : Hid (on = L.length) := by have h2 := HON.out; rw [Nat.sub_zero, lfTo_all, ← HL.out] at h2; exact h2
      have HL4 : Hid (L.length ≤ 45) := by have := HLL.out; rw [Nat.sub_zero, lfTo_all, ← HL.out] at this; show _ ≤ _; omega
      rw [HOL.out]
      go_wp2_with fail
      refine Calls.mono (fine_any wr) ?_
      rintro e w3 ⟨rfl, hb3⟩
      have HB03 : Hid (Below W0.heap.size W0 w3) := HB0x.out.trans (hb3.mono HB0x.out.size)
      have HB3 : Hid (Below w.heap.size w w3) := HBx.out.trans (hb3.mono HBx.out.size)
      have HBx3 : Hid (Below wr.heap.size wr w3) := hb3
      have q0 := (HB03.out.block _ hws).trans HX0.out
      obtain ⟨⟨x0, x1⟩, f0, f1⟩ := row2 q0
      have HQ0 : Hid (w3.heap[w.heap.size]? = some (.cells #[.int .i64 0, .int .i64 0] 33 (0, 0))) := q0
      clear hb3 q0
      go_wp2_with fail
      have HTE : Hid (TxR ((w3.setCell ⟨w.heap.size, 0, none⟩ (.int .i64 0)).setCell ⟨w.heap.size, 1, none⟩ (.int .i64 (-1))) (.slice oa L.length oc) L) := txr_set ((HIL.out.below HBx3.out).txr) HQ0.out _ _
      have r0 : ((w3.setCell ⟨w.heap.size, 0, none⟩ (.int .i64 0)).setCell ⟨w.heap.size, 1, none⟩ (.int .i64 (-1))).heap[w.heap.size]? = some (.cells #[.int .i64 0, .int .i64 (-1)] 33 (0, 0)) := by
        show ((w3.setCell ⟨w.heap.size, 0, none⟩ (.int .i64 0)).setCell ⟨w.heap.size, 1, none⟩ (.int .i64 (-1))).heap[w.heap.size]? = _
        simp [World.setCell, Array.getElem?_modify, HQ0.out]
      obtain ⟨⟨r1, r2⟩, _⟩ := row2 r0
      refine bodyPost_ret (v := .tuple #[.slice oa L.length oc, .agg #[.int .i64 0, .int .i64 (-1)]]) (by simp [results, Tryd.results19, go_sem, r1, r2]) rfl ?_
      refine ⟨(HB3.out.setCell (Nat.le_refl _) _).setCell (Nat.le_refl _) _, L, oa, oc, ?_, HTE.out, by have := HL4.out; omega, fun h => absurd HK.out h, fun _ => HL.out⟩
      rw [HK.out]; rfl
    | succ m =>
      have hm : m < l.length := by omega
      have e1 : ((m + 1 : Nat) : Int) - 1 = (m : Int) := by omega
      rw [e1]
      clear e1
      have hp : l[m]? = some l[m] := List.getElem?_eq_getElem hm
      obtain ⟨b, off, ua, uc, rfl, k0, k1, kt⟩ := pks_at (HV.out wr HBx.out) hp
      have HND : Hid (lfTo l (fun p => !inS (needR l names) p) (l.length - m) = lfTo l (fun p => !inS (needR l names) p) (l.length - (m + 1)) ++ if (!inS (needR l names) l[m]) = true then [l[m].name] else []) := show _ = _ by
        have e : l.length - m = (l.length - (m + 1)) + 1 := by omega
        rw [e, lfTo_succ (rev_at hm)]
      obtain ⟨L, HL⟩ : ∃ L, Hid (L = lfTo l (fun p => !inS (needR l names) p) (l.length - (m + 1))) := ⟨_, (rfl : lfTo l (fun p => !inS (needR l names) p) (l.length - (m + 1)) = _)⟩
      rw [← HL.out] at HND HI HON HLL
      obtain ⟨p, HP⟩ : ∃ p, Hid (p = l[m]) := ⟨_, (rfl : l[m] = _)⟩
      rw [← HP.out] at k0 HND
      obtain ⟨ins, HIN⟩ : ∃ ins, Hid (ins = inS (needR l names) p) := ⟨_, (rfl : inS (needR l names) p = _)⟩
      rw [← HIN.out] at HND
      have HIT : Hid _ := inTexts_any p.name (.slice ra r.length rc) r wr (HTR.out.1.below HB1x.out) (by omega)
      rw [HMB.out p.name, show memB p.name (needR l names) = ins from HIN.out.symm] at HIT
      have hm0 : (0 : Int) ≤ (m : Int) := by omega
      have hm1 : (m : Int) < (l.length : Int) := by omega
      have hmw : IntKind.i64.wrap ((m : Int) - 1) = (m : Int) - 1 := IntWalk.i64_in _ (by omega)
      clear hp kt k1
      go_wp2_with fail
      refine Calls.mono HIT.out ?_
      clear HIT
      rintro e wy ⟨rfl, hwy⟩
      obtain rfl := hwy
      cases ins with
      | true =>
        simp only [Bool.not_true, Bool.false_eq_true, if_false, List.append_nil] at HND
        go_wp2_with fail
        go_roundw
        case rel => exact ⟨m, oa, on, oc, by omega, rfl, rfl, by rw [HND.out]; exact HON, by rw [HND.out]; exact HI.out.1, HI.out.2⟩
        case measure => simp [intOf]
      | false =>
        simp only [Bool.not_false, if_true] at HND
        obtain ⟨W4, hW4⟩ : ∃ W4, W4 = wy.alloc (.cells #[.string p.name] 9) := ⟨_, rfl⟩
        have hb4 : Below wy.heap.size wy W4 := by rw [hW4]; exact (Below.refl _ _).alloc (Nat.le_refl _) _
        have q4 : W4.heap[wy.heap.size]? = some (.cells #[.string p.name] 9 (0, 0)) := by rw [hW4]; exact heap_alloc_last _ _
        have HT4 : Hid (Texts W4 (.slice (some ⟨wy.heap.size, 0, none⟩) 1 1) [p.name]) := one_text q4 1
        have HO4 : Hid (OwnS W4 W2.heap.size (.slice oa on oc) L) := HI.out.1.below hb4
        have HB4 : Hid (Below W2.heap.size W2 W4) := HI.out.2.trans (hb4.mono HI.out.2.size)
        have HS4 : Hid (W2.heap.size ≤ W4.heap.size) := HB4.out.size
        have HW4 : Hid (W4 = wy.alloc (.cells #[.string p.name] 9)) := hW4
        have HLN : Hid (L.length + [p.name].length ≤ 100000) := by have := HLL.out; show _ + 1 ≤ _; omega
        have HK1 : Hid (L.length + [p.name].length = on + 1) := show _ = _ by rw [← HON.out]; rfl
        clear hb4 q4 hW4
        go_wp2_with (at_builtin; go_must (rw [← HW4.out]; refine wpList_appS _ (by rfl) _ _ (by rfl) W2.heap.size (.slice oa on oc) (.slice (some ⟨wy.heap.size, 0, none⟩) 1 1) L [p.name] (by rfl) (by rfl) HO4.out HT4.out HLN.out HS4.out ?_; intro va5 vc5 w5 h5 g5; (have H5 : Hid (OwnS w5 W2.heap.size (.slice va5 (on + 1) vc5) (lfTo l (fun p => !inS (needR l names) p) (l.length - m))) := by (rw [HK1.out] at h5; rw [HND.out]; exact h5)); (have G5 : Hid (Below W2.heap.size W2 w5) := HB4.out.grown g5 HS4.out (fun j e => (HO4.out.block e).1)); clear h5 g5; rw [HK1.out]))
        have HN5 : Hid (on + 1 = (lfTo l (fun p => !inS (needR l names) p) (l.length - m)).length) := show _ = _ by rw [HND.out, List.length_append, ← HON.out]; rfl
        go_roundw
        case rel => exact ⟨m, va5, on + 1, vc5, by omega, rfl, rfl, HN5, H5.out, G5.out⟩
        case measure => simp [intOf]
end Go.Proofs.YtlaenhohjcjilaaDoor
