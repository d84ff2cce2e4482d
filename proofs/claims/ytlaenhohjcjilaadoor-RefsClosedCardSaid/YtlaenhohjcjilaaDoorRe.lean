/-
  The contracts of package refs' known, and of slices.Backward at packs.
  Conditions: the packs and the names lie in memory, the sentinels hold what the program's text lays.
-/
import Derived.Test.YtlaenhohjcjilaaDoorRd
import Derived.RangeFuncNested
import Derived.RangeFuncBound
import Derived.RangeFuncCalls
import Derived.RangeFuncLeaves
import Derived.Shelf.Abstract
import Derived.OwnWalkIn
import Derived.TacticsInMore
import Derived.LoopNIn
import Derived.LoopIn
namespace Go.Proofs.YtlaenhohjcjilaaDoor
open Go.RowKit Go.Maps Go.Shelf
attribute [local go_sem ↓] Go.wp_at_zero Go.wp_at_succ

/-- What is wrong with packs and names. -/
def knw (l : List Pk) (names : List ByteArray) : Option (Option Nat × Nat) := match chk l with
  | some f => some f
  | none => if (names.all fun x => memB x (l.map Pk.name)) = true then none else some (none, 5)
theorem knw_none {l : List Pk} {names : List ByteArray} (h : knw l names = none) : Well l ∧ ∀ x ∈ names, x ∈ l.map Pk.name := by
  unfold knw at h
  cases hc : chk l with
  | some f => rw [hc] at h; cases h
  | none =>
    rw [hc] at h
    simp only at h
    split at h
    · rename_i ha
      exact ⟨well_of hc, fun x hx => memB_iff.1 (List.all_eq_true.1 ha x hx)⟩
    · cases h
theorem knw_ok {l : List Pk} {names : List ByteArray} (h : Well l) (hn : ∀ x ∈ names, x ∈ l.map Pk.name) : knw l names = none := by
  unfold knw
  rw [h.chk]
  simp only
  rw [if_pos (List.all_eq_true.2 fun x hx => memB_iff.2 (hn x hx))]
set_option maxRecDepth 100000 in
set_option maxHeartbeats 1000000 in
theorem known_any (a : Nat → Addr) (v nv : Value) (l : List Pk) (names : List ByteArray) (w : World) (T : Sents a w) (hv : PksIn w v l) (hl : l.length ≤ 100) (hn : Texts w nv names) (hz : ∀ x ∈ names, x.size ≤ 1000) (hnl : names.length ≤ 10000) :
    Calls Tryd.prog 35 #[v, nv] w fun e w' => ∃ ev, e = .returned ev ∧ FltV a w' (knw l names) ev ∧ Below w.heap.size w w' := by
  have HCK : Hid _ := check_any a v l w T hv hl
  have HT : Hid (∀ W, Below w.heap.size w W → Sents a W) := fun W hb => T.below hb
  obtain ⟨vs, el, ad, cap, rfl, hc⟩ := hv
  have hvl : vs.length = l.length := by rw [← el, List.length_map]
  have HL : Hid (∀ (i : Nat) (x : PkV w), vs[i]? = some x → l[i]? = some x.pk) := fun i x hx => by rw [← el, List.getElem?_map, hx]; rfl
  have HC : Hid (∀ i (x : PkV w), vs[i]? = some x → ∃ b off, ad = some ⟨b, off, none⟩ ∧
    w.cell? ⟨b, off + i * 6, none⟩ = some (.string x.pk.name) ∧ w.cell? ⟨b, off + i * 6 + 1, none⟩ = some (.slice x.ua x.pk.refs.length x.uc) ∧ w.cell? ⟨b, off + i * 6 + 2, none⟩ = some (.string x.kd) ∧ w.cell? ⟨b, off + i * 6 + 3, none⟩ = some (.string x.dt) ∧ w.cell? ⟨b, off + i * 6 + 4, none⟩ = some (.bool x.ex) ∧ w.cell? ⟨b, off + i * 6 + 5, none⟩ = some (.slice x.ka x.kn x.kc)) := hc
  obtain ⟨na, nc, rfl, hnc⟩ := hn
  have HN : Hid (∀ i x, names[i]? = some x → ∃ b off, na = some ⟨b, off, none⟩ ∧ w.cell? ⟨b, off + i, none⟩ = some (.string x)) := hnc
  have HZ : Hid (∀ x ∈ names, x.size ≤ 1000) := hz
  clear hc T el hnc hz
  rw [hvl] at HCK ⊢
  have HVL : Hid (vs.length = l.length) := hvl
  clear hvl
  have hmm := @run_makeMap Tryd.prog
  go_enter Tryd.func35, Tryd.ntmps35
  go_wp2_with fail
  refine Calls.mono HCK.out ?_
  clear HCK
  rintro e w1 ⟨ev, rfl, hf, hb1⟩
  have HB1 : Hid (Below w.heap.size w w1) := hb1
  have HF : Hid (FltV a w1 (chk l) ev) := hf
  clear hb1 hf
  cases hck : chk l with
  | some f =>
    have HK : Hid (knw l names = chk l) := show _ = _ by unfold knw; rw [hck]
    have HFF : Hid (∃ t p, ev = .iface t (.pointer p)) := by
      have := HF.out
      rw [hck] at this
      obtain ⟨_ | i, e⟩ := f
      · exact ⟨_, _, this⟩
      · obtain ⟨pb, h, _⟩ := this
        exact ⟨_, _, h⟩
    obtain ⟨t, p, rfl⟩ := HFF.out
    clear hck HFF
    go_wp2_with fail
    go_ret
    exact ⟨_, rfl, by rw [HK.out]; exact HF.out, HB1.out⟩
  | none =>
  have HW : Hid (Well l) := well_of hck
  have HK : Hid (knw l names = if (names.all fun x => memB x (l.map Pk.name)) = true then none else some (none, 5)) := show _ = _ by unfold knw; rw [hck]
  rw [hck] at HF
  obtain rfl : ev = .nilIface := HF.out
  clear HF hck
  have HM0 : Hid (SetAt (w1.alloc (.map #[] 0)) w1.heap.size []) := SetAt.made w1
  have HB0 : Hid (Below w.heap.size w (w1.alloc (.map #[] 0))) := HB1.out.alloc HB1.out.size _
  have HS1 : Hid (w.heap.size ≤ w1.heap.size) := HB1.out.size
  go_wp2_with fail
  go_loopw [19] (fun i wr => ∃ k : Nat, k ≤ l.length ∧ i = .int .i64 k ∧ Hid (SetAt wr w1.heap.size (aheadN l k) ∧ Below w.heap.size w wr)) (fun i _ => l.length - (intOf i).toNat)
  case atStart => exact ⟨0, Nat.zero_le _, rfl, HM0.out, HB0.out⟩
  case round =>
    obtain ⟨k, hk, rfl, HI⟩ := hrel
    clear HM0 HB0
    by_cases hlt : k < l.length
    · obtain ⟨x, hx⟩ : ∃ x, vs[k]? = some x := ⟨vs[k]'(by rw [HVL.out]; exact hlt), List.getElem?_eq_getElem _⟩
      obtain ⟨b, off, rfl, k0, k1, k2, k3, k4, k5⟩ := HC.out k x hx
      have hbw := lt_of_cell k0
      have up : ∀ j, wr.cell? ⟨b, j, none⟩ = w.cell? ⟨b, j, none⟩ := fun j => HI.out.2.cell (p := ⟨b, j, none⟩) hbw
      rw [← up] at k0 k1 k2 k3 k4 k5
      have HAH : Hid (aheadN l (k + 1) = aheadN l k ++ [x.pk.name]) := aheadN_succ (HL.out k x hx)
      clear hx up
      have HNS : Hid (x.pk.name.size ≤ 1000) := by have := x.sn; show _ ≤ _; omega
      obtain ⟨W3, hW3⟩ : ∃ W3, W3 = (wr.alloc (.cells #[.string x.pk.name, .slice x.ua x.pk.refs.length x.uc, .string x.kd, .string x.dt, .bool x.ex, .slice x.ka x.kn x.kc] 49)).alloc (.cells #[.string x.pk.name] 9) := ⟨_, rfl⟩
      have hbr : Below wr.heap.size wr W3 := by rw [hW3]; exact ((Below.refl _ _).alloc (Nat.le_refl _) _).alloc (by simp) _
      have q3 : W3.heap[wr.heap.size + 1]? = some (.cells #[.string x.pk.name] 9 (0, 0)) := by
        have h := heap_alloc_last (wr.alloc (.cells #[.string x.pk.name, .slice x.ua x.pk.refs.length x.uc, .string x.kd, .string x.dt, .bool x.ex, .slice x.ka x.kn x.kc] 49)) (.cells #[.string x.pk.name] 9)
        rw [World.size_alloc] at h
        rw [hW3]; exact h
      have HAD : Hid _ := add_any (.slice (some ⟨wr.heap.size + 1, 0, none⟩) 1 1) [x.pk.name] W3 (HI.out.1.below hbr) (one_text q3 1) (fun y hy => by rw [List.mem_singleton.1 hy]; exact HNS.out) (by unfold aheadN; rw [List.length_map, List.length_take, List.length_singleton]; omega)
      have HB3 : Hid (Below w.heap.size w W3) := HI.out.2.trans (hbr.mono HI.out.2.size)
      clear hbr q3
      go_wp2_with fail
      rw [← hW3]
      clear hW3
      refine Calls.mono HAD.out ?_
      rintro e w4 ⟨rfl, hS4, hg4, _⟩
      have HI4 : Hid (SetAt w4 w1.heap.size (aheadN l (k + 1)) ∧ Below w.heap.size w w4) :=
        ⟨by rw [HAH.out]; exact hS4, below_by HB3.out hg4 HS1.out HB3.out.size⟩
      clear hS4 hg4 HAD k0 k1 k2 k3 k4 k5
      go_wp2_with fail
      go_roundw
      case rel => exact ⟨k + 1, by omega, by go_num, HI4⟩
      case measure => simp [intOf]; omega
    · have e : k = l.length := by omega
      have HS : Hid (SetAt wr w1.heap.size (l.map Pk.name)) := by show SetAt _ _ _; rw [← aheadN_all, ← e]; exact HI.out.1
      have HBR : Hid (Below w.heap.size w wr) := HI.out.2
      clear e HI
      go_wp2_with fail
      go_loopw [31] (fun i wx => ∃ k : Nat, k ≤ names.length ∧ i = .int .i64 k ∧ Hid (Below wr.heap.size wr wx ∧ ((names.take k).all fun x => memB x (l.map Pk.name)) = true)) (fun i _ => names.length - (intOf i).toNat)
      case atStart => exact ⟨0, Nat.zero_le _, rfl, Below.refl _ _, rfl⟩
      case round =>
        obtain ⟨j, hj, rfl, HJ⟩ := hrel
        rename World => wx
        by_cases hltj : j < names.length
        · obtain ⟨x, hx⟩ : ∃ x, names[j]? = some x := ⟨names[j], List.getElem?_eq_getElem hltj⟩
          obtain ⟨b1, o1, rfl, c1⟩ := HN.out j x hx
          have HBX : Hid (Below w.heap.size w wx) := HBR.out.trans (HJ.out.1.mono HBR.out.size)
          have c1' : wx.cell? ⟨b1, o1 + j, none⟩ = some (.string x) := (HBX.out.cell (p := ⟨b1, o1 + j, none⟩) (lt_of_cell c1)).trans c1
          have HH : Hid _ := has_any x wx (HS.out.below HJ.out.1) (HZ.out x (List.mem_of_getElem? hx))
          have HX : Hid (names[j]? = some x) := hx
          clear hx c1
          go_wp2_with fail
          refine Calls.mono HH.out ?_
          rintro e w5 ⟨rfl, hb5⟩
          have HB5 : Hid (Below wr.heap.size wr w5) := HJ.out.1.trans (hb5.mono HJ.out.1.size)
          have HB6 : Hid (Below w.heap.size w w5) := HBX.out.trans (hb5.mono HBX.out.size)
          have c5 := (HT.out w5 HB6.out).c5
          clear hb5 c1' HH
          have hkk := List.getElem?_eq_some_iff.1 HX.out
          have HTK : Hid (((names.take (j + 1)).all fun x => memB x (l.map Pk.name)) = memB x (l.map Pk.name)) := show _ = _ by rw [List.take_succ_eq_append_getElem hkk.1, hkk.2, List.all_append, HJ.out.2]; simp
          clear hkk
          cases hg : memB x (l.map Pk.name) with
          | false =>
            have HA : Hid ((names.all fun x => memB x (l.map Pk.name)) = false) := List.all_eq_false.2 ⟨x, List.mem_of_getElem? HX.out, by rw [hg]; simp⟩
            clear hg
            go_wp2_with fail
            go_ret
            exact ⟨_, rfl, by rw [HK.out, HA.out]; exact rfl, HB6.out⟩
          | true =>
            rw [hg] at HTK
            clear hg c5
            go_wp2_with fail
            go_roundw
            case rel => exact ⟨j + 1, by omega, by go_num, HB5.out, HTK.out⟩
            case measure => simp [intOf]; omega
        · have e : j = names.length := by omega
          have HA : Hid ((names.all fun x => memB x (l.map Pk.name)) = true) := by have := HJ.out.2; rw [e, List.take_length] at this; exact this
          clear e
          go_wp2_with fail
          go_ret
          exact ⟨_, rfl, by rw [HK.out, HA.out]; exact rfl, HBR.out.trans (HJ.out.1.mono HBR.out.size)⟩

/-! ### From the end on -/
/-- What comes: from the end on, with its place. -/
def comesP {w : World} (vs : List (PkV w)) (k : Nat) : List (Nat × PkV w) := ((vs.zipIdx.map fun p => (p.2, p.1)).reverse).take k
theorem comesP_len {w : World} (vs : List (PkV w)) (k : Nat) (h : k ≤ vs.length) : (comesP vs k).length = k := by
  unfold comesP
  rw [List.length_take, List.length_reverse, List.length_map, List.length_zipIdx]
  omega
theorem comesP_step {w : World} {vs : List (PkV w)} {m : Nat} (h : m < vs.length) : comesP vs (vs.length - m) = comesP vs (vs.length - (m + 1)) ++ [(m, vs[m])] := by
  unfold comesP
  have e : vs.length - m = (vs.length - (m + 1)) + 1 := by omega
  rw [e, List.take_succ_eq_append_getElem (by simp; omega)]
  congr 2
  rw [List.getElem_reverse, List.getElem_map, List.getElem_zipIdx]
  simp only [List.length_map, List.length_zipIdx, Nat.zero_add]
  have : vs.length - 1 - (vs.length - (m + 1)) = m := by omega
  congr 1
  congr 1
theorem comesP_pk {w : World} (vs : List (PkV w)) (k : Nat) : (comesP vs k).map (fun p => p.2.pk) = (vs.map PkV.pk).reverse.take k := by
  unfold comesP
  rw [List.map_take, List.map_reverse, List.map_map]
  congr 2
  rw [show ((fun p : Nat × PkV w => p.2.pk) ∘ fun p : PkV w × Nat => (p.2, p.1)) = PkV.pk ∘ Prod.fst from rfl, ← List.map_map, List.zipIdx_map_fst]
def encP {w : World} (x : Nat × PkV w) : Array Value := #[.int .i64 (x.1 : Int), .agg #[.string x.2.pk.name, .slice x.2.ua x.2.pk.refs.length x.2.uc, .string x.2.kd, .string x.2.dt, .bool x.2.ex, .slice x.2.ka x.2.kn x.2.kc]]
/-- What a round keeps: what was there, and the list's box. -/
def KpP (n₀ Bs : Nat) (W W' : World) : Prop := Below n₀ W W' ∧ W'.heap[Bs]? = W.heap[Bs]?
theorem KpP.trans {n₀ Bs : Nat} {A B C : World} (h : KpP n₀ Bs A B) (k : KpP n₀ Bs B C) : KpP n₀ Bs A C := ⟨h.1.trans k.1, k.2.trans h.2⟩

set_option maxRecDepth 100000 in
set_option maxHeartbeats 2000000 in
theorem pback1_in {w : World} (F : Fence) (n : Nat) (h39 : F.fn 58) (hro : F.round = none) (hn : 1 ≤ n) (l Bs : Nat) (va : Option Addr) (vc : Nat) (vs : List (PkV w)) (hreach : vs.length ≤ 100) (hc : PksAt w (.slice va vs.length vc) vs) (J Jx : List (Nat × PkV w) → World → Prop)
    (hY : ∀ pre x W, J pre W → pre.length < vs.length → YieldAt F (n - 1) Tryd.prog l (encP x) W fun e W' =>
      (e = .returned (.bool true) ∧ J (pre ++ [x]) W' ∧ KpP w.heap.size Bs W W') ∨ (e = .returned (.bool false) ∧ Jx (pre ++ [x]) W'))
    (W : World) (hW : Below w.heap.size w W) (hBs : W.heap[Bs]? = some (.cells #[.slice va vs.length vc] 22 (0, 0))) (h0 : J [] W) :
    CallsIn F n Tryd.prog 58 #[.func (.yield l) #[] #[], .pointer (some ⟨Bs, 0, none⟩)] W fun e W' => (∃ v, e = .returned v) ∧
      ((∃ ys, ys = comesP vs vs.length ∧ J ys W') ∨ (∃ pre, (∃ k, k ≤ vs.length ∧ pre = comesP vs k) ∧ Jx pre W')) := by
  obtain ⟨va', vc', e0, hcc⟩ := hc
  simp only [Value.slice.injEq, true_and] at e0
  obtain ⟨rfl, rfl⟩ := e0
  refine callsIn_of_wp Tryd.func58 rfl h39 ?_ hro
  simp only [Tryd.ntmps58, List.size_toArray, List.length_cons, List.length_nil, Nat.reduceAdd, Nat.reduceSub, Array.replicate_succ, Array.replicate_zero, List.push_toArray, List.append_toArray, List.nil_append, List.cons_append]
  have hBc : W.cell? ⟨Bs, 0, none⟩ = some (.slice va vs.length vc) := by rw [cell_of_row _ _ _ _ _ _ hBs]; rfl
  gi_wp2
  gi_loopw [3] (fun i wr => ∃ j : Nat, j ≤ vs.length ∧ i = .int .i64 ((j : Int) - 1) ∧ J (comesP vs (vs.length - j)) wr ∧ KpP w.heap.size Bs W wr)
    (fun i _ => (intOf i + 1).toNat)
  case atStart => exact ⟨vs.length, Nat.le_refl _, rfl, by rw [Nat.sub_self]; exact h0, Below.refl _ _, rfl⟩
  case round =>
    obtain ⟨j, hj, rfl, hJs, hnx⟩ := hrel
    have hBw : wr.cell? ⟨Bs, 0, none⟩ = some (.slice va vs.length vc) := (World.cell?_of_block (a := ⟨Bs, 0, none⟩) hnx.2).trans hBc
    cases j with
    | zero =>
      gi_wp2
      go_end0
      exact ⟨⟨_, rfl⟩, .inl ⟨_, rfl, hJs⟩⟩
    | succ m =>
      have hm : m < vs.length := by omega
      have e1 : ((m + 1 : Nat) : Int) - 1 = (m : Int) := by omega
      rw [e1]
      clear e1
      have hx : vs[m]? = some vs[m] := List.getElem?_eq_getElem hm
      obtain ⟨b, off, rfl, k0, k1, k2, k3, k4, k5⟩ := hcc m _ hx
      have hbw := lt_of_cell k0
      have up : ∀ j, wr.cell? ⟨b, j, none⟩ = w.cell? ⟨b, j, none⟩ := fun j => (hW.trans hnx.1).cell (p := ⟨b, j, none⟩) hbw
      rw [← up] at k0 k1 k2 k3 k4 k5
      have HN : Hid (comesP vs (vs.length - m) = comesP vs (vs.length - (m + 1)) ++ [(m, vs[m])]) := comesP_step hm
      obtain ⟨fn, tmps, assign, body, hy, hR⟩ := hY _ (m, vs[m]) wr hJs (by rw [comesP_len _ _ (by omega)]; omega)
      generalize vs[m] = x at *
      dsimp only [encP] at hy hR
      clear up hx
      gi_wp2
      refine hR.mono ?_
      rintro e W3 (⟨rfl, hJ3, hk3⟩ | ⟨rfl, hJx3⟩)
      · gi_wp2
        go_roundw
        case rel => exact ⟨m, by omega, rfl, by rw [HN.out]; exact hJ3, hnx.trans hk3⟩
        case measure => simp [intOf]
      · gi_wp2
        refine bodyPost_ret (results_none rfl _ _ _) rfl ?_
        exact ⟨⟨_, rfl⟩, .inr ⟨_, ⟨vs.length - m, by omega, HN.out.symm⟩, hJx3⟩⟩

theorem pback_in (F : Fence) (n : Nat) (h5 : F.fn 46) (hro : F.round = none) (a : Option Addr) (len cap : Nat) (w : World) :
    CallsIn F n Tryd.prog 46 #[.slice a len cap] w fun e w' => e = .returned (.func (.func 58) #[] #[.pointer (some ⟨w.heap.size, 0, none⟩)]) ∧ w' = w.alloc (.cells #[.slice a len cap] 22) := by
  refine callsIn_of_wp Tryd.func46 rfl h5 ?_ hro
  simp only [Tryd.ntmps46, List.size_toArray, List.length_cons, List.length_nil, Nat.reduceAdd, Nat.reduceSub, Array.replicate_succ, Array.replicate_zero, List.push_toArray, List.append_toArray, List.nil_append, List.cons_append]
  gi_wp2
  go_ret
  exact ⟨rfl, rfl⟩

theorem pback_stops {w : World} (F : Fence) (n : Nat) (h39 : F.fn 58) (hro : F.round = none) (hn : 1 ≤ n) (Bs : Nat) (va : Option Addr) (vc : Nat) (vs : List (PkV w)) (hreach : vs.length ≤ 100) (hc : PksAt w (.slice va vs.length vc) vs) (w0 : World) (hw0 : Below w.heap.size w w0) (hBs : w0.heap[Bs]? = some (.cells #[.slice va vs.length vc] 22 (0, 0))) :
    SeqStopsK F n Tryd.prog 58 #[.pointer (some ⟨Bs, 0, none⟩)] (encP (w := w)) (KpP w.heap.size Bs) (fun ys => ys = comesP vs vs.length)
      (fun pre => ∃ k, k ≤ vs.length ∧ pre = comesP vs k) vs.length w0 := fun l J Jx W hW _ _ hY h0 =>
  pback1_in F n h39 hro hn l Bs va vc vs hreach hc J Jx hY W (hw0.trans (hW.mono hw0.size)) ((hW.block _ (lt_of_row hBs)).trans hBs) h0
end Go.Proofs.YtlaenhohjcjilaaDoor
