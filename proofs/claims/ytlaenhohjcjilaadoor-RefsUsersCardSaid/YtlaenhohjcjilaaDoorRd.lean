/-
  The contracts of package refs' checkPack and Check.
  Conditions: the packs lie in memory, the sentinels hold what the program's text lays.
-/
import Derived.Test.YtlaenhohjcjilaaDoorRc
namespace Go.Proofs.YtlaenhohjcjilaaDoor
open Go.RowKit Go.Maps
attribute [local go_sem ↓] Go.wp_at_zero Go.wp_at_succ

/-- A pack's error as a value. -/
def pkV (a : Nat → Addr) : Option Nat → Value
  | none => .nilIface
  | some n => .iface 140 (.pointer (some (a n)))
set_option maxRecDepth 100000 in
set_option maxHeartbeats 1000000 in
theorem checkPack_any (a : Nat → Addr) {mb : Nat} {A : List ByteArray} (p : Pk) (u x2 x3 x4 x5 : Value) (w : World) (T : Sents a w) (S : SetAt w mb A) (hu : Texts w u p.refs) (hn : p.name.size ≤ 30) (hl : p.refs.length ≤ 25) (hr : ∀ r ∈ p.refs, r.size ≤ 30) :
    Calls Tryd.prog 24 #[.agg #[.string p.name, u, x2, x3, x4, x5], .map (some mb)] w fun e w' => e = .returned (pkV a (pkErr A p)) ∧ Below w.heap.size w w' := by
  obtain ⟨ad, cap, rfl, _⟩ := id hu
  have hB0 : Below w.heap.size w ((w.alloc (.cells #[.string p.name, .slice ad p.refs.length cap, x2, x3, x4, x5] 49)).alloc (.cells #[.map (some mb)] 55)) := ((Below.refl _ w).alloc (Nat.le_refl _) _).alloc (by simp) _
  have q0 : ((w.alloc (.cells #[.string p.name, .slice ad p.refs.length cap, x2, x3, x4, x5] 49)).alloc (.cells #[.map (some mb)] 55)).heap[w.heap.size]? = some (.cells #[.string p.name, .slice ad p.refs.length cap, x2, x3, x4, x5] 49 (0, 0)) := by
    rw [Below.heap_alloc _ _ _ (by simp), heap_alloc_last]
  have q1 : ((w.alloc (.cells #[.string p.name, .slice ad p.refs.length cap, x2, x3, x4, x5] 49)).alloc (.cells #[.map (some mb)] 55)).heap[w.heap.size + 1]? = some (.cells #[.map (some mb)] 55 (0, 0)) := by
    have h := heap_alloc_last (w.alloc (.cells #[.string p.name, .slice ad p.refs.length cap, x2, x3, x4, x5] 49)) (.cells #[.map (some mb)] 55)
    rw [World.size_alloc] at h
    exact h
  have HNM : Hid (∀ W, Calls Tryd.prog 42 #[.string p.name] W fun e w' => e = .returned (.bool (nameB p.name)) ∧ w' = W) := fun W => name_any p.name W (by unfold maxLen; omega)
  have HW : Hid (∀ W, Below w.heap.size w W → W.heap[w.heap.size]? = some (.cells #[.string p.name, .slice ad p.refs.length cap, x2, x3, x4, x5] 49 (0, 0)) → W.heap[w.heap.size + 1]? = some (.cells #[.map (some mb)] 55 (0, 0)) →
      (W.cell? ⟨w.heap.size, 0, none⟩ = some (.string p.name) ∧ W.cell? ⟨w.heap.size, 1, none⟩ = some (.slice ad p.refs.length cap) ∧ W.cell? ⟨w.heap.size + 1, 0, none⟩ = some (.map (some mb))) ∧ SetAt W mb A ∧ Sents a W ∧ Texts W (.slice ad p.refs.length cap) p.refs) := fun W hb h0 h1 =>
    ⟨⟨by rw [cell_of_row _ _ _ _ _ _ h0]; rfl, by rw [cell_of_row _ _ _ _ _ _ h0]; rfl, by rw [cell_of_row _ _ _ _ _ _ h1]; rfl⟩, S.below hb, T.below hb, hu.below hb⟩
  have HU : Hid _ := hu
  clear T S hu
  go_enter Tryd.func24, Tryd.ntmps24
  go_wp2_with fail
  refine Calls.mono (HNM.out _) ?_
  rintro e w1 ⟨rfl, e1⟩
  rw [← e1] at hB0 q0 q1
  clear e1 HNM
  obtain ⟨⟨c0, c1, c3⟩, S1, T1, U1⟩ := HW.out w1 hB0 q0 q1
  have c4 := T1.c4
  have HS1 : Hid (SetAt w1 mb A) := S1
  clear S1 T1 U1
  cases hn1 : nameB p.name with
  | false =>
    have HE : Hid (pkErr A p = some 4) := show _ = _ by unfold pkErr; rw [if_pos hn1]
    go_wp2_with fail
    go_ret
    exact ⟨by rw [HE.out]; rfl, hB0⟩
  | true =>
  go_wp2_with fail
  clear c4
  refine Calls.mono (has_any p.name w1 HS1.out (by omega)) ?_
  rintro e w2 ⟨rfl, hb2⟩
  have hB2 : Below w.heap.size w w2 := hB0.trans (hb2.mono hB0.size)
  replace q0 := (hb2.block _ (lt_of_row q0)).trans q0
  replace q1 := (hb2.block _ (lt_of_row q1)).trans q1
  clear hb2 hB0 c0 c1 c3 HS1
  obtain ⟨⟨c0, c1, c3⟩, S2, T2, U2⟩ := HW.out w2 hB2 q0 q1
  have c6 := T2.c6
  have c7 := T2.c7
  have HU2 : Hid (Texts w2 (.slice ad p.refs.length cap) p.refs) := U2
  clear S2 T2 U2
  cases hm : memB p.name A with
  | true =>
    have HE : Hid (pkErr A p = some 6) := show _ = _ by unfold pkErr; rw [if_neg (by rw [hn1]; simp), if_pos hm]
    go_wp2_with fail
    go_ret
    exact ⟨by rw [HE.out]; rfl, hB2⟩
  | false =>
  by_cases h20 : 20 < p.refs.length
  · have HE : Hid (pkErr A p = some 7) := show _ = _ by unfold pkErr; rw [if_neg (by rw [hn1]; simp), if_neg (by rw [hm]; simp), if_pos h20]
    have h20' : (20 : Int) < (p.refs.length : Int) := by omega
    clear h20
    go_wp2_with fail
    go_ret
    exact ⟨by rw [HE.out]; rfl, hB2⟩
  have h20' : (p.refs.length : Int) ≤ 20 := by omega
  go_wp2_with fail
  clear c6 c7
  refine Calls.mono (rise_any _ p.refs w2 HU2.out (by omega)) ?_
  rintro e w3 ⟨rfl, hb3⟩
  have hB3 : Below w.heap.size w w3 := hB2.trans (hb3.mono hB2.size)
  replace q0 := (hb3.block _ (lt_of_row q0)).trans q0
  replace q1 := (hb3.block _ (lt_of_row q1)).trans q1
  clear hb3 hB2 c0 c1 c3 HU2
  obtain ⟨⟨c0, c1, c3⟩, S3, T3, U3⟩ := HW.out w3 hB3 q0 q1
  have c9 := T3.c9
  have HS3 : Hid (SetAt w3 mb A) := S3
  have HU3 : Hid (Texts w3 (.slice ad p.refs.length cap) p.refs) := U3
  clear S3 T3 U3
  cases hri : riseTo p.refs p.refs.length with
  | false =>
    have HE : Hid (pkErr A p = some 9) := show _ = _ by unfold pkErr; rw [if_neg (by rw [hn1]; simp), if_neg (by rw [hm]; simp), if_neg h20, if_pos hri]
    clear h20
    go_wp2_with fail
    go_ret
    exact ⟨by rw [HE.out]; rfl, hB3⟩
  | true =>
  have HCF : Hid _ := containsf_any (b2 := w.heap.size) (b3 := w.heap.size + 1) (.slice ad p.refs.length cap) p.refs (lacks A p) w3 HU3.out (by omega) (fun r hr' W hb => by
    have hBW : Below w.heap.size w W := hB3.trans (hb.mono hB3.size)
    obtain ⟨⟨k0, _, k3⟩, SW, _⟩ := HW.out W hBW ((hb.block _ (lt_of_row q0)).trans q0) ((hb.block _ (lt_of_row q1)).trans q1)
    exact missing_any r W k0 k3 SW (by have := hr r hr'; omega))
  go_wp2_with fail
  clear c9
  refine Calls.mono HCF.out ?_
  rintro e w4 ⟨rfl, hb4⟩
  have hB4 : Below w.heap.size w w4 := hB3.trans (hb4.mono hB3.size)
  replace q0 := (hb4.block _ (lt_of_row q0)).trans q0
  replace q1 := (hb4.block _ (lt_of_row q1)).trans q1
  clear hb4 hB3 c0 c1 c3 HS3 HU3 HCF
  obtain ⟨_, _, T4, _⟩ := HW.out w4 hB4 q0 q1
  have c5 := T4.c5
  clear T4
  cases han : p.refs.any (lacks A p) with
  | true =>
    have HE : Hid (pkErr A p = some 5) := show _ = _ by unfold pkErr; rw [if_neg (by rw [hn1]; simp), if_neg (by rw [hm]; simp), if_neg h20, if_neg (by rw [hri]; simp), if_pos han]
    clear h20
    go_wp2_with fail
    go_ret
    exact ⟨by rw [HE.out]; rfl, hB4⟩
  | false =>
    have HE : Hid (pkErr A p = none) := show _ = _ by unfold pkErr; rw [if_neg (by rw [hn1]; simp), if_neg (by rw [hm]; simp), if_neg h20, if_neg (by rw [hri]; simp), if_neg (by rw [han]; simp)]
    clear h20
    go_wp2_with fail
    go_ret
    exact ⟨by rw [HE.out]; rfl, hB4⟩

/-- What Check answers: nothing, a bare sentinel, or a fault that holds one and a place. -/
def FltV (a : Nat → Addr) (w : World) : Option (Option Nat × Nat) → Value → Prop
  | none, v => v = .nilIface
  | some (none, e), v => v = .iface 140 (.pointer (some (a e)))
  | some (some i, e), v => ∃ pb, v = .iface 57 (.pointer (some ⟨pb, 0, none⟩)) ∧ w.cell? ⟨pb, 0, none⟩ = some (.int .i64 (i : Int)) ∧ w.cell? ⟨pb, 1, none⟩ = some (.iface 140 (.pointer (some (a e))))
theorem FltV.below {a : Nat → Addr} {w w' : World} {o : Option (Option Nat × Nat)} {v : Value} (h : FltV a w o v) (hb : Below w.heap.size w w') : FltV a w' o v := by
  rcases o with _ | ⟨_ | i, e⟩
  · exact h
  · exact h
  · obtain ⟨pb, e1, h0, h1⟩ := h
    exact ⟨pb, e1, (hb.cell (p := ⟨pb, 0, none⟩) (lt_of_cell h0)).trans h0, (hb.cell (p := ⟨pb, 1, none⟩) (lt_of_cell h1)).trans h1⟩
set_option maxRecDepth 100000 in
set_option maxHeartbeats 1000000 in
theorem check_any (a : Nat → Addr) (v : Value) (l : List Pk) (w : World) (T : Sents a w) (hv : PksIn w v l) (hl : l.length ≤ 100) :
    Calls Tryd.prog 11 #[v] w fun e w' => ∃ ev, e = .returned ev ∧ FltV a w' (chk l) ev ∧ Below w.heap.size w w' := by
  obtain ⟨vs, el, ad, cap, rfl, hc⟩ := hv
  have hvl : vs.length = l.length := by rw [← el, List.length_map]
  have HL : Hid (∀ (i : Nat) (x : PkV w), vs[i]? = some x → l[i]? = some x.pk) := fun i x hx => by rw [← el, List.getElem?_map, hx]; rfl
  have HC : Hid (∀ i (x : PkV w), vs[i]? = some x → ∃ b off, ad = some ⟨b, off, none⟩ ∧
    w.cell? ⟨b, off + i * 6, none⟩ = some (.string x.pk.name) ∧ w.cell? ⟨b, off + i * 6 + 1, none⟩ = some (.slice x.ua x.pk.refs.length x.uc) ∧ w.cell? ⟨b, off + i * 6 + 2, none⟩ = some (.string x.kd) ∧ w.cell? ⟨b, off + i * 6 + 3, none⟩ = some (.string x.dt) ∧ w.cell? ⟨b, off + i * 6 + 4, none⟩ = some (.bool x.ex) ∧ w.cell? ⟨b, off + i * 6 + 5, none⟩ = some (.slice x.ka x.kn x.kc)) := hc
  have HT : Hid (∀ W, Below w.heap.size w W → Sents a W) := fun W hb => T.below hb
  have c7 := T.c7
  clear hc T el
  rw [hvl]
  have HVL : Hid (vs.length = l.length) := hvl
  clear hvl
  by_cases h40 : 40 < l.length
  · have HE : Hid _ := chk_full h40
    have h40' : (40 : Int) < (l.length : Int) := by omega
    clear h40
    go_enter Tryd.func11, Tryd.ntmps11
    go_wp2_with fail
    go_ret
    exact ⟨_, rfl, by rw [HE.out]; exact rfl, Below.refl _ _⟩
  have h40' : (l.length : Int) ≤ 40 := by omega
  have hmm := @run_makeMap Tryd.prog
  have HM0 : Hid (SetAt (w.alloc (.map #[] 0)) w.heap.size []) := SetAt.made w
  have HB0 : Hid (Below w.heap.size w (w.alloc (.map #[] 0))) := (Below.refl _ w).alloc (Nat.le_refl _) _
  clear c7
  go_enter Tryd.func11, Tryd.ntmps11
  go_wp2_with fail
  go_loopw [14] (fun i wr => ∃ k : Nat, k ≤ l.length ∧ i = .int .i64 k ∧ Hid (SetAt wr w.heap.size (aheadN l k) ∧ Below w.heap.size w wr ∧ PkOk l k)) (fun i _ => l.length - (intOf i).toNat)
  case atStart => exact ⟨0, Nat.zero_le _, rfl, HM0.out, HB0.out, fun j hj => absurd hj (Nat.not_lt_zero _)⟩
  case round =>
    obtain ⟨k, hk, rfl, HI⟩ := hrel
    clear HM0 HB0
    by_cases hlt : k < l.length
    · obtain ⟨x, hx⟩ : ∃ x, vs[k]? = some x := ⟨vs[k]'(by rw [HVL.out]; exact hlt), List.getElem?_eq_getElem _⟩
      obtain ⟨b, off, rfl, k0, k1, k2, k3, k4, k5⟩ := HC.out k x hx
      have hbw := lt_of_cell k0
      have up : ∀ j, wr.cell? ⟨b, j, none⟩ = w.cell? ⟨b, j, none⟩ := fun j => HI.out.2.1.cell (p := ⟨b, j, none⟩) hbw
      rw [← up] at k0 k1 k2 k3 k4 k5
      have HX := HL.out k x hx
      clear hx up
      obtain ⟨W1, hW1⟩ : ∃ W1, W1 = wr.alloc (.cells #[.string x.pk.name, .slice x.ua x.pk.refs.length x.uc, .string x.kd, .string x.dt, .bool x.ex, .slice x.ka x.kn x.kc] 49) := ⟨_, rfl⟩
      have hbr : Below wr.heap.size wr W1 := by rw [hW1]; exact (Below.refl _ _).alloc (Nat.le_refl _) _
      have hB1 : Below w.heap.size w W1 := HI.out.2.1.trans (hbr.mono HI.out.2.1.size)
      have q0 : W1.heap[wr.heap.size]? = some (.cells #[.string x.pk.name, .slice x.ua x.pk.refs.length x.uc, .string x.kd, .string x.dt, .bool x.ex, .slice x.ka x.kn x.kc] 49 (0, 0)) := by rw [hW1]; exact heap_alloc_last _ _
      have S1 : SetAt W1 w.heap.size (aheadN l k) := HI.out.1.below hbr
      have HCP : Hid _ := checkPack_any a x.pk (.slice x.ua x.pk.refs.length x.uc) (.string x.kd) (.string x.dt) (.bool x.ex) (.slice x.ka x.kn x.kc) W1 (HT.out W1 hB1) S1 (x.tx.below hB1) x.sn x.sl x.sr
      have HER : Hid (errAt l k = pkErr (aheadN l k) x.pk) := errAt_some HX
      have HAH : Hid (aheadN l (k + 1) = aheadN l k ++ [x.pk.name]) := aheadN_succ HX
      have HN : Hid (x.pk.name.size ≤ 1000) := by have := x.sn; show _ ≤ _; omega
      have HQ : Hid (W1.heap[wr.heap.size]? = some (.cells #[.string x.pk.name, .slice x.ua x.pk.refs.length x.uc, .string x.kd, .string x.dt, .bool x.ex, .slice x.ka x.kn x.kc] 49 (0, 0))) := q0
      have HB1 : Hid (Below w.heap.size w W1) := hB1
      have HS1 : Hid (SetAt W1 w.heap.size (aheadN l k)) := S1
      have HBR : Hid (Below wr.heap.size wr W1) := hbr
      clear HX q0 S1 hbr hB1
      go_wp2_with fail
      rw [← hW1]
      clear hW1
      refine Calls.mono HCP.out ?_
      clear HCP
      rintro e w2 ⟨rfl, hb2⟩
      have HB2 : Hid (Below w.heap.size w w2) := HB1.out.trans (hb2.mono HB1.out.size)
      have q2 := (hb2.block _ (lt_of_row HQ.out)).trans HQ.out
      have d0 : w2.cell? ⟨wr.heap.size, 0, none⟩ = some (.string x.pk.name) := by rw [cell_of_row _ _ _ _ _ _ q2]; rfl
      have HS2 : Hid (SetAt w2 w.heap.size (aheadN l k)) := HS1.out.below hb2
      clear hb2 q2 HQ k0 k1 k2 k3 k4 k5
      cases hE : pkErr (aheadN l k) x.pk with
      | some n =>
        rw [hE] at HER
        have HCH : Hid (chk l = some (some k, n)) := chk_at (by omega) HI.out.2.2 hlt HER.out
        have HEQ : Hid (pkErr (aheadN l k) x.pk = some n) := hE
        clear hE HER
        simp only [pkV]
        have r9 : (w2.alloc (.cells #[.int .i64 (k : Int), .iface 140 (.pointer (some (a n)))] 59)).heap[w2.heap.size]? = some (.cells #[.int .i64 (k : Int), .iface 140 (.pointer (some (a n)))] 59 (0, 0)) := heap_alloc_last _ _
        have HR9 : Hid _ := r9
        clear r9
        go_wp2_with fail
        go_ret
        refine ⟨_, rfl, ?_, HB2.out.alloc HB2.out.size _⟩
        rw [HCH.out]
        exact ⟨w2.heap.size, rfl, by rw [cell_of_row _ _ _ _ _ _ HR9.out]; rfl, by rw [cell_of_row _ _ _ _ _ _ HR9.out]; rfl⟩
      | none =>
        rw [hE] at HER
        clear hE
        simp only [pkV]
        obtain ⟨W3, hW3⟩ : ∃ W3, W3 = w2.alloc (.cells #[.string x.pk.name] 9) := ⟨_, rfl⟩
        have hbr : Below w2.heap.size w2 W3 := by rw [hW3]; exact (Below.refl _ _).alloc (Nat.le_refl _) _
        have q3 : W3.heap[w2.heap.size]? = some (.cells #[.string x.pk.name] 9 (0, 0)) := by rw [hW3]; exact heap_alloc_last _ _
        have HTX : Hid (Texts W3 (.slice (some ⟨w2.heap.size, 0, none⟩) 1 1) [x.pk.name]) := ⟨_, _, rfl, fun i y hy => ⟨_, _, rfl, by
          cases i with
          | zero =>
            obtain rfl := Option.some.inj hy
            rw [cell_of_row _ _ _ _ _ _ q3]; rfl
          | succ i => cases hy⟩⟩
        have HAD : Hid _ := add_any (.slice (some ⟨w2.heap.size, 0, none⟩) 1 1) [x.pk.name] W3 (HS2.out.below hbr) HTX.out (fun y hy => by rw [List.mem_singleton.1 hy]; exact HN.out) (by unfold aheadN; rw [List.length_map, List.length_take, List.length_singleton]; omega)
        have HB3 : Hid (Below w.heap.size w W3) := HB2.out.trans (hbr.mono HB2.out.size)
        clear hbr q3
        go_wp2_with fail
        rw [← hW3]
        clear hW3
        refine Calls.mono HAD.out ?_
        rintro e w4 ⟨rfl, hS4, hg4, _⟩
        have HI4 : Hid (SetAt w4 w.heap.size (aheadN l (k + 1)) ∧ Below w.heap.size w w4 ∧ PkOk l (k + 1)) := by
          refine ⟨by rw [HAH.out]; exact hS4, below_by HB3.out hg4 (Nat.le_refl _) HB3.out.size, fun j hj => ?_⟩
          rcases Nat.lt_or_ge j k with h | h
          · exact HI.out.2.2 j h
          · obtain rfl : j = k := by omega
            exact HER.out
        clear hS4 hg4 HAD d0
        go_wp2_with fail
        go_roundw
        case rel => exact ⟨k + 1, by omega, by go_num, HI4⟩
        case measure => simp [intOf]; omega
    · have e : k = l.length := by omega
      have HE : Hid (chk l = none) := chk_ok (by omega) (by rw [← e]; exact HI.out.2.2)
      clear e
      go_wp2_with fail
      go_ret
      exact ⟨_, rfl, by rw [HE.out]; exact rfl, HI.out.2.1⟩
end Go.Proofs.YtlaenhohjcjilaaDoor
