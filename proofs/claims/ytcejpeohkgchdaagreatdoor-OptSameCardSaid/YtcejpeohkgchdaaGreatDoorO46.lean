/-
  The contract of the law's shared: a closed fact.
  The contract of the law's sharedAll: each file of the second tree becomes each one of the first, if it is alike.
  What the walk of the law OptSame wants: acts, trees that were got, inodes of which no two are alike.
  Conditions: those that each states.
-/
import Derived.Test.YtcejpeohkgchdaaGreatDoorO45
import Derived.Test.YtcejpeohkgchdaaGreatDoorO43
namespace Go.Proofs.YtcejpeohkgchdaaGreatDoor
open Go.RowKit Go.Maps

section
variable {a : Nat → Addr} {w0 W : World} {N d dp tb bb sp sb cap mb m1 m2 j : Nat} {s : TSt} {tr : List (Option NTree)} {pt : List Tree}
theorem ds_put_ok (E : DSn a w0) (S : DSt w0 N d dp tb bb sp sb cap mb m1 m2 j s tr pt W) (hj : j ≤ 1000) (hd : d ≤ 900) (t : Tree) (ad : Option Addr) (cp : Nat) (Qa : Nat → Prop) (hO : OwnT W Qa (d + 1) t.kids (.slice ad t.kids.length cp)) (hQa : ∀ q, Qa q → q < W.heap.size) (hs : SmT d t) (hck : treeErr (d + 1) t = none) (hroom : needL (filesT (d + 1) t) ≤ (freeR s.u).length) :
    Calls Tryz.prog 21 #[.pointer (some ⟨dp, 0, none⟩), .agg #[.string t.kind, .string t.data, .bool t.exec, .slice ad t.kids.length cp]] W fun e w' => e = .returned (.tuple #[.int .i64 (pt.length : Int), .nilIface]) ∧ DSt w0 N d dp tb bb sp sb cap mb m1 m2 (j + 1) (mkL s (filesT (d + 1) t)) (tr ++ [some ⟨bareT (d + 1) t, inoL s (filesT (d + 1) t)⟩]) (pt ++ [t]) w' := by
  obtain ⟨PS, SB⟩ := S.sents E
  obtain ⟨n1, fb, hn1, D⟩ := S.D
  obtain ⟨n, hn, T⟩ := S.T
  have hG := well_good hck
  have hsz := well_small hck (by omega)
  have hfl := hs.files
  refine (dput_ok a t ad cp Qa hO hQa hs.alive hck hG (by omega) (fun x hx => ⟨(hsz x hx).1, Nat.le_trans (hsz x hx).2 (by unfold maxLen; decide)⟩) (by omega) hroom D T S.I.rf.sp SB S.low.size (by omega) (by rw [S.I.len]; have := S.few.1; omega) (S.cell E.P.is.bound) (World.block_lt_of_cell? w0 _ E.P.is.bound) (by obtain ⟨cs, ty, h1, h2⟩ := E.gB; exact ⟨cs, ty, S.row h1, h2⟩)).mono ?_
  rintro e w' ⟨he, ⟨fb', D'⟩, T', _, hP⟩
  refine ⟨by rw [← S.I.len]; exact he, ⟨n1 + 1, fb', by omega, D'⟩, ⟨_, by omega, T'⟩, S.I.put hck hs.fit hroom, ⟨by rw [List.length_append, List.length_singleton]; have := S.few.1; omega, fun x hx => ?_⟩, hP.low S.low (Nat.le_refl _) D.low.1⟩
  rcases List.mem_append.1 hx with h | h
  · exact S.few.2 x h
  · rw [List.mem_singleton.1 h]; exact hs
end
def xyS0 : TSt := ⟨List.replicate 4 zb, List.replicate 4 false, []⟩
def xyS1 : TSt := mkL xyS0 [(slash, xyT)]
def xyS2 : TSt := mkL xyS1 [(slash, xyT)]
def xyTr : List (Option NTree) := [some ⟨bareT 1 xyT, inoL xyS0 [(slash, xyT)]⟩, some ⟨bareT 1 xyT, inoL xyS1 [(slash, xyT)]⟩]
theorem xy_small : SmT 0 xyT := by
  refine ⟨fun x hx => (by cases hx), fun x hx => ?_, (by decide)⟩
  have e : pre (0 + 1) ByteArray.empty 0 xyT = [(ByteArray.empty, 0, xyT)] := rfl
  rw [e] at hx
  rw [List.mem_singleton.1 hx]
  exact ⟨by unfold maxLen; decide, by decide, by decide⟩
theorem xy_room1 : needL [(slash, xyT)] ≤ (freeR xyS1.u).length := of_decide_eq_true (by kernel_rfl)
theorem xy_filesD : (filesD xyTr).map (·.2.2) = [0, 1] := by kernel_rfl
theorem xy_len : (filesD xyTr).length = 2 := by kernel_rfl
theorem xy_cnt : cntG (repT xyS2) (filesD xyTr) = 1 := by kernel_rfl
theorem xy_mix : (mixed (repT xyS2) (filesD xyTr) 2).map (·.2.2) = [0, 0] := by kernel_rfl
theorem xy_blk : blkT xyS2.tab 0 = 1 := by kernel_rfl
theorem xy_weight : weight 1 xyTr [xyT, xyT] = 2 := by kernel_rfl
theorem cnt_le (G : Nat → Nat) (l : List (Nat × ByteArray × Nat)) : cntG G l ≤ l.length := List.length_filter_le _ _
/-- Two files that are one. -/
theorem xy_end {a : Nat → Addr} {w0 W w' : World} {dp tb bb sp sb cap mb m1 m2 j z : Nat} (hj : j ≤ 900) (h : ShPost w0 4 0 dp tb bb sp sb cap mb m1 m2 j xyS2 xyTr [xyT, xyT] 9223372036854775807 W z w') (E : DSn a w0) :
    z = 1 ∧ (∀ W', Below w'.heap.size w' W' → Calls Tryz.prog 40 #[.pointer (some ⟨dp, 0, none⟩)] W' fun e w2 => e = .returned (.int .i64 1) ∧ Below W'.heap.size W' w2) ∧ (∀ W', Below w'.heap.size w' W' → (Calls Tryz.prog 25 #[.pointer (some ⟨dp, 0, none⟩)] W' fun e w2 => e = .returned (.pointer (some ⟨tb, 0, none⟩)) ∧ w2 = W') ∧ Calls Tryz.prog 39 #[.pointer (some ⟨tb, 0, none⟩)] W' fun e w2 => e = .returned (.int .i64 3) ∧ Below W'.heap.size W' w2) ∧ Below w0.heap.size w0 w' := by
  obtain ⟨i, s', tr', D, H, T, F, hi, hz, hor, _⟩ := h
  have hl := xy_len
  have hzle : z ≤ 2 := by rw [hz]; exact Nat.le_trans (cnt_le _ _) (by rw [List.length_take]; omega)
  have hi2 : i = 2 := by rcases hor with h | h <;> omega
  subst hi2
  rw [List.take_of_length_le (by omega), xy_cnt] at hz
  have hmix : (filesD tr').map (·.2.2) = [0, 0] := by rw [F]; exact xy_mix
  have hm : (0 : Nat) ∈ (filesD tr').map (·.2.2) := by rw [hmix]; simp
  rw [files_links, links_tr, ← refs_tr D.I.len D.I.lens] at hm
  obtain ⟨r, hr, er⟩ := List.mem_map.1 hm
  obtain ⟨y, hy, _⟩ := D.I.rf.held r hr
  rw [er] at hy
  have hb : blkT s'.tab 0 = 1 := by
    obtain ⟨y0, h0, e0, _⟩ := T 0 y hy
    have h1 := xy_blk
    unfold blkT at h1 ⊢
    rw [h0] at h1
    rw [hy]
    simp only at h1 ⊢
    rw [e0]; exact h1
  have hsv := D.I.saved D.b16
  rw [hmix] at hsv
  have hs1 : savedL (blkT s'.tab) [] [0, 0] = 1 := by simp [savedL, hb]
  have hw : weight 1 tr' [xyT, xyT] = 2 := by rw [weight_same (D := 1) [xyT, xyT] H.tr]; exact xy_weight
  have hfree : (freeR s'.u).length = 3 := by
    have h5 : weight (0 + 1) tr' [xyT, xyT] = 2 := hw
    omega
  refine ⟨hz, fun W' hW => ?_, fun W' hW => ⟨?_, ?_⟩, D.low⟩
  · refine (ds_saved E (D.below hW) hj (by omega)).mono ?_
    rintro e w2 ⟨sv, he, hsv2, hb2⟩
    have h5 : weight (0 + 1) tr' [xyT, xyT] = 2 := hw
    have : sv = 1 := by omega
    subst this
    exact ⟨he, hb2⟩
  · obtain ⟨n1, fb, _, DD⟩ := (D.below hW).D
    exact dtable_any DD
  · have := ds_free (D.below hW)
    rw [hfree] at this
    exact this
set_option maxRecDepth 100000 in
set_option maxHeartbeats 2000000 in
theorem shared_any {w : World} (a : Nat → Addr) (E : DSn a w) (hsum : ∃ p, w.cell? ⟨2, 0, none⟩ = some (.iface 316 p)) :
    Calls Tryz.prog 38 #[] w fun e w' => e = .returned (.bool true) ∧ Below w.heap.size w w' := by
  have HTO : Hid (Calls Tryz.prog 20 #[.int .i64 4] w fun e w' => ∃ dp tb bb sp sb cap mb m1 m2 mw, e = .returned (.tuple #[.pointer (some ⟨dp, 0, none⟩), .pointer (some ⟨mw, 0, none⟩), .bool true]) ∧ DSt w 4 0 dp tb bb sp sb cap mb m1 m2 0 xyS0 [] [] w') :=
    (dirsOf_any w.heap.size 4 0 (fun _ => 0) (by omega) (by omega) w (Nat.le_refl _)).mono fun e w' ⟨dp, tb, bb, sp, sb, cap, mb, m1, m2, md, mt, mw, he, D, T, _, hb⟩ =>
      ⟨dp, tb, bb, sp, sb, cap, mb, m1, m2, mw, he, ⟨0, _, Nat.le_refl _, D⟩, ⟨0, Nat.zero_le _, T⟩, LInv.start 4 1, ⟨Nat.le_refl _, fun t ht => by cases ht⟩, hb⟩
  have HP : Hid (∀ W dp tb bb sp sb cap mb m1 m2, DSt w 4 0 dp tb bb sp sb cap mb m1 m2 0 xyS0 [] [] W → Calls Tryz.prog 21 #[.pointer (some ⟨dp, 0, none⟩), .agg #[.string ⟨#[102, 105, 108, 101]⟩, .string ⟨#[120, 121]⟩, .bool false, .slice none 0 0]] W fun e w1 => e = .returned (.tuple #[.int .i64 0, .nilIface]) ∧
      Calls Tryz.prog 21 #[.pointer (some ⟨dp, 0, none⟩), .agg #[.string ⟨#[102, 105, 108, 101]⟩, .string ⟨#[120, 121]⟩, .bool false, .slice none 0 0]] w1 fun e w2 => e = .returned (.tuple #[.int .i64 1, .nilIface]) ∧
      Calls Tryz.prog 41 #[.pointer (some ⟨dp, 0, none⟩)] w2 fun e w3 => ∃ z : Nat, e = .returned (.tuple #[.int .i64 (z : Int), .nilIface]) ∧ ShPost w 4 0 dp tb bb sp sb cap mb m1 m2 2 xyS2 xyTr [xyT, xyT] 9223372036854775807 w2 z w3) := fun W dp tb bb sp sb cap mb m1 m2 S => by
    refine (ds_put_ok E S (by omega) (by omega) xyT none 0 (fun _ => False) (xy_own W) (fun _ h => h.elim) xy_small xy_well (by rw [xy_files]; decide)).mono ?_
    rintro e w1 ⟨he, S1⟩
    rw [xy_files] at S1
    refine ⟨he, ?_⟩
    refine (ds_put_ok E S1 (by omega) (by omega) xyT none 0 (fun _ => False) (xy_own w1) (fun _ h => h.elim) xy_small xy_well (by rw [xy_files]; exact xy_room1)).mono ?_
    rintro e w2 ⟨he, S2⟩
    rw [xy_files] at S2
    exact ⟨he, oall_any E S2 (by omega) (by omega) hsum⟩
  have HE : Hid (DSn a w) := E
  clear E hsum
  go_enter Tryz.func38, Tryz.ntmps38
  go_wp2_with (go_at_call 20; refine HTO.out.mono ?_; rintro e w1 ⟨dp, tb, bb, sp, sb, cap, mb, m1, m2, mw, rfl, S1⟩; (have HP1 := HP.out w1 _ _ _ _ _ _ _ _ _ S1); clear HTO HP S1)
  refine Calls.mono HP1 ?_
  rintro e w2 ⟨rfl, HP2⟩
  clear HP1
  go_wp2_with fail
  refine Calls.mono HP2 ?_
  rintro e w3 ⟨rfl, HP3⟩
  clear HP2
  go_wp2_with fail
  refine Calls.mono HP3 ?_
  rintro e w4 ⟨z, rfl, hz⟩
  obtain ⟨rfl, h1, h2, h3⟩ := xy_end (by omega) hz HE.out
  have HSV := h1 w4 (Below.refl _ _)
  have HFR : Hid (∀ W', Below w4.heap.size w4 W' → (Calls Tryz.prog 25 #[.pointer (some ⟨dp, 0, none⟩)] W' fun e w2 => e = .returned (.pointer (some ⟨tb, 0, none⟩)) ∧ w2 = W') ∧ Calls Tryz.prog 39 #[.pointer (some ⟨tb, 0, none⟩)] W' fun e w2 => e = .returned (.int .i64 3) ∧ Below W'.heap.size W' w2) := h2
  have HLO : Hid (Below w.heap.size w w4) := h3
  clear hz h1 h2 h3 HP3
  go_wp2_with fail
  refine Calls.mono HSV ?_
  rintro e w5 ⟨rfl, b5⟩
  obtain ⟨HT5, HF5⟩ := HFR.out w5 b5
  have HL5 : Hid (Below w.heap.size w w5) := HLO.out.trans (b5.mono HLO.out.size)
  clear HSV HFR HLO b5
  go_wp2_with fail
  refine Calls.mono HT5 ?_
  rintro e wx ⟨rfl, hx⟩
  rw [hx]
  clear hx wx HT5
  go_wp2_with fail
  refine Calls.mono HF5 ?_
  rintro e w6 ⟨rfl, b6⟩
  have HL6 : Hid (Below w.heap.size w w6) := HL5.out.trans (b6.mono HL5.out.size)
  clear HF5 b6
  go_wp2_with fail
  go_ret
  exact ⟨rfl, HL6.out⟩
end Go.Proofs.YtcejpeohkgchdaaGreatDoor
namespace Go.Proofs.YtcejpeohkgchdaaGreatDoor
open Go.RowKit Go.Maps

section
variable {a : Nat → Addr} {w0 W W' : World} {N d dp tb bb sp sb cap mb m1 m2 j : Nat} {s : TSt} {tr : List (Option NTree)} {pt : List Tree}
theorem ds_get2 (E : DSn a w0) (S : DSt w0 N d dp tb bb sp sb cap mb m1 m2 j s tr pt W) (hd : d ≤ 900) (hj : j ≤ 1000) {k : Nat} {x : NTree} (hx : ntI tr (k : Int) = some x) {t : Tree} (ht : pt[k]? = some t) :
    Calls Tryz.prog 27 #[.pointer (some ⟨dp, 0, none⟩), .int .i64 (k : Int)] W fun e w' => ∃ xa xc, e = .returned (.tuple #[.agg #[.string t.kind, .string t.data, .bool t.exec, .slice xa t.kids.length xc], .nilIface]) ∧ KidsIn w' d t (.slice xa t.kids.length xc) ∧ Below W.heap.size W w' := by
  obtain ⟨n1, fb, hn1, D⟩ := S.D
  obtain ⟨n, hn, T⟩ := S.T
  obtain ⟨es, hes⟩ := E.sum
  have hkp : k < pt.length := (List.getElem?_eq_some_iff.1 ht).1
  have hkn : k ≤ 1000000 := by have := S.few.1; omega
  obtain ⟨t', ht', hw, hf, hxt, hfs⟩ := S.I.tree k x hx
  rw [ht] at ht'
  cases ht'
  have hG := well_good hw
  have hsz := well_small hw (by omega)
  have hfl := S.I.files hx ht
  have hget := dget_any k x (inoAt s x.fs) (wf_nat hkn) hx D T S.I.rf.sp (fun y hy => by
    rw [hxt, bareT_files] at hy
    obtain ⟨z, hz, rfl⟩ := List.mem_map.1 hy
    obtain ⟨q, k1, k2, k3, k4, k5⟩ := hfl z hz
    exact ⟨Nat.le_trans (hsz z hz).2 (by unfold maxLen; decide), q, k1, k2, by rw [k3, k5]⟩) (by rw [hxt]; exact bareT_good hG) (by omega) (S.cell hes) (by obtain ⟨cs, ty, h1, h2⟩ := E.gS; exact ⟨cs, ty, S.row h1, h2⟩)
  rw [hxt, fill_bare hG (fun y hy => by
    obtain ⟨q, k1, k2, k3, k4, k5⟩ := hfl y hy
    exact ⟨k3, k4⟩)] at hget
  exact hget
theorem KidsIn.but {t : Tree} {u : Value} (K : KidsIn W d t u) (S : DSt w0 N d dp tb bb sp sb cap mb m1 m2 j s tr pt W) (h : PBut w0.heap.size dp W W') : KidsIn W' d t u := K.kept h.size fun _ _ hk => h.keeps S hk rfl (by decide)
theorem KidsIn.below {t : Tree} {u : Value} (K : KidsIn W d t u) (h : Below W.heap.size W W') : KidsIn W' d t u := K.kept h.size fun k _ hk => (h.block k (Array.getElem?_eq_some_iff.1 hk).1).trans hk
theorem rowBut {base n : Nat} {v : Value} {xs : List Value} (hr : W.ownsRow base 9 1 v n xs) (S : DSt w0 N d dp tb bb sp sb cap mb m1 m2 j s tr pt W) (h : PBut w0.heap.size dp W W') : W'.ownsRow base 9 1 v n xs := by
  refine ownsRow_ext' hr fun k hk => ?_
  obtain ⟨cur, hc⟩ := rowTyD hr hk
  rw [hc]
  exact h.keeps S hc rfl (by decide)
end
/-- Between two Shares. -/
structure SaAt (w0 : World) (N d dp tb bb sp sb cap mb m1 m2 : Nat) (s0 : TSt) (tr0 : List (Option NTree)) (A B : Tree) (fv gv : Value) (bw : Nat) (xv : Value) (W : World) : Prop where
  st : ∃ s tr, DSt w0 N d dp tb bb sp sb cap mb m1 m2 2 s tr [A, B] W ∧ ShAt s0 s tr0 tr
  f : W.ownsRow w0.heap.size 9 1 fv (pathsT (d + 1) A).length ((pathsT (d + 1) A).map Value.string)
  g : W.ownsRow w0.heap.size 9 1 gv (pathsT (d + 1) B).length ((pathsT (d + 1) B).map Value.string)
  box : W.heap[bw]? = some (.cells #[.string B.kind, .string B.data, .bool B.exec, xv] 57 (0, 0))
  kids : KidsIn W d B xv
section
variable {a : Nat → Addr} {w0 W W' : World} {N d dp tb bb sp sb cap mb m1 m2 : Nat} {s0 : TSt} {tr0 : List (Option NTree)} {A B : Tree} {fv gv xv : Value} {bw : Nat}
theorem SaAt.below (S : SaAt w0 N d dp tb bb sp sb cap mb m1 m2 s0 tr0 A B fv gv bw xv W) (h : Below W.heap.size W W') : SaAt w0 N d dp tb bb sp sb cap mb m1 m2 s0 tr0 A B fv gv bw xv W' := by
  obtain ⟨⟨s, tr, D, H⟩, h1, h2, h3, h4⟩ := S
  exact ⟨⟨s, tr, D.below h, H⟩, ownsRow_below h1 h, ownsRow_below h2 h, (h.block _ (Array.getElem?_eq_some_iff.1 h3).1).trans h3, h4.below h⟩
theorem two_trees (h0 : tr0.map Option.isSome = [true, true]) : ∃ x0 x1, ntI tr0 ((0 : Nat) : Int) = some x0 ∧ ntI tr0 ((1 : Nat) : Int) = some x1 := by
  match tr0, h0 with
  | [some x0, some x1], _ => exact ⟨x0, x1, rfl, rfl⟩
  | [], h => simp at h
  | [_], h => simp at h
  | [none, _], h => simp at h
  | [_, none], h => simp at h
  | _ :: _ :: _ :: _, h => simp at h
/-- One round of sharedAll: both inodes, what they hold, and the Share. -/
def SaStep (w0 : World) (N d dp tb bb sp sb cap mb m1 m2 : Nat) (s0 : TSt) (tr0 : List (Option NTree)) (A B : Tree) (fv gv : Value) (bw : Nat) (xv : Value) (p q : ByteArray) (W : World) : Prop :=
  ∃ (n m : Nat) (D0 D1 : ByteArray) (e0 e1 : Bool), ∀ W', Below W.heap.size W W' →
    (Calls Tryz.prog 30 #[.pointer (some ⟨dp, 0, none⟩), .int .i64 0, .string p] W' fun e w' => e = .returned (.tuple #[.int .i64 (n : Int), .nilIface]) ∧ Below W'.heap.size W' w') ∧
    (Calls Tryz.prog 30 #[.pointer (some ⟨dp, 0, none⟩), .int .i64 1, .string q] W' fun e w' => e = .returned (.tuple #[.int .i64 (m : Int), .nilIface]) ∧ Below W'.heap.size W' w') ∧
    (Calls Tryz.prog 25 #[.pointer (some ⟨dp, 0, none⟩)] W' fun e w' => e = .returned (.pointer (some ⟨tb, 0, none⟩)) ∧ w' = W') ∧
    (Calls Tryz.prog 14 #[.pointer (some ⟨tb, 0, none⟩), .int .i64 (n : Int)] W' fun e w' => e = .returned (.tuple #[.string D0, .nilIface]) ∧ Below W'.heap.size W' w') ∧
    (Calls Tryz.prog 14 #[.pointer (some ⟨tb, 0, none⟩), .int .i64 (m : Int)] W' fun e w' => e = .returned (.tuple #[.string D1, .nilIface]) ∧ Below W'.heap.size W' w') ∧
    (Calls Tryz.prog 13 #[.pointer (some ⟨tb, 0, none⟩), .int .i64 (n : Int)] W' fun e w' => ∃ x0 x1 x4 ba bn bc, e = .returned (.tuple #[.agg #[.int .i64 x0, .int .i64 x1, .bool e0, .slice ba bn bc, .int .u32 x4], .bool true]) ∧ Below W'.heap.size W' w') ∧
    (Calls Tryz.prog 13 #[.pointer (some ⟨tb, 0, none⟩), .int .i64 (m : Int)] W' fun e w' => ∃ x0 x1 x4 ba bn bc, e = .returned (.tuple #[.agg #[.int .i64 x0, .int .i64 x1, .bool e1, .slice ba bn bc, .int .u32 x4], .bool true]) ∧ Below W'.heap.size W' w') ∧
    (Calls Tryz.prog 24 #[.pointer (some ⟨dp, 0, none⟩), .int .i64 1, .string q, .int .i64 (n : Int)] W' fun e w' => SaAt w0 N d dp tb bb sp sb cap mb m1 m2 s0 tr0 A B fv gv bw xv w' ∧ ((e = .returned .nilIface ∧ D0 = D1 ∧ e0 = e1) ∨ ∃ r, e = .returned (.iface 316 r) ∧ ¬ (D0 = D1 ∧ e0 = e1)))
theorem sa_step (E : DSn a w0) (S : SaAt w0 N d dp tb bb sp sb cap mb m1 m2 s0 tr0 A B fv gv bw xv W) (hd : d ≤ 900) (h2 : tr0.map Option.isSome = [true, true]) {i k : Nat} {p q : ByteArray} (hp : (pathsT (d + 1) A)[k]? = some p) (hq : (pathsT (d + 1) B)[i]? = some q) : SaStep w0 N d dp tb bb sp sb cap mb m1 m2 s0 tr0 A B fv gv bw xv p q W := by
  obtain ⟨s, tr, D, H⟩ := id S.st
  obtain ⟨x0, x1, hx0, hx1⟩ := two_trees (tr0 := tr) (by rw [H.tr]; exact h2)
  obtain ⟨n, hn1, hn2, hn3, y0, hy0⟩ := D.I.ino hx0 (t := A) rfl hp
  obtain ⟨m, hm1, hm2, hm3, y1, hy1⟩ := D.I.ino hx1 (t := B) rfl hq
  obtain ⟨n', hn', hI0⟩ := ds_inode E D hd (by omega) hx0 (t := A) rfl hp
  obtain ⟨m', hm', hI1⟩ := ds_inode E D hd (by omega) hx1 (t := B) rfl hq
  rw [hn1] at hn'
  cases hn'
  rw [hm1] at hm'
  cases hm'
  have hqs : q.size ≤ 1000000 := by
    obtain ⟨t', ht', hw, _⟩ := D.I.tree 1 x1 hx1
    cases ht'
    obtain ⟨z, hz, rfl⟩ := List.mem_map.1 (List.mem_of_getElem? hq)
    have := (well_small hw (by omega) z hz).2
    omega
  refine ⟨n, m, readD s.bl y0.blocks y0.bytes, readD s.bl y1.blocks y1.bytes, y0.exec, y1.exec, fun W' hW => ?_⟩
  have DW := D.below hW
  obtain ⟨n1, fb, _, DD⟩ := DW.D
  have st : ∀ {q : Nat} {y : Ino}, slotT s.tab q = some y → Calls Tryz.prog 13 #[.pointer (some ⟨tb, 0, none⟩), .int .i64 (q : Int)] W' fun e w' => ∃ x0 x1 x4 ba bn bc, e = .returned (.tuple #[.agg #[.int .i64 x0, .int .i64 x1, .bool y.exec, .slice ba bn bc, .int .u32 x4], .bool true]) ∧ Below W'.heap.size W' w' := fun hy => by
    refine (ds_stat DW hy).mono ?_
    rintro e w' ⟨v, he, ⟨ba, bc, rfl, _⟩, hb⟩
    exact ⟨_, _, _, ba, _, bc, he, hb⟩
  obtain ⟨a0, b0, c0⟩ := ds_inode E DW hd (by omega) hx0 (t := A) rfl hp
  obtain ⟨a1, b1, c1⟩ := ds_inode E DW hd (by omega) hx1 (t := B) rfl hq
  rw [hn1] at b0
  cases b0
  rw [hm1] at b1
  cases b1
  refine ⟨c0, c1, dtable_any DD, ds_read E DW hy0, ds_read E DW hy1, st hy0, st hy1, ?_⟩
  refine (ds_share2 E DW (by omega) (k := 1) (by omega) hx1 hm3 hm2 hqs hy1 hy0).mono ?_
  rintro e w' ⟨s', tr', D', H', hP, h⟩
  have SW := S.below hW
  refine ⟨⟨⟨s', tr', D', H.trans H'⟩, rowBut SW.f DW hP, rowBut SW.g DW hP, hP.keeps DW SW.box rfl (by decide), SW.kids.but DW hP⟩, ?_⟩
  rcases h with ⟨he, hl⟩ | ⟨r, he, hl⟩
  · obtain ⟨h1, h2⟩ := (likeI_iff _ _ _).1 hl
    exact .inl ⟨he, h1.symm, h2.symm⟩
  · refine .inr ⟨r, he, fun ⟨h1, h2⟩ => ?_⟩
    have := (likeI_iff s.bl y1 y0).2 ⟨h1.symm, h2.symm⟩
    rw [hl] at this
    cases this
end
end Go.Proofs.YtcejpeohkgchdaaGreatDoor
namespace Go.Proofs.YtcejpeohkgchdaaGreatDoor
open Go.RowKit Go.Maps

section
variable {a : Nat → Addr} {w0 W W' : World} {N d dp tb bb sp sb cap mb m1 m2 j : Nat} {s s0 s1 s2 : TSt} {tr tr0 tr1 : List (Option NTree)} {pt : List Tree}
theorem LInv.inode {D : Nat} (I : LInv N (D + 1) s tr pt) {q : Nat} : q ∈ (filesD tr).map (·.2.2) ↔ q ∈ allT s.tab := by
  rw [files_links, links_tr, ← refs_tr I.len I.lens]
  constructor
  · intro h
    obtain ⟨r, hr, e⟩ := List.mem_map.1 h
    obtain ⟨y, hy, _⟩ := I.rf.held r hr
    exact allT_mem.2 ⟨y, by rw [← e]; exact hy⟩
  · intro h
    obtain ⟨y, hy⟩ := allT_mem.1 h
    exact List.count_pos_iff.1 (by rw [← I.rf.links _ y hy]; exact (I.rf.sp.own _ y hy).2.2.1)
theorem mixed_all (G : Nat → Nat) (L : List (Nat × ByteArray × Nat)) : mixed G L L.length = L.map fun f => (f.1, f.2.1, G f.2.2) := by simp [mixed]
/-- No two inodes are alike. -/
def OneT (s : TSt) : Prop := ∀ q q', q ∈ allT s.tab → q' ∈ allT s.tab → lkT s.bl s.tab q = lkT s.bl s.tab q' → q = q'
theorem all_one {D : Nat} (I0 : LInv N (D + 1) s0 tr0 pt) (I1 : LInv N (D + 1) s1 tr1 pt) (hb : s1.bl = s0.bl) (T : SubT s0 s1) (F : filesD tr1 = mixed (repT s0) (filesD tr0) (filesD tr0).length) : OneT s1 := by
  have hrep : ∀ q, q ∈ allT s1.tab → ∃ q0, q0 ∈ allT s0.tab ∧ q = repT s0 q0 ∧ lkT s1.bl s1.tab q = lkT s0.bl s0.tab q0 := fun q hq => by
    obtain ⟨y, hy⟩ := allT_mem.1 hq
    have hm := I1.inode.2 hq
    rw [F, mixed_all, List.map_map] at hm
    obtain ⟨f, hf, e⟩ := List.mem_map.1 hm
    have hq0 : f.2.2 ∈ allT s0.tab := I0.inode.1 (List.mem_map.2 ⟨f, hf, rfl⟩)
    have e' : repT s0 f.2.2 = q := e
    refine ⟨f.2.2, hq0, e'.symm, ?_⟩
    rw [lk_same hb T hy, ← e']
    exact (rep_spec hq0).2.2.1
  intro q q' hq hq' hl
  obtain ⟨q0, h0, rfl, e0⟩ := hrep q hq
  obtain ⟨q0', h0', rfl, e0'⟩ := hrep q' hq'
  rw [e0, e0'] at hl
  have h1 := (rep_spec h0).1
  have h2 := (rep_spec h0').1
  rw [hl] at h1
  exact Option.some.inj (h1.symm.trans h2)
theorem OneT.sub (h : OneT s1) (hb : s2.bl = s1.bl) (T : SubT s1 s2) : OneT s2 := fun q q' hq hq' hl => by
  obtain ⟨y, hy⟩ := allT_mem.1 hq
  obtain ⟨y', hy'⟩ := allT_mem.1 hq'
  obtain ⟨z, hz, _⟩ := T q y hy
  obtain ⟨z', hz', _⟩ := T q' y' hy'
  refine h q q' (allT_mem.2 ⟨z, hz⟩) (allT_mem.2 ⟨z', hz'⟩) ?_
  rw [lk_same hb T hy, lk_same hb T hy'] at hl
  exact hl
theorem one_cnt {D : Nat} (I : LInv N (D + 1) s tr pt) (h : OneT s) (i : Nat) : cntG (repT s) ((filesD tr).take i) = 0 := by
  unfold cntG
  rw [List.length_eq_zero_iff, List.filter_eq_nil_iff]
  intro f hf
  have hq : f.2.2 ∈ allT s.tab := I.inode.1 (List.mem_map.2 ⟨f, List.mem_of_mem_take hf, rfl⟩)
  obtain ⟨_, h2, h3, _⟩ := rep_spec hq
  simp [h _ _ h2 hq h3]
/-- All, and a Step behind it. -/
theorem os_all (E : DSn a w0) (S : DSt w0 N d dp tb bb sp sb cap mb m1 m2 j s tr pt W) (hj : j ≤ 900) (hd : d ≤ 900) (hsum : ∃ p, w0.cell? ⟨2, 0, none⟩ = some (.iface 316 p)) :
    Calls Tryz.prog 41 #[.pointer (some ⟨dp, 0, none⟩)] W fun e w1 => ∃ z : Nat, e = .returned (.tuple #[.int .i64 (z : Int), .nilIface]) ∧ Calls Tryz.prog 42 #[.pointer (some ⟨dp, 0, none⟩)] w1 fun e2 w2 => e2 = .returned (.tuple #[.bool false, .nilIface]) ∧ PBut w0.heap.size dp W w2 ∧ ∃ s2 tr2, DSt w0 N d dp tb bb sp sb cap mb m1 m2 j s2 tr2 pt w2 ∧ tr2.map Option.isSome = tr.map Option.isSome ∧ OneT s2 := by
  refine (oall_any E S hj hd hsum).mono ?_
  rintro e w1 ⟨z, he, i, s1, tr1, D1, H1, T1, F1, hi, hz, hor, P1⟩
  refine ⟨z, he, ?_⟩
  have hl : (filesD tr).length ≤ 40000 := by
    have := links_len S hj
    rw [← files_links, List.length_map] at this
    exact this
  have hzle : z ≤ (filesD tr).length := by rw [hz]; exact Nat.le_trans (cnt_le _ _) (by rw [List.length_take]; omega)
  have hil : i = (filesD tr).length := by rcases hor with h | h <;> omega
  subst hil
  have O1 := all_one S.I D1.I H1.bl T1 F1
  refine (step_any E D1 hj hd hsum).mono ?_
  rintro e w2 ⟨z2, he2, i2, s2, tr2, D2, H2, T2, _, _, hz2, _, P2⟩
  have hz0 : z2 = 0 := by rw [hz2]; exact one_cnt D1.I O1 i2
  subst hz0
  exact ⟨he2, P1.trans P2, s2, tr2, D2, H2.tr.trans H1.tr, O1.sub H2.bl T2⟩
theorem os_put (E : DSn a w0) (S : DSt w0 N 11 dp tb bb sp sb cap mb m1 m2 j s tr pt W) (hj : j ≤ 800) (t : Tree) (ua : Option Addr) (uc : Nat) (hl : Lies w0 w0.heap.size 12 t.kids (.slice ua t.kids.length uc)) (hs : SmT 11 t) :
    Calls Tryz.prog 22 #[.agg #[.string t.kind, .string t.data, .bool t.exec, .slice ua t.kids.length uc]] W fun e w2 => ∃ xa xc, e = .returned (.agg #[.string t.kind, .string t.data, .bool t.exec, .slice xa t.kids.length xc]) ∧ Calls Tryz.prog 21 #[.pointer (some ⟨dp, 0, none⟩), .agg #[.string t.kind, .string t.data, .bool t.exec, .slice xa t.kids.length xc]] w2 fun e3 w3 => ∃ r1 r2, e3 = .returned (.tuple #[.int .i64 r1, r2]) ∧ ∃ s' tr' pt', DSt w0 N 11 dp tb bb sp sb cap mb m1 m2 (j + 1) s' tr' pt' w3 := by
  refine (own_own w0.heap.size 12 t _ W S.low.size (hl.below S.low (Nat.le_refl _))).mono ?_
  rintro e w2 ⟨u', he, hO, hb⟩
  obtain ⟨xa, xc, rfl⟩ := hO.form
  refine ⟨xa, xc, he, ?_⟩
  refine (ds_put E (S.below hb) (by omega) (by omega) t xa xc _ hO (fun b hb => hb.2) hs).mono ?_
  rintro e3 w3 ⟨_, h⟩
  rcases h with ⟨p, he3, S3⟩ | ⟨he3, _, S3⟩
  · exact ⟨_, _, he3, _, _, _, S3⟩
  · exact ⟨_, _, he3, _, _, _, S3⟩
/-- The trees that are there. -/
def treesL (tr : List (Option NTree)) (pt : List Tree) : List Tree := (allN tr).map fun k => (pt[k]?).getD xyT
theorem os_get (E : DSn a w0) (S : DSt w0 N d dp tb bb sp sb cap mb m1 m2 j s tr pt W) (hd : d ≤ 900) (hj : j ≤ 900) {i k : Nat} {t : Tree} (hk : (allN tr)[i]? = some k) (ht : (treesL tr pt)[i]? = some t) :
    Calls Tryz.prog 27 #[.pointer (some ⟨dp, 0, none⟩), .int .i64 (k : Int)] W fun e w' => ∃ xa xc, e = .returned (.tuple #[.agg #[.string t.kind, .string t.data, .bool t.exec, .slice xa t.kids.length xc], .nilIface]) ∧ KidsIn w' d t (.slice xa t.kids.length xc) ∧ Below W.heap.size W w' := by
  obtain ⟨x, hx⟩ := allN_mem.1 (List.mem_of_getElem? hk)
  obtain ⟨t', ht', _⟩ := S.I.tree k x hx
  unfold treesL at ht
  rw [List.getElem?_map, hk, Option.map_some, ht'] at ht
  cases ht
  exact ds_get2 E S hd (by omega) hx ht'
/-- The row of trees that were got. -/
structure GoAt (wt : World) (d : Nat) (ts : List Tree) (us : List Value) (v : Value) (W : World) : Prop where
  len : us.length = ts.length
  row : W.ownsRow wt.heap.size 57 4 v ts.length (ndCells ts us)
  kids : ∀ (i : Nat) (t : Tree) (u : Value), ts[i]? = some t → us[i]? = some u → KidsIn W d t u
theorem GoAt.below {wt : World} {ts : List Tree} {us : List Value} {v : Value} (G : GoAt wt d ts us v W) (h : Below W.heap.size W W') : GoAt wt d ts us v W' := ⟨G.len, ownsRow_below G.row h, fun i t u ht hu => (G.kids i t u ht hu).below h⟩
theorem GoAt.but {wt : World} {ts : List Tree} {us : List Value} {v : Value} (G : GoAt wt d ts us v W) (S : DSt w0 N d dp tb bb sp sb cap mb m1 m2 j s tr pt W) (h : PBut w0.heap.size dp W W') : GoAt wt d ts us v W' := by
  refine ⟨G.len, ownsRow_ext' G.row fun k hk => ?_, fun i t u ht hu => (G.kids i t u ht hu).but S h⟩
  obtain ⟨cur, hc⟩ := rowTyD G.row hk
  rw [hc]
  exact h.keeps S hc rfl (by decide)
theorem GoAt.app {wt : World} {ts : List Tree} {us : List Value} {v v' u : Value} {t : Tree} (G : GoAt wt d ts us v W) (K : KidsIn W d t u) (hown : W'.ownsRow wt.heap.size 57 4 v' (ts.length + 1) (ndCells ts us ++ [.string t.kind, .string t.data, .bool t.exec, u])) (hg : W.grownBy W' v.ownBlock) : GoAt wt d (ts ++ [t]) (us ++ [u]) v' W' := by
  have hk : ∀ {t : Tree} {u : Value}, KidsIn W d t u → KidsIn W' d t u := fun K => K.kept hg.size fun k cur hk => by
    rw [hg.block k (Array.getElem?_eq_some_iff.1 hk).1 fun e => ?_]
    · exact hk
    · obtain ⟨cur', hc⟩ := rowTyD G.row e.symm
      rw [hc] at hk
      simp only [Option.some.injEq, Obj.cells.injEq] at hk
      exact absurd hk.2.1 (by decide)
  refine ⟨by simp [G.len], by rw [List.length_append, List.length_singleton, ndCells_snoc t u G.len]; exact hown, fun i y u' hy hu => ?_⟩
  by_cases hi : i < ts.length
  · rw [List.getElem?_append_left hi] at hy
    rw [List.getElem?_append_left (by have := G.len; omega)] at hu
    exact hk (G.kids i y u' hy hu)
  · rw [List.getElem?_append_right (by omega)] at hy
    rw [List.getElem?_append_right (by have := G.len; omega), G.len] at hu
    cases he : i - ts.length with
    | zero =>
      rw [he] at hy hu
      simp only [List.getElem?_cons_zero, Option.some.injEq] at hy hu
      subst hy; subst hu
      exact hk K
    | succ n => rw [he] at hy; simp at hy
theorem GoAt.node {wt : World} {ts : List Tree} {us : List Value} {v : Value} (G : GoAt wt d ts us v W) {k : Nat} {t : Tree} (ht : ts[k]? = some t) : ∃ g cp ua uc, v = .slice (some ⟨g, 0, none⟩) ts.length cp ∧ g < W.heap.size ∧ (W.cell? ⟨g, k * 4, none⟩ = some (.string t.kind) ∧ W.cell? ⟨g, k * 4 + 1, none⟩ = some (.string t.data) ∧ W.cell? ⟨g, k * 4 + 2, none⟩ = some (.bool t.exec) ∧ W.cell? ⟨g, k * 4 + 3, none⟩ = some (.slice ua t.kids.length uc)) ∧ KidsIn W d t (.slice ua t.kids.length uc) := by
  have hk := (List.getElem?_eq_some_iff.1 ht).1
  obtain ⟨u, hu⟩ : ∃ u, us[k]? = some u := ⟨_, List.getElem?_eq_getElem (by rw [G.len]; exact hk)⟩
  have hl := G.kids k t u ht hu
  obtain ⟨Q, ua, uc, rfl, _⟩ := id hl
  rcases G.row.2 with ⟨_, e0⟩ | ⟨g, cp, cur, e, _⟩
  · omega
  · obtain ⟨k0, k1, k2, k3⟩ := ndCells_at ht hu
    have hcs := G.row.cells (g := g) (by rw [e]; rfl)
    have hadd : ∀ j, (⟨g, 0, none⟩ : Addr).add j = ⟨g, j, none⟩ := fun j => by unfold Addr.add; split <;> simp_all
    have c0 := hcs _ _ k0
    have c1 := hcs _ _ k1
    have c2 := hcs _ _ k2
    have c3 := hcs _ _ k3
    rw [hadd] at c0 c1 c2 c3
    exact ⟨g, cp, ua, uc, e, (G.row.lt g (by rw [e]; rfl)).2, ⟨c0, c1, c2, c3⟩, hl⟩
theorem OwnI.but {B : Nat} {v : Value} {l : List Nat} (h : OwnI W B v l) (S : DSt w0 N d dp tb bb sp sb cap mb m1 m2 j s tr pt W) (hP : PBut w0.heap.size dp W W') : OwnI W' B v l := by
  refine ownsRow_ext' (w := W) (e := 3) (size := 1) h fun k hk => ?_
  obtain ⟨cur, hc⟩ := rowTyD (w := W) (e := 3) (size := 1) h hk
  rw [hc]
  exact hP.keeps S hc rfl (by decide)
end
end Go.Proofs.YtcejpeohkgchdaaGreatDoor
