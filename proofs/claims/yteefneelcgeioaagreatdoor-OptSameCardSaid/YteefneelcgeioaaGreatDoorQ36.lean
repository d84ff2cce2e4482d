/-
  The walk of the law OptSame.
  Conditions: those that each states.
-/
import Derived.Test.YteefneelcgeioaaGreatDoorQ35
import Derived.Deep.RegionHeld3
namespace Go.Proofs.YteefneelcgeioaaGreatDoor
open Go.RowKit Go.Maps

theorem bytes_same {x y : ByteArray} (h : x = y) : (x.toList == y.toList) = true := by rw [h]; simp
theorem bytes_diff {x y : ByteArray} (h : ¬ x = y) : (x.toList == y.toList) = false := by
  cases e : (x.toList == y.toList) with
  | false => rfl
  | true =>
    exfalso
    refine h (bytes_eq ?_)
    have := eq_of_beq e
    simpa [ba_toList] using this
theorem put_not_drop {s : ByteArray} (h : (s.toList == [112, 117, 116]) = true) : (s.toList == [100, 114, 111, 112]) = false := by
  rw [eq_of_beq h]; rfl

set_option maxRecDepth 100000 in
set_option maxHeartbeats 6000000 in
theorem optSame_any (a : Nat → Addr) (M : Int) (nA : Nat) (v : Value) (l : List TAct) (w : World) (hv : TActsIn w nA l v) (E : DSn a w) (hsum : ∃ p, w.cell? ⟨2, 0, none⟩ = some (.iface 235 p)) :
    Calls Tryz.prog 5 #[.int .i64 M, v] w fun e w' => e = .returned (.bool true) ∧ Below w.heap.size w w' := by
  have HDR : Hid (Calls Tryz.prog 23 #[] w fun e w' => e = .returned (.bool true) ∧ Below w.heap.size w w') := shared_any a E hsum
  have HLT : Hid (∀ W, Below w.heap.size w W → Calls Tryz.prog 7 #[v] W fun e w' => (∃ r, e = .returned (.bool r) ∧ (r = false → ShortT l)) ∧ Below W.heap.size W w') := fun W hW => longTrees_any nA l v W (hv.below hW)
  obtain ⟨ad, vcap, rfl, _⟩ := id hv
  have HV : Hid (ShortT l → ∀ i c, l[i]? = some c → ∃ ua uc, ActIn w ad i c ua uc) := fun hs i c hc => acts_in hv hs hc
  have HE : Hid (DSn a w) := E
  have HSU : Hid (∃ p, w.cell? ⟨2, 0, none⟩ = some (.iface 235 p)) := hsum
  clear hv E hsum
  by_cases hM : 1 ≤ M ∧ M ≤ 60
  · obtain ⟨N, rfl⟩ : ∃ N : Nat, M = (N : Int) := ⟨M.toNat, by omega⟩
    have hN1 : 1 ≤ N := by omega
    have hN2 : N ≤ 60 := by omega
    have hi1 : ¬ (N : Int) < 1 := by omega
    have hi2 : ¬ (60 : Int) < (N : Int) := by omega
    have HTO : Hid (∀ W, Below w.heap.size w W → Calls Tryz.prog 8 #[.int .i64 (N : Int)] W fun e w' => ∃ dp tb bb sp sb cap mb m1 m2 mw s, e = .returned (.tuple #[.pointer (some ⟨dp, 0, none⟩), .pointer (some ⟨mw, 0, none⟩), .bool true]) ∧ DSt w N 11 dp tb bb sp sb cap mb m1 m2 0 s [] [] w') := fun W hW =>
      (dirsOf_any w.heap.size N 11 (fun _ => 0) hN1 (by omega) W hW.size).mono fun e w' ⟨dp, tb, bb, sp, sb, cap, mb, m1, m2, md, mt, mw, he, D, T, _, hb⟩ =>
        ⟨dp, tb, bb, sp, sb, cap, mb, m1, m2, mw, ⟨List.replicate N zb, List.replicate N false, []⟩, he, ⟨0, _, Nat.le_refl _, D⟩, ⟨0, Nat.zero_le _, T⟩, LInv.start N 12, ⟨Nat.le_refl _, fun t ht => by cases ht⟩, hW.trans (hb.mono hW.size)⟩
    clear hM
    go_enter Tryz.func5, Tryz.ntmps5
    go_wp2_with (first
      | (go_at_call 23; refine HDR.out.mono ?_; rintro e w1 ⟨rfl, hb1⟩; clear HDR)
      | (go_at_call 7; refine (HLT.out _ hb1).mono ?_; rintro e w2 ⟨⟨r, rfl, hr⟩, hb2⟩; (have HB2 : Hid (Below w.heap.size w w2) := hb1.trans (hb2.mono hb1.size)); (have HR : Hid (r = false → ShortT l) := hr); clear hr hb1 hb2 HLT; cases r))
    · obtain ⟨hl25, hsh⟩ := HR.out (by first | rfl | trivial)
      have HVV : Hid (∀ i c, l[i]? = some c → ∃ ua uc, ActIn w ad i c ua uc) := HV.out (HR.out (by first | rfl | trivial))
      refine Calls.mono (HTO.out _ HB2.out) ?_
      rintro e w3 ⟨dp, tb, bb, sp, sb, cap, mb, m1, m2, mw, s00, rfl, L0⟩
      have HL0 : Hid (DSt w N 11 dp tb bb sp sb cap mb m1 m2 0 s00 [] [] w3) := L0
      clear L0 hsh HTO HB2 HR HV
      go_wp2_with fail
      clear hi1 hi2
      generalize decide ((N : Int) < 1) = z1
      generalize decide ((60 : Int) < (N : Int)) = z2
      go_loopw [9] (fun i wr => ∃ (j : Nat) (s : TSt) (tr : List (Option NTree)) (pt : List Tree), j ≤ l.length ∧ i = .int .i64 j ∧ DSt w N 11 dp tb bb sp sb cap mb m1 m2 j s tr pt wr) (fun i _ => l.length - (intOf i).toNat)
      case atStart => exact ⟨0, s00, [], [], Nat.zero_le _, rfl, HL0.out⟩
      case round =>
        obtain ⟨j, s, tr, pt, hj, rfl, S⟩ := hrel
        have HS : Hid (DSt w N 11 dp tb bb sp sb cap mb m1 m2 j s tr pt wr) := S
        clear S HL0
        by_cases hlt : j < l.length
        · obtain ⟨c, hc⟩ : ∃ c, l[j]? = some c := ⟨_, List.getElem?_eq_getElem hlt⟩
          obtain ⟨ua, uc, k1, k2, hp, hsm, hlies, b, off, rfl, hcell⟩ := HVV.out j c hc
          have HCE : Hid (∀ W, Below w.heap.size w W → W.cell? ⟨b, off + j * 10, none⟩ = some (.string c.kind)) := fun W h => (hcell W h).2.1
          obtain ⟨hbw, c0, _, _, c3, c4, c5, c6, c7, _, _⟩ := hcell wr HS.out.low
          have c4 : wr.cell? ⟨b, off + j * 10 + 3 + 1, none⟩ = some (.string c.node.data) := c4
          have c5 : wr.cell? ⟨b, off + j * 10 + 3 + 2, none⟩ = some (.bool c.node.exec) := c5
          have c6 : wr.cell? ⟨b, off + j * 10 + 3 + 3, none⟩ = some (.slice ua c.node.kids.length uc) := c6
          cases kw : (c.kind.toList == [112, 117, 116]) with
          | true =>
            have kw2 := put_not_drop kw
            have HPU := os_put HE.out HS.out (by omega) c.node ua uc hlies hsm
            clear hcell hc k1 k2 hp hsm hlies c7 HS
            go_wp2_with (go_at_call 10; refine HPU.mono ?_; rintro e w4 ⟨xa, xc, rfl, HPP⟩; clear HPU c0 c3 c4 c5 c6)
            refine Calls.mono HPP ?_
            rintro e w5 ⟨r1, r2, rfl, s5, tr5, pt5, S5⟩
            have c0 := HCE.out w5 S5.low
            have HS4 : Hid (DSt w N 11 dp tb bb sp sb cap mb m1 m2 (j + 1) s5 tr5 pt5 w5) := S5
            clear S5 HPP HCE
            go_wp2_with fail
            exact ⟨⟨j + 1, _, _, _, by omega, by simp, HS4.out⟩, by simp [intOf]; omega⟩
          | false =>
            cases kw2 : (c.kind.toList == [100, 114, 111, 112]) with
            | true =>
              have HDP := ds_drop HE.out HS.out (by omega) c.k k1
              clear hcell hc k2 hp hsm hlies c3 c4 c5 c6 HCE HS
              go_wp2_with (go_at_call 11; refine HDP.mono ?_; rintro e w4 ⟨r, s4, tr4, rfl, S4, _⟩; (have HS4 : Hid (DSt w N 11 dp tb bb sp sb cap mb m1 m2 (j + 1) s4 tr4 pt w4) := S4.up (by omega)); clear S4 HDP)
              exact ⟨⟨j + 1, _, _, _, by omega, by simp, HS4.out⟩, by simp [intOf]; omega⟩
            | false =>
              have HS4 : Hid (DSt w N 11 dp tb bb sp sb cap mb m1 m2 (j + 1) s tr pt wr) := HS.out.up (by omega)
              clear hcell hc hp hsm hlies c3 c4 c5 c6 HCE HS
              go_wp2_with fail
              exact ⟨⟨j + 1, _, _, _, by omega, by simp, HS4.out⟩, by simp [intOf]; omega⟩
        · obtain rfl : j = l.length := by omega
          clear HVV
          have HTR : Calls Tryz.prog 14 #[.pointer (some ⟨dp, 0, none⟩)] wr fun e w' => ∃ ta tc, e = .returned (.slice ta (allN tr).length tc) ∧ OwnI w' wr.heap.size (.slice ta (allN tr).length tc) (allN tr) ∧ Below wr.heap.size wr w' := by
            obtain ⟨n1, fb, _, D⟩ := HS.out.D
            refine (dtrees_any D).mono fun e w' ⟨v, he, hO, hb⟩ => ?_
            obtain ⟨ta, tc, rfl⟩ := hO.form
            exact ⟨ta, tc, he, hO, hb⟩
          have hAN : (allN tr).length ≤ 25 := by
            have h1 : (allN tr).length ≤ tr.length := by unfold allN; exact Nat.le_trans (List.length_filter_le _ _) (by rw [List.length_range]; exact Nat.le_refl _)
            have h2 := HS.out.I.len
            have h3 := HS.out.few.1
            omega
          go_wp2_with (go_at_call 14; refine HTR.mono ?_; rintro e wt ⟨ta, tc, rfl, hO, hb⟩; (have HOT : Hid (OwnI wt wr.heap.size (.slice ta (allN tr).length tc) (allN tr)) := hO); (have HST : Hid (DSt w N 11 dp tb bb sp sb cap mb m1 m2 l.length s tr pt wt) := HS.out.below hb); clear hO hb HTR HS)
          obtain ⟨TL, HTL⟩ : ∃ TL, Hid (TL = treesL tr pt) := ⟨_, (rfl : _ = _)⟩
          have HTLL : Hid (TL.length = (allN tr).length) := by show _ = _; rw [HTL.out]; unfold treesL; rw [List.length_map]
          obtain ⟨i0, hi0, hz0, hz1, hz2⟩ := info_parts infoNd
          go_loopw [10, 12] (fun pv iv wl => ∃ (i : Nat) (pa : Option Addr) (pc : Nat) (us : List Value), i ≤ (allN tr).length ∧ iv = .int .i64 i ∧ pv = .slice pa i pc ∧ GoAt wt 11 (TL.take i) us (.slice pa i pc) wl ∧ Below wt.heap.size wt wl) (fun _ iv _ => (allN tr).length - (intOf iv).toNat)
          case atStart => exact ⟨0, none, 0, [], Nat.zero_le _, rfl, rfl, ⟨rfl, World.ownsRow_nil _ _ _ _, fun i t u h => by simp at h⟩, Below.refl _ _⟩
          case round =>
            obtain ⟨i, pa, pc, us, hi, rfl, rfl, GG, hb⟩ := hrel
            rename World => wl
            have HG : Hid (GoAt wt 11 (TL.take i) us (.slice pa i pc) wl) := GG
            have HB : Hid (Below wt.heap.size wt wl) := hb
            have HTI : Hid ((TL.take i).length = i) := by show _ = _; rw [List.length_take, HTLL.out]; omega
            clear GG hb
            by_cases hlt : i < (allN tr).length
            · obtain ⟨k, hk⟩ : ∃ k, (allN tr)[i]? = some k := ⟨_, List.getElem?_eq_getElem hlt⟩
              obtain ⟨t, ht⟩ : ∃ t, TL[i]? = some t := ⟨_, List.getElem?_eq_getElem (by rw [HTLL.out]; exact hlt)⟩
              obtain ⟨tg, tcp, et, _, htg, hct⟩ := HOT.out.at hk
              simp only [Value.slice.injEq] at et
              obtain ⟨rfl, _, rfl⟩ := et
              have hc1 : wl.cell? ⟨tg, i, none⟩ = some (.int .i64 (k : Int)) := (HB.out.cell (p := ⟨tg, i, none⟩) htg).trans hct
              have HGE := os_get HE.out (HST.out.below HB.out) (by omega) (by omega) hk (by rw [← HTL.out]; exact ht)
              have HTN : Hid (TL.take (i + 1) = TL.take i ++ [t]) := take_next ht
              clear hk ht hct htg
              go_wp2_with (first
                | (go_at_call 15; refine HGE.mono ?_; rintro e w4 ⟨xa, xc, rfl, K4, hb4⟩; (have HG4 : Hid (GoAt wt 11 (TL.take i) us (.slice pa i pc) ((w4.alloc (.cells #[.string t.kind, .string t.data, .bool t.exec, .slice xa t.kids.length xc] 32)).alloc (.cells #[.string t.kind, .string t.data, .bool t.exec, .slice xa t.kids.length xc] 32))) := ((HG.out.below hb4).below ((Below.refl _ w4).alloc (Nat.le_refl _) _)).below ((Below.refl _ _).alloc (Nat.le_refl _) _)); (have HK4 : Hid (KidsIn ((w4.alloc (.cells #[.string t.kind, .string t.data, .bool t.exec, .slice xa t.kids.length xc] 32)).alloc (.cells #[.string t.kind, .string t.data, .bool t.exec, .slice xa t.kids.length xc] 32)) 11 t (.slice xa t.kids.length xc)) := (K4.below ((Below.refl _ w4).alloc (Nat.le_refl _) _)).below ((Below.refl _ _).alloc (Nat.le_refl _) _)); (have HB4 : Hid (Below wt.heap.size wt w4) := HB.out.trans (hb4.mono HB.out.size)); (have HROW : Hid (((w4.alloc (.cells #[.string t.kind, .string t.data, .bool t.exec, .slice xa t.kids.length xc] 32)).alloc (.cells #[.string t.kind, .string t.data, .bool t.exec, .slice xa t.kids.length xc] 32)).ownsRow wt.heap.size 32 4 (.slice pa i pc) i (ndCells (TL.take i) us)) := (by have h := HG4.out.row; rw [HTI.out] at h; exact h)); (have HNEW : Hid (((w4.alloc (.cells #[.string t.kind, .string t.data, .bool t.exec, .slice xa t.kids.length xc] 32)).alloc (.cells #[.string t.kind, .string t.data, .bool t.exec, .slice xa t.kids.length xc] 32)).heap[w4.heap.size + 1]? = some (.cells #[.string t.kind, .string t.data, .bool t.exec, .slice xa t.kids.length xc] 32 (0, 0))) := (by have e : (w4.alloc (.cells #[.string t.kind, .string t.data, .bool t.exec, .slice xa t.kids.length xc] 32)).heap.size = w4.heap.size + 1 := (by simp); show _ = _; rw [← e]; exact heap_alloc_last _ _)); (have HB5 : Hid (Below wt.heap.size wt ((w4.alloc (.cells #[.string t.kind, .string t.data, .bool t.exec, .slice xa t.kids.length xc] 32)).alloc (.cells #[.string t.kind, .string t.data, .bool t.exec, .slice xa t.kids.length xc] 32))) := HB4.out.trans ((((Below.refl _ w4).alloc (Nat.le_refl _) _).trans (((Below.refl _ _).alloc (Nat.le_refl _) _).mono (by simp))).mono HB4.out.size)); clear HGE hb4 K4 HG HB HB4 hc1)
                | (at_builtin; refine wpList_append_own_at _ (by rfl) (.tmp 115) (.tmp 117) 29 (by rfl) wt.heap.size 32 i0 _ 4 64 Tryz.underlying29 hi0 hz0 hz1 hz2 rfl (by omega) (.slice pa i pc) i (ndCells (TL.take i) us) (by rfl) HROW.out ⟨w4.heap.size + 1, 0, none⟩ 1 1 [.string t.kind, .string t.data, .bool t.exec, .slice xa t.kids.length xc] (by rfl) (by rfl) (World.news_of_block (cs := #[.string t.kind, .string t.data, .bool t.exec, .slice xa t.kids.length xc]) (t := 32) (fr := (0, 0)) HNEW.out) (by simp [Value.oneCell']) (by unfold maxLen; omega) (by omega) HB5.out.size ?_; intro v1 w6 hown6 hg6 _ hloc6; (obtain ⟨d1, e1, rfl⟩ := rowForm hown6); (have HG6 : Hid (GoAt wt 11 (TL.take i ++ [t]) (us ++ [.slice xa t.kids.length xc]) (.slice d1 (i + 1) e1) w6) := GoAt.app HG4.out HK4.out (by rw [HTI.out]; exact hown6) hg6); (have HB6 : Hid (Below wt.heap.size wt w6) := below_grow HB5.out (Nat.le_refl _) HROW.out (Nat.le_refl _) hg6); clear hown6 hg6 hloc6 HROW HNEW HG4 HK4 HB5))
              exact ⟨⟨i + 1, d1, e1, us ++ [.slice xa t.kids.length xc], by omega, by simp, rfl, by rw [HTN.out]; exact HG6.out, HB6.out⟩, by simp [intOf]; omega⟩
            · obtain rfl : i = (allN tr).length := by omega
              rw [List.take_of_length_le (by rw [HTLL.out]; exact Nat.le_refl _)] at HG
              have HSL : Hid (DSt w N 11 dp tb bb sp sb cap mb m1 m2 l.length s tr pt wl) := HST.out.below HB.out
              have HOL : Hid (OwnI wl wr.heap.size (.slice ta (allN tr).length tc) (allN tr)) := HOT.out.below HB.out
              have HTB : Hid (∀ W' s' tr', DSt w N 11 dp tb bb sp sb cap mb m1 m2 l.length s' tr' pt W' → Calls Tryz.prog 13 #[.pointer (some ⟨dp, 0, none⟩)] W' fun e w' => e = .returned (.pointer (some ⟨tb, 0, none⟩)) ∧ w' = W') := fun W' s' tr' S' => by
                obtain ⟨n1, fb, _, D⟩ := S'.D
                exact dtable_any D
              have HT0 := HTB.out _ _ _ HSL.out
              have HF0 := ds_free HSL.out
              obtain ⟨F0, HEF⟩ : ∃ F0, Hid (F0 = (freeR s.u).length) := ⟨_, (rfl : _ = _)⟩
              rw [← HEF.out] at HF0
              have hF0 : F0 ≤ 60 := by
                rw [HEF.out]
                have h1 := HSL.out.I.rf.sp.free_len
                omega
              clear HST HOT HB HTI
              go_wp2_with (first
                | (go_at_call 13; refine HT0.mono ?_; rintro e wx ⟨rfl, hw⟩; rw [hw]; clear hw wx HT0)
                | (go_at_call 24; refine HF0.mono ?_; rintro e w5 ⟨rfl, b5⟩; (have HS5 : Hid (DSt w N 11 dp tb bb sp sb cap mb m1 m2 l.length s tr pt w5) := HSL.out.below b5); (have HO5 : Hid (OwnI w5 wr.heap.size (.slice ta (allN tr).length tc) (allN tr)) := HOL.out.below b5); (have HG5 : Hid (GoAt wt 11 TL us (.slice pa (allN tr).length pc) w5) := HG.out.below b5); (have HSV := ds_saved HE.out HS5.out (by omega) (by omega)); clear HF0 b5 HSL HOL HG)
                | (go_at_call 25; refine HSV.mono ?_; rintro e w6 ⟨sv, rfl, hsv, b6⟩; (have HSVE : Hid (sv + N = weight 12 tr pt + F0) := (by show _ = _; rw [HEF.out]; exact hsv)); (have HS6 : Hid (DSt w N 11 dp tb bb sp sb cap mb m1 m2 l.length s tr pt w6) := HS5.out.below b6); (have HO6 : Hid (OwnI w6 wr.heap.size (.slice ta (allN tr).length tc) (allN tr)) := HO5.out.below b6); (have HG6 : Hid (GoAt wt 11 TL us (.slice pa (allN tr).length pc) w6) := HG5.out.below b6); (have HA := os_all HE.out HS6.out (by omega) (by omega) HSU.out); clear HSV b6 hsv HS5 HO5 HG5)
                | (go_at_call 26; refine HA.mono ?_; rintro e w7 ⟨z, rfl, HSTEP⟩; clear HA))
              refine Calls.mono HSTEP ?_
              rintro e w8 ⟨rfl, P8, s2, tr2, S8, hsome, hone⟩
              have HS8 : Hid (DSt w N 11 dp tb bb sp sb cap mb m1 m2 l.length s2 tr2 pt w8) := S8
              have HO8 : Hid (OwnI w8 wr.heap.size (.slice ta (allN tr).length tc) (allN tr)) := HO6.out.but HS6.out P8
              have HG8 : Hid (GoAt wt 11 TL us (.slice pa (allN tr).length pc) w8) := HG6.out.but HS6.out P8
              have HSO : Hid (tr2.map Option.isSome = tr.map Option.isSome) := hsome
              have HON : Hid (OneT s2) := hone
              clear HSTEP P8 S8 hsome hone HS6 HO6 HG6
              go_wp2_with fail
              go_loopw [21] (fun iv wz => ∃ i : Nat, i ≤ (allN tr).length ∧ iv = .int .i64 i ∧ Below w8.heap.size w8 wz) (fun iv _ => (allN tr).length - (intOf iv).toNat)
              case atStart => exact ⟨0, Nat.zero_le _, rfl, Below.refl _ _⟩
              case round =>
                obtain ⟨i, hi, rfl, hb⟩ := hrel
                rename World => wz
                have HBZ : Hid (Below w8.heap.size w8 wz) := hb
                clear hb
                by_cases hlt : i < (allN tr).length
                · obtain ⟨k, hk⟩ : ∃ k, (allN tr)[i]? = some k := ⟨_, List.getElem?_eq_getElem hlt⟩
                  obtain ⟨t, ht⟩ : ∃ t, TL[i]? = some t := ⟨_, List.getElem?_eq_getElem (by rw [HTLL.out]; exact hlt)⟩
                  obtain ⟨tg, tcp, et, _, htg, hct⟩ := HO8.out.at hk
                  simp only [Value.slice.injEq] at et
                  obtain ⟨rfl, _, rfl⟩ := et
                  obtain ⟨g, cp, ua, uc, ev, hgl, hgc, K8⟩ := HG8.out.node ht
                  simp only [Value.slice.injEq] at ev
                  obtain ⟨rfl, hev, rfl⟩ := ev
                  clear hev
                  have hc1 : wz.cell? ⟨tg, i, none⟩ = some (.int .i64 (k : Int)) := (HBZ.out.cell (p := ⟨tg, i, none⟩) htg).trans hct
                  have eAN : allN tr2 = allN tr := allN_same HSO.out
                  have HGE := os_get HE.out (HS8.out.below HBZ.out) (by omega) (by omega) (tr := tr2) (i := i) (k := k) (t := t) (by rw [eAN]; exact hk) (by unfold treesL; rw [eAN]; rw [HTL.out] at ht; exact ht)
                  have HGC : Hid (∀ W, Below w8.heap.size w8 W → (W.cell? ⟨g, i * 4, none⟩ = some (.string t.kind) ∧ W.cell? ⟨g, i * 4 + 1, none⟩ = some (.string t.data) ∧ W.cell? ⟨g, i * 4 + 2, none⟩ = some (.bool t.exec) ∧ W.cell? ⟨g, i * 4 + 3, none⟩ = some (.slice ua t.kids.length uc))) := fun W h => by
                    have hcc : ∀ o, W.cell? ⟨g, o, none⟩ = w8.cell? ⟨g, o, none⟩ := fun o => h.cell (p := ⟨g, o, none⟩) hgl
                    exact ⟨(hcc _).trans hgc.1, (hcc _).trans hgc.2.1, (hcc _).trans hgc.2.2.1, (hcc _).trans hgc.2.2.2⟩
                  have HK8 : Hid (KidsIn w8 11 t (.slice ua t.kids.length uc)) := K8
                  clear hk ht hct htg hgc hgl K8 eAN
                  go_wp2_with (go_at_call 15; refine HGE.mono ?_; rintro e w4 ⟨xa, xc, rfl, K4, hb4⟩; (have HK4 : Hid (KidsIn w4 11 t (.slice xa t.kids.length xc)) := K4); (have HB4 : Hid (Below w8.heap.size w8 w4) := HBZ.out.trans (hb4.mono HBZ.out.size)); clear HGE hb4 K4 HBZ hc1)
                  obtain ⟨W5, HW5⟩ : ∃ W5, Hid (W5 = w4.alloc (.cells #[.string t.kind, .string t.data, .bool t.exec, .slice xa t.kids.length xc] 32)) := ⟨_, (rfl : _ = _)⟩
                  have hb45 : Below w4.heap.size w4 W5 := by rw [HW5.out]; exact (Below.refl _ w4).alloc (Nat.le_refl _) _
                  have hbx : W5.heap[w4.heap.size]? = some (.cells #[.string t.kind, .string t.data, .bool t.exec, .slice xa t.kids.length xc] 32 (0, 0)) := by rw [HW5.out]; exact heap_alloc_last w4 _
                  have HB5 : Hid (Below w8.heap.size w8 W5) := HB4.out.trans (hb45.mono HB4.out.size)
                  have HK5 : Hid (KidsIn W5 11 t (.slice xa t.kids.length xc)) := HK4.out.below hb45
                  have HSM : Hid (∀ W, Below W5.heap.size W5 W → Calls Tryz.prog 16 #[(.agg #[.string t.kind, .string t.data, .bool t.exec, .slice xa t.kids.length xc]), (.agg #[.string t.kind, .string t.data, .bool t.exec, .slice ua t.kids.length uc])] W fun e w' => e = .returned (.bool true) ∧ Below W.heap.size W w') := fun W h => ds_same (d := 11) (HK5.out.below h).lies ((HK8.out.below (HB5.out.trans (h.mono HB5.out.size))).lies)
                  rw [← HW5.out]
                  obtain ⟨bx, HBXE⟩ : ∃ bx, Hid (bx = w4.heap.size) := ⟨_, (rfl : w4.heap.size = _)⟩
                  rw [← HBXE.out] at hbx
                  have hslot : (Value.pointer (some ⟨w4.heap.size, 0, none⟩)) = .pointer (some ⟨bx, 0, none⟩) := by rw [HBXE.out]
                  rw [hslot]
                  have HS33 : Hid (∀ W, Below W5.heap.size W5 W → (W.cell? ⟨bx, 0, none⟩ = some (.string t.kind) ∧ W.cell? ⟨bx, 1, none⟩ = some (.string t.data) ∧ W.cell? ⟨bx, 2, none⟩ = some (.bool t.exec) ∧ W.cell? ⟨bx, 3, none⟩ = some (.slice xa t.kids.length xc)) ∧ (W.cell? ⟨g, i * 4, none⟩ = some (.string t.kind) ∧ W.cell? ⟨g, i * 4 + 1, none⟩ = some (.string t.data) ∧ W.cell? ⟨g, i * 4 + 2, none⟩ = some (.bool t.exec) ∧ W.cell? ⟨g, i * 4 + 3, none⟩ = some (.slice ua t.kids.length uc))) := fun W h => by
                    have hlt := (Array.getElem?_eq_some_iff.1 hbx).1
                    have hr := (h.block bx hlt).trans hbx
                    refine ⟨(row4b hr).1, HGC.out _ (HB5.out.trans (h.mono HB5.out.size))⟩
                  clear hslot hbx hb45 HW5 HGC HK8 HK4 HK5 HB4 HBXE
                  go_wp2_with fail
                  refine wp_region_held_drew (S := (fun W => (W.cell? ⟨bx, 0, none⟩ = some (.string t.kind) ∧ W.cell? ⟨bx, 1, none⟩ = some (.string t.data) ∧ W.cell? ⟨bx, 2, none⟩ = some (.bool t.exec) ∧ W.cell? ⟨bx, 3, none⟩ = some (.slice xa t.kids.length xc)) ∧ (W.cell? ⟨g, i * 4, none⟩ = some (.string t.kind) ∧ W.cell? ⟨g, i * 4 + 1, none⟩ = some (.string t.data) ∧ W.cell? ⟨g, i * 4 + 2, none⟩ = some (.bool t.exec) ∧ W.cell? ⟨g, i * 4 + 3, none⟩ = some (.slice ua t.kids.length uc)))) (by kernel_rfl) (HS33.out _ (below_drew W5)) (fun hHeld => ?_)
                  refine wpAnyH_take (i := 0) (v := .nilIface) rfl (by kernel_rfl) (by kernel_rfl) (by kernel_rfl) (fun _ _ _ h => h) (Or.inl ⟨by rfl, ?_⟩) hHeld ?_
                  · intro w hSw; (try dsimp only at hSw); simp only [List.getElem_toArray, List.getElem_cons_zero]; go_simp
                  simp only [List.getElem_toArray, List.getElem_cons_zero, Act.put, List.setIfInBounds_toArray, List.set_cons_zero, List.set_cons_succ]
                  refine wpAnyH_take (i := 1) (v := (.bool false)) rfl (by kernel_rfl) (by kernel_rfl) (by kernel_rfl) (fun _ _ _ h => h) (Or.inl ⟨by rfl, ?_⟩) hHeld ?_
                  · intro w hSw; (try dsimp only at hSw); simp only [List.getElem_toArray, List.getElem_cons_zero, List.getElem_cons_succ]; go_simp
                  simp only [List.getElem_toArray, List.getElem_cons_zero, List.getElem_cons_succ, Act.put, List.setIfInBounds_toArray, List.set_cons_zero, List.set_cons_succ]
                  refine wpAnyH_take (i := 2) (v := (.bool false)) rfl (by kernel_rfl) (by kernel_rfl) (by kernel_rfl) (fun _ _ _ h => h) (Or.inl ⟨by rfl, ?_⟩) hHeld ?_
                  · intro w hSw; (try dsimp only at hSw); simp only [List.getElem_toArray, List.getElem_cons_zero, List.getElem_cons_succ]; go_simp
                  simp only [List.getElem_toArray, List.getElem_cons_zero, List.getElem_cons_succ, Act.put, List.setIfInBounds_toArray, List.set_cons_zero, List.set_cons_succ]
                  refine wpAnyH_take (i := 3) (v := (.agg #[.string t.kind, .string t.data, .bool t.exec, .slice xa t.kids.length xc])) rfl (by kernel_rfl) (by kernel_rfl) (by kernel_rfl) (fun _ _ _ h => h) (Or.inl ⟨by rfl, ?_⟩) hHeld ?_
                  · intro w hSw; (try dsimp only at hSw); simp only [List.getElem_toArray, List.getElem_cons_zero, List.getElem_cons_succ]; go_simp
                  simp only [List.getElem_toArray, List.getElem_cons_zero, List.getElem_cons_succ, Act.put, List.setIfInBounds_toArray, List.set_cons_zero, List.set_cons_succ]
                  refine wpAnyH_take (i := 4) (v := (.slice (some ⟨g, 0, none⟩) (allN tr).length pc)) rfl (by kernel_rfl) (by kernel_rfl) (by kernel_rfl) (fun _ _ _ h => h) (Or.inl ⟨by rfl, ?_⟩) hHeld ?_
                  · intro w hSw; (try dsimp only at hSw); simp only [List.getElem_toArray, List.getElem_cons_zero, List.getElem_cons_succ]; go_simp
                  simp only [List.getElem_toArray, List.getElem_cons_zero, List.getElem_cons_succ, Act.put, List.setIfInBounds_toArray, List.set_cons_zero, List.set_cons_succ]
                  refine wpAnyH_take (i := 5) (v := (.int .i64 (i : Int))) rfl (by kernel_rfl) (by kernel_rfl) (by kernel_rfl) (fun _ _ _ h => h) (Or.inl ⟨by rfl, ?_⟩) hHeld ?_
                  · intro w hSw; (try dsimp only at hSw); simp only [List.getElem_toArray, List.getElem_cons_zero, List.getElem_cons_succ]; go_simp
                  simp only [List.getElem_toArray, List.getElem_cons_zero, List.getElem_cons_succ, Act.put, List.setIfInBounds_toArray, List.set_cons_zero, List.set_cons_succ]
                  refine wpAnyH_take (i := 6) (v := (.pointer (some ⟨g, i * 4, none⟩))) rfl (by kernel_rfl) (by kernel_rfl) (by kernel_rfl) (fun _ _ _ h => h) (Or.inl ⟨by rfl, ?_⟩) hHeld ?_
                  · intro w hSw; (try dsimp only at hSw); simp only [List.getElem_toArray, List.getElem_cons_zero, List.getElem_cons_succ]; go_simp
                  simp only [List.getElem_toArray, List.getElem_cons_zero, List.getElem_cons_succ, Act.put, List.setIfInBounds_toArray, List.set_cons_zero, List.set_cons_succ]
                  refine wpAnyH_take (i := 7) (v := (.agg #[.string t.kind, .string t.data, .bool t.exec, .slice ua t.kids.length uc])) rfl (by kernel_rfl) (by kernel_rfl) (by kernel_rfl) (fun _ _ _ h => h) (Or.inl ⟨by rfl, ?_⟩) hHeld ?_
                  · intro w hSw; (try dsimp only at hSw); simp only [List.getElem_toArray, List.getElem_cons_zero, List.getElem_cons_succ]; go_simp
                  simp only [List.getElem_toArray, List.getElem_cons_zero, List.getElem_cons_succ, Act.put, List.setIfInBounds_toArray, List.set_cons_zero, List.set_cons_succ]
                  refine wpAnyH_ready (rs := [8]) (by kernel_rfl) (by simp) ?_
                  refine AllReadyH.cons rfl (fun K' hK => ?_) AllReadyH.nil
                  simp only [List.getElem_toArray, List.getElem_cons_zero, List.getElem_cons_succ]
                  go_simp
                  refine Calls.mono (HSM.out _ (below_drew W5)) ?_
                  rintro e wx ⟨rfl, hb6⟩
                  have HB6 : Hid (Below W5.heap.size W5 wx) := (below_drew W5).trans (hb6.mono (below_drew W5).size)
                  clear hb6
                  go_wp2_with fail
                  refine hK.out _ _ (HS33.out _ HB6.out) (fun hHeld' => ?_)
                  clear hK K' hHeld
                  have hHeld := hHeld'
                  clear hHeld'
                  refine wpAnyH_take (i := 9) (v := (.bool false)) rfl (by kernel_rfl) (by kernel_rfl) (by kernel_rfl) (fun _ _ _ h => h) (Or.inl ⟨by rfl, ?_⟩) hHeld ?_
                  · intro w hSw; (try dsimp only at hSw); simp only [List.getElem_toArray, List.getElem_cons_zero, List.getElem_cons_succ]; go_simp
                  simp only [List.getElem_toArray, List.getElem_cons_zero, List.getElem_cons_succ, Act.put, List.setIfInBounds_toArray, List.set_cons_zero, List.set_cons_succ]
                  refine wpAnyH_take (i := 10) (v := (.bool false)) rfl (by kernel_rfl) (by kernel_rfl) (by kernel_rfl) (fun _ _ _ h => h) (Or.inl ⟨by rfl, ?_⟩) hHeld ?_
                  · intro w hSw; (try dsimp only at hSw); simp only [List.getElem_toArray, List.getElem_cons_zero, List.getElem_cons_succ]; go_simp
                  simp only [List.getElem_toArray, List.getElem_cons_zero, List.getElem_cons_succ, Act.put, List.setIfInBounds_toArray, List.set_cons_zero, List.set_cons_succ]
                  refine wpAnyH_done (by kernel_rfl) ?_ _
                  have HB9 : Hid (Below w8.heap.size w8 wx) := HB5.out.trans (HB6.out.mono HB5.out.size)
                  clear HS33 HSM HB6 HB5
                  go_wp2_with fail
                  exact ⟨⟨i + 1, by omega, by simp, HB9.out⟩, by simp [intOf]; omega⟩
                · obtain rfl : i = (allN tr).length := by omega
                  have HSZ : Hid (DSt w N 11 dp tb bb sp sb cap mb m1 m2 l.length s2 tr2 pt wz) := HS8.out.below HBZ.out
                  have HTZ := HTB.out _ _ _ HSZ.out
                  have HAL : Calls Tryz.prog 19 #[.pointer (some ⟨tb, 0, none⟩)] wz fun e w' => ∃ aa ac, e = .returned (.slice aa (allT s2.tab).length ac) ∧ OwnI w' wz.heap.size (.slice aa (allT s2.tab).length ac) (allT s2.tab) ∧ Below wz.heap.size wz w' := by
                    obtain ⟨n, _, T⟩ := HSZ.out.T
                    refine (im_all wz T).mono fun e w' ⟨v, he, hO, hb⟩ => ?_
                    obtain ⟨ta, tc, rfl⟩ := hO.form
                    exact ⟨ta, tc, he, hO, hb⟩
                  have hAT : (allT s2.tab).length ≤ 100000 := by
                    obtain ⟨n, hn, T⟩ := HSZ.out.T
                    have h1 := T.low.2.2.2.2.2.2
                    have h2 := T.low.2.2.2.2.2.1
                    have : (allT s2.tab).length ≤ s2.tab.length := by unfold allT; exact Nat.le_trans (List.length_filter_le _ _) (by rw [List.length_range]; exact Nat.le_refl _)
                    omega
                  clear HG8 HO8 HS8 HBZ HTB
                  go_wp2_with (first
                    | (go_at_call 13; refine HTZ.mono ?_; rintro e wx ⟨rfl, hw⟩; rw [hw]; clear hw wx HTZ)
                    | (go_at_call 19; refine HAL.mono ?_; rintro e wa ⟨aa, ac, rfl, hO, hb⟩; (have HOA : Hid (OwnI wa wz.heap.size (.slice aa (allT s2.tab).length ac) (allT s2.tab)) := hO); (have HSA : Hid (DSt w N 11 dp tb bb sp sb cap mb m1 m2 l.length s2 tr2 pt wa) := HSZ.out.below hb); clear hO hb HAL HSZ))
                  obtain ⟨A, HA⟩ : ∃ A, Hid (A = allT s2.tab) := ⟨_, (rfl : _ = _)⟩
                  rw [← HA.out] at HOA hAT ⊢
                  have HPR : Hid (∀ (i k q r : Nat), A[i]? = some q → A[k]? = some r → k < i → ∃ D0 D1 e0 e1, ¬ (D0 = D1 ∧ e0 = e1) ∧ ∀ W, Below wa.heap.size wa W → (Calls Tryz.prog 28 #[.pointer (some ⟨tb, 0, none⟩), .int .i64 (q : Int)] W fun e w' => e = .returned (.tuple #[.string D0, .nilIface]) ∧ Below W.heap.size W w') ∧ (Calls Tryz.prog 28 #[.pointer (some ⟨tb, 0, none⟩), .int .i64 (r : Int)] W fun e w' => e = .returned (.tuple #[.string D1, .nilIface]) ∧ Below W.heap.size W w') ∧ (Calls Tryz.prog 20 #[.pointer (some ⟨tb, 0, none⟩), .int .i64 (q : Int)] W fun e w' => ∃ x0 x1 x4 ba bn bc, e = .returned (.tuple #[.agg #[.int .i64 x0, .int .i64 x1, .bool e0, .slice ba bn bc, .int .u32 x4], .bool true]) ∧ Below W.heap.size W w') ∧ (Calls Tryz.prog 20 #[.pointer (some ⟨tb, 0, none⟩), .int .i64 (r : Int)] W fun e w' => ∃ x0 x1 x4 ba bn bc, e = .returned (.tuple #[.agg #[.int .i64 x0, .int .i64 x1, .bool e1, .slice ba bn bc, .int .u32 x4], .bool true]) ∧ Below W.heap.size W w')) := fun i k q r hq hr hki => by
                    have hqm : q ∈ allT s2.tab := by rw [← HA.out]; exact List.mem_of_getElem? hq
                    have hrm : r ∈ allT s2.tab := by rw [← HA.out]; exact List.mem_of_getElem? hr
                    obtain ⟨y, hy⟩ := allT_mem.1 hqm
                    obtain ⟨y', hy'⟩ := allT_mem.1 hrm
                    have st : ∀ {W : World} {q : Nat} {y : Ino}, Below wa.heap.size wa W → slotT s2.tab q = some y → Calls Tryz.prog 20 #[.pointer (some ⟨tb, 0, none⟩), .int .i64 (q : Int)] W fun e w' => ∃ x0 x1 x4 ba bn bc, e = .returned (.tuple #[.agg #[.int .i64 x0, .int .i64 x1, .bool y.exec, .slice ba bn bc, .int .u32 x4], .bool true]) ∧ Below W.heap.size W w' := fun hW hy => by
                      refine (ds_stat (HSA.out.below hW) hy).mono ?_
                      rintro e w' ⟨v, he, ⟨ba, bc, rfl, _⟩, hb⟩
                      exact ⟨_, _, _, ba, _, bc, he, hb⟩
                    refine ⟨readD s2.bl y.blocks y.bytes, readD s2.bl y'.blocks y'.bytes, y.exec, y'.exec, fun ⟨h1, h2⟩ => ?_, fun W hW => ⟨ds_read HE.out (HSA.out.below hW) hy, ds_read HE.out (HSA.out.below hW) hy', st hW hy, st hW hy'⟩⟩
                    have hqr := HON.out q r hqm hrm (by unfold lkT; simp only [hy, hy']; rw [h1, h2])
                    have hnd : A.Nodup := by rw [HA.out]; exact allT_nodup _
                    have hi := (List.getElem?_eq_some_iff.1 hq).1
                    have h3 : A[i]? = A[k]? := by rw [hq, hr, hqr]
                    have := (List.getElem?_inj hi hnd).1 h3
                    omega
                  have HFN : Hid (∀ W, Below wa.heap.size wa W → Calls Tryz.prog 25 #[.pointer (some ⟨dp, 0, none⟩)] W fun e w2 => ∃ sv2 F2 : Nat, e = .returned (.int .i64 (sv2 : Int)) ∧ (sv2 : Int) - (sv : Int) = (F2 : Int) - (F0 : Int) ∧ F2 ≤ 60 ∧ Calls Tryz.prog 24 #[.pointer (some ⟨tb, 0, none⟩)] w2 fun e w3 => e = .returned (.int .i64 (F2 : Int)) ∧ Below w.heap.size w w3) := fun W hW => by
                    have SW := HSA.out.below hW
                    refine (ds_saved HE.out SW (by omega) (by omega)).mono ?_
                    rintro e w2 ⟨sv2, he, hsv2, b2⟩
                    have S2 := SW.below b2
                    have h1 := SW.I.rf.sp.free_len
                    refine ⟨sv2, (freeR s2.u).length, he, ?_, by omega, (ds_free S2).mono fun e w3 ⟨he, b3⟩ => ⟨he, S2.low.trans (b3.mono S2.low.size)⟩⟩
                    have h3 : weight 12 tr2 pt = weight 12 tr pt := weight_same (D := 12) pt HSO.out
                    have h4 := HSVE.out
                    have h5 : sv2 + N = weight 12 tr2 pt + (freeR s2.u).length := hsv2
                    omega
                  clear HA HON HSO HSA HSVE HTL HTLL HSU HE HEF hF0
                  go_loopw [26] (fun iv wq => ∃ i : Nat, i ≤ A.length ∧ iv = .int .i64 i ∧ Below wa.heap.size wa wq) (fun iv _ => A.length - (intOf iv).toNat)
                  case atStart => exact ⟨0, Nat.zero_le _, rfl, Below.refl _ _⟩
                  case round =>
                    obtain ⟨i, hi, rfl, hb⟩ := hrel
                    rename World => wq
                    have HBQ : Hid (Below wa.heap.size wa wq) := hb
                    clear hb
                    by_cases hlt : i < A.length
                    · obtain ⟨q, hq⟩ : ∃ q, A[i]? = some q := ⟨_, List.getElem?_eq_getElem hlt⟩
                      obtain ⟨ag, acp, ea, _, hag, hca⟩ := HOA.out.at hq
                      simp only [Value.slice.injEq] at ea
                      obtain ⟨rfl, _, rfl⟩ := ea
                      have HCA : Hid (∀ W, Below wa.heap.size wa W → W.cell? ⟨ag, i, none⟩ = some (.int .i64 (q : Int))) := fun W h => (h.cell (p := ⟨ag, i, none⟩) hag).trans hca
                      have HQ : Hid (A[i]? = some q) := hq
                      clear hq hag hca
                      go_wp2_with fail
                      go_loopw [27] (fun kv wk => ∃ k : Nat, k ≤ i ∧ kv = .int .i64 k ∧ Below wa.heap.size wa wk) (fun kv _ => i - (intOf kv).toNat)
                      case atStart => exact ⟨0, Nat.zero_le _, rfl, HBQ.out⟩
                      case round =>
                        obtain ⟨k, hk, rfl, hb⟩ := hrel
                        rename World => wk
                        have HBK : Hid (Below wa.heap.size wa wk) := hb
                        clear hb HBQ
                        by_cases hlk : k < i
                        · obtain ⟨r, hr⟩ : ∃ r, A[k]? = some r := ⟨_, List.getElem?_eq_getElem (by omega)⟩
                          obtain ⟨ag', acp', ea, _, hag, hca⟩ := HOA.out.at hr
                          simp only [Value.slice.injEq, Option.some.injEq, Addr.mk.injEq, and_true, true_and] at ea
                          obtain ⟨rfl, hea⟩ := ea
                          clear hea
                          have HCK : Hid (∀ W, Below wa.heap.size wa W → W.cell? ⟨ag, k, none⟩ = some (.int .i64 (r : Int))) := fun W h => (h.cell (p := ⟨ag, k, none⟩) hag).trans hca
                          obtain ⟨D0, D1, e0, e1, hno, hw⟩ := HPR.out i k q r HQ.out hr hlk
                          have HW : Hid (∀ W, Below wa.heap.size wa W → (Calls Tryz.prog 28 #[.pointer (some ⟨tb, 0, none⟩), .int .i64 (q : Int)] W fun e w' => e = .returned (.tuple #[.string D0, .nilIface]) ∧ Below W.heap.size W w') ∧ (Calls Tryz.prog 28 #[.pointer (some ⟨tb, 0, none⟩), .int .i64 (r : Int)] W fun e w' => e = .returned (.tuple #[.string D1, .nilIface]) ∧ Below W.heap.size W w') ∧ (Calls Tryz.prog 20 #[.pointer (some ⟨tb, 0, none⟩), .int .i64 (q : Int)] W fun e w' => ∃ x0 x1 x4 ba bn bc, e = .returned (.tuple #[.agg #[.int .i64 x0, .int .i64 x1, .bool e0, .slice ba bn bc, .int .u32 x4], .bool true]) ∧ Below W.heap.size W w') ∧ (Calls Tryz.prog 20 #[.pointer (some ⟨tb, 0, none⟩), .int .i64 (r : Int)] W fun e w' => ∃ x0 x1 x4 ba bn bc, e = .returned (.tuple #[.agg #[.int .i64 x0, .int .i64 x1, .bool e1, .slice ba bn bc, .int .u32 x4], .bool true]) ∧ Below W.heap.size W w')) := hw
                          have g0 := HCA.out wk HBK.out
                          clear hw hr hag hca
                          go_wp2_with fail
                          refine Calls.mono (HW.out wk HBK.out).1 ?_
                          rintro e u1 ⟨rfl, b1⟩
                          have B1 : Hid (Below wa.heap.size wa u1) := HBK.out.trans (b1.mono HBK.out.size)
                          have g1 := HCK.out u1 B1.out
                          clear b1 g0 HBK
                          go_wp2_with fail
                          refine Calls.mono (HW.out u1 B1.out).2.1 ?_
                          rintro e u2 ⟨rfl, b2⟩
                          have B2 : Hid (Below wa.heap.size wa u2) := B1.out.trans (b2.mono B1.out.size)
                          have g2 := HCA.out u2 B2.out
                          clear b2 g1 B1
                          go_wp2_with fail
                          refine Calls.mono (HW.out u2 B2.out).2.2.1 ?_
                          rintro e u5 ⟨x0, x1, x4, qa, qn, qc, rfl, b5⟩
                          have B5 : Hid (Below wa.heap.size wa u5) := B2.out.trans (b5.mono B2.out.size)
                          obtain ⟨U6, HU6⟩ : ∃ U6, Hid (U6 = u5.alloc (.cells #[.int .i64 x0, .int .i64 x1, .bool e0, .slice qa qn qc, .int .u32 x4] 54)) := ⟨_, (rfl : _ = _)⟩
                          have hb6 : Below u5.heap.size u5 U6 := by rw [HU6.out]; exact (Below.refl _ u5).alloc (Nat.le_refl _) _
                          have B6 : Hid (Below wa.heap.size wa U6) := B5.out.trans (hb6.mono B5.out.size)
                          have HX1 : Hid (U6.cell? ⟨u5.heap.size, 2, none⟩ = some (.bool e0) ∧ u5.heap.size < U6.heap.size) := by
                            rw [HU6.out]
                            exact ⟨by rw [cell_of_row _ _ _ _ _ _ (heap_alloc_last u5 _)]; rfl, by simp⟩
                          have g3 := HCK.out U6 B6.out
                          rw [HU6.out] at g3
                          clear b5 g2 B2 hb6 B5
                          go_wp2_with fail
                          rw [← HU6.out]
                          refine Calls.mono (HW.out U6 B6.out).2.2.2 ?_
                          rintro e u7 ⟨y0, y1, y4, ra, rn, rc, rfl, b7⟩
                          have B7 : Hid (Below wa.heap.size wa u7) := B6.out.trans (b7.mono B6.out.size)
                          obtain ⟨U8, HU8⟩ : ∃ U8, Hid (U8 = u7.alloc (.cells #[.int .i64 y0, .int .i64 y1, .bool e1, .slice ra rn rc, .int .u32 y4] 54)) := ⟨_, (rfl : _ = _)⟩
                          have hb8 : Below u7.heap.size u7 U8 := by rw [HU8.out]; exact (Below.refl _ u7).alloc (Nat.le_refl _) _
                          have B8 : Hid (Below wa.heap.size wa U8) := B7.out.trans (hb8.mono B7.out.size)
                          have h68 : Below U6.heap.size U6 U8 := b7.trans (hb8.mono b7.size)
                          have z1 : U8.cell? ⟨u5.heap.size, 2, none⟩ = some (.bool e0) := (h68.cell (p := ⟨u5.heap.size, 2, none⟩) HX1.out.2).trans HX1.out.1
                          have z2 : U8.cell? ⟨u7.heap.size, 2, none⟩ = some (.bool e1) := by rw [HU8.out, cell_of_row _ _ _ _ _ _ (heap_alloc_last u7 _)]; rfl
                          rw [HU8.out] at z1 z2 B8
                          clear b7 hb8 h68 B7 B6 HX1 HW HCK g3 HU6 HU8
                          by_cases hD : D0 = D1
                          · have hDb := bytes_same hD
                            have heb : (e0 == e1) = false := by cases e0 <;> cases e1 <;> first | rfl | exact absurd ⟨hD, rfl⟩ hno
                            clear hD hno
                            go_wp2_with fail
                            exact ⟨⟨k + 1, by omega, by simp, B8.out⟩, by simp [intOf]; omega⟩
                          · have hDb := bytes_diff hD
                            clear hD hno
                            go_wp2_with fail
                            exact ⟨⟨k + 1, by omega, by simp, B8.out⟩, by simp [intOf]; omega⟩
                        · obtain rfl : k = i := by omega
                          go_wp2_with fail
                          exact ⟨⟨k + 1, by omega, by simp, HBK.out⟩, by simp [intOf]; omega⟩
                    · obtain rfl : i = A.length := by omega
                      have HSV := HFN.out wq HBQ.out
                      clear HPR HFN HOA
                      go_wp2_with fail
                      refine Calls.mono HSV ?_
                      rintro e wb ⟨sv2, F2, rfl, heq, hF2, HFR⟩
                      clear HSV
                      go_wp2_with fail
                      refine Calls.mono HFR ?_
                      rintro e wc ⟨rfl, hbc⟩
                      have HBC : Hid (Below w.heap.size w wc) := hbc
                      clear HFR hbc
                      go_wp2_with fail
                      go_ret
                      exact ⟨rfl, HBC.out⟩
    · go_ret
      exact ⟨rfl, HB2.out⟩
  · go_enter Tryz.func5, Tryz.ntmps5
    by_cases hM1 : M < 1
    · go_wp2_with (go_at_call 23; refine HDR.out.mono ?_; rintro e w1 ⟨rfl, hb1⟩; clear HDR)
      go_ret
      exact ⟨rfl, hb1⟩
    · have hM2 : (60 : Int) < M := by omega
      go_wp2_with (go_at_call 23; refine HDR.out.mono ?_; rintro e w1 ⟨rfl, hb1⟩; clear HDR)
      go_ret
      exact ⟨rfl, hb1⟩
end Go.Proofs.YteefneelcgeioaaGreatDoor
