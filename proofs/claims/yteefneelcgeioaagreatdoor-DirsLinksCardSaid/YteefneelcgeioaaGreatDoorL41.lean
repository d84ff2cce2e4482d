/-
  The walk of the law DirsLinks.
  Conditions: those that each states.
-/
import Derived.Test.YteefneelcgeioaaGreatDoorL40
import Derived.Deep.RegionHeld3
namespace Go.Proofs.YteefneelcgeioaaGreatDoor
open Go.RowKit Go.Maps


set_option maxRecDepth 100000 in
set_option maxHeartbeats 4000000 in
theorem dirsLinks_any (a : Nat → Addr) (M : Int) (nA : Nat) (v : Value) (l : List TAct) (w : World) (hv : TActsIn w nA l v) (E : DSn a w) :
    Calls Tryz.prog 3 #[.int .i64 M, v] w fun e w' => e = .returned (.bool true) ∧ Below w.heap.size w w' := by
  have HDR : Hid (Calls Tryz.prog 6 #[] w fun e w' => e = .returned (.bool true) ∧ Below w.heap.size w w') := by
    obtain ⟨es, hes⟩ := E.sum
    exact dired_any a es E.P E.P.is.atB hes E.gB E.gS
  have HLT : Hid (∀ W, Below w.heap.size w W → Calls Tryz.prog 7 #[v] W fun e w' => (∃ r, e = .returned (.bool r) ∧ (r = false → ShortT l)) ∧ Below W.heap.size W w') := fun W hW => longTrees_any nA l v W (hv.below hW)
  obtain ⟨ad, vcap, rfl, _⟩ := id hv
  have HV : Hid (ShortT l → ∀ i c, l[i]? = some c → ∃ ua uc, ActIn w ad i c ua uc) := fun hs i c hc => acts_in hv hs hc
  have HE : Hid (DSn a w) := E
  clear hv E
  by_cases hM : 1 ≤ M ∧ M ≤ 60
  · obtain ⟨N, rfl⟩ : ∃ N : Nat, M = (N : Int) := ⟨M.toNat, by omega⟩
    have hN1 : 1 ≤ N := by omega
    have hN2 : N ≤ 60 := by omega
    have hi1 : ¬ (N : Int) < 1 := by omega
    have hi2 : ¬ (60 : Int) < (N : Int) := by omega
    have HTO : Hid (∀ W, Below w.heap.size w W → Calls Tryz.prog 8 #[.int .i64 (N : Int)] W fun e w' => ∃ dp tb bb sp sb cap mb m1 m2 mw, e = .returned (.tuple #[.pointer (some ⟨dp, 0, none⟩), .pointer (some ⟨mw, 0, none⟩), .bool true]) ∧ DlAt w N 11 dp tb bb sp sb cap mb m1 m2 0 [] [] [] (.slice none 0 0) w') := fun W hW =>
      (dirsOf_any w.heap.size N 11 (fun _ => 0) hN1 (by omega) W hW.size).mono fun e w' ⟨dp, tb, bb, sp, sb, cap, mb, m1, m2, md, mt, mw, he, D, T, _, hb⟩ =>
        ⟨dp, tb, bb, sp, sb, cap, mb, m1, m2, mw, he, ⟨⟨_, _, ⟨0, _, Nat.le_refl _, D⟩, ⟨0, Nat.zero_le _, T⟩, LInv.start N 12, ⟨Nat.le_refl _, fun t ht => by cases ht⟩, hW.trans (hb.mono hW.size)⟩, rfl, World.ownsRow_nil _ _ _ _, fun i t u h => by simp at h⟩⟩
    clear hM
    go_enter Tryz.func3, Tryz.ntmps3
    go_wp2_with (first
      | (go_at_call 6; refine HDR.out.mono ?_; rintro e w1 ⟨rfl, hb1⟩; clear HDR)
      | (go_at_call 7; refine (HLT.out _ hb1).mono ?_; rintro e w2 ⟨⟨r, rfl, hr⟩, hb2⟩; (have HB2 : Hid (Below w.heap.size w w2) := hb1.trans (hb2.mono hb1.size)); (have HR : Hid (r = false → ShortT l) := hr); clear hr hb1 hb2 HLT; cases r))
    · obtain ⟨hl25, hsh⟩ := HR.out (by first | rfl | trivial)
      have HVV : Hid (∀ i c, l[i]? = some c → ∃ ua uc, ActIn w ad i c ua uc) := HV.out (HR.out (by first | rfl | trivial))
      refine Calls.mono (HTO.out _ HB2.out) ?_
      rintro e w3 ⟨dp, tb, bb, sp, sb, cap, mb, m1, m2, mw, rfl, L0⟩
      have HL0 : Hid (DlAt w N 11 dp tb bb sp sb cap mb m1 m2 0 [] [] [] (.slice none 0 0) w3) := L0
      clear L0 hsh HTO HB2 HR HV
      go_wp2_with fail
      clear hi1 hi2
      generalize decide ((N : Int) < 1) = z1
      generalize decide ((60 : Int) < (N : Int)) = z2
      go_loopw [9, 10] (fun pv i wr => ∃ (j : Nat) (pt : List Tree) (us : List Value) (pa : Option Addr) (pc : Nat), j ≤ l.length ∧ i = .int .i64 j ∧ pv = .slice pa pt.length pc ∧ pt.length ≤ j ∧ DlAt w N 11 dp tb bb sp sb cap mb m1 m2 j pt pt us (.slice pa pt.length pc) wr) (fun _ i _ => l.length - (intOf i).toNat)
      case atStart => exact ⟨0, [], [], none, 0, Nat.zero_le _, rfl, rfl, Nat.le_refl _, HL0.out⟩
      case round =>
        obtain ⟨j, pt, us, pa, pc, hj, rfl, rfl, hpj, L⟩ := hrel
        have HL : Hid (DlAt w N 11 dp tb bb sp sb cap mb m1 m2 j pt pt us (.slice pa pt.length pc) wr) := L
        clear L HL0
        by_cases hlt : j < l.length
        · obtain ⟨c, hc⟩ : ∃ c, l[j]? = some c := ⟨_, List.getElem?_eq_getElem hlt⟩
          obtain ⟨ua, uc, k1, k2, hp, hsm, hlies, b, off, rfl, hcell⟩ := HVV.out j c hc
          obtain ⟨hbw, c0, c1, c2, c3, c4, c5, c6, c7, c8, c9⟩ := hcell wr HL.out.low
          have HL1 : Hid (DlAt w N 11 dp tb bb sp sb cap mb m1 m2 j pt pt us (.slice pa pt.length pc) (wr.alloc (.cells #[.string c.kind, .string c.path, .string c.s, .string c.node.kind, .string c.node.data, .bool c.node.exec, .slice ua c.node.kids.length uc, .int .i64 c.k, .int .i64 c.n, .int .i64 c.bit] 34))) := HL.out.below ((Below.refl _ wr).alloc (Nat.le_refl _) _)
          have HBX : Hid ((wr.alloc (.cells #[.string c.kind, .string c.path, .string c.s, .string c.node.kind, .string c.node.data, .bool c.node.exec, .slice ua c.node.kids.length uc, .int .i64 c.k, .int .i64 c.n, .int .i64 c.bit] 34)).heap[wr.heap.size]? = some (.cells #[.string c.kind, .string c.path, .string c.s, .string c.node.kind, .string c.node.data, .bool c.node.exec, .slice ua c.node.kids.length uc, .int .i64 c.k, .int .i64 c.n, .int .i64 c.bit] 34 (0, 0))) := heap_alloc_last wr _
          have HSM : Hid (SmT 11 c.node) := hsm
          have HLI : Hid (Lies w w.heap.size 12 c.node.kids (.slice ua c.node.kids.length uc)) := hlies
          clear hcell hc HL hsm hlies
          cases kw : (c.kind.toList == [112, 117, 116]) with
          | true =>
            have HPU := dl_put HE.out HL1.out (by omega) (by omega) c.node ua uc HLI.out HSM.out HBX.out
            clear k1 k2 hp
            obtain ⟨i0, hi0, hz0, hz1, hz2⟩ := info_parts infoNd
            go_wp2_with (go_at_call 10; refine HPU.mono ?_; rintro e w4 ⟨xa, xc, rfl, HP⟩; clear HPU)
            refine Calls.mono HP ?_
            rintro e w5 ⟨hbx, ⟨p, rfl, L5⟩ | ⟨rfl, L5⟩⟩
            · have HL5 : Hid (DlAt w N 11 dp tb bb sp sb cap mb m1 m2 (j + 1) pt pt us (.slice pa pt.length pc) w5) := L5
              clear L5 HP hbx
              go_wp2_with fail
              exact ⟨⟨j + 1, pt, us, _, _, by omega, by simp, rfl, by omega, HL5.out⟩, by simp [intOf]; omega⟩
            · have HL5 : Hid (DlAt w N 11 dp tb bb sp sb cap mb m1 m2 (j + 1) (pt ++ [c.node]) pt us (.slice pa pt.length pc) w5) := L5
              have b3 : w5.cell? ⟨wr.heap.size, 3, none⟩ = some (.string c.node.kind) := by rw [cell_of_row _ _ _ _ _ _ hbx]; rfl
              have b4 : w5.cell? ⟨wr.heap.size, 4, none⟩ = some (.string c.node.data) := by rw [cell_of_row _ _ _ _ _ _ hbx]; rfl
              have b5 : w5.cell? ⟨wr.heap.size, 5, none⟩ = some (.bool c.node.exec) := by rw [cell_of_row _ _ _ _ _ _ hbx]; rfl
              have b6 : w5.cell? ⟨wr.heap.size, 6, none⟩ = some (.slice ua c.node.kids.length uc) := by rw [cell_of_row _ _ _ _ _ _ hbx]; rfl
              have HW5 : Hid (w.heap.size ≤ w5.heap.size) := L5.low.size
              have HROW : Hid ((w5.alloc (.cells #[.string c.node.kind, .string c.node.data, .bool c.node.exec, .slice ua c.node.kids.length uc] 32)).ownsRow w.heap.size 32 4 (.slice pa pt.length pc) pt.length (ndCells pt us)) := World.ownsRow.alloc L5.row _
              clear L5 HP hbx
              go_wp2_with (at_builtin; refine wpList_append_own_at _ (by rfl) (.tmp 82) (.tmp 85) 29 (by rfl) w.heap.size 32 i0 _ 4 64 Tryz.underlying29 hi0 hz0 hz1 hz2 rfl (by omega) (.slice pa pt.length pc) pt.length (ndCells pt us) (by rfl) HROW.out ⟨w5.heap.size, 0, none⟩ 1 1 [.string c.node.kind, .string c.node.data, .bool c.node.exec, .slice ua c.node.kids.length uc] (by rfl) (by rfl) (World.news_of_block (cs := #[.string c.node.kind, .string c.node.data, .bool c.node.exec, .slice ua c.node.kids.length uc]) (t := 32) (fr := (0, 0)) (heap_alloc_last w5 _)) (by simp [Value.oneCell']) (by unfold maxLen; omega) (by omega) (by have := HW5.out; simp; omega) ?_; intro v1 w6 hown6 hg6 _ hloc6; (obtain ⟨d1, e1, rfl⟩ := rowForm hown6); (have HL6 : Hid (DlAt w N 11 dp tb bb sp sb cap mb m1 m2 (j + 1) (pt ++ [c.node]) (pt ++ [c.node]) (us ++ [.slice ua c.node.kids.length uc]) (.slice d1 (pt.length + 1) e1) w6) := dl_app (HL5.out.below ((Below.refl _ w5).alloc (Nat.le_refl _) _)) HLI.out hown6 hg6); clear HROW hown6 hg6 hloc6)
              refine ⟨⟨j + 1, pt ++ [c.node], us ++ [.slice ua c.node.kids.length uc], d1, e1, by omega, by simp, by simp, by simp; omega, ?_⟩, by simp [intOf]; omega⟩
              rw [List.length_append, List.length_singleton]
              exact HL6.out
          | false =>
            cases kw2 : (c.kind.toList == [100, 114, 111, 112]) with
            | true =>
              have HDP := dl_drop HE.out HL1.out (by omega) c.k k1
              clear HBX HSM HLI
              go_wp2_with (go_at_call 11; refine HDP.mono ?_; rintro e w4 ⟨r, rfl, L4⟩; (have HL4 : Hid (DlAt w N 11 dp tb bb sp sb cap mb m1 m2 (j + 1) pt pt us (.slice pa pt.length pc) w4) := L4); clear L4 HDP)
              exact ⟨⟨j + 1, pt, us, _, _, by omega, by simp, rfl, by omega, HL4.out⟩, by simp [intOf]; omega⟩
            | false =>
              cases kw3 : (c.kind.toList == [115, 104, 97, 114, 101]) with
              | true =>
                have HSH := dl_share HE.out HL1.out (by omega) c.k c.n c.path k1 k2 (by omega)
                clear HBX HSM HLI
                go_wp2_with (go_at_call 12; refine HSH.mono ?_; rintro e w4 ⟨r, rfl, L4⟩; (have HL4 : Hid (DlAt w N 11 dp tb bb sp sb cap mb m1 m2 (j + 1) pt pt us (.slice pa pt.length pc) w4) := L4); clear L4 HSH)
                exact ⟨⟨j + 1, pt, us, _, _, by omega, by simp, rfl, by omega, HL4.out⟩, by simp [intOf]; omega⟩
              | false =>
                have HL4 : Hid (DlAt w N 11 dp tb bb sp sb cap mb m1 m2 (j + 1) pt pt us (.slice pa pt.length pc) (wr.alloc (.cells #[.string c.kind, .string c.path, .string c.s, .string c.node.kind, .string c.node.data, .bool c.node.exec, .slice ua c.node.kids.length uc, .int .i64 c.k, .int .i64 c.n, .int .i64 c.bit] 34))) := HL1.out.up (by omega)
                clear HBX HSM HLI
                go_wp2_with fail
                exact ⟨⟨j + 1, pt, us, _, _, by omega, by simp, rfl, by omega, HL4.out⟩, by simp [intOf]; omega⟩
        · obtain rfl : j = l.length := by omega
          clear HVV
          obtain ⟨s, tr, S⟩ := HL.out.S
          have HS : Hid (DSt w N 11 dp tb bb sp sb cap mb m1 m2 l.length s tr pt wr) := S
          have HTB : Calls Tryz.prog 13 #[.pointer (some ⟨dp, 0, none⟩)] wr fun e w' => e = .returned (.pointer (some ⟨tb, 0, none⟩)) ∧ w' = wr := by
            obtain ⟨n1, fb, _, D⟩ := S.D
            exact dtable_any D
          have HTR : Calls Tryz.prog 14 #[.pointer (some ⟨dp, 0, none⟩)] wr fun e w' => ∃ ta tc, e = .returned (.slice ta (allN tr).length tc) ∧ OwnI w' wr.heap.size (.slice ta (allN tr).length tc) (allN tr) ∧ Below wr.heap.size wr w' := by
            obtain ⟨n1, fb, _, D⟩ := S.D
            refine (dtrees_any D).mono fun e w' ⟨v, he, hO, hb⟩ => ?_
            obtain ⟨ta, tc, rfl⟩ := hO.form
            exact ⟨ta, tc, he, hO, hb⟩
          have HLEN : Hid (((allN tr).flatMap (fsI tr)).length ≤ 40000) := links_len S (by omega)
          have hAN : (allN tr).length ≤ 25 := by
            have h1 : (allN tr).length ≤ tr.length := by unfold allN; exact Nat.le_trans (List.length_filter_le _ _) (by rw [List.length_range]; exact Nat.le_refl _)
            have h2 := S.I.len
            omega
          clear S
          go_wp2_with (first
            | (go_at_call 13; refine HTB.mono ?_; rintro e wx ⟨rfl, hw⟩; rw [hw]; clear hw wx HTB)
            | (go_at_call 14; refine HTR.mono ?_; rintro e wt ⟨ta, tc, rfl, hO, hb⟩; (have HOT : Hid (OwnI wt wr.heap.size (.slice ta (allN tr).length tc) (allN tr)) := hO); (have HBT : Hid (Below wr.heap.size wr wt) := hb); clear hO hb HTR))
          have HTREE : Hid (∀ i k, (allN tr)[i]? = some k → DlTree 11 dp tr pt.length (.slice pa pt.length pc) k wt) := fun i k hk => dl_tree HE.out (HS.out.below HBT.out) (HL.out.below HBT.out) (by omega) (by omega) hk
          clear HL
          obtain ⟨j0, hj0, hy0, hy1, hy2⟩ := info_parts infoIn
          go_loopw [15, 17] (fun lv iv wl => ∃ (i : Nat) (la : Option Addr) (lc : Nat) (ls : List Nat), i ≤ (allN tr).length ∧ iv = .int .i64 i ∧ lv = .slice la ls.length lc ∧ ls = ((allN tr).take i).flatMap (fsI tr) ∧ OwnI wl wt.heap.size (.slice la ls.length lc) ls ∧ Below wt.heap.size wt wl) (fun _ iv _ => (allN tr).length - (intOf iv).toNat)
          case atStart => exact ⟨0, none, 0, [], Nat.zero_le _, rfl, rfl, rfl, OwnI.nil _ _, Below.refl _ _⟩
          case round =>
            obtain ⟨i, la, lc, ls, hi, rfl, rfl, hls, O, hb⟩ := hrel
            rename World => wl
            have HLS : Hid (ls = ((allN tr).take i).flatMap (fsI tr)) := hls
            have HO : Hid (OwnI wl wt.heap.size (.slice la ls.length lc) ls) := O
            have HB : Hid (Below wt.heap.size wt wl) := hb
            clear hls O hb
            by_cases hlt : i < (allN tr).length
            · obtain ⟨k, hk⟩ : ∃ k, (allN tr)[i]? = some k := ⟨_, List.getElem?_eq_getElem hlt⟩
              obtain ⟨t, g, cp, ua, uc, ev, hkp, hpl, hW, hI⟩ := HTREE.out i k hk
              simp only [Value.slice.injEq] at ev
              obtain ⟨rfl, _, rfl⟩ := ev
              obtain ⟨tg, tcp, et, _, htg, hct⟩ := HOT.out.at hk
              simp only [Value.slice.injEq] at et
              obtain ⟨rfl, _, rfl⟩ := et
              have HTC : Hid (∀ W, Below wt.heap.size wt W → W.cell? ⟨tg, i, none⟩ = some (.int .i64 (k : Int))) := fun W h => (h.cell (p := ⟨tg, i, none⟩) htg).trans hct
              have HWW : Hid (∀ W, Below wt.heap.size wt W → (W.cell? ⟨g, k * 4, none⟩ = some (.string t.kind) ∧ W.cell? ⟨g, k * 4 + 1, none⟩ = some (.string t.data) ∧ W.cell? ⟨g, k * 4 + 2, none⟩ = some (.bool t.exec) ∧ W.cell? ⟨g, k * 4 + 3, none⟩ = some (.slice ua t.kids.length uc))) := fun W h => (hW W h).1
              have HG := (hW wl HB.out).2
              have HI : Hid (∀ (i2 : Nat) (p : ByteArray), (pathsT 12 t)[i2]? = some p → ∃ q, (fsI tr k)[i2]? = some q ∧ ∀ W', Below wt.heap.size wt W' → Calls Tryz.prog 18 #[.pointer (some ⟨dp, 0, none⟩), .int .i64 (k : Int), .string p] W' fun e w' => e = .returned (.tuple #[.int .i64 (q : Int), .nilIface]) ∧ Below W'.heap.size W' w') := hI
              have HPL : Hid ((pathsT 12 t).length = (fsI tr k).length) := hpl
              have HK : Hid ((allN tr)[i]? = some k) := hk
              have hc1 : wl.cell? ⟨tg, i, none⟩ = some (.int .i64 (k : Int)) := HTC.out wl HB.out
              have hkpi : ¬ (pt.length : Int) ≤ (k : Int) := by omega
              clear hW hI hpl hk hct htg hkp
              go_wp2_with (go_at_call 15; refine HG.mono ?_; rintro e w4 ⟨xa, xc, rfl, hb4, hsf⟩; (have HB4 : Hid (Below wt.heap.size wt w4) := HB.out.trans (hb4.mono HB.out.size)); (have HB45 : Hid (Below w4.heap.size w4 (w4.alloc (.cells #[.string t.kind, .string t.data, .bool t.exec, .slice xa t.kids.length xc] 32))) := (Below.refl _ w4).alloc (Nat.le_refl _) _); (have HSF : Hid (∀ W2, Below w4.heap.size w4 W2 → (Calls Tryz.prog 16 #[(.agg #[.string t.kind, .string t.data, .bool t.exec, .slice xa t.kids.length xc]), (.agg #[.string t.kind, .string t.data, .bool t.exec, .slice ua t.kids.length uc])] W2 fun e w' => e = .returned (.bool true) ∧ Below W2.heap.size W2 w') ∧ Calls Tryz.prog 17 #[(.agg #[.string t.kind, .string t.data, .bool t.exec, .slice xa t.kids.length xc])] W2 fun e w' => ∃ v, e = .returned v ∧ w'.ownsRow W2.heap.size 9 1 v (pathsT 12 t).length ((pathsT 12 t).map Value.string) ∧ Below W2.heap.size W2 w') := hsf); (have hc5 : (w4.alloc (.cells #[.string t.kind, .string t.data, .bool t.exec, .slice xa t.kids.length xc] 32)).cell? ⟨tg, i, none⟩ = some (.int .i64 (k : Int)) := HTC.out _ (HB4.out.trans (HB45.out.mono HB4.out.size))); (have HOO : Hid (OwnI w4 wt.heap.size (.slice la ls.length lc) ls) := HO.out.below hb4); clear HG hb4 hsf HO HB hc1)
              obtain ⟨W5, HW5⟩ : ∃ W5, Hid (W5 = w4.alloc (.cells #[.string t.kind, .string t.data, .bool t.exec, .slice xa t.kids.length xc] 32)) := ⟨_, (rfl : w4.alloc (.cells #[.string t.kind, .string t.data, .bool t.exec, .slice xa t.kids.length xc] 32) = _)⟩
              have hbx : W5.heap[w4.heap.size]? = some (.cells #[.string t.kind, .string t.data, .bool t.exec, .slice xa t.kids.length xc] 32 (0, 0)) := by rw [HW5.out]; exact heap_alloc_last w4 _
              have HOW : Hid (OwnI W5 wt.heap.size (.slice la ls.length lc) ls) := by rw [HW5.out]; exact HOO.out.alloc _
              rw [← HW5.out] at HB45 hc5 ⊢
              obtain ⟨bx, HBXE⟩ : ∃ bx, Hid (bx = w4.heap.size) := ⟨_, (rfl : w4.heap.size = _)⟩
              rw [← HBXE.out] at hbx
              have hslot : (Value.pointer (some ⟨w4.heap.size, 0, none⟩)) = .pointer (some ⟨bx, 0, none⟩) := by rw [HBXE.out]
              rw [hslot]
              have HB5 : Hid (Below wt.heap.size wt W5) := HB4.out.trans (HB45.out.mono HB4.out.size)
              have HS32 : Hid (∀ W, Below W5.heap.size W5 W → (W.cell? ⟨bx, 0, none⟩ = some (.string t.kind) ∧ W.cell? ⟨bx, 1, none⟩ = some (.string t.data) ∧ W.cell? ⟨bx, 2, none⟩ = some (.bool t.exec) ∧ W.cell? ⟨bx, 3, none⟩ = some (.slice xa t.kids.length xc)) ∧ W.cell? ⟨tg, i, none⟩ = some (.int .i64 (k : Int)) ∧ (W.cell? ⟨g, k * 4, none⟩ = some (.string t.kind) ∧ W.cell? ⟨g, k * 4 + 1, none⟩ = some (.string t.data) ∧ W.cell? ⟨g, k * 4 + 2, none⟩ = some (.bool t.exec) ∧ W.cell? ⟨g, k * 4 + 3, none⟩ = some (.slice ua t.kids.length uc))) := fun W h => by
                have hlt := (Array.getElem?_eq_some_iff.1 hbx).1
                have hr := (h.block bx hlt).trans hbx
                have b2 := HB5.out.trans (h.mono HB5.out.size)
                refine ⟨⟨?_, ?_, ?_, ?_⟩, HTC.out _ b2, HWW.out _ b2⟩
                all_goals (rw [cell_of_row _ _ _ _ _ _ hr]; rfl)
              clear hslot hbx HOO HW5 HWW hc5
              refine wp_region_held_drew (S := (fun W => (W.cell? ⟨bx, 0, none⟩ = some (.string t.kind) ∧ W.cell? ⟨bx, 1, none⟩ = some (.string t.data) ∧ W.cell? ⟨bx, 2, none⟩ = some (.bool t.exec) ∧ W.cell? ⟨bx, 3, none⟩ = some (.slice xa t.kids.length xc)) ∧ W.cell? ⟨tg, i, none⟩ = some (.int .i64 (k : Int)) ∧ (W.cell? ⟨g, k * 4, none⟩ = some (.string t.kind) ∧ W.cell? ⟨g, k * 4 + 1, none⟩ = some (.string t.data) ∧ W.cell? ⟨g, k * 4 + 2, none⟩ = some (.bool t.exec) ∧ W.cell? ⟨g, k * 4 + 3, none⟩ = some (.slice ua t.kids.length uc)))) (by kernel_rfl) (HS32.out _ (below_drew W5)) (fun hHeld => ?_)
              refine wpAnyH_take (i := 0) (v := (.agg #[.string t.kind, .string t.data, .bool t.exec, .slice xa t.kids.length xc])) rfl (by kernel_rfl) (by kernel_rfl) (by kernel_rfl) (fun _ _ _ h => h) (Or.inl ⟨by rfl, ?_⟩) hHeld ?_
              · intro w hSw; (try dsimp only at hSw); simp only [List.getElem_toArray, List.getElem_cons_zero]; go_simp
              simp only [List.getElem_toArray, List.getElem_cons_zero, Act.put, List.setIfInBounds_toArray, List.set_cons_zero, List.set_cons_succ]
              refine wpAnyH_take (i := 1) (v := (.slice (some ⟨g, 0, none⟩) pt.length pc)) rfl (by kernel_rfl) (by kernel_rfl) (by kernel_rfl) (fun _ _ _ h => h) (Or.inl ⟨by rfl, ?_⟩) hHeld ?_
              · intro w hSw; (try dsimp only at hSw); simp only [List.getElem_toArray, List.getElem_cons_zero, List.getElem_cons_succ]; go_simp
              simp only [List.getElem_toArray, List.getElem_cons_zero, List.getElem_cons_succ, Act.put, List.setIfInBounds_toArray, List.set_cons_zero, List.set_cons_succ]
              refine wpAnyH_take (i := 2) (v := (.slice (some ⟨tg, 0, none⟩) (allN tr).length tc)) rfl (by kernel_rfl) (by kernel_rfl) (by kernel_rfl) (fun _ _ _ h => h) (Or.inl ⟨by rfl, ?_⟩) hHeld ?_
              · intro w hSw; (try dsimp only at hSw); simp only [List.getElem_toArray, List.getElem_cons_zero, List.getElem_cons_succ]; go_simp
              simp only [List.getElem_toArray, List.getElem_cons_zero, List.getElem_cons_succ, Act.put, List.setIfInBounds_toArray, List.set_cons_zero, List.set_cons_succ]
              refine wpAnyH_take (i := 3) (v := (.int .i64 (i : Int))) rfl (by kernel_rfl) (by kernel_rfl) (by kernel_rfl) (fun _ _ _ h => h) (Or.inl ⟨by rfl, ?_⟩) hHeld ?_
              · intro w hSw; (try dsimp only at hSw); simp only [List.getElem_toArray, List.getElem_cons_zero, List.getElem_cons_succ]; go_simp
              simp only [List.getElem_toArray, List.getElem_cons_zero, List.getElem_cons_succ, Act.put, List.setIfInBounds_toArray, List.set_cons_zero, List.set_cons_succ]
              refine wpAnyH_take (i := 4) (v := (.pointer (some ⟨tg, i, none⟩))) rfl (by kernel_rfl) (by kernel_rfl) (by kernel_rfl) (fun _ _ _ h => h) (Or.inl ⟨by rfl, ?_⟩) hHeld ?_
              · intro w hSw; (try dsimp only at hSw); simp only [List.getElem_toArray, List.getElem_cons_zero, List.getElem_cons_succ]; go_simp
              simp only [List.getElem_toArray, List.getElem_cons_zero, List.getElem_cons_succ, Act.put, List.setIfInBounds_toArray, List.set_cons_zero, List.set_cons_succ]
              refine wpAnyH_take (i := 5) (v := (.int .i64 (k : Int))) rfl (by kernel_rfl) (by kernel_rfl) (by kernel_rfl) (fun _ _ _ h => h) (Or.inl ⟨by rfl, ?_⟩) hHeld ?_
              · intro w hSw; (try dsimp only at hSw); simp only [List.getElem_toArray, List.getElem_cons_zero, List.getElem_cons_succ]; go_simp
              simp only [List.getElem_toArray, List.getElem_cons_zero, List.getElem_cons_succ, Act.put, List.setIfInBounds_toArray, List.set_cons_zero, List.set_cons_succ]
              refine wpAnyH_take (i := 6) (v := (.pointer (some ⟨g, k * 4, none⟩))) rfl (by kernel_rfl) (by kernel_rfl) (by kernel_rfl) (fun _ _ _ h => h) (Or.inl ⟨by rfl, ?_⟩) hHeld ?_
              · intro w hSw; (try dsimp only at hSw); simp only [List.getElem_toArray, List.getElem_cons_zero, List.getElem_cons_succ]; go_simp
              simp only [List.getElem_toArray, List.getElem_cons_zero, List.getElem_cons_succ, Act.put, List.setIfInBounds_toArray, List.set_cons_zero, List.set_cons_succ]
              refine wpAnyH_take (i := 7) (v := (.agg #[.string t.kind, .string t.data, .bool t.exec, .slice ua t.kids.length uc])) rfl (by kernel_rfl) (by kernel_rfl) (by kernel_rfl) (fun _ _ _ h => h) (Or.inl ⟨by rfl, ?_⟩) hHeld ?_
              · intro w hSw; (try dsimp only at hSw); simp only [List.getElem_toArray, List.getElem_cons_zero, List.getElem_cons_succ]; go_simp
              simp only [List.getElem_toArray, List.getElem_cons_zero, List.getElem_cons_succ, Act.put, List.setIfInBounds_toArray, List.set_cons_zero, List.set_cons_succ]
              refine wpAnyH_ready (rs := [8]) (by kernel_rfl) (by simp) ?_
              refine AllReadyH.cons rfl (fun K' hK => ?_) AllReadyH.nil
              simp only [List.getElem_toArray, List.getElem_cons_zero, List.getElem_cons_succ]
              go_simp
              refine Calls.mono ((HSF.out _ (HB45.out.trans ((below_drew W5).mono HB45.out.size))).1) ?_
              rintro e wx ⟨rfl, hb6⟩
              have HB6 : Hid (Below W5.heap.size W5 wx) := (below_drew W5).trans (hb6.mono (below_drew W5).size)
              clear hb6
              go_wp2_with fail
              refine hK.out _ _ (HS32.out _ HB6.out) (fun hHeld' => ?_)
              clear hK K' hHeld
              have hHeld := hHeld'
              clear hHeld'
              refine wpAnyH_take (i := 9) (v := (.bool false)) rfl (by kernel_rfl) (by kernel_rfl) (by kernel_rfl) (fun _ _ _ h => h) (Or.inl ⟨by rfl, ?_⟩) hHeld ?_
              · intro w hSw; (try dsimp only at hSw); simp only [List.getElem_toArray, List.getElem_cons_zero, List.getElem_cons_succ]; go_simp
              simp only [List.getElem_toArray, List.getElem_cons_zero, List.getElem_cons_succ, Act.put, List.setIfInBounds_toArray, List.set_cons_zero, List.set_cons_succ]
              refine wpAnyH_done (by kernel_rfl) ?_ _
              obtain ⟨⟨x0, x1, x2, x3⟩, _⟩ := HS32.out _ HB6.out
              have HB46 : Hid (Below w4.heap.size w4 wx) := HB45.out.trans (HB6.out.mono HB45.out.size)
              have HFI := (HSF.out _ HB46.out).2
              have HBX6 : Hid (Below wt.heap.size wt wx) := HB4.out.trans (HB46.out.mono HB4.out.size)
              have HO6 : Hid (OwnI wx wt.heap.size (.slice la ls.length lc) ls) := HOW.out.below HB6.out
              obtain ⟨P, HP⟩ : ∃ P, Hid (P = pathsT 12 t) := ⟨_, (rfl : pathsT 12 t = _)⟩
              rw [← HP.out] at HFI HI HPL
              have hPL : P.length ≤ 40000 := by
                have h1 := flat_lenN (f := fsI tr) (m := (fsI tr k).length) HK.out
                rw [List.take_length, List.length_append] at h1
                have h2 := HLEN.out
                rw [HPL.out]
                omega
              clear HS32 HSF HB46 HB6 HOW HB5 HB45 HB4 HP
              go_wp2_with (go_at_call 17; refine HFI.mono ?_; rintro e w7 ⟨fv, rfl, hfr, hb7⟩; (obtain ⟨fa, fc, rfl⟩ := rowForm hfr); (have HF7 : Hid (w7.ownsRow wt.heap.size 9 1 (.slice fa P.length fc) P.length (P.map Value.string)) := rowBase hfr HBX6.out.size); (have HO7 : Hid (OwnI w7 wt.heap.size (.slice la ls.length lc) ls) := HO6.out.below hb7); (have HB7 : Hid (Below wt.heap.size wt w7) := HBX6.out.trans (hb7.mono HBX6.out.size)); clear hfr hb7 HFI HO6 HBX6)
              clear x0 x1 x2 x3
              go_loopw [15, 21] (fun lv iv wi => ∃ (i2 : Nat) (la : Option Addr) (lc : Nat) (l2 : List Nat), i2 ≤ P.length ∧ iv = .int .i64 i2 ∧ lv = .slice la l2.length lc ∧ l2 = ls ++ (fsI tr k).take i2 ∧ OwnI wi wt.heap.size (.slice la l2.length lc) l2 ∧ Below wt.heap.size wt wi ∧ wi.ownsRow wt.heap.size 9 1 (.slice fa P.length fc) P.length (P.map Value.string)) (fun _ iv _ => P.length - (intOf iv).toNat)
              case atStart => exact ⟨0, la, lc, ls, Nat.zero_le _, rfl, rfl, by simp, HO7.out, HB7.out, HF7.out⟩
              case round =>
                obtain ⟨i2, la2, lc2, l2, hi2, rfl, rfl, hl2, O2, hb2, hf2⟩ := hrel
                rename World => wi
                have HL2 : Hid (l2 = ls ++ (fsI tr k).take i2) := hl2
                have HO2 : Hid (OwnI wi wt.heap.size (.slice la2 l2.length lc2) l2) := O2
                have HBI : Hid (Below wt.heap.size wt wi) := hb2
                have HF2 : Hid (wi.ownsRow wt.heap.size 9 1 (.slice fa P.length fc) P.length (P.map Value.string)) := hf2
                clear hl2 O2 hb2 hf2 HO7 HB7 HF7
                by_cases hlt2 : i2 < P.length
                · obtain ⟨p, hp⟩ : ∃ p, P[i2]? = some p := ⟨_, List.getElem?_eq_getElem hlt2⟩
                  obtain ⟨q, hq, hin⟩ := HI.out i2 p hp
                  obtain ⟨fg, fcp, ef, hcf⟩ := row_str HF2.out hp
                  simp only [Value.slice.injEq] at ef
                  obtain ⟨rfl, _, rfl⟩ := ef
                  have HQ : Hid ((fsI tr k)[i2]? = some q) := hq
                  have HIN : Hid (∀ W', Below wt.heap.size wt W' → Calls Tryz.prog 18 #[.pointer (some ⟨dp, 0, none⟩), .int .i64 (k : Int), .string p] W' fun e w' => e = .returned (.tuple #[.int .i64 (q : Int), .nilIface]) ∧ Below W'.heap.size W' w') := hin
                  have HS38 : Hid (∀ W, Below wi.heap.size wi W → W.cell? ⟨tg, i, none⟩ = some (.int .i64 (k : Int)) ∧ W.cell? ⟨fg, i2, none⟩ = some (.string p)) := fun W h => ⟨HTC.out _ (HBI.out.trans (h.mono HBI.out.size)), (h.cell (p := ⟨fg, i2, none⟩) (World.block_lt_of_cell? wi _ hcf)).trans hcf⟩
                  clear hq hin hcf hp
                  go_wp2_with fail
                  refine wp_region_held_drew (S := (fun W => W.cell? ⟨tg, i, none⟩ = some (.int .i64 (k : Int)) ∧ W.cell? ⟨fg, i2, none⟩ = some (.string p))) (by kernel_rfl) (HS38.out _ (below_drew wi)) (fun hHeld => ?_)
                  refine wpAnyH_take (i := 0) (v := (.pointer (some ⟨dp, 0, none⟩))) rfl (by kernel_rfl) (by kernel_rfl) (by kernel_rfl) (fun _ _ _ h => h) (Or.inl ⟨by rfl, ?_⟩) hHeld ?_
                  · intro w hSw; (try dsimp only at hSw); simp only [List.getElem_toArray, List.getElem_cons_zero]; go_simp
                  simp only [List.getElem_toArray, List.getElem_cons_zero, Act.put, List.setIfInBounds_toArray, List.set_cons_zero, List.set_cons_succ]
                  refine wpAnyH_take (i := 1) (v := (.slice (some ⟨tg, 0, none⟩) (allN tr).length tc)) rfl (by kernel_rfl) (by kernel_rfl) (by kernel_rfl) (fun _ _ _ h => h) (Or.inl ⟨by rfl, ?_⟩) hHeld ?_
                  · intro w hSw; (try dsimp only at hSw); simp only [List.getElem_toArray, List.getElem_cons_zero, List.getElem_cons_succ]; go_simp
                  simp only [List.getElem_toArray, List.getElem_cons_zero, List.getElem_cons_succ, Act.put, List.setIfInBounds_toArray, List.set_cons_zero, List.set_cons_succ]
                  refine wpAnyH_take (i := 2) (v := (.int .i64 (i : Int))) rfl (by kernel_rfl) (by kernel_rfl) (by kernel_rfl) (fun _ _ _ h => h) (Or.inl ⟨by rfl, ?_⟩) hHeld ?_
                  · intro w hSw; (try dsimp only at hSw); simp only [List.getElem_toArray, List.getElem_cons_zero, List.getElem_cons_succ]; go_simp
                  simp only [List.getElem_toArray, List.getElem_cons_zero, List.getElem_cons_succ, Act.put, List.setIfInBounds_toArray, List.set_cons_zero, List.set_cons_succ]
                  refine wpAnyH_take (i := 3) (v := (.pointer (some ⟨tg, i, none⟩))) rfl (by kernel_rfl) (by kernel_rfl) (by kernel_rfl) (fun _ _ _ h => h) (Or.inl ⟨by rfl, ?_⟩) hHeld ?_
                  · intro w hSw; (try dsimp only at hSw); simp only [List.getElem_toArray, List.getElem_cons_zero, List.getElem_cons_succ]; go_simp
                  simp only [List.getElem_toArray, List.getElem_cons_zero, List.getElem_cons_succ, Act.put, List.setIfInBounds_toArray, List.set_cons_zero, List.set_cons_succ]
                  refine wpAnyH_take (i := 4) (v := (.int .i64 (k : Int))) rfl (by kernel_rfl) (by kernel_rfl) (by kernel_rfl) (fun _ _ _ h => h) (Or.inl ⟨by rfl, ?_⟩) hHeld ?_
                  · intro w hSw; (try dsimp only at hSw); simp only [List.getElem_toArray, List.getElem_cons_zero, List.getElem_cons_succ]; go_simp
                  simp only [List.getElem_toArray, List.getElem_cons_zero, List.getElem_cons_succ, Act.put, List.setIfInBounds_toArray, List.set_cons_zero, List.set_cons_succ]
                  refine wpAnyH_take (i := 5) (v := (.slice (some ⟨fg, 0, none⟩) P.length fc)) rfl (by kernel_rfl) (by kernel_rfl) (by kernel_rfl) (fun _ _ _ h => h) (Or.inl ⟨by rfl, ?_⟩) hHeld ?_
                  · intro w hSw; (try dsimp only at hSw); simp only [List.getElem_toArray, List.getElem_cons_zero, List.getElem_cons_succ]; go_simp
                  simp only [List.getElem_toArray, List.getElem_cons_zero, List.getElem_cons_succ, Act.put, List.setIfInBounds_toArray, List.set_cons_zero, List.set_cons_succ]
                  refine wpAnyH_take (i := 6) (v := (.int .i64 (i2 : Int))) rfl (by kernel_rfl) (by kernel_rfl) (by kernel_rfl) (fun _ _ _ h => h) (Or.inl ⟨by rfl, ?_⟩) hHeld ?_
                  · intro w hSw; (try dsimp only at hSw); simp only [List.getElem_toArray, List.getElem_cons_zero, List.getElem_cons_succ]; go_simp
                  simp only [List.getElem_toArray, List.getElem_cons_zero, List.getElem_cons_succ, Act.put, List.setIfInBounds_toArray, List.set_cons_zero, List.set_cons_succ]
                  refine wpAnyH_take (i := 7) (v := (.pointer (some ⟨fg, i2, none⟩))) rfl (by kernel_rfl) (by kernel_rfl) (by kernel_rfl) (fun _ _ _ h => h) (Or.inl ⟨by rfl, ?_⟩) hHeld ?_
                  · intro w hSw; (try dsimp only at hSw); simp only [List.getElem_toArray, List.getElem_cons_zero, List.getElem_cons_succ]; go_simp
                  simp only [List.getElem_toArray, List.getElem_cons_zero, List.getElem_cons_succ, Act.put, List.setIfInBounds_toArray, List.set_cons_zero, List.set_cons_succ]
                  refine wpAnyH_take (i := 8) (v := (.string p)) rfl (by kernel_rfl) (by kernel_rfl) (by kernel_rfl) (fun _ _ _ h => h) (Or.inl ⟨by rfl, ?_⟩) hHeld ?_
                  · intro w hSw; (try dsimp only at hSw); simp only [List.getElem_toArray, List.getElem_cons_zero, List.getElem_cons_succ]; go_simp
                  simp only [List.getElem_toArray, List.getElem_cons_zero, List.getElem_cons_succ, Act.put, List.setIfInBounds_toArray, List.set_cons_zero, List.set_cons_succ]
                  refine wpAnyH_ready (rs := [9]) (by kernel_rfl) (by simp) ?_
                  refine AllReadyH.cons rfl (fun K' hK => ?_) AllReadyH.nil
                  simp only [List.getElem_toArray, List.getElem_cons_zero, List.getElem_cons_succ]
                  go_simp
                  refine Calls.mono (HIN.out _ (HBI.out.trans ((below_drew wi).mono HBI.out.size))) ?_
                  rintro e wx ⟨rfl, hb8⟩
                  have HB8 : Hid (Below wi.heap.size wi wx) := (below_drew wi).trans (hb8.mono (below_drew wi).size)
                  clear hb8
                  go_wp2_with fail
                  refine hK.out _ _ (HS38.out _ HB8.out) (fun hHeld' => ?_)
                  clear hK K' hHeld
                  have hHeld := hHeld'
                  clear hHeld'
                  refine wpAnyH_take (i := 10) (v := (.tuple #[.int .i64 (q : Int), .nilIface])) rfl (by kernel_rfl) (by kernel_rfl) (by kernel_rfl) (fun _ _ _ h => h) (Or.inl ⟨by rfl, ?_⟩) hHeld ?_
                  · intro w hSw; (try dsimp only at hSw); simp only [List.getElem_toArray, List.getElem_cons_zero, List.getElem_cons_succ]; go_simp
                  simp only [List.getElem_toArray, List.getElem_cons_zero, List.getElem_cons_succ, Act.put, List.setIfInBounds_toArray, List.set_cons_zero, List.set_cons_succ]
                  refine wpAnyH_take (i := 11) (v := (.int .i64 (q : Int))) rfl (by kernel_rfl) (by kernel_rfl) (by kernel_rfl) (fun _ _ _ h => h) (Or.inl ⟨by rfl, ?_⟩) hHeld ?_
                  · intro w hSw; (try dsimp only at hSw); simp only [List.getElem_toArray, List.getElem_cons_zero, List.getElem_cons_succ]; go_simp
                  simp only [List.getElem_toArray, List.getElem_cons_zero, List.getElem_cons_succ, Act.put, List.setIfInBounds_toArray, List.set_cons_zero, List.set_cons_succ]
                  refine wpAnyH_take (i := 12) (v := .nilIface) rfl (by kernel_rfl) (by kernel_rfl) (by kernel_rfl) (fun _ _ _ h => h) (Or.inl ⟨by rfl, ?_⟩) hHeld ?_
                  · intro w hSw; (try dsimp only at hSw); simp only [List.getElem_toArray, List.getElem_cons_zero, List.getElem_cons_succ]; go_simp
                  simp only [List.getElem_toArray, List.getElem_cons_zero, List.getElem_cons_succ, Act.put, List.setIfInBounds_toArray, List.set_cons_zero, List.set_cons_succ]
                  refine wpAnyH_take (i := 13) (v := (.int .i64 (q : Int))) rfl (by kernel_rfl) (by kernel_rfl) (by kernel_rfl) (fun _ _ _ h => h) (Or.inl ⟨by rfl, ?_⟩) hHeld ?_
                  · intro w hSw; (try dsimp only at hSw); simp only [List.getElem_toArray, List.getElem_cons_zero, List.getElem_cons_succ]; go_simp
                  simp only [List.getElem_toArray, List.getElem_cons_zero, List.getElem_cons_succ, Act.put, List.setIfInBounds_toArray, List.set_cons_zero, List.set_cons_succ]
                  refine wpAnyH_take (i := 14) (v := .nilIface) rfl (by kernel_rfl) (by kernel_rfl) (by kernel_rfl) (fun _ _ _ h => h) (Or.inl ⟨by rfl, ?_⟩) hHeld ?_
                  · intro w hSw; (try dsimp only at hSw); simp only [List.getElem_toArray, List.getElem_cons_zero, List.getElem_cons_succ]; go_simp
                  simp only [List.getElem_toArray, List.getElem_cons_zero, List.getElem_cons_succ, Act.put, List.setIfInBounds_toArray, List.set_cons_zero, List.set_cons_succ]
                  refine wpAnyH_done (by kernel_rfl) ?_ _
                  have hl2 : l2.length ≤ 40000 := by
                    have h1 := flat_lenN (f := fsI tr) (m := i2) HK.out
                    rw [← HLS.out, ← HL2.out] at h1
                    have := HLEN.out
                    omega
                  have HB9 : Hid (Below wt.heap.size wt wx) := HBI.out.trans (HB8.out.mono HBI.out.size)
                  have HWT : Hid (wt.heap.size ≤ wx.heap.size) := HB9.out.size
                  have HO9 : Hid (OwnI (wx.alloc (.cells #[.int .i64 (q : Int)] 3)) wt.heap.size (.slice la2 l2.length lc2) l2) := (HO2.out.below HB8.out).alloc _
                  have HF9 : Hid ((wx.alloc (.cells #[.int .i64 (q : Int)] 3)).ownsRow wt.heap.size 9 1 (.slice (some ⟨fg, 0, none⟩) P.length fc) P.length (P.map Value.string)) := World.ownsRow.alloc (ownsRow_below HF2.out HB8.out) _
                  go_wp2_with (at_builtin; refine wpList_append_own_at _ (by rfl) (.tmp 166) (.tmp 168) 44 (by rfl) wt.heap.size 3 j0 _ 1 8 Tryz.underlying44 hj0 hy0 hy1 hy2 rfl (by omega) (.slice la2 l2.length lc2) l2.length ((ints l2).map (Value.int .i64)) (by rfl) HO9.out ⟨wx.heap.size, 0, none⟩ 1 1 [.int .i64 (q : Int)] (by rfl) (by rfl) (World.news_of_block (cs := #[.int .i64 (q : Int)]) (t := 3) (fr := (0, 0)) (heap_alloc_last wx _)) (by simp [Value.oneCell']) (by unfold maxLen; omega) (by omega) (by have := HWT.out; simp; omega) ?_; intro v1 w6 hown6 hg6 _ hloc6; (obtain ⟨d1, e1, rfl⟩ := rowForm hown6); (have HO6 : Hid (OwnI w6 wt.heap.size (.slice d1 (l2.length + 1) e1) (l2 ++ [q])) := (by show w6.ownsRow _ _ _ _ _ _; rw [List.length_append, List.length_singleton]; unfold ints; rw [List.map_append, List.map_append]; exact hown6)); (have HB6 : Hid (Below wt.heap.size wt w6) := below_grow (HB9.out.trans (((Below.refl _ wx).alloc (Nat.le_refl _) _).mono HWT.out)) (Nat.le_refl _) HO9.out (Nat.le_refl _) hg6); (have HF6 : Hid (w6.ownsRow wt.heap.size 9 1 (.slice (some ⟨fg, 0, none⟩) P.length fc) P.length (P.map Value.string)) := row_apart HO9.out HF9.out (by decide) hg6); clear hown6 hg6 hloc6 HO9 HF9)
                  refine ⟨⟨i2 + 1, d1, e1, l2 ++ [q], by omega, by simp, by simp, by rw [take_next HQ.out, HL2.out, List.append_assoc], by rw [List.length_append, List.length_singleton]; exact HO6.out, HB6.out, HF6.out⟩, by simp [intOf]; omega⟩
                · obtain rfl : i2 = P.length := by omega
                  go_wp2_with fail
                  refine ⟨⟨i + 1, la2, lc2, l2, by omega, by simp, rfl, ?_, HO2.out, HBI.out⟩, by simp [intOf]; omega⟩
                  rw [HL2.out, flat_takeN HK.out, ← HLS.out, List.take_of_length_le (by rw [HPL.out]; exact Nat.le_refl _)]
            · obtain rfl : i = (allN tr).length := by omega
              clear HTREE HOT
              have HSL : Hid (DSt w N 11 dp tb bb sp sb cap mb m1 m2 l.length s tr pt wl) := HS.out.below (HBT.out.trans (HB.out.mono HBT.out.size))
              have HALL : Calls Tryz.prog 19 #[.pointer (some ⟨tb, 0, none⟩)] wl fun e w' => ∃ aa ac, e = .returned (.slice aa (allT s.tab).length ac) ∧ OwnI w' wl.heap.size (.slice aa (allT s.tab).length ac) (allT s.tab) ∧ Below wl.heap.size wl w' := by
                obtain ⟨n, _, T⟩ := HSL.out.T
                refine (im_all wl T).mono fun e w' ⟨v, he, hO, hb⟩ => ?_
                obtain ⟨ta, tc, rfl⟩ := hO.form
                exact ⟨ta, tc, he, hO, hb⟩
              have hAT : (allT s.tab).length ≤ 100000 := by
                obtain ⟨n, hn, T⟩ := HSL.out.T
                have h1 := T.low.2.2.2.2.2.2
                have h2 := T.low.2.2.2.2.2.1
                have : (allT s.tab).length ≤ s.tab.length := by unfold allT; exact Nat.le_trans (List.length_filter_le _ _) (by rw [List.length_range]; exact Nat.le_refl _)
                omega
              have hLL : ls.length ≤ 40000 := by rw [HLS.out, List.take_length]; exact HLEN.out
              have HLK : Hid (∀ q y, slotT s.tab q = some y → y.links = ls.count q ∧ 1 ≤ y.links) := fun q y hy => by
                rw [HLS.out, List.take_length]
                exact HSL.out.I.links hy
              clear HS HBT HLEN HLS
              go_wp2_with (go_at_call 19; refine HALL.mono ?_; rintro e wa ⟨aa, ac, rfl, hO, hb⟩; (have HOA : Hid (OwnI wa wl.heap.size (.slice aa (allT s.tab).length ac) (allT s.tab)) := hO); (have HOL : Hid (OwnI wa wt.heap.size (.slice la ls.length lc) ls) := HO.out.below hb); (have HSA : Hid (DSt w N 11 dp tb bb sp sb cap mb m1 m2 l.length s tr pt wa) := HSL.out.below hb); clear hO hb HALL HO HSL HB)
              go_loopw [25] (fun iv wq => ∃ i : Nat, i ≤ (allT s.tab).length ∧ iv = .int .i64 i ∧ Below wa.heap.size wa wq) (fun iv _ => (allT s.tab).length - (intOf iv).toNat)
              case atStart => exact ⟨0, Nat.zero_le _, rfl, Below.refl _ _⟩
              case round =>
                obtain ⟨i, hi, rfl, hb⟩ := hrel
                rename World => wq
                have HBQ : Hid (Below wa.heap.size wa wq) := hb
                clear hb
                by_cases hlt : i < (allT s.tab).length
                · obtain ⟨q, hq⟩ : ∃ q, (allT s.tab)[i]? = some q := ⟨_, List.getElem?_eq_getElem hlt⟩
                  obtain ⟨y, hy⟩ := allT_mem.1 (List.mem_of_getElem? hq)
                  obtain ⟨ag, acp, ea, _, hag, hca⟩ := HOA.out.at hq
                  simp only [Value.slice.injEq] at ea
                  obtain ⟨rfl, _, rfl⟩ := ea
                  obtain ⟨hcnt, hpos⟩ := HLK.out q y hy
                  have HCA : Hid (∀ W, Below wa.heap.size wa W → W.cell? ⟨ag, i, none⟩ = some (.int .i64 (q : Int))) := fun W h => (h.cell (p := ⟨ag, i, none⟩) hag).trans hca
                  have HST : Calls Tryz.prog 20 #[.pointer (some ⟨tb, 0, none⟩), .int .i64 (q : Int)] wq fun e w' => ∃ ba bn bc, e = .returned (.tuple #[.agg #[.int .i64 (y.bytes : Int), .int .i64 ((ls.count q : Nat) : Int), .bool y.exec, .slice ba bn bc, .int .u32 (y.sum : Int)], .bool true]) ∧ Below wq.heap.size wq w' := by
                    refine (ds_stat (HSA.out.below HBQ.out) hy).mono ?_
                    rintro e w' ⟨v, he, ⟨ba, bc, rfl, _⟩, hb⟩
                    rw [hcnt] at he
                    exact ⟨ba, _, bc, he, hb⟩
                  have hpos' : ¬ ((ls.count q : Nat) : Int) = 0 := by omega
                  have hc1 : wq.cell? ⟨ag, i, none⟩ = some (.int .i64 (q : Int)) := HCA.out wq HBQ.out
                  clear hy hq hca hag hcnt hpos
                  go_wp2_with (go_at_call 20; refine HST.mono ?_; rintro e w4 ⟨ba, bn, bc, rfl, hb4⟩; (have HB4 : Hid (Below wa.heap.size wa w4) := HBQ.out.trans (hb4.mono HBQ.out.size)); clear HST hb4 HBQ hc1)
                  obtain ⟨W5, HW5⟩ : ∃ W5, Hid (W5 = w4.alloc (.cells #[.int .i64 (y.bytes : Int), .int .i64 ((ls.count q : Nat) : Int), .bool y.exec, .slice ba bn bc, .int .u32 (y.sum : Int)] 54)) := ⟨_, (rfl : w4.alloc (.cells #[.int .i64 (y.bytes : Int), .int .i64 ((ls.count q : Nat) : Int), .bool y.exec, .slice ba bn bc, .int .u32 (y.sum : Int)] 54) = _)⟩
                  have HBX : Hid (W5.cell? ⟨w4.heap.size, 1, none⟩ = some (.int .i64 ((ls.count q : Nat) : Int)) ∧ w4.heap.size < W5.heap.size) := by
                    rw [HW5.out]
                    exact ⟨by rw [cell_of_row _ _ _ _ _ _ (heap_alloc_last w4 _)]; rfl, by simp⟩
                  have HB5 : Hid (Below wa.heap.size wa W5) := by rw [HW5.out]; exact HB4.out.trans (((Below.refl _ w4).alloc (Nat.le_refl _) _).mono HB4.out.size)
                  rw [← HW5.out]
                  clear HW5 HB4
                  go_loopw [28, 29] (fun nv kv wz => ∃ (k cn : Nat), k ≤ ls.length ∧ kv = .int .i64 k ∧ nv = .int .i64 (cn : Int) ∧ cn = (ls.take k).count q ∧ Below W5.heap.size W5 wz) (fun _ kv _ => ls.length - (intOf kv).toNat)
                  case atStart => exact ⟨0, 0, Nat.zero_le _, rfl, rfl, by simp, Below.refl _ _⟩
                  case round =>
                    obtain ⟨k, cn, hk, rfl, rfl, hcn, hbz⟩ := hrel
                    rename World => wz
                    have HCN : Hid (cn = (ls.take k).count q) := hcn
                    have HBZ : Hid (Below W5.heap.size W5 wz) := hbz
                    have hcl : cn ≤ 40000 := by
                      rw [hcn]
                      exact Nat.le_trans List.count_le_length (by rw [List.length_take]; omega)
                    clear hcn hbz
                    have HBW : Hid (Below wa.heap.size wa wz) := HB5.out.trans (HBZ.out.mono HB5.out.size)
                    by_cases hlk : k < ls.length
                    · obtain ⟨z, hz⟩ : ∃ z, ls[k]? = some z := ⟨_, List.getElem?_eq_getElem hlk⟩
                      obtain ⟨lg, lcp, el, _, hlg, hcl2⟩ := HOL.out.at hz
                      simp only [Value.slice.injEq] at el
                      obtain ⟨rfl, _, rfl⟩ := el
                      have hc2 : wz.cell? ⟨lg, k, none⟩ = some (.int .i64 (z : Int)) := (HBW.out.cell (p := ⟨lg, k, none⟩) hlg).trans hcl2
                      have hc3 : wz.cell? ⟨ag, i, none⟩ = some (.int .i64 (q : Int)) := HCA.out _ HBW.out
                      have HN := count_next (q := q) hz
                      have HNN : Hid ((ls.take (k + 1)).count q = (ls.take k).count q + (if z = q then 1 else 0)) := HN
                      clear HN hz hcl2 hlg
                      by_cases hzq : z = q
                      · have hzi : ((z : Int) == (q : Int)) = true := by rw [hzq]; simp
                        have HC1 : Hid (cn + 1 = (ls.take (k + 1)).count q) := by show _ = _; rw [HNN.out, if_pos hzq, HCN.out]
                        clear hzq HNN HCN
                        go_wp2_with fail
                        go_quiet (fail)
                        go_wp2_with fail
                        exact ⟨⟨k + 1, cn + 1, by omega, by simp, by simp, HC1.out, HBZ.out.trans ((below_drewN1 wz _).mono HBZ.out.size)⟩, by simp [intOf]; omega⟩
                      · have hzi : ((z : Int) == (q : Int)) = false := by simpa using (show ¬ (z : Int) = (q : Int) by omega)
                        have HC1 : Hid (cn = (ls.take (k + 1)).count q) := by show _ = _; rw [HNN.out, if_neg hzq, HCN.out]; rfl
                        clear hzq HNN HCN
                        go_wp2_with fail
                        go_quiet (fail)
                        go_wp2_with fail
                        exact ⟨⟨k + 1, cn, by omega, by simp, rfl, HC1.out, HBZ.out.trans ((below_drewN1 wz _).mono HBZ.out.size)⟩, by simp [intOf]; omega⟩
                    · obtain rfl : k = ls.length := by omega
                      rw [List.take_length] at HCN
                      have hb1 : wz.cell? ⟨w4.heap.size, 1, none⟩ = some (.int .i64 ((ls.count q : Nat) : Int)) := (HBZ.out.cell (p := ⟨w4.heap.size, 1, none⟩) HBX.out.2).trans HBX.out.1
                      rw [← HCN.out] at hb1 hpos'
                      clear HCN
                      go_wp2_with fail
                      exact ⟨⟨i + 1, by omega, by simp, HBW.out⟩, by simp [intOf]; omega⟩
                · obtain rfl : i = (allT s.tab).length := by omega
                  have HEND : Hid (Below w.heap.size w wq) := HSA.out.low.trans (HBQ.out.mono HSA.out.low.size)
                  go_wp2_with fail
                  go_ret
                  exact ⟨rfl, HEND.out⟩
    · go_ret
      exact ⟨rfl, HB2.out⟩
  · go_enter Tryz.func3, Tryz.ntmps3
    by_cases hM1 : M < 1
    · go_wp2_with (go_at_call 6; refine HDR.out.mono ?_; rintro e w1 ⟨rfl, hb1⟩; clear HDR)
      go_ret
      exact ⟨rfl, hb1⟩
    · have hM2 : (60 : Int) < M := by omega
      go_wp2_with (go_at_call 6; refine HDR.out.mono ?_; rintro e w1 ⟨rfl, hb1⟩; clear HDR)
      go_ret
      exact ⟨rfl, hb1⟩
end Go.Proofs.YteefneelcgeioaaGreatDoor
