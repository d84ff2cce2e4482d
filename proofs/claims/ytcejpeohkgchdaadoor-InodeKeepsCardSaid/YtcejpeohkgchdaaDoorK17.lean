/-
  The walk of the law InodeKeeps.
  Conditions: those that each states.
-/
import Derived.Test.YtcejpeohkgchdaaDoorK16
import Derived.Deep.RegionHeld3
namespace Go.Proofs.YtcejpeohkgchdaaDoor
open Go.RowKit

theorem blocksTo_le (tab : List (Option Ino)) {a b : Nat} (h : a ≤ b) : (blocksTo tab a).length ≤ (blocksTo tab b).length := by
  induction b with
  | zero => obtain rfl : a = 0 := by omega
            exact Nat.le_refl _
  | succ b ih =>
    by_cases e : a = b + 1
    · subst e; exact Nat.le_refl _
    · have h1 := ih (by omega)
      cases hs : slotT tab b with
      | none => rw [blocksTo_none hs]; exact h1
      | some x => rw [blocksTo_some hs, List.length_append]; omega
theorem ownForm {w : World} {base : Nat} {e : TypeId} {v : Value} {n : Nat} {xs : List Value} (h : w.ownsRow base e 1 v n xs) : ∃ a c, v = .slice a n c := by
  rcases h.2 with ⟨h0, h1⟩ | ⟨g, c, cur, h0, _⟩
  · exact ⟨none, 0, by rw [h0, h1]⟩
  · exact ⟨_, _, h0⟩
def lenV : Value → Nat
  | .slice _ n _ => n
  | _ => 0
/-- The lists, made long enough for a number. -/
def longE {α : Type} (l : List α) (k : Nat) (z : α) (ap : Bool) (l' : List α) : Prop := (ap = false ∧ l' = l) ∨ (ap = true ∧ k = l.length ∧ l' = l ++ [z])
theorem longE_set {α : Type} {l l' : List α} {k : Nat} {z : α} {ap : Bool} (h : longE l k z ap l') (hk : k < l'.length) (x : α) : l'.set k x = putL l k x := by
  rcases h with ⟨_, rfl⟩ | ⟨_, rfl, rfl⟩
  · unfold putL; rw [if_pos hk]
  · unfold putL; rw [if_neg (by omega)]; simp
theorem longE_at {l' li : List Nat} {k : Nat} {ap : Bool} (h : longE li k 0 ap l') (hk : k < l'.length) (h0 : k < li.length → li[k]? = some 0) : l'[k]? = some 0 := by
  rcases h with ⟨_, rfl⟩ | ⟨_, rfl, rfl⟩
  · exact h0 hk
  · simp

set_option maxRecDepth 100000 in
set_option maxHeartbeats 1500000 in
theorem keeps_any (M : Int) (v : Value) (l : List FAct) (w : World) (hv : FActsAt w v l) (E : ErsAt w w.heap.size) :
    Calls Tryd.prog 3 #[.int .i64 M, v] w fun e w' => e = .returned (.bool true) ∧ Below w.heap.size w w' := by
  obtain ⟨pb, hpb⟩ := E.b
  obtain ⟨ps, hps⟩ := E.s
  have HMD := made_any _ _ w hpb hps
  have HLF : Hid (∀ W, Below w.heap.size w W → Calls Tryd.prog 5 #[v] W fun e w' => (∃ r, e = .returned (.bool r) ∧ (r = false → Shorts l)) ∧ w' = W) := fun W hW => longFiles_any v l W (hv.below hW)
  obtain ⟨ad, vcap, rfl, hcs⟩ := id hv
  have HV : Hid (∀ (i : Nat) (a : FAct), l[i]? = some a → (Lit.int .i64 a.n).wf = true ∧ ∃ b off, ad = some ⟨b, off, none⟩ ∧ ∀ W, Below w.heap.size w W → (W.cell? ⟨b, off + i * 5, none⟩ = some (.string a.kind) ∧ W.cell? ⟨b, off + i * 5 + 1, none⟩ = some (.string a.s) ∧ W.cell? ⟨b, off + i * 5 + 2, none⟩ = some (.bool a.exec) ∧ W.cell? ⟨b, off + i * 5 + 3, none⟩ = some (.int .i64 a.n) ∧ W.cell? ⟨b, off + i * 5 + 4, none⟩ = some (.int .i64 a.bit)) ∧ b < w.heap.size) := fun i a ha => by
    obtain ⟨h1, _, _, b, off, e, c0, c1, c2, c3, c4⟩ := hcs i a ha
    have hlt : b < w.heap.size := World.block_lt_of_cell? w _ c0
    refine ⟨h1, b, off, e, fun W hW => ⟨⟨?_, ?_, ?_, ?_, ?_⟩, hlt⟩⟩
    · rw [hW.cell (p := ⟨b, off + i * 5, none⟩) hlt]; exact c0
    · rw [hW.cell (p := ⟨b, off + i * 5 + 1, none⟩) hlt]; exact c1
    · rw [hW.cell (p := ⟨b, off + i * 5 + 2, none⟩) hlt]; exact c2
    · rw [hW.cell (p := ⟨b, off + i * 5 + 3, none⟩) hlt]; exact c3
    · rw [hW.cell (p := ⟨b, off + i * 5 + 4, none⟩) hlt]; exact c4
  have HE : Hid (ErsAt w w.heap.size) := E
  clear hv hcs E hpb hps
  by_cases hM : 1 ≤ M ∧ M ≤ 40
  · obtain ⟨N, rfl⟩ : ∃ N : Nat, M = (N : Int) := ⟨M.toNat, by omega⟩
    have hN1 : 1 ≤ N := by omega
    have hN2 : N ≤ 40 := by omega
    have hi1 : ¬ (N : Int) < 1 := by omega
    have hi2 : ¬ (40 : Int) < (N : Int) := by omega
    obtain ⟨T0, HT0⟩ : ∃ T0, Hid (T0 = w.heap.size) := ⟨_, (rfl : w.heap.size = _)⟩
    have HTO : Hid (∀ W, Below w.heap.size w W → Calls Tryd.prog 6 #[.int .i64 (N : Int)] W fun e w' => ∃ tb bb sp sb cap mb mt, e = .returned (.tuple #[.pointer (some ⟨tb, 0, none⟩), .pointer (some ⟨mt, 0, none⟩), .bool true]) ∧ LAt w T0 tb bb sp sb cap mb 0 (List.replicate N zb) (List.replicate N false) [] [] [] (.slice none 0 0) (.slice none 0 0) w') := fun W hW =>
      (tableOf_any (fun g => (Value.slice none 0 0).ownBlock = some g) T0 N hN1 (by omega) W (by rw [HT0.out]; exact hW.size)).mono fun e w' ⟨tb, bb, sp, sb, cap, mb, md, mt, he, T, _, hb⟩ =>
        ⟨tb, bb, sp, sb, cap, mb, mt, he, T, World.ownsRow_nil _ _ _ _, World.ownsRow_nil _ _ _ _, by rw [HT0.out]; exact hW.trans (hb.mono hW.size), by rw [HT0.out]; exact Nat.le_refl _⟩
    have HEE : Hid (ErsAt w T0) := by rw [HT0.out]; exact HE.out
    clear hM HE
    go_enter Tryd.func3, Tryd.ntmps3
    go_wp2_with (first
      | (go_at_call 4; refine HMD.mono ?_; rintro e w1 ⟨rfl, hb1⟩; clear HMD)
      | (go_at_call 5; refine (HLF.out _ hb1).mono ?_; rintro e w2 ⟨⟨r, rfl, hr⟩, hw⟩; rw [hw]; clear hw; (have HR : Hid _ := hr); clear hr; cases r))
    · obtain ⟨hl40, hsh⟩ := HR.out (by first | rfl | trivial)
      have HSH : Hid (∀ a ∈ l, a.s.size ≤ 120 ∨ a.s.size = 2001) := hsh
      refine Calls.mono (HTO.out _ hb1) ?_
      rintro e w3 ⟨tb, bb, sp, sb, cap, mb, mt, rfl, L0⟩
      have HL0 : Hid _ := L0
      clear L0 hsh HTO HLF hb1 HR
      go_wp2_with fail
      clear hi1 hi2
      generalize decide ((N : Int) < 1) = z1
      generalize decide ((40 : Int) < (N : Int)) = z2
      go_loopw [9, 10, 11] (fun dv lv i wr => ∃ (j n m : Nat) (bl : List (List UInt8)) (u : List Bool) (tab : List (Option Ino)) (da : List ByteArray) (li : List Nat) (dA lA : Option Addr) (dC lC : Nat), j ≤ l.length ∧ i = .int .i64 j ∧ dv = .slice dA m dC ∧ lv = .slice lA m lC ∧ da.length = m ∧ li.length = m ∧ n ≤ j ∧ m ≤ j ∧ (∀ x ∈ li, x ≤ j) ∧ KInv N bl u tab da li ∧ LAt w T0 tb bb sp sb cap mb n bl u tab da li (.slice dA m dC) (.slice lA m lC) wr) (fun _ _ i _ => l.length - (intOf i).toNat)
      case atStart => exact ⟨0, 0, 0, _, _, _, [], [], none, none, 0, 0, Nat.zero_le _, rfl, rfl, rfl, rfl, rfl, Nat.le_refl _, Nat.le_refl _, fun x hx => (by cases hx), KInv.start N, HL0.out⟩
      case round =>
        obtain ⟨j, n, m, bl, u, tab, da, li, dA, lA, dC, lC, hj, rfl, rfl, rfl, hda, hli, hnj, hmj, hle, K, L⟩ := hrel
        have HK : Hid _ := K
        have HL : Hid _ := L
        have Hda : Hid (da.length = m) := hda
        have Hli : Hid (li.length = m) := hli
        have HLE : Hid (∀ x ∈ li, x ≤ j) := hle
        have HTm : Hid (tab.length = m) := by show _ = _; rw [← K.lda]; exact hda
        clear hda hli hle K
        by_cases hlt : j < l.length
        · as_aux_lemma =>
            obtain ⟨a, ha⟩ : ∃ a, l[j]? = some a := ⟨_, List.getElem?_eq_getElem hlt⟩
            obtain ⟨hwf, b, off, rfl, hcell⟩ := HV.out j a ha
            obtain ⟨⟨c0, c1, c2, c3, c4⟩, hbw⟩ := hcell wr (by rw [← HT0.out]; exact L.b)
            have hsz : a.s.size ≤ 2001 := by rcases HSH.out a (List.mem_of_getElem? ha) with h | h <;> omega
            have hbr : b < wr.heap.size := Nat.lt_of_lt_of_le hbw (by rw [← HT0.out]; exact L.size)
            have LA := L.below (W' := wr.alloc (.cells #[.string a.kind, .string a.s, .bool a.exec, .int .i64 a.n, .int .i64 a.bit] 32)) ((Below.refl _ wr).alloc (Nat.le_refl _) _)
            have HLA : Hid _ := LA
            have HBX : Hid ((wr.alloc (.cells #[.string a.kind, .string a.s, .bool a.exec, .int .i64 a.n, .int .i64 a.bit] 32)).heap[wr.heap.size]? = some (.cells #[.string a.kind, .string a.s, .bool a.exec, .int .i64 a.n, .int .i64 a.bit] 32 (0, 0))) := heap_alloc_last wr _
            have Hwf : Hid ((Lit.int .i64 a.n).wf = true) := hwf
            clear hcell ha L LA hwf hbw
            cases kw : (a.kind.toList == [109, 97, 107, 101]) with
            | true =>
              have HMK := j_make a.s a.exec (by omega) (by omega) HLA.out HK.out HEE.out
              go_wp2_with (go_at_call 7; refine HMK.mono ?_; rintro e w4 (⟨p, rfl, L4, B4⟩ | ⟨bl', u', tab', rfl, L4, K4, B4⟩))
              · exact ⟨⟨j + 1, n, m, bl, u, tab, da, li, _, _, _, _, by omega, by simp, rfl, rfl, Hda.out, Hli.out, by omega, by omega, fun x hx => Nat.le_succ_of_le (HLE.out x hx), HK.out, L4⟩, by simp [intOf]; omega⟩
              · have HK4 : Hid _ := K4
                have HL4 : Hid _ := L4
                have HBX4 : Hid (w4.heap[wr.heap.size]? = some (.cells #[.string a.kind, .string a.s, .bool a.exec, .int .i64 a.n, .int .i64 a.bit] 32 (0, 0))) := B4.block _ _ HBX.out (.inr rfl)
                have hkm : nextR tab ≤ m := by rw [← HTm.out]; exact nextR_le tab
                have H00 : Hid (nextR tab < li.length → li[nextR tab]? = some 0) := fun h => HK.out.no _ (by rw [HTm.out, ← Hli.out]; exact h) (next_none tab)
                clear K4 L4 B4 HMK HBX HLA
                generalize nextR tab = kx at *
                obtain ⟨i0, hi0, hz0, hz1, hz2⟩ := info_parts infoSt
                obtain ⟨j0, hj0, hy0, hy1, hy2⟩ := info_parts infoIn
                obtain ⟨bx, Hbx⟩ : ∃ bx, Hid (bx = wr.heap.size) := ⟨_, (rfl : wr.heap.size = _)⟩
                rw [← Hbx.out] at HBX4
                go_loopw [9, 10] (fun dv lv wi => ∃ (ap : Bool) (m' : Nat) (da' : List ByteArray) (li' : List Nat) (dA lA : Option Addr) (dC lC : Nat), dv = .slice dA m' dC ∧ lv = .slice lA m' lC ∧ da'.length = m' ∧ li'.length = m' ∧ longE da kx { data := #[] } ap da' ∧ longE li kx 0 ap li' ∧ LAt w T0 tb bb sp sb cap mb (n + 1) bl' u' tab' da' li' (.slice dA m' dC) (.slice lA m' lC) wi ∧ wi.heap[bx]? = some (.cells #[.string a.kind, .string a.s, .bool a.exec, .int .i64 a.n, .int .i64 a.bit] 32 (0, 0))) (fun d _ _ => kx + 1 - lenV d)
                case atStart => exact ⟨false, m, da, li, dA, lA, dC, lC, rfl, rfl, Hda.out, Hli.out, .inl ⟨rfl, rfl⟩, .inl ⟨rfl, rfl⟩, HL4.out, HBX4.out⟩
                case round =>
                  obtain ⟨ap, m', da', li', dA', lA', dC', lC', rfl, rfl, hda', hli', hx1, hx2, LI, hbx⟩ := hrel
                  rename World => wi
                  have HLI : Hid _ := LI
                  have Hda' : Hid (da'.length = m') := hda'
                  have Hli' : Hid (li'.length = m') := hli'
                  have HX1 : Hid _ := hx1
                  have HX2 : Hid _ := hx2
                  have HBXI : Hid _ := hbx
                  clear LI hda' hli' hx1 hx2 hbx
                  by_cases hmk : m' ≤ kx
                  · have Hap : Hid (ap = false ∧ da' = da ∧ li' = li ∧ m' = m ∧ kx = m) := by
                      have h1 := Hda'.out
                      have h2 := Hda.out
                      rcases HX1.out with ⟨e1, e2⟩ | ⟨e1, e2, e3⟩
                      · rcases HX2.out with ⟨e3, e4⟩ | ⟨e3, _⟩
                        · exact ⟨e1, e2, e4, by rw [← h1, e2, h2], by rw [e2, h2] at h1; omega⟩
                        · rw [e1] at e3; cases e3
                      · rw [e3, List.length_append, List.length_singleton] at h1
                        omega
                    have hm40 : m' ≤ 100 := by omega
                    have hT0w : T0 ≤ wi.heap.size := HLI.out.size
                    have HOW1 : Hid ((wi.alloc (.cells #[.string { data := #[] }] 9)).ownsRow T0 9 1 (.slice dA' m' dC') m' (da'.map Value.string)) := by
                      have h := HLI.out.d
                      rw [Hda'.out] at h
                      exact World.ownsRow.alloc h _
                    go_wp2_with (first
                      | (at_builtin; refine wpList_append_own_at _ (by rfl) (.tmp 79) (.tmp 80) 29 (by rfl) T0 9 i0 _ 1 16 Tryd.underlying29 hi0 hz0 hz1 hz2 rfl (by omega) (.slice dA' m' dC') m' (da'.map Value.string) (by rfl) HOW1.out ⟨wi.heap.size, 0, none⟩ 1 1 [.string { data := #[] }] (by rfl) (by rfl) (World.news_of_block (cs := #[.string { data := #[] }]) (t := 9) (fr := (0, 0)) (heap_alloc_last wi _)) (by simp [Value.oneCell']) (by unfold maxLen; omega) (by omega) (by simp; omega) ?_; intro v1 w5 hown5 hg5 _ hloc5; (obtain ⟨d1, e1, rfl⟩ := ownForm hown5); (have HL5 : Hid (LAt w T0 tb bb sp sb cap mb (n + 1) bl' u' tab' (da' ++ [{ data := #[] }]) li' (.slice d1 (m' + 1) e1) (.slice lA' m' lC') w5) := (HLI.out.below ((Below.refl _ wi).alloc (Nat.le_refl _) _)).data (by rw [List.length_append, Hda'.out, List.map_append]; exact hown5) hg5); (have HOW2 : Hid ((w5.alloc (.cells #[.int .i64 0] 3)).ownsRow T0 3 1 (.slice lA' m' lC') m' (li'.map liV)) := (by have h := HL5.out.l; rw [Hli'.out] at h; exact World.ownsRow.alloc h _)); (have hT05 : T0 ≤ w5.heap.size := HL5.out.size); (have HG5 : Hid _ := hg5); clear HOW1 hown5 hg5 hloc5)
                      | (at_builtin; refine wpList_append_own_at _ (by rfl) (.tmp 82) (.tmp 83) 30 (by rfl) T0 3 j0 _ 1 8 Tryd.underlying30 hj0 hy0 hy1 hy2 rfl (by omega) (.slice lA' m' lC') m' (li'.map liV) (by rfl) HOW2.out ⟨w5.heap.size, 0, none⟩ 1 1 [.int .i64 0] (by rfl) (by rfl) (World.news_of_block (cs := #[.int .i64 0]) (t := 3) (fr := (0, 0)) (heap_alloc_last w5 _)) (by simp [Value.oneCell']) (by unfold maxLen; omega) (by omega) (by simp; omega) ?_; intro v2 w6 hown6 hg6 _ hloc6; (obtain ⟨d2, e2, rfl⟩ := ownForm hown6); clear HOW2))
                    have HL6 : LAt w T0 tb bb sp sb cap mb (n + 1) bl' u' tab' (da' ++ [{ data := #[] }]) (li' ++ [0]) (.slice d1 (m' + 1) e1) (.slice d2 (m' + 1) e2) w6 := (HL5.out.below ((Below.refl _ w5).alloc (Nat.le_refl _) _)).links (by rw [List.length_append, Hli'.out, List.map_append]; exact hown6) hg6 hloc6
                    have hbx6 : w6.heap[bx]? = some (.cells #[.string a.kind, .string a.s, .bool a.exec, .int .i64 a.n, .int .i64 a.bit] 32 (0, 0)) := by
                      have hb0 := HBXI.out
                      have hl0 := (Array.getElem?_eq_some_iff.1 hb0).1
                      have hb5 : w5.heap[bx]? = some (.cells #[.string a.kind, .string a.s, .bool a.exec, .int .i64 a.n, .int .i64 a.bit] 32 (0, 0)) := by
                        rw [HG5.out.block bx (by simp; omega) (fun e => ?_), Below.heap_alloc _ _ _ hl0]
                        · exact hb0
                        · obtain ⟨cur, hc⟩ := rowTy HLI.out.d e.symm
                          rw [hc] at hb0
                          simp only [Option.some.injEq, Obj.cells.injEq] at hb0
                          exact absurd hb0.2.1 (by decide)
                      have hl5 := (Array.getElem?_eq_some_iff.1 hb5).1
                      rw [hg6.block bx (by simp; omega) (fun e => ?_), Below.heap_alloc _ _ _ hl5]
                      · exact hb5
                      · obtain ⟨cur, hc⟩ := rowTy HL5.out.l e.symm
                        rw [hc] at hb5
                        simp only [Option.some.injEq, Obj.cells.injEq] at hb5
                        exact absurd hb5.2.1 (by decide)
                    obtain ⟨ea, ed, el, em, ek⟩ := Hap.out
                    refine ⟨⟨true, m' + 1, da' ++ [{ data := #[] }], li' ++ [0], d1, d2, e1, e2, rfl, rfl, by simp [Hda'.out], by simp [Hli'.out], .inr ⟨rfl, by rw [ek]; exact Hda.out.symm, by rw [ed]⟩, .inr ⟨rfl, by rw [ek]; exact Hli.out.symm, by rw [el]⟩, HL6, hbx6⟩, ?_⟩
                    simp [lenV]; omega
                  · have hkx : kx < m' := by omega
                    have Hd1 : Hid (∀ x, da'.set kx x = putL da kx x) := fun x => longE_set HX1.out (by rw [Hda'.out]; exact hkx) x
                    have Hl1 : Hid (∀ x, li'.set kx x = putL li kx x) := fun x => longE_set HX2.out (by rw [Hli'.out]; exact hkx) x
                    obtain ⟨dd, hdd⟩ : ∃ dd, da'[kx]? = some dd := ⟨_, List.getElem?_eq_getElem (by rw [Hda'.out]; exact hkx)⟩
                    obtain ⟨gd, cd, ed, cd1, fd1, hd1⟩ := HLI.out.dat hdd
                    have HD1 : Hid (∀ s, LAt w T0 tb bb sp sb cap mb (n + 1) bl' u' tab' (da'.set kx s) li' (.slice dA' m' dC') (.slice lA' m' lC') (wi.setCell ⟨gd, kx, none⟩ (.string s))) := hd1
                    have hl0 := longE_at HX2.out (by rw [Hli'.out]; exact hkx) H00.out
                    obtain ⟨gl, cl, el, cl1, fl1, _⟩ := HLI.out.lnk hl0
                    have hl2 := (HD1.out a.s).lnk (k := kx) (v := 0) (by exact hl0)
                    obtain ⟨gl2, cl2, el2, cl3, fl3, hl3⟩ := hl2
                    rw [el] at el2
                    simp only [Value.slice.injEq, Option.some.injEq, Addr.mk.injEq, and_true] at el2
                    obtain ⟨rfl, _⟩ := el2
                    have HL3 : Hid _ := hl3 1
                    rw [Hda'.out] at ed
                    rw [Hli'.out] at el
                    simp only [Value.slice.injEq, true_and] at ed el
                    obtain ⟨rfl, rfl⟩ := ed
                    obtain ⟨rfl, rfl⟩ := el
                    have cb1 : wi.cell? ⟨wr.heap.size, 1, none⟩ = some (.string a.s) := by rw [← Hbx.out, cell_of_row _ _ _ _ _ _ HBXI.out]; rfl
                    have cb1' : (wi.setCell ⟨gd, kx, none⟩ (.string a.s)).cell? ⟨gl, kx, none⟩ = some (.int .i64 0) := cl3
                    have hgne : ¬ gd = gl := fun e => by
                      have h1 := rowTy HLI.out.d (g := gd) rfl
                      have h2 := rowTy HLI.out.l (g := gl) rfl
                      obtain ⟨c1, h1⟩ := h1
                      obtain ⟨c2, h2⟩ := h2
                      rw [e, h2] at h1
                      simp only [Option.some.injEq, Obj.cells.injEq] at h1
                      exact absurd h1.2.1 (by decide)
                    have cl1' : wi.cell? ⟨gl, kx, none⟩ = some (.int .i64 0) := cl1
                    clear hdd hd1 hl0 hl3 cl3 cb1' cl1 H00
                    go_wp2_with fail
                    have e1 := Hd1.out a.s
                    have e2 := Hl1.out 1
                    have L9 := HL3.out
                    rw [e1, e2] at L9
                    refine ⟨⟨j + 1, n + 1, m', bl', u', tab', putL da kx a.s, putL li kx 1, _, _, _, _, by omega, by simp, rfl, rfl, by rw [← e1, List.length_set]; exact Hda'.out, by rw [← e2, List.length_set]; exact Hli'.out, by omega, ?_, fun x hx => ?_, HK4.out, L9⟩, by simp [intOf]; omega⟩
                    · have h1 := Hda'.out
                      have h2 := Hda.out
                      rcases HX1.out with ⟨_, e⟩ | ⟨_, _, e⟩
                      · rw [e] at h1; omega
                      · rw [e, List.length_append, List.length_singleton] at h1; omega
                    · unfold putL at hx
                      split at hx
                      · rcases List.mem_or_eq_of_mem_set hx with h | h
                        · exact Nat.le_succ_of_le (HLE.out x h)
                        · omega
                      · rcases List.mem_append.1 hx with h | h
                        · exact Nat.le_succ_of_le (HLE.out x h)
                        · rw [List.mem_singleton.1 h]; omega
            | false =>
              cases kl : (a.kind.toList == [108, 105, 110, 107]) with
              | true =>
                have HLN : Hid (slotI tab a.n = none → Calls Tryd.prog 8 #[.pointer (some ⟨tb, 0, none⟩), .int .i64 a.n] (wr.alloc (.cells #[.string a.kind, .string a.s, .bool a.exec, .int .i64 a.n, .int .i64 a.bit] 32)) fun e w' => (∃ p, e = .returned (.iface 119 p)) ∧ w' = wr.alloc (.cells #[.string a.kind, .string a.s, .bool a.exec, .int .i64 a.n, .int .i64 a.bit] 32)) := fun h => j_link_none a.n Hwf.out h HLA.out HEE.out
                by_cases hn0 : 0 ≤ a.n
                · by_cases hnm : a.n < (m : Int)
                  · obtain ⟨k, hk⟩ : ∃ k : Nat, a.n = (k : Int) := ⟨a.n.toNat, by omega⟩
                    have hkm : k < m := by omega
                    cases hsl : slotT tab k with
                    | none =>
                      have hl0 := HK.out.no k (by rw [HTm.out]; exact hkm) hsl
                      obtain ⟨gl, cl, el, cl1, fl1, _⟩ := HL.out.lnk hl0
                      have HLK := HLN.out (by rw [hk, slotI_nat]; exact hsl)
                      have hgl : gl < wr.heap.size := World.block_lt_of_cell? wr _ cl1
                      rw [Hli.out] at el
                      simp only [Value.slice.injEq, true_and] at el
                      obtain ⟨rfl, rfl⟩ := el
                      have cl1' : wr.cell? ⟨gl, k, none⟩ = some (.int .i64 0) := cl1
                      rw [hk] at HLK HLA c3
                      clear hk hn0 hnm hl0 cl1 HLN hsl
                      go_wp2_with (go_at_call 8; refine HLK.mono ?_; rintro e w4 ⟨⟨p, rfl⟩, hw⟩; rw [hw]; clear hw)
                      exact ⟨⟨j + 1, n, m, bl, u, tab, da, li, _, _, _, _, by omega, by simp, rfl, rfl, Hda.out, Hli.out, by omega, by omega, fun x hx => Nat.le_succ_of_le (HLE.out x hx), HK.out, HLA.out⟩, by simp [intOf]; omega⟩
                    | some x =>
                      obtain ⟨hlk, _⟩ := HK.out.yes k x hsl
                      have hx1 := (HK.out.sp.own k x hsl).2.2.1
                      have hxj : x.links ≤ j := HLE.out _ (List.mem_of_getElem? hlk)
                      obtain ⟨gl, cl, el, cl1, fl1, _⟩ := HL.out.lnk hlk
                      have hgl : gl < wr.heap.size := World.block_lt_of_cell? wr _ cl1
                      rw [Hli.out] at el
                      simp only [Value.slice.injEq, true_and] at el
                      obtain ⟨rfl, rfl⟩ := el
                      have hxp : (0 : Int) < (x.links : Int) := by omega
                      have hxn : 0 < x.links := by omega
                      have HLK := j_link k x hsl (by omega) HLA.out HK.out
                      have Hlk : Hid _ := hlk
                      rw [hk] at HLK HLA HBX c3
                      clear hk hn0 hnm hlk HLN hsl Hwf
                      go_wp2_with (go_at_call 8; refine HLK.mono ?_; rintro e w4 ⟨tab', rfl, L4, K4, B4⟩; (have hbx4 := B4.block _ _ HBX.out (.inr rfl)); (have cb0 : w4.cell? ⟨wr.heap.size, 0, none⟩ = some (.string a.kind) := (by rw [cell_of_row _ _ _ _ _ _ hbx4]; rfl)); (have cb3 : w4.cell? ⟨wr.heap.size, 3, none⟩ = some (.int .i64 (k : Int)) := (by rw [cell_of_row _ _ _ _ _ _ hbx4]; rfl)); (obtain ⟨g2, c2', e2, c3', f3', h3'⟩ := L4.lnk Hlk.out); (have hg2 : g2 = gl := (by have h := e2; simp only [Value.slice.injEq, Option.some.injEq, Addr.mk.injEq] at h; exact h.1.1.symm)); (rw [hg2] at c3' f3' h3'); clear e2 hg2; (have HL9 : Hid _ := h3' (x.links + 1)); (have HK9 : Hid _ := K4); clear hbx4 L4 K4 B4 h3' HLK)
                      refine ⟨⟨j + 1, n, m, bl, u, tab', da, li.set k (x.links + 1), _, _, _, _, by omega, by simp, rfl, rfl, Hda.out, by rw [List.length_set]; exact Hli.out, by omega, by omega, fun y hy => ?_, HK9.out, ?_⟩, by simp [intOf]; omega⟩
                      · rcases List.mem_or_eq_of_mem_set hy with h | h
                        · exact Nat.le_succ_of_le (HLE.out y h)
                        · omega
                      · exact HL9.out
                  · have HLK := HLN.out (by
                      unfold slotI
                      rw [if_pos hn0]
                      unfold slotT
                      rw [List.getElem?_eq_none (by rw [HTm.out]; omega)]; rfl)
                    have hnm' : ¬ a.n < (m : Int) := hnm
                    have hn0' : 0 ≤ a.n := hn0
                    clear HLN
                    go_wp2_with (go_at_call 8; refine HLK.mono ?_; rintro e w4 ⟨⟨p, rfl⟩, hw⟩; rw [hw]; clear hw)
                    exact ⟨⟨j + 1, n, m, bl, u, tab, da, li, _, _, _, _, by omega, by simp, rfl, rfl, Hda.out, Hli.out, by omega, by omega, fun x hx => Nat.le_succ_of_le (HLE.out x hx), HK.out, HLA.out⟩, by simp [intOf]; omega⟩
                · have HLK := HLN.out (by unfold slotI; rw [if_neg hn0])
                  have hn0' : ¬ 0 ≤ a.n := hn0
                  clear HLN
                  go_wp2_with (go_at_call 8; refine HLK.mono ?_; rintro e w4 ⟨⟨p, rfl⟩, hw⟩; rw [hw]; clear hw)
                  exact ⟨⟨j + 1, n, m, bl, u, tab, da, li, _, _, _, _, by omega, by simp, rfl, rfl, Hda.out, Hli.out, by omega, by omega, fun x hx => Nat.le_succ_of_le (HLE.out x hx), HK.out, HLA.out⟩, by simp [intOf]; omega⟩
              | false =>
                cases ku : (a.kind.toList == [117, 110, 108, 105, 110, 107]) with
                | true =>
                  have HLN : Hid (slotI tab a.n = none → Calls Tryd.prog 9 #[.pointer (some ⟨tb, 0, none⟩), .int .i64 a.n] (wr.alloc (.cells #[.string a.kind, .string a.s, .bool a.exec, .int .i64 a.n, .int .i64 a.bit] 32)) fun e w' => (∃ p, e = .returned (.iface 119 p)) ∧ w' = wr.alloc (.cells #[.string a.kind, .string a.s, .bool a.exec, .int .i64 a.n, .int .i64 a.bit] 32)) := fun h => j_unlink_none a.n Hwf.out h HLA.out HEE.out
                  by_cases hn0 : 0 ≤ a.n
                  · by_cases hnm : a.n < (m : Int)
                    · obtain ⟨k, hk⟩ : ∃ k : Nat, a.n = (k : Int) := ⟨a.n.toNat, by omega⟩
                      have hkm : k < m := by omega
                      cases hsl : slotT tab k with
                      | none =>
                        have hl0 := HK.out.no k (by rw [HTm.out]; exact hkm) hsl
                        obtain ⟨gl, cl, el, cl1, fl1, _⟩ := HL.out.lnk hl0
                        have HLK := HLN.out (by rw [hk, slotI_nat]; exact hsl)
                        have hgl : gl < wr.heap.size := World.block_lt_of_cell? wr _ cl1
                        rw [Hli.out] at el
                        simp only [Value.slice.injEq, true_and] at el
                        obtain ⟨rfl, rfl⟩ := el
                        have cl1' : wr.cell? ⟨gl, k, none⟩ = some (.int .i64 0) := cl1
                        rw [hk] at HLK HLA c3
                        clear hk hn0 hnm hl0 cl1 HLN hsl
                        go_wp2_with (go_at_call 9; refine HLK.mono ?_; rintro e w4 ⟨⟨p, rfl⟩, hw⟩; rw [hw]; clear hw)
                        exact ⟨⟨j + 1, n, m, bl, u, tab, da, li, _, _, _, _, by omega, by simp, rfl, rfl, Hda.out, Hli.out, by omega, by omega, fun x hx => Nat.le_succ_of_le (HLE.out x hx), HK.out, HLA.out⟩, by simp [intOf]; omega⟩
                      | some x =>
                        obtain ⟨hlk, _⟩ := HK.out.yes k x hsl
                        have hx1 := (HK.out.sp.own k x hsl).2.2.1
                        have hxj : x.links ≤ j := HLE.out _ (List.mem_of_getElem? hlk)
                        obtain ⟨gl, cl, el, cl1, fl1, _⟩ := HL.out.lnk hlk
                        have hgl : gl < wr.heap.size := World.block_lt_of_cell? wr _ cl1
                        rw [Hli.out] at el
                        simp only [Value.slice.injEq, true_and] at el
                        obtain ⟨rfl, rfl⟩ := el
                        have hxp : (0 : Int) < (x.links : Int) := by omega
                        have hxn : 0 < x.links := by omega
                        obtain ⟨xl, hxl⟩ : ∃ xl, x.links = xl + 1 := ⟨x.links - 1, by omega⟩
                        have HLK := j_unlink k xl x hsl hxl (by omega) HLA.out HK.out HEE.out
                        rw [hxl] at cl1 hlk hxp hxj
                        clear hxl hx1
                        have Hlk : Hid _ := hlk
                        rw [hk] at HLK HLA HBX c3
                        clear hk hn0 hnm hlk HLN hsl Hwf
                        go_wp2_with (go_at_call 9; refine HLK.mono ?_; rintro e w4 ⟨u', tab', rfl, L4, K4, B4⟩; (have hbx4 := B4.block _ _ HBX.out (.inr rfl)); (have cb0 : w4.cell? ⟨wr.heap.size, 0, none⟩ = some (.string a.kind) := (by rw [cell_of_row _ _ _ _ _ _ hbx4]; rfl)); (have cb3 : w4.cell? ⟨wr.heap.size, 3, none⟩ = some (.int .i64 (k : Int)) := (by rw [cell_of_row _ _ _ _ _ _ hbx4]; rfl)); (obtain ⟨g2, c2', e2, c3', f3', h3'⟩ := L4.lnk Hlk.out); (have hg2 : g2 = gl := (by have h := e2; simp only [Value.slice.injEq, Option.some.injEq, Addr.mk.injEq] at h; exact h.1.1.symm)); (rw [hg2] at c3' f3' h3'); clear e2 hg2; (have HL9 : Hid _ := h3' (xl)); (have HK9 : Hid _ := K4); clear hbx4 L4 K4 B4 h3' HLK)
                        refine ⟨⟨j + 1, n, m, bl, u', tab', da, li.set k (xl), _, _, _, _, by omega, by simp, rfl, rfl, Hda.out, by rw [List.length_set]; exact Hli.out, by omega, by omega, fun y hy => ?_, HK9.out, ?_⟩, by simp [intOf]; omega⟩
                        · rcases List.mem_or_eq_of_mem_set hy with h | h
                          · exact Nat.le_succ_of_le (HLE.out y h)
                          · omega
                        · exact HL9.out
                    · have HLK := HLN.out (by
                        unfold slotI
                        rw [if_pos hn0]
                        unfold slotT
                        rw [List.getElem?_eq_none (by rw [HTm.out]; omega)]; rfl)
                      have hnm' : ¬ a.n < (m : Int) := hnm
                      have hn0' : 0 ≤ a.n := hn0
                      clear HLN
                      go_wp2_with (go_at_call 9; refine HLK.mono ?_; rintro e w4 ⟨⟨p, rfl⟩, hw⟩; rw [hw]; clear hw)
                      exact ⟨⟨j + 1, n, m, bl, u, tab, da, li, _, _, _, _, by omega, by simp, rfl, rfl, Hda.out, Hli.out, by omega, by omega, fun x hx => Nat.le_succ_of_le (HLE.out x hx), HK.out, HLA.out⟩, by simp [intOf]; omega⟩
                  · have HLK := HLN.out (by unfold slotI; rw [if_neg hn0])
                    have hn0' : ¬ 0 ≤ a.n := hn0
                    clear HLN
                    go_wp2_with (go_at_call 9; refine HLK.mono ?_; rintro e w4 ⟨⟨p, rfl⟩, hw⟩; rw [hw]; clear hw)
                    exact ⟨⟨j + 1, n, m, bl, u, tab, da, li, _, _, _, _, by omega, by simp, rfl, rfl, Hda.out, Hli.out, by omega, by omega, fun x hx => Nat.le_succ_of_le (HLE.out x hx), HK.out, HLA.out⟩, by simp [intOf]; omega⟩
                | false =>
                  go_wp2_with fail
                  exact ⟨⟨j + 1, n, m, bl, u, tab, da, li, dA, lA, dC, lC, by omega, by simp, rfl, rfl, Hda.out, Hli.out, by omega, by omega, fun x hx => Nat.le_succ_of_le (HLE.out x hx), HK.out, HLA.out⟩, by simp [intOf]; omega⟩
        · obtain rfl : j = l.length := by omega
          have hLs := L.size
          have HLb : Hid (Below w.heap.size w wr) := by rw [← HT0.out]; exact L.b
          have hmk := run_make_bools N (by omega)
          obtain ⟨C0, HC0⟩ : ∃ C0, Hid (C0 = ((List.replicate N false).map Value.bool).toArray) := ⟨_, (rfl : _ = _)⟩
          rw [← HC0.out] at hmk
          obtain ⟨W2, HW2⟩ : ∃ W2, Hid (W2 = wr) := ⟨_, (rfl : wr = _)⟩
          have HRW : Hid (RowB (wr.alloc (.cells C0 4)) wr.heap.size N (List.replicate N false)) := made_bools N (by omega) wr C0 HC0.out
          have HTm40 : m ≤ 40 := by omega
          clear L
          go_wp2_with fail
          go_loopw [18, 19] (fun cn i ws => ∃ kk : Nat, kk ≤ m ∧ i = .int .i64 kk ∧ cn = .int .i64 ((blocksTo tab kk).length : Int) ∧ RowB ws W2.heap.size N (markR (List.replicate N false) true (blocksTo tab kk)) ∧ Below W2.heap.size W2 ws) (fun _ i _ => m - (intOf i).toNat)
          case atStart => exact ⟨0, Nat.zero_le _, rfl, rfl, by rw [HW2.out]; exact HRW.out, by rw [HW2.out]; exact (Below.refl _ wr).alloc (Nat.le_refl _) _⟩
          case round =>
            obtain ⟨kk, hkk, rfl, rfl, R, hb2⟩ := hrel
            rename World => ws
            have HRR : Hid _ := R
            have HB2 : Hid _ := hb2
            have LS : LAt w T0 tb bb sp sb cap mb n bl u tab da li (.slice dA m dC) (.slice lA m lC) ws := HL.out.below (by rw [← HW2.out]; exact hb2)
            have HLS : Hid _ := LS
            have hbl40 : (blocksTo tab kk).length ≤ N := by
              have h1 := HK.out.sp.free_len
              have h2 : (blocksTo tab kk).length ≤ (blocksTo tab tab.length).length := by
                rw [HTm.out]
                exact blocksTo_le tab hkk
              omega
            by_cases hlt : kk < m
            · as_aux_lemma =>
                have hxe : (kk : Nat) < m := hlt
                cases hsl : slotT tab kk with
                | none =>
                  have hl0 := HK.out.no kk (by rw [HTm.out]; exact hlt) hsl
                  obtain ⟨gl, cl, el, cl1, fl1, _⟩ := LS.lnk hl0
                  have hgl : gl < ws.heap.size := World.block_lt_of_cell? ws _ cl1
                  rw [Hli.out] at el
                  simp only [Value.slice.injEq, true_and] at el
                  obtain ⟨rfl, rfl⟩ := el
                  have HRD := j_read_none kk (by omega) hsl LS HEE.out
                  have HC1 : Hid (∀ W, Below ws.heap.size ws W → W.cell? ⟨gl, kk, none⟩ = some (.int .i64 0)) := fun W hW => by rw [hW.cell (p := ⟨gl, kk, none⟩) hgl]; exact cl1
                  have Hbn : Hid (blocksTo tab (kk + 1) = blocksTo tab kk) := blocksTo_none hsl
                  clear LS hl0 cl1 hsl R hb2
                  go_wp2_with (go_at_call 10; refine HRD.mono ?_; rintro e w4 ⟨⟨p, rfl⟩, hb4⟩; (have c4 := HC1.out w4 hb4); (have HB4 : Hid _ := hb4); clear hb4)
                  have hb5 : Below W2.heap.size W2 w4 := HB2.out.trans (HB4.out.mono HB2.out.size)
                  exact ⟨⟨kk + 1, by omega, by simp, by rw [Hbn.out], by rw [Hbn.out]; exact RowB.below HRR.out HB4.out, hb5⟩, by simp [intOf]; omega⟩
                | some x =>
                  obtain ⟨hlk, d, hd, hby, hsum, hrd⟩ := HK.out.yes kk x hsl
                  obtain ⟨hnd, hmk2, hx1, hx2, hx3⟩ := HK.out.sp.own kk x hsl
                  obtain ⟨gl, lc, el, cl1, fl1, _⟩ := LS.lnk hlk
                  obtain ⟨gd, dc, ed, cd1, fd1, _⟩ := LS.dat hd
                  have hgl : gl < ws.heap.size := World.block_lt_of_cell? ws _ cl1
                  have hgd : gd < ws.heap.size := World.block_lt_of_cell? ws _ cd1
                  rw [Hli.out] at el
                  rw [Hda.out] at ed
                  simp only [Value.slice.injEq, true_and] at el ed
                  obtain ⟨rfl, rfl⟩ := el
                  obtain ⟨rfl, rfl⟩ := ed
                  have HRD := j_read kk x d hsl hd LS HK.out HEE.out
                  have HST : Hid (∀ W, Below ws.heap.size ws W → Calls Tryd.prog 11 #[.pointer (some ⟨tb, 0, none⟩), .int .i64 (kk : Int)] W fun e w' => ∃ ad vc, e = .returned (.tuple #[.agg #[.int .i64 (x.bytes : Int), .int .i64 (x.links : Int), .bool x.exec, .slice ad x.blocks.length vc, .int .u32 (x.sum : Int)], .bool true]) ∧ IntsT w' (.slice ad x.blocks.length vc) (ints x.blocks) ∧ Below W.heap.size W w') := fun W hW => j_stat kk x hsl (HLS.out.below hW) HK.out
                  have hdz : d.size ≤ 2000 := by rw [← hby]; exact hx2
                  have HND : Hid (∀ W, Calls Tryd.prog 12 #[.int .i64 (d.size : Int)] W fun e w' => e = .returned (.int .i64 (x.blocks.length : Int)) ∧ w' = W) := fun W => by
                    have h := sp_need (d.size : Int) W (by omega)
                    rw [need_eq, ← hby, ← hx3] at h
                    rw [hby] at h
                    exact h
                  have HSM : Hid (blocksTo tab (kk + 1) = blocksTo tab kk ++ x.blocks) := blocksTo_some hsl
                  have Hfr : Hid (∀ i b, x.blocks[i]? = some b → (markR (List.replicate N false) true (blocksTo tab kk ++ x.blocks.take i))[b]? = some false ∧ b < N) := fun i b h => ⟨HK.out.sp.fresh hsl h, HK.out.sp.lt hsl b (List.mem_of_getElem? h)⟩
                  have HCS : Hid (∀ W, Below ws.heap.size ws W → (W.cell? ⟨gd, kk, none⟩ = some (.string d) ∧ W.cell? ⟨gl, kk, none⟩ = some (.int .i64 (x.links : Int)))) := fun W hW => ⟨by rw [hW.cell (p := ⟨gd, kk, none⟩) hgd]; exact cd1, by rw [hW.cell (p := ⟨gl, kk, none⟩) hgl]; exact cl1⟩
                  have hnb : x.blocks.length ≤ 1000 := by rw [hx3]; unfold needN; omega
                  have hxj : x.links ≤ l.length := HLE.out _ (List.mem_of_getElem? hlk)
                  have hx0 : ¬ x.links = 0 := by omega
                  have hx0i : ¬ (x.links : Int) = 0 := by omega
                  have HUB : Hid (W2.heap.size < ws.heap.size) := RowB.lt HRR.out
                  obtain ⟨nb, Hnb⟩ : ∃ nb, Hid (nb = x.blocks.length) := ⟨_, (rfl : x.blocks.length = _)⟩
                  rw [← Hnb.out] at HND hnb HST
                  clear LS hlk hd hby hsum hrd hnd hmk2 hx2 hx3 cl1 cd1 hsl R hb2 fl1 fd1
                  go_wp2_with (first
                    | (go_at_call 10; refine HRD.mono ?_; rintro e w4 ⟨rfl, hb4⟩; (have c4 := (HCS.out w4 hb4).2); (have HB4 : Hid _ := hb4); clear hb4)
                    | (go_at_call 11; refine (HST.out w4 HB4.out).mono ?_; rintro e w5 ⟨ad, vc, rfl, iv5, hb5⟩; (have HI5 : Hid _ := iv5); (have HB5 : Hid (Below ws.heap.size ws w5) := HB4.out.trans (hb5.mono HB4.out.size)); clear iv5 hb5))
                  obtain ⟨xb, Hxb⟩ : ∃ xb, Hid (xb = w5.heap.size) := ⟨_, (rfl : w5.heap.size = _)⟩
                  obtain ⟨w6, hw6⟩ : ∃ w6, w6 = w5.alloc (.cells #[.int .i64 (x.bytes : Int), .int .i64 (x.links : Int), .bool x.exec, .slice ad nb vc, .int .u32 (x.sum : Int)] 43) := ⟨_, rfl⟩
                  have HB6 : Hid (Below ws.heap.size ws w6) := by rw [hw6]; exact HB5.out.alloc HB5.out.size _
                  have HX6 : Hid (w6.heap[xb]? = some (.cells #[.int .i64 (x.bytes : Int), .int .i64 (x.links : Int), .bool x.exec, .slice ad nb vc, .int .u32 (x.sum : Int)] 43 (0, 0))) := by rw [hw6, Hxb.out]; exact heap_alloc_last w5 _
                  have HI6 : Hid (IntsT w6 (.slice ad nb vc) (ints x.blocks)) := by rw [hw6]; exact IntsT.below HI5.out ((Below.refl _ w5).alloc (Nat.le_refl _) _)
                  have HS49 : Hid (∀ W, W = w6.drew → (W.cell? ⟨gd, kk, none⟩ = some (.string d) ∧ W.cell? ⟨gl, kk, none⟩ = some (.int .i64 (x.links : Int)) ∧ W.cell? ⟨xb, 1, none⟩ = some (.int .i64 (x.links : Int)) ∧ W.cell? ⟨xb, 3, none⟩ = some (.slice ad nb vc))) := fun W hW => by
                    rw [hW]
                    obtain ⟨h1, h2⟩ := HCS.out w6 HB6.out
                    exact ⟨h1, h2, (cell_of_row w6 _ _ _ _ _ HX6.out).trans rfl, (cell_of_row w6 _ _ _ _ _ HX6.out).trans rfl⟩
                  rw [← hw6, ← Hxb.out]
                  clear hw6 HI5 HB5 HB4 HRD HST c4
                  refine wp_region_held_drew (S := fun w' => w'.cell? ⟨gd, kk, none⟩ = some (.string d) ∧ w'.cell? ⟨gl, kk, none⟩ = some (.int .i64 (x.links : Int)) ∧ w'.cell? ⟨xb, 1, none⟩ = some (.int .i64 (x.links : Int)) ∧ w'.cell? ⟨xb, 3, none⟩ = some (.slice ad nb vc)) (by kernel_rfl) (HS49.out _ rfl) (fun hHeld => ?_)
                  refine wpAnyH_take (i := 0) (v := .nilIface) rfl (by kernel_rfl) (by kernel_rfl) (by kernel_rfl) (fun _ _ _ h => h) (Or.inl ⟨by rfl, ?_⟩) hHeld ?_
                  · intro w hSw; (try dsimp only at hSw); simp only [List.getElem_toArray, List.getElem_cons_zero]; go_simp
                  simp only [List.getElem_toArray, List.getElem_cons_zero, Act.put, List.setIfInBounds_toArray, List.set_cons_zero, List.set_cons_succ]
                  refine wpAnyH_take (i := 1) (v := (.bool false)) rfl (by kernel_rfl) (by kernel_rfl) (by kernel_rfl) (fun _ _ _ h => h) (Or.inl ⟨by rfl, ?_⟩) hHeld ?_
                  · intro w hSw; (try dsimp only at hSw); simp only [List.getElem_toArray, List.getElem_cons_zero, List.getElem_cons_succ]; go_simp
                  simp only [List.getElem_toArray, List.getElem_cons_zero, List.getElem_cons_succ, Act.put, List.setIfInBounds_toArray, List.set_cons_zero, List.set_cons_succ]
                  refine wpAnyH_take (i := 2) (v := (.bool false)) rfl (by kernel_rfl) (by kernel_rfl) (by kernel_rfl) (fun _ _ _ h => h) (Or.inl ⟨by rfl, ?_⟩) hHeld ?_
                  · intro w hSw; (try dsimp only at hSw); simp only [List.getElem_toArray, List.getElem_cons_zero, List.getElem_cons_succ]; go_simp
                  simp only [List.getElem_toArray, List.getElem_cons_zero, List.getElem_cons_succ, Act.put, List.setIfInBounds_toArray, List.set_cons_zero, List.set_cons_succ]
                  refine wpAnyH_take (i := 3) (v := (.string d)) rfl (by kernel_rfl) (by kernel_rfl) (by kernel_rfl) (fun _ _ _ h => h) (Or.inl ⟨by rfl, ?_⟩) hHeld ?_
                  · intro w hSw; (try dsimp only at hSw); simp only [List.getElem_toArray, List.getElem_cons_zero, List.getElem_cons_succ]; go_simp
                  simp only [List.getElem_toArray, List.getElem_cons_zero, List.getElem_cons_succ, Act.put, List.setIfInBounds_toArray, List.set_cons_zero, List.set_cons_succ]
                  refine wpAnyH_take (i := 4) (v := (.slice (some ⟨gd, 0, none⟩) m dC)) rfl (by kernel_rfl) (by kernel_rfl) (by kernel_rfl) (fun _ _ _ h => h) (Or.inl ⟨by rfl, ?_⟩) hHeld ?_
                  · intro w hSw; (try dsimp only at hSw); simp only [List.getElem_toArray, List.getElem_cons_zero, List.getElem_cons_succ]; go_simp
                  simp only [List.getElem_toArray, List.getElem_cons_zero, List.getElem_cons_succ, Act.put, List.setIfInBounds_toArray, List.set_cons_zero, List.set_cons_succ]
                  refine wpAnyH_take (i := 5) (v := (.int .i64 (kk : Int))) rfl (by kernel_rfl) (by kernel_rfl) (by kernel_rfl) (fun _ _ _ h => h) (Or.inl ⟨by rfl, ?_⟩) hHeld ?_
                  · intro w hSw; (try dsimp only at hSw); simp only [List.getElem_toArray, List.getElem_cons_zero, List.getElem_cons_succ]; go_simp
                  simp only [List.getElem_toArray, List.getElem_cons_zero, List.getElem_cons_succ, Act.put, List.setIfInBounds_toArray, List.set_cons_zero, List.set_cons_succ]
                  refine wpAnyH_take (i := 6) (v := (.pointer (some ⟨gd, kk, none⟩))) rfl (by kernel_rfl) (by kernel_rfl) (by kernel_rfl) (fun _ _ _ h => h) (Or.inl ⟨by rfl, ?_⟩) hHeld ?_
                  · intro w hSw; (try dsimp only at hSw); simp only [List.getElem_toArray, List.getElem_cons_zero, List.getElem_cons_succ]; go_simp
                  simp only [List.getElem_toArray, List.getElem_cons_zero, List.getElem_cons_succ, Act.put, List.setIfInBounds_toArray, List.set_cons_zero, List.set_cons_succ]
                  refine wpAnyH_take (i := 7) (v := (.string d)) rfl (by kernel_rfl) (by kernel_rfl) (by kernel_rfl) (fun _ _ _ h => h) (Or.inl ⟨by rfl, ?_⟩) hHeld ?_
                  · intro w hSw; (try dsimp only at hSw); simp only [List.getElem_toArray, List.getElem_cons_zero, List.getElem_cons_succ]; go_simp
                  simp only [List.getElem_toArray, List.getElem_cons_zero, List.getElem_cons_succ, Act.put, List.setIfInBounds_toArray, List.set_cons_zero, List.set_cons_succ]
                  refine wpAnyH_take (i := 8) (v := (.bool false)) rfl (by kernel_rfl) (by kernel_rfl) (by kernel_rfl) (fun _ _ _ h => h) (Or.inl ⟨by rfl, ?_⟩) hHeld ?_
                  · intro w hSw; (try dsimp only at hSw); simp only [List.getElem_toArray, List.getElem_cons_zero, List.getElem_cons_succ]; go_simp
                  simp only [List.getElem_toArray, List.getElem_cons_zero, List.getElem_cons_succ, Act.put, List.setIfInBounds_toArray, List.set_cons_zero, List.set_cons_succ]
                  refine wpAnyH_take (i := 9) (v := (.bool false)) rfl (by kernel_rfl) (by kernel_rfl) (by kernel_rfl) (fun _ _ _ h => h) (Or.inl ⟨by rfl, ?_⟩) hHeld ?_
                  · intro w hSw; (try dsimp only at hSw); simp only [List.getElem_toArray, List.getElem_cons_zero, List.getElem_cons_succ]; go_simp
                  simp only [List.getElem_toArray, List.getElem_cons_zero, List.getElem_cons_succ, Act.put, List.setIfInBounds_toArray, List.set_cons_zero, List.set_cons_succ]
                  refine wpAnyH_take (i := 10) (v := (.bool false)) rfl (by kernel_rfl) (by kernel_rfl) (by kernel_rfl) (fun _ _ _ h => h) (Or.inl ⟨by rfl, ?_⟩) hHeld ?_
                  · intro w hSw; (try dsimp only at hSw); simp only [List.getElem_toArray, List.getElem_cons_zero, List.getElem_cons_succ]; go_simp
                  simp only [List.getElem_toArray, List.getElem_cons_zero, List.getElem_cons_succ, Act.put, List.setIfInBounds_toArray, List.set_cons_zero, List.set_cons_succ]
                  refine wpAnyH_take (i := 11) (v := (.pointer (some ⟨xb, 1, none⟩))) rfl (by kernel_rfl) (by kernel_rfl) (by kernel_rfl) (fun _ _ _ h => h) (Or.inl ⟨by rfl, ?_⟩) hHeld ?_
                  · intro w hSw; (try dsimp only at hSw); simp only [List.getElem_toArray, List.getElem_cons_zero, List.getElem_cons_succ]; go_simp
                  simp only [List.getElem_toArray, List.getElem_cons_zero, List.getElem_cons_succ, Act.put, List.setIfInBounds_toArray, List.set_cons_zero, List.set_cons_succ]
                  refine wpAnyH_take (i := 12) (v := (.int .i64 (x.links : Int))) rfl (by kernel_rfl) (by kernel_rfl) (by kernel_rfl) (fun _ _ _ h => h) (Or.inl ⟨by rfl, ?_⟩) hHeld ?_
                  · intro w hSw; (try dsimp only at hSw); simp only [List.getElem_toArray, List.getElem_cons_zero, List.getElem_cons_succ]; go_simp
                  simp only [List.getElem_toArray, List.getElem_cons_zero, List.getElem_cons_succ, Act.put, List.setIfInBounds_toArray, List.set_cons_zero, List.set_cons_succ]
                  refine wpAnyH_take (i := 13) (v := (.slice (some ⟨gl, 0, none⟩) m lC)) rfl (by kernel_rfl) (by kernel_rfl) (by kernel_rfl) (fun _ _ _ h => h) (Or.inl ⟨by rfl, ?_⟩) hHeld ?_
                  · intro w hSw; (try dsimp only at hSw); simp only [List.getElem_toArray, List.getElem_cons_zero, List.getElem_cons_succ]; go_simp
                  simp only [List.getElem_toArray, List.getElem_cons_zero, List.getElem_cons_succ, Act.put, List.setIfInBounds_toArray, List.set_cons_zero, List.set_cons_succ]
                  refine wpAnyH_take (i := 14) (v := (.int .i64 (kk : Int))) rfl (by kernel_rfl) (by kernel_rfl) (by kernel_rfl) (fun _ _ _ h => h) (Or.inl ⟨by rfl, ?_⟩) hHeld ?_
                  · intro w hSw; (try dsimp only at hSw); simp only [List.getElem_toArray, List.getElem_cons_zero, List.getElem_cons_succ]; go_simp
                  simp only [List.getElem_toArray, List.getElem_cons_zero, List.getElem_cons_succ, Act.put, List.setIfInBounds_toArray, List.set_cons_zero, List.set_cons_succ]
                  refine wpAnyH_take (i := 15) (v := (.pointer (some ⟨gl, kk, none⟩))) rfl (by kernel_rfl) (by kernel_rfl) (by kernel_rfl) (fun _ _ _ h => h) (Or.inl ⟨by rfl, ?_⟩) hHeld ?_
                  · intro w hSw; (try dsimp only at hSw); simp only [List.getElem_toArray, List.getElem_cons_zero, List.getElem_cons_succ]; go_simp
                  simp only [List.getElem_toArray, List.getElem_cons_zero, List.getElem_cons_succ, Act.put, List.setIfInBounds_toArray, List.set_cons_zero, List.set_cons_succ]
                  refine wpAnyH_take (i := 16) (v := (.int .i64 (x.links : Int))) rfl (by kernel_rfl) (by kernel_rfl) (by kernel_rfl) (fun _ _ _ h => h) (Or.inl ⟨by rfl, ?_⟩) hHeld ?_
                  · intro w hSw; (try dsimp only at hSw); simp only [List.getElem_toArray, List.getElem_cons_zero, List.getElem_cons_succ]; go_simp
                  simp only [List.getElem_toArray, List.getElem_cons_zero, List.getElem_cons_succ, Act.put, List.setIfInBounds_toArray, List.set_cons_zero, List.set_cons_succ]
                  refine wpAnyH_take (i := 17) (v := (.bool false)) rfl (by kernel_rfl) (by kernel_rfl) (by kernel_rfl) (fun _ _ _ h => h) (Or.inl ⟨by rfl, ?_⟩) hHeld ?_
                  · intro w hSw; (try dsimp only at hSw); simp only [List.getElem_toArray, List.getElem_cons_zero, List.getElem_cons_succ]; go_simp
                  simp only [List.getElem_toArray, List.getElem_cons_zero, List.getElem_cons_succ, Act.put, List.setIfInBounds_toArray, List.set_cons_zero, List.set_cons_succ]
                  refine wpAnyH_take (i := 18) (v := (.bool false)) rfl (by kernel_rfl) (by kernel_rfl) (by kernel_rfl) (fun _ _ _ h => h) (Or.inl ⟨by rfl, ?_⟩) hHeld ?_
                  · intro w hSw; (try dsimp only at hSw); simp only [List.getElem_toArray, List.getElem_cons_zero, List.getElem_cons_succ]; go_simp
                  simp only [List.getElem_toArray, List.getElem_cons_zero, List.getElem_cons_succ, Act.put, List.setIfInBounds_toArray, List.set_cons_zero, List.set_cons_succ]
                  refine wpAnyH_take (i := 19) (v := (.bool false)) rfl (by kernel_rfl) (by kernel_rfl) (by kernel_rfl) (fun _ _ _ h => h) (Or.inl ⟨by rfl, ?_⟩) hHeld ?_
                  · intro w hSw; (try dsimp only at hSw); simp only [List.getElem_toArray, List.getElem_cons_zero, List.getElem_cons_succ]; go_simp
                  simp only [List.getElem_toArray, List.getElem_cons_zero, List.getElem_cons_succ, Act.put, List.setIfInBounds_toArray, List.set_cons_zero, List.set_cons_succ]
                  refine wpAnyH_take (i := 20) (v := (.pointer (some ⟨xb, 3, none⟩))) rfl (by kernel_rfl) (by kernel_rfl) (by kernel_rfl) (fun _ _ _ h => h) (Or.inl ⟨by rfl, ?_⟩) hHeld ?_
                  · intro w hSw; (try dsimp only at hSw); simp only [List.getElem_toArray, List.getElem_cons_zero, List.getElem_cons_succ]; go_simp
                  simp only [List.getElem_toArray, List.getElem_cons_zero, List.getElem_cons_succ, Act.put, List.setIfInBounds_toArray, List.set_cons_zero, List.set_cons_succ]
                  refine wpAnyH_take (i := 21) (v := (.slice ad nb vc)) rfl (by kernel_rfl) (by kernel_rfl) (by kernel_rfl) (fun _ _ _ h => h) (Or.inl ⟨by rfl, ?_⟩) hHeld ?_
                  · intro w hSw; (try dsimp only at hSw); simp only [List.getElem_toArray, List.getElem_cons_zero, List.getElem_cons_succ]; go_simp
                  simp only [List.getElem_toArray, List.getElem_cons_zero, List.getElem_cons_succ, Act.put, List.setIfInBounds_toArray, List.set_cons_zero, List.set_cons_succ]
                  refine wpAnyH_take (i := 22) (v := (.int .i64 (nb : Int))) rfl (by kernel_rfl) (by kernel_rfl) (by kernel_rfl) (fun _ _ _ h => h) (Or.inl ⟨by rfl, ?_⟩) hHeld ?_
                  · intro w hSw; (try dsimp only at hSw); simp only [List.getElem_toArray, List.getElem_cons_zero, List.getElem_cons_succ]; go_simp
                  simp only [List.getElem_toArray, List.getElem_cons_zero, List.getElem_cons_succ, Act.put, List.setIfInBounds_toArray, List.set_cons_zero, List.set_cons_succ]
                  refine wpAnyH_take (i := 23) (v := (.string d)) rfl (by kernel_rfl) (by kernel_rfl) (by kernel_rfl) (fun _ _ _ h => h) (Or.inl ⟨by rfl, ?_⟩) hHeld ?_
                  · intro w hSw; (try dsimp only at hSw); simp only [List.getElem_toArray, List.getElem_cons_zero, List.getElem_cons_succ]; go_simp
                  simp only [List.getElem_toArray, List.getElem_cons_zero, List.getElem_cons_succ, Act.put, List.setIfInBounds_toArray, List.set_cons_zero, List.set_cons_succ]
                  refine wpAnyH_take (i := 24) (v := (.int .i64 (d.size : Int))) rfl (by kernel_rfl) (by kernel_rfl) (by kernel_rfl) (fun _ _ _ h => h) (Or.inl ⟨by rfl, ?_⟩) hHeld ?_
                  · intro w hSw; (try dsimp only at hSw); simp only [List.getElem_toArray, List.getElem_cons_zero, List.getElem_cons_succ]; go_simp
                  simp only [List.getElem_toArray, List.getElem_cons_zero, List.getElem_cons_succ, Act.put, List.setIfInBounds_toArray, List.set_cons_zero, List.set_cons_succ]
                  refine wpAnyH_ready (rs := [25]) (by kernel_rfl) (by simp) ?_
                  refine AllReadyH.cons rfl (fun K' hK => ?_) AllReadyH.nil
                  simp only [List.getElem_toArray, List.getElem_cons_zero, List.getElem_cons_succ]
                  go_simp
                  refine Calls.mono (HND.out _) ?_
                  rintro e wx ⟨rfl, hw⟩
                  rw [hw]
                  clear hw
                  go_wp2_with fail
                  refine hK.out _ _ (HS49.out _ rfl) (fun hHeld' => ?_)
                  clear hK K' hHeld
                  have hHeld := hHeld'
                  clear hHeld'
                  refine wpAnyH_take (i := 26) (v := (.bool false)) rfl (by kernel_rfl) (by kernel_rfl) (by kernel_rfl) (fun _ _ _ h => h) (Or.inl ⟨by rfl, ?_⟩) hHeld ?_
                  · intro w hSw; (try dsimp only at hSw); simp only [List.getElem_toArray, List.getElem_cons_zero, List.getElem_cons_succ]; go_simp
                  simp only [List.getElem_toArray, List.getElem_cons_zero, List.getElem_cons_succ, Act.put, List.setIfInBounds_toArray, List.set_cons_zero, List.set_cons_succ]
                  refine wpAnyH_take (i := 27) (v := (.bool false)) rfl (by kernel_rfl) (by kernel_rfl) (by kernel_rfl) (fun _ _ _ h => h) (Or.inl ⟨by rfl, ?_⟩) hHeld ?_
                  · intro w hSw; (try dsimp only at hSw); simp only [List.getElem_toArray, List.getElem_cons_zero, List.getElem_cons_succ]; go_simp
                  simp only [List.getElem_toArray, List.getElem_cons_zero, List.getElem_cons_succ, Act.put, List.setIfInBounds_toArray, List.set_cons_zero, List.set_cons_succ]
                  refine wpAnyH_done (by kernel_rfl) ?_ _
                  go_wp2_with fail
                  have HI6d : Hid (IntsT w6.drew (.slice ad nb vc) (ints x.blocks)) := HI6.out
                  have HX6d : Hid (w6.drew.heap[xb]? = some (.cells #[.int .i64 (x.bytes : Int), .int .i64 (x.links : Int), .bool x.exec, .slice ad nb vc, .int .u32 (x.sum : Int)] 43 (0, 0))) := HX6.out
                  have HR6 : Hid (RowB w6.drew W2.heap.size N (markR (List.replicate N false) true (blocksTo tab kk))) := RowB.below HRR.out (HB6.out.drew)
                  have HB6d : Hid (Below W2.heap.size W2 w6.drew) := HB2.out.trans ((HB6.out.mono HB2.out.size).drew)
                  obtain ⟨B0, HB0⟩ : ∃ B0, Hid (B0 = (blocksTo tab kk).length) := ⟨_, (rfl : _ = _)⟩
                  rw [← HB0.out] at hbl40 ⊢
                  obtain ⟨w7, HW7⟩ : ∃ w7, Hid (w7 = w6.drew) := ⟨_, (rfl : w6.drew = _)⟩
                  rw [← HW7.out] at HI6d HX6d HR6 HB6d ⊢
                  have hub : wr.heap.size = W2.heap.size := by rw [HW2.out]
                  have Hub : Hid (wr.heap.size = W2.heap.size) := hub
                  clear hub HI6 HX6 HB6 HS49 HND HCS hHeld HRR HB2 HLS HL
                  go_loopw [18, 24] (fun cn i wq => ∃ ii : Nat, ii ≤ nb ∧ i = .int .i64 ii ∧ cn = .int .i64 ((B0 + ii : Nat) : Int) ∧ RowB wq W2.heap.size N (markR (List.replicate N false) true (blocksTo tab kk ++ x.blocks.take ii)) ∧ Below W2.heap.size W2 wq ∧ wq.heap[xb]? = some (.cells #[.int .i64 (x.bytes : Int), .int .i64 (x.links : Int), .bool x.exec, .slice ad nb vc, .int .u32 (x.sum : Int)] 43 (0, 0)) ∧ IntsT wq (.slice ad nb vc) (ints x.blocks)) (fun _ i _ => nb - (intOf i).toNat)
                  case atStart => exact ⟨0, Nat.zero_le _, rfl, by simp, by rw [List.take_zero, List.append_nil]; exact HR6.out, HB6d.out, HX6d.out, HI6d.out⟩
                  case round =>
                    obtain ⟨ii, hii, rfl, rfl, R7, hb7, hx7, hi7⟩ := hrel
                    rename World => wq
                    have HR7 : Hid _ := R7
                    have HB7 : Hid _ := hb7
                    have HX7 : Hid _ := hx7
                    have HI7 : Hid _ := hi7
                    have cx3 : wq.cell? ⟨xb, 3, none⟩ = some (.slice ad nb vc) := by rw [cell_of_row _ _ _ _ _ _ hx7]; rfl
                    by_cases hlt7 : ii < nb
                    · obtain ⟨bv, hbv⟩ : ∃ bv, x.blocks[ii]? = some bv := ⟨_, List.getElem?_eq_getElem (by rw [← Hnb.out]; exact hlt7)⟩
                      obtain ⟨hfr, hbN⟩ := Hfr.out ii bv hbv
                      obtain ⟨ad2, vc2, e2, hc2⟩ := IntsT.at hi7
                      obtain ⟨g7, o7, e7, c7⟩ := hc2 ii (bv : Int) (by simp [ints, hbv])
                      simp only [Value.slice.injEq] at e2
                      obtain ⟨rfl, -, -⟩ := e2
                      subst e7
                      have cu : wq.cell? ⟨wr.heap.size, bv, none⟩ = some (.bool false) := by rw [Hub.out]; exact RowB.mark R7 hfr
                      have fu : wq.frozen? ⟨wr.heap.size, bv, none⟩ = false := by rw [Hub.out]; exact RowB.frozen R7 bv
                      have hbNi : (bv : Int) < (N : Int) := by omega
                      have hbN2 : ¬ (N : Int) ≤ (bv : Int) := by omega
                      have HNX : Hid (markR (List.replicate N false) true (blocksTo tab kk ++ x.blocks.take (ii + 1)) = (markR (List.replicate N false) true (blocksTo tab kk ++ x.blocks.take ii)).set bv true) := by
                        show _ = _
                        obtain ⟨h1, h2⟩ := List.getElem?_eq_some_iff.1 hbv
                        rw [List.take_succ_eq_append_getElem h1, h2, ← List.append_assoc, markR_snoc]
                      have HRS : Hid (RowB (wq.setCell ⟨wr.heap.size, bv, none⟩ (.bool true)) W2.heap.size N (markR (List.replicate N false) true (blocksTo tab kk ++ x.blocks.take (ii + 1)))) := by
                        rw [HNX.out, Hub.out]; exact RowB.set HR7.out bv true
                      have HBS : Hid (Below W2.heap.size W2 (wq.setCell ⟨wr.heap.size, bv, none⟩ (.bool true))) := HB7.out.setCell (by rw [Hub.out]; exact Nat.le_refl _) _
                      have HKS : Hid (∀ (k : Nat) (c : Array Value) (t : TypeId), t ≠ 4 → wq.heap[k]? = some (.cells c t (0, 0)) → (wq.setCell ⟨wr.heap.size, bv, none⟩ (.bool true)).heap[k]? = some (.cells c t (0, 0))) := fun k c t ht hk => by
                        rw [Below.heap_setCell _ _ _ _ (fun e => ?_)]
                        · exact hk
                        · rw [e, Hub.out] at hk
                          exact RowB.ne HR7.out hk ht rfl
                      have HXS : Hid ((wq.setCell ⟨wr.heap.size, bv, none⟩ (.bool true)).heap[xb]? = some (.cells #[.int .i64 (x.bytes : Int), .int .i64 (x.links : Int), .bool x.exec, .slice (some ⟨g7, o7, none⟩) nb vc, .int .u32 (x.sum : Int)] 43 (0, 0))) := HKS.out _ _ _ (by decide) HX7.out
                      have HIS : Hid (IntsT (wq.setCell ⟨wr.heap.size, bv, none⟩ (.bool true)) (.slice (some ⟨g7, o7, none⟩) nb vc) (ints x.blocks)) := IntsT.keep HI7.out fun k c hk => by rw [hk]; exact HKS.out _ _ _ (by decide) hk
                      have hB7 : B0 + ii ≤ 2000 := by omega
                      clear R7 hb7 hx7 hi7 hfr hbv hc2
                      go_wp2_with fail
                      have e9 : ((B0 + (ii + 1) : Nat) : Int) = (B0 : Int) + (ii : Int) + 1 := by omega
                      exact ⟨⟨ii + 1, by omega, by simp, by rw [e9], HRS.out, HBS.out, HXS.out, HIS.out⟩, by simp [intOf]; omega⟩
                    · obtain rfl : ii = nb := by omega
                      have Htk : Hid (blocksTo tab kk ++ x.blocks.take ii = blocksTo tab (kk + 1)) := by show _ = _; rw [HSM.out, Hnb.out, List.take_length]
                      rw [Htk.out] at HR7
                      have Hcnt : Hid (((B0 + ii : Nat) : Int) = ((blocksTo tab (kk + 1)).length : Int)) := by show _ = _; rw [HSM.out, List.length_append, HB0.out, Hnb.out]
                      clear R7 hb7 hx7 hi7
                      go_wp2_with fail
                      exact ⟨⟨kk + 1, by omega, by simp, by rw [← Hcnt.out], HR7.out, HB7.out⟩, by simp [intOf]; omega⟩
            · obtain rfl : kk = m := by omega
              have HFR := im_free ws LS.t
              have HFL : Hid ((freeR u).length + (blocksTo tab kk).length = N) := by
                have h := HK.out.sp.free_len
                rw [HTm.out] at h
                exact h
              obtain ⟨F1, HF1⟩ : ∃ F1, Hid (F1 = (freeR u).length) := ⟨_, (rfl : _ = _)⟩
              obtain ⟨B1, HB1⟩ : ∃ B1, Hid (B1 = (blocksTo tab kk).length) := ⟨_, (rfl : _ = _)⟩
              rw [← HF1.out] at HFR HFL
              rw [← HB1.out] at HFL hbl40 ⊢
              have hsum : (F1 : Int) = (N : Int) - (B1 : Int) := by have := HFL.out; omega
              have HSU : Hid _ := hsum
              clear LS R hb2 hsum
              go_wp2_with (go_at_call 13; refine HFR.mono ?_; rintro e w4 ⟨rfl, hb4⟩)
              go_ret
              have h2 : Below w.heap.size w ws := HLb.out.trans ((show Below wr.heap.size wr ws from (by rw [← HW2.out]; exact HB2.out)).mono HLb.out.size)
              exact ⟨by rw [HSU.out]; simp, h2.trans (hb4.mono h2.size)⟩
    · go_ret
      exact ⟨rfl, hb1⟩
  · clear HE
    by_cases h1 : M < 1
    · go_enter Tryd.func3, Tryd.ntmps3
      go_wp2_with (go_at_call 4; refine HMD.mono ?_; rintro e w1 ⟨rfl, hb1⟩; clear HMD)
      go_ret
      exact ⟨rfl, hb1⟩
    · have h2 : (40 : Int) < M := by omega
      go_enter Tryd.func3, Tryd.ntmps3
      go_wp2_with (go_at_call 4; refine HMD.mono ?_; rintro e w1 ⟨rfl, hb1⟩; clear HMD)
      go_ret
      exact ⟨rfl, hb1⟩
end Go.Proofs.YtcejpeohkgchdaaDoor
