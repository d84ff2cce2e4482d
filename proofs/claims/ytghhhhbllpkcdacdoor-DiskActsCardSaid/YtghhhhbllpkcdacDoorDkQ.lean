/-
  The walk of the law DiskActs.
  Conditions: the acts lie in memory; package api's errors are laid.
-/
import Derived.Test.YtghhhhbllpkcdacDoorMkN
import Derived.Test.YtghhhhbllpkcdacDoorMkR
import Derived.Test.YtghhhhbllpkcdacDoorMkC
import Derived.Test.YtghhhhbllpkcdacDoorMkT
import Derived.Test.YtghhhhbllpkcdacDoorCode
namespace Go.Proofs.YtghhhhbllpkcdacDoor
open Go.RowKit

/-- Both disks, alike. -/
def St (w : World) (bb mb N m : Nat) (W : World) : Prop := ∃ va vc la lc wa wcp bl wt, DkAt W bb va vc bl wt ∧ MkAt W mb la lc wa wcp bl wt ∧ bl.length = N ∧ wt.length ≤ m ∧ Below w.heap.size w W
theorem row5 {w : World} {h : Nat} {x0 x1 x2 x3 x4 : Value} {t : TypeId} (hr : w.heap[h]? = some (.cells #[x0, x1, x2, x3, x4] t (0, 0))) :
    w.cell? ⟨h, 0, none⟩ = some x0 ∧ w.cell? ⟨h, 1, none⟩ = some x1 ∧ w.cell? ⟨h, 2, none⟩ = some x2 ∧ w.cell? ⟨h, 3, none⟩ = some x3 ∧ w.cell? ⟨h, 4, none⟩ = some x4 := by
  refine ⟨?_, ?_, ?_, ?_, ?_⟩
  all_goals (rw [cell_of_row w _ _ _ _ _ hr]; rfl)
theorem crcR_lt (s : ByteArray) : crcR s < 4294967296 := Nat.xor_lt_two_pow (n := 32) (by decide) (crcL_lt s s.size)
theorem sB_back (s : ByteArray) : sB s.data.toList = s := by
  show (⟨s.data.toList.toArray⟩ : ByteArray) = s
  simp
theorem wr_yes {bb : Nat} {va : Option Addr} {vc : Nat} {bl : List (List UInt8)} {wt : List (Nat × List UInt8)} {k : Int} {s : ByteArray} {er : Value} {w w' : World} {e : Ending} (h1 : hasB bl.length k = true) (h2 : s.size = 16) (h : WrPost bb va vc bl wt k s er w e w') :
    e = .returned .nilIface ∧ ∃ va' vc', DkAt w' bb va' vc' bl (wt ++ [(k.toNat, s.data.toList)]) ∧ DkBut bb va w w' := by
  rcases h with ⟨_, _, he, va', vc', D', hB', _⟩ | ⟨h | h, _⟩
  · exact ⟨he, va', vc', D', hB'⟩
  · rw [h1] at h; cases h
  · exact absurd h2 h
theorem wr_no {bb : Nat} {va : Option Addr} {vc : Nat} {bl : List (List UInt8)} {wt : List (Nat × List UInt8)} {k : Int} {s : ByteArray} {er : Value} {w w' : World} {e : Ending} (h1 : hasB bl.length k = false ∨ s.size ≠ 16) (h : WrPost bb va vc bl wt k s er w e w') :
    e = .returned er ∧ DkAt w' bb va vc bl wt ∧ Below w.heap.size w w' := by
  rcases h with ⟨h2, h3, _⟩ | ⟨_, he, D, hB⟩
  · rcases h1 with h1 | h1
    · rw [h1] at h2; cases h2
    · exact absurd h3 h1
  · exact ⟨he, D, hB⟩
set_option maxRecDepth 100000 in
set_option maxHeartbeats 1000000 in
theorem new_not (n : Int) (hn : n < 1 ∨ 512 < n) (er : Value) (w : World) (hE : w.cell? ⟨0, 0, none⟩ = some er) :
    Calls Tryd.prog 6 #[.int .i64 n] w fun e w' => e = .returned (.tuple #[.pointer none, er]) ∧ Below w.heap.size w w' := by
  by_cases h1 : n < 1
  · clear hn
    go_enter Tryd.func6, Tryd.ntmps6
    go_wp2_with fail
    go_quiet (fail)
    go_wp2_with fail
    go_ret2
    exact ⟨rfl, ⟨rfl, rfl, rfl, Nat.le_refl _, fun _ _ => rfl⟩⟩
  · have h2 : 512 < n := by omega
    clear hn
    go_enter Tryd.func6, Tryd.ntmps6
    go_wp2_with fail
    go_quiet (fail)
    go_wp2_with fail
    go_ret2
    exact ⟨rfl, ⟨rfl, rfl, rfl, Nat.le_refl _, fun _ _ => rfl⟩⟩

set_option maxRecDepth 100000 in
set_option maxHeartbeats 8000000 in
theorem diskActs_any (sa : Nat → Addr) (n : Int) (acts : List DAct) (v : Value) (s : ByteArray) (w : World) (hA : ActsAt w v acts) (S : Sents sa w) :
    Calls Tryd.prog 4 #[.int .i64 n, v, .string s] w fun e w' => e = .returned (.bool true) ∧ Below w.heap.size w w' := by
  obtain ⟨la0, lc0, rfl, hacts⟩ := hA
  have HSP := spun_any _ w S.c1
  have hgl : 0 < w.heap.size := World.block_lt_of_cell? w _ S.c1
  have HS : Hid (Sents sa w) := S
  have HAC : Hid (∀ i a, acts[i]? = some a → ∃ b off kv, la0 = some ⟨b, off, none⟩ ∧ w.cell? ⟨b, off + i * 5, none⟩ = some (.string a.kind) ∧ w.cell? ⟨b, off + i * 5 + 1, none⟩ = some (.string a.s) ∧ w.cell? ⟨b, off + i * 5 + 2, none⟩ = some (.int .i64 a.k) ∧ w.cell? ⟨b, off + i * 5 + 3, none⟩ = some (.int .i64 a.bit) ∧ w.cell? ⟨b, off + i * 5 + 4, none⟩ = some kv ∧ IntsAt w kv a.keep) := hacts
  clear hacts S
  by_cases g1 : 40 < n ∧ n ≤ 512
  · obtain ⟨g1, g1'⟩ := g1
    go_enter Tryd.func4, Tryd.ntmps4
    go_wp2_with (go_at_call 5; refine HSP.mono ?_; rintro e w0 ⟨rfl, hb0⟩)
    go_ret
    exact ⟨rfl, hb0⟩
  by_cases g2 : 50 < (acts.length : Int)
  · by_cases g1a : 40 < n
    · have g1b : ¬ n ≤ 512 := fun h => g1 ⟨g1a, h⟩
      clear g1
      go_enter Tryd.func4, Tryd.ntmps4
      go_wp2_with (go_at_call 5; refine HSP.mono ?_; rintro e w0 ⟨rfl, hb0⟩)
      go_ret
      exact ⟨rfl, hb0⟩
    · clear g1
      go_enter Tryd.func4, Tryd.ntmps4
      go_wp2_with (go_at_call 5; refine HSP.mono ?_; rintro e w0 ⟨rfl, hb0⟩)
      go_ret
      exact ⟨rfl, hb0⟩
  by_cases g3 : 200 < (s.size : Int)
  · by_cases g1a : 40 < n
    · have g1b : ¬ n ≤ 512 := fun h => g1 ⟨g1a, h⟩
      clear g1
      go_enter Tryd.func4, Tryd.ntmps4
      go_wp2_with (go_at_call 5; refine HSP.mono ?_; rintro e w0 ⟨rfl, hb0⟩)
      go_ret
      exact ⟨rfl, hb0⟩
    · clear g1
      go_enter Tryd.func4, Tryd.ntmps4
      go_wp2_with (go_at_call 5; refine HSP.mono ?_; rintro e w0 ⟨rfl, hb0⟩)
      go_ret
      exact ⟨rfl, hb0⟩
  have hss : s.size ≤ 1000000 := by omega
  have hcl : crcR s < 4294967296 := crcR_lt s
  obtain ⟨cc, HCC⟩ : ∃ cc, Hid (cc = crcR s) := ⟨_, (rfl : crcR s = _)⟩
  have HSM : Hid (∀ w, Calls Tryd.prog 15 #[.string s] w fun e w' => e = .returned (.int .u32 (cc : Nat)) ∧ w' = w) := fun w => by rw [HCC.out]; exact sum_any s hss w
  have HCR : Hid (∀ w, Calls Tryd.prog 16 #[.string s] w fun e w' => e = .returned (.int .i64 (cc : Nat)) ∧ w' = w) := fun w => by rw [HCC.out]; exact crc_any s hss w
  rw [← HCC.out] at hcl
  have hd2 : decide ((2 : Int) = ((1 : Nat) : Int) + 1) = true := rfl
  have hd3 : decide ((2 : Int) = 1 + 1) = true := rfl
  by_cases g4 : n < 1
  · have g1a : ¬ 40 < n := by omega
    clear g1
    go_enter Tryd.func4, Tryd.ntmps4
    go_wp2_with (first
      | (go_at_call 5; refine HSP.mono ?_; rintro e w0 ⟨rfl, hb0⟩)
      | (go_at_call 15; refine (HSM.out _).mono ?_; rintro e w1 ⟨rfl, hw⟩; rw [hw]; clear hw)
      | (go_at_call 16; refine (HCR.out _).mono ?_; rintro e w1 ⟨rfl, hw⟩; rw [hw]; clear hw)
      | (go_at_call 6; refine (new_not n (.inl g4) _ w0 (HS.out.below hb0).c1).mono ?_; rintro e w2 ⟨rfl, hb2⟩)
      | (go_at_call 17; refine (coded_sent sa 1 2 w2 ((HS.out.below hb0).below hb2) (by omega)).mono ?_; rintro e w3 ⟨rfl, hb3⟩))
    go_ret
    exact ⟨rfl, (hb0.trans (hb2.mono hb0.size)).trans (hb3.mono (Nat.le_trans hb0.size hb2.size))⟩
  by_cases g5 : 512 < n
  · have g1a : 40 < n := by omega
    have g1b : ¬ n ≤ 512 := by omega
    clear g1
    go_enter Tryd.func4, Tryd.ntmps4
    go_wp2_with (first
      | (go_at_call 5; refine HSP.mono ?_; rintro e w0 ⟨rfl, hb0⟩)
      | (go_at_call 15; refine (HSM.out _).mono ?_; rintro e w1 ⟨rfl, hw⟩; rw [hw]; clear hw)
      | (go_at_call 16; refine (HCR.out _).mono ?_; rintro e w1 ⟨rfl, hw⟩; rw [hw]; clear hw)
      | (go_at_call 6; refine (new_not n (.inr g5) _ w0 (HS.out.below hb0).c1).mono ?_; rintro e w2 ⟨rfl, hb2⟩)
      | (go_at_call 17; refine (coded_sent sa 1 2 w2 ((HS.out.below hb0).below hb2) (by omega)).mono ?_; rintro e w3 ⟨rfl, hb3⟩))
    go_ret
    exact ⟨rfl, (hb0.trans (hb2.mono hb0.size)).trans (hb3.mono (Nat.le_trans hb0.size hb2.size))⟩
  obtain ⟨N, rfl⟩ : ∃ N : Nat, n = N := ⟨n.toNat, by omega⟩
  have hN1 : 1 ≤ N := by omega
  have hN2 : N ≤ 40 := by omega
  have hal : acts.length ≤ 50 := by omega
  clear g1 hd2 hd3
  go_enter Tryd.func4, Tryd.ntmps4
  go_wp2_with (first
    | (go_at_call 5; refine HSP.mono ?_; rintro e w0 ⟨rfl, hb0⟩)
    | (go_at_call 15; refine (HSM.out _).mono ?_; rintro e w1 ⟨rfl, hw⟩; rw [hw]; clear hw)
    | (go_at_call 16; refine (HCR.out _).mono ?_; rintro e w1 ⟨rfl, hw⟩; rw [hw]; clear hw)
    | (go_at_call 6; refine (new_any N hN1 (by omega) w0).mono ?_; rintro e w2 ⟨rfl, D2, hb2⟩)
    | (go_at_call 18; refine (newDisk_any N (by omega) w2).mono ?_; rintro e w3 ⟨rfl, ⟨la3, lc3, M3⟩, hb3⟩))
  obtain ⟨bb, HBB⟩ : ∃ bb, Hid (bb = w0.heap.size) := ⟨_, (rfl : w0.heap.size = _)⟩
  obtain ⟨mb, HMB⟩ : ∃ mb, Hid (mb = w2.heap.size) := ⟨_, (rfl : w2.heap.size = _)⟩
  rw [← HBB.out, ← HMB.out]
  have hbw : w.heap.size ≤ bb := by rw [HBB.out]; exact hb0.size
  have hmw : w.heap.size ≤ mb := by rw [HMB.out]; exact Nat.le_trans hb0.size hb2.size
  have HI : Hid (St w bb mb N 0 w3) := ⟨none, 0, la3, lc3, none, 0, _, _, by rw [HBB.out]; exact D2.below (Nat.le_refl _) hb3, by rw [HMB.out]; exact M3, by simp, by simp, (hb0.trans (hb2.mono hb0.size)).trans (hb3.mono (Nat.le_trans hb0.size hb2.size))⟩
  clear D2 M3 hb0 hb2 hb3 g2 g3 g4 g5 HSP hcl HSM HCR
  go_loopw [11] (fun i wr => ∃ j : Nat, j ≤ acts.length ∧ i = .int .i64 j ∧ St w bb mb N j wr) (fun i _ => acts.length - (intOf i).toNat)
  case atStart => exact ⟨0, Nat.zero_le _, rfl, HI.out⟩
  case round =>
    clear HI
    obtain ⟨j, hj, rfl, va, vc, la, lc, wa, wcp, bl, wt, hD, hM, hbl, hwl, hB⟩ := hrel
    have hwl' : wt.length ≤ 100000 := by omega
    by_cases hlt : j < acts.length
    · obtain ⟨a, HX⟩ : ∃ a, Hid (acts[j]? = some a) := ⟨_, List.getElem?_eq_getElem hlt⟩
      obtain ⟨ab, ao, kv, rfl, q0, q1, q2, q3, q4, hki⟩ := HAC.out j a HX.out
      have hab := World.block_lt_of_cell? w _ q0
      simp only at hab
      have hki : Hid (IntsAt w kv a.keep) := hki
      obtain ⟨ka, kc, rfl, _⟩ := hki.out
      have c0 : wr.cell? ⟨ab, ao + j * 5, none⟩ = some (.string a.kind) := by rw [hB.cell (p := ⟨ab, ao + j * 5, none⟩) hab]; exact q0
      have c1 : wr.cell? ⟨ab, ao + j * 5 + 1, none⟩ = some (.string a.s) := by rw [hB.cell (p := ⟨ab, ao + j * 5 + 1, none⟩) hab]; exact q1
      have c2 : wr.cell? ⟨ab, ao + j * 5 + 2, none⟩ = some (.int .i64 a.k) := by rw [hB.cell (p := ⟨ab, ao + j * 5 + 2, none⟩) hab]; exact q2
      have c3 : wr.cell? ⟨ab, ao + j * 5 + 3, none⟩ = some (.int .i64 a.bit) := by rw [hB.cell (p := ⟨ab, ao + j * 5 + 3, none⟩) hab]; exact q3
      have c4 : wr.cell? ⟨ab, ao + j * 5 + 4, none⟩ = some (.slice ka a.keep.length kc) := by rw [hB.cell (p := ⟨ab, ao + j * 5 + 4, none⟩) hab]; exact q4
      have HDr : Hid _ := hD
      have HMr : Hid _ := hM
      have HBr : Hid _ := hB
      have HWL : Hid (∀ x ∈ wt, x.1 < bl.length) := fun x hx => (hD.wt16 x hx).1
      clear q0 q1 q2 q3 q4
      by_cases h40 : 40 < (a.s.size : Int)
      · clear hD hM hB
        go_wp2_with fail
        go_ret
        exact ⟨rfl, HBr.out.alloc HBr.out.size _⟩
      by_cases h60 : 60 < (a.keep.length : Int)
      · clear hD hM hB
        go_wp2_with fail
        go_ret
        exact ⟨rfl, HBr.out.alloc HBr.out.size _⟩
      have hb9 : Below wr.heap.size wr (wr.alloc (.cells #[.string a.kind, .string a.s, .int .i64 a.k, .int .i64 a.bit, .slice ka a.keep.length kc] 31)) := (Below.refl _ _).alloc (Nat.le_refl _) _
      have HD1 : Hid (DkAt (wr.alloc (.cells #[.string a.kind, .string a.s, .int .i64 a.k, .int .i64 a.bit, .slice ka a.keep.length kc] 31)) bb va vc bl wt) := hD.below (Nat.le_refl _) hb9
      have HM1 : Hid (MkAt (wr.alloc (.cells #[.string a.kind, .string a.s, .int .i64 a.k, .int .i64 a.bit, .slice ka a.keep.length kc] 31)) mb la lc wa wcp bl wt) := hM.below (Nat.le_refl _) hb9
      have HB1 : Hid (Below w.heap.size w (wr.alloc (.cells #[.string a.kind, .string a.s, .int .i64 a.k, .int .i64 a.bit, .slice ka a.keep.length kc] 31))) := hB.trans (hb9.mono hB.size)
      have HX1 : Hid ((wr.alloc (.cells #[.string a.kind, .string a.s, .int .i64 a.k, .int .i64 a.bit, .slice ka a.keep.length kc] 31)).heap[wr.heap.size]? = some (.cells #[.string a.kind, .string a.s, .int .i64 a.k, .int .i64 a.bit, .slice ka a.keep.length kc] 31 (0, 0))) := heap_alloc_last wr _
      have HE1 : Hid ((wr.alloc (.cells #[.string a.kind, .string a.s, .int .i64 a.k, .int .i64 a.bit, .slice ka a.keep.length kc] 31)).cell? ⟨0, 0, none⟩ = some (.iface 120 (.pointer (some (sa 1))))) := by show _ = _; rw [HB1.out.cell (p := ⟨0, 0, none⟩) hgl]; exact HS.out.c1
      clear hb9
      by_cases h0 : 0 ≤ a.k
      · skip
        by_cases h1 : a.k < (N : Int)
        · skip
          have hin : hasB bl.length a.k = true := hasB_yes h0 (by rw [hbl]; exact h1)
          have hkn : ((a.k.toNat : Nat) : Int) = a.k := by omega
          have hkl : a.k.toNat < bl.length := by omega
          cases kw : (a.kind.toList == [119, 114, 105, 116, 101]) with
          | true =>
            by_cases hs16 : a.s.size = 16
            · skip
              have hs16' : ((a.s.size : Int) == 16) = true := by rw [hs16]; rfl
              have hd0 : decide ((0 : Int) = 0) = true := rfl
              have HPUT : Hid (Calls Tryd.prog 19 #[.pointer (some ⟨mb, 0, none⟩), .int .i64 a.k, .string a.s] (wr.alloc (.cells #[.string a.kind, .string a.s, .int .i64 a.k, .int .i64 a.bit, .slice ka a.keep.length kc] 31)) fun e w' => e = .returned (.tuple #[]) ∧ ∃ wa' wcp', MkAt w' mb la lc wa' wcp' bl (wt ++ [(a.k.toNat, a.s.data.toList)]) ∧ MkBut mb la wa (wr.alloc (.cells #[.string a.kind, .string a.s, .int .i64 a.k, .int .i64 a.bit, .slice ka a.keep.length kc] 31)) w') := by
                have h := put_any a.k.toNat a.s.data.toList (wr.alloc (.cells #[.string a.kind, .string a.s, .int .i64 a.k, .int .i64 a.bit, .slice ka a.keep.length kc] 31)) HM1.out hwl'
                rw [hkn, sB_back] at h
                exact h
              clear hD hM hB
              go_wp2_with (first
                | (go_at_call 19; go_loud (refine (HPUT.out).mono ?_; rintro e w2 ⟨rfl, wa', wcp', M2, hM2⟩; have D2 := HD1.out.keep HM1.out hM2; have hb2 := HM1.out.up hmw HB1.out hM2; have hx_w2 : w2.heap[wr.heap.size]? = some (.cells #[.string a.kind, .string a.s, .int .i64 a.k, .int .i64 a.bit, .slice ka a.keep.length kc] 31 (0, 0)) := (by rw [hM2.block _ (by simp) (by have := HM1.out.lt; have := HMr.out.lt; omega) (fun b hb => by have := (HMr.out.lowL hb).2.1; omega) (fun b hb => by have := (HMr.out.lowW hb).2.1; omega)]; exact HX1.out); obtain ⟨x0_w2, x1_w2, x2_w2, x3_w2, x4_w2⟩ := row5 hx_w2; have e2 : w2.cell? ⟨0, 0, none⟩ = some (.iface 120 (.pointer (some (sa 1)))) := (by rw [hb2.cell (p := ⟨0, 0, none⟩) hgl]; exact HS.out.c1)))
                | (go_at_call 11; refine (write_any a.k a.s _ w2 D2 e2 hwl').mono ?_; rintro e w3 hw3; obtain ⟨rfl, va', vc', D3, hB3⟩ := wr_yes hin hs16 hw3; have M3 := M2.keep D2 hB3; have hb3 := D2.up hbw hb2 hB3)
                | (go_at_call 17; refine (coded_nil _ _).mono ?_; rintro e w4 ⟨rfl, hw⟩; rw [hw]; clear hw))
              have HST : Hid (St w bb mb N (j + 1) w3) := ⟨va', vc', la, lc, wa', wcp', bl, _, D3, M3, hbl, by simp; omega, hb3⟩
              obtain ⟨vaf, vcf, laf, lcf, waf, wcf, blf, wtf, hDf, hMf, hblf, hwlf, hBf⟩ := HST.out
              have HSF : Hid (w3.drew.cell? ⟨mb, 1, none⟩ = some (.slice waf wtf.length wcf)) := hMf.cells.2.1
              have HWT : Hid (Calls Tryd.prog 10 #[.pointer (some ⟨bb + 1, 0, none⟩)] w3.drew fun e w' => e = .returned (.int .i64 (wtf.length : Int)) ∧ w' = w3.drew) := waits_any _ (hDf.ext fun _ _ => rfl)
              have HLN : Hid (Calls Tryd.prog 22 #[.pointer (some ⟨bb + 1, 0, none⟩)] w3.drew fun e w' => e = .returned (.int .i64 (N : Int)) ∧ w' = w3.drew) := by
                have h := len_any w3.drew (hDf.ext fun _ _ => rfl)
                rw [hblf] at h
                exact h
              have HST2 : Hid (St w bb mb N (j + 1) w3.drew) := ⟨vaf, vcf, laf, lcf, waf, wcf, blf, wtf, hDf.ext fun _ _ => rfl, hMf.ext fun _ _ => rfl, hblf, hwlf, hBf.drew⟩
              clear hDf hMf hBf HST
              refine wp_region_held_drew (S := fun w' => w'.cell? ⟨mb, 1, none⟩ = some (.slice waf wtf.length wcf)) (by kernel_rfl) (HSF.out) (fun hHeld => ?_)
              refine wpAnyH_take (i := 0) (v := .pointer (some ⟨bb + 1, 0, none⟩)) rfl (by kernel_rfl) (by kernel_rfl) (by kernel_rfl) (fun _ _ _ h => h) (Or.inl ⟨by rfl, ?_⟩) hHeld ?_
              · intro w hSw; (try dsimp only at hSw); simp only [List.getElem_toArray, List.getElem_cons_zero]; go_simp
              simp only [List.getElem_toArray, List.getElem_cons_zero, Act.put, List.setIfInBounds_toArray, List.set_cons_zero, List.set_cons_succ]
              refine wpAnyH_take (i := 2) (v := .pointer (some ⟨mb, 0, none⟩)) rfl (by kernel_rfl) (by kernel_rfl) (by kernel_rfl) (fun _ _ _ h => h) (Or.inl ⟨by rfl, ?_⟩) hHeld ?_
              · intro w hSw; (try dsimp only at hSw); simp only [List.getElem_toArray, List.getElem_cons_zero, List.getElem_cons_succ]; go_simp
              simp only [List.getElem_toArray, List.getElem_cons_zero, List.getElem_cons_succ, Act.put, List.setIfInBounds_toArray, List.set_cons_zero, List.set_cons_succ]
              refine wpAnyH_take (i := 3) (v := .pointer (some ⟨mb, 0, none⟩)) rfl (by kernel_rfl) (by kernel_rfl) (by kernel_rfl) (fun _ _ _ h => h) (Or.inl ⟨by rfl, ?_⟩) hHeld ?_
              · intro w hSw; (try dsimp only at hSw); simp only [List.getElem_toArray, List.getElem_cons_zero, List.getElem_cons_succ]; go_simp
              simp only [List.getElem_toArray, List.getElem_cons_zero, List.getElem_cons_succ, Act.put, List.setIfInBounds_toArray, List.set_cons_zero, List.set_cons_succ]
              refine wpAnyH_take (i := 4) (v := .pointer (some ⟨mb, 1, none⟩)) rfl (by kernel_rfl) (by kernel_rfl) (by kernel_rfl) (fun _ _ _ h => h) (Or.inl ⟨by rfl, ?_⟩) hHeld ?_
              · intro w hSw; (try dsimp only at hSw); simp only [List.getElem_toArray, List.getElem_cons_zero, List.getElem_cons_succ]; go_simp
              simp only [List.getElem_toArray, List.getElem_cons_zero, List.getElem_cons_succ, Act.put, List.setIfInBounds_toArray, List.set_cons_zero, List.set_cons_succ]
              refine wpAnyH_take (i := 5) (v := .slice waf wtf.length wcf) rfl (by kernel_rfl) (by kernel_rfl) (by kernel_rfl) (fun _ _ _ h => h) (Or.inl ⟨by rfl, ?_⟩) hHeld ?_
              · intro w hSw; (try dsimp only at hSw); simp only [List.getElem_toArray, List.getElem_cons_zero, List.getElem_cons_succ]; go_simp
              simp only [List.getElem_toArray, List.getElem_cons_zero, List.getElem_cons_succ, Act.put, List.setIfInBounds_toArray, List.set_cons_zero, List.set_cons_succ]
              refine wpAnyH_take (i := 6) (v := .int .i64 (wtf.length : Int)) rfl (by kernel_rfl) (by kernel_rfl) (by kernel_rfl) (fun _ _ _ h => h) (Or.inl ⟨by rfl, ?_⟩) hHeld ?_
              · intro w hSw; (try dsimp only at hSw); simp only [List.getElem_toArray, List.getElem_cons_zero, List.getElem_cons_succ]; go_simp
              simp only [List.getElem_toArray, List.getElem_cons_zero, List.getElem_cons_succ, Act.put, List.setIfInBounds_toArray, List.set_cons_zero, List.set_cons_succ]
              refine wpAnyH_ready (rs := [1]) (by kernel_rfl) (by simp) ?_
              refine AllReadyH.cons rfl (fun K' hK' => ?_) AllReadyH.nil
              simp only [List.getElem_toArray, List.getElem_cons_zero, List.getElem_cons_succ]
              go_simp
              refine Calls.mono (HWT.out) ?_
              rintro e wx ⟨rfl, hwx⟩
              rw [hwx]
              clear hwx
              go_wp2_with fail
              refine hK'.out _ _ HSF.out (fun hHeld' => ?_)
              clear hK' K' hHeld
              have hHeld := hHeld'
              clear hHeld'
              refine wpAnyH_take (i := 7) (v := .bool false) rfl (by kernel_rfl) (by kernel_rfl) (by kernel_rfl) (fun _ _ _ h => h) (Or.inl ⟨by rfl, ?_⟩) hHeld ?_
              · intro w hSw; (try dsimp only at hSw); simp only [List.getElem_toArray, List.getElem_cons_zero, List.getElem_cons_succ]; go_simp
              simp only [List.getElem_toArray, List.getElem_cons_zero, List.getElem_cons_succ, Act.put, List.setIfInBounds_toArray, List.set_cons_zero, List.set_cons_succ]
              refine wpAnyH_take (i := 8) (v := .bool false) rfl (by kernel_rfl) (by kernel_rfl) (by kernel_rfl) (fun _ _ _ h => h) (Or.inl ⟨by rfl, ?_⟩) hHeld ?_
              · intro w hSw; (try dsimp only at hSw); simp only [List.getElem_toArray, List.getElem_cons_zero, List.getElem_cons_succ]; go_simp
              simp only [List.getElem_toArray, List.getElem_cons_zero, List.getElem_cons_succ, Act.put, List.setIfInBounds_toArray, List.set_cons_zero, List.set_cons_succ]
              refine wpAnyH_take (i := 9) (v := .pointer (some ⟨bb + 1, 0, none⟩)) rfl (by kernel_rfl) (by kernel_rfl) (by kernel_rfl) (fun _ _ _ h => h) (Or.inl ⟨by rfl, ?_⟩) hHeld ?_
              · intro w hSw; (try dsimp only at hSw); simp only [List.getElem_toArray, List.getElem_cons_zero, List.getElem_cons_succ]; go_simp
              simp only [List.getElem_toArray, List.getElem_cons_zero, List.getElem_cons_succ, Act.put, List.setIfInBounds_toArray, List.set_cons_zero, List.set_cons_succ]
              refine wpAnyH_take (i := 11) (v := .int .i64 (N : Int)) rfl (by kernel_rfl) (by kernel_rfl) (by kernel_rfl) (fun _ _ _ h => h) (Or.inl ⟨by rfl, ?_⟩) hHeld ?_
              · intro w hSw; (try dsimp only at hSw); simp only [List.getElem_toArray, List.getElem_cons_zero, List.getElem_cons_succ]; go_simp
              simp only [List.getElem_toArray, List.getElem_cons_zero, List.getElem_cons_succ, Act.put, List.setIfInBounds_toArray, List.set_cons_zero, List.set_cons_succ]
              refine wpAnyH_ready (rs := [10]) (by kernel_rfl) (by simp) ?_
              refine AllReadyH.cons rfl (fun K' hK' => ?_) AllReadyH.nil
              simp only [List.getElem_toArray, List.getElem_cons_zero, List.getElem_cons_succ]
              go_simp
              refine Calls.mono (HLN.out) ?_
              rintro e wx ⟨rfl, hwx⟩
              rw [hwx]
              clear hwx
              go_wp2_with fail
              refine hK'.out _ _ HSF.out (fun hHeld' => ?_)
              clear hK' K' hHeld
              have hHeld := hHeld'
              clear hHeld'
              refine wpAnyH_take (i := 12) (v := .bool false) rfl (by kernel_rfl) (by kernel_rfl) (by kernel_rfl) (fun _ _ _ h => h) (Or.inl ⟨by rfl, ?_⟩) hHeld ?_
              · intro w hSw; (try dsimp only at hSw); simp only [List.getElem_toArray, List.getElem_cons_zero, List.getElem_cons_succ]; go_simp
              simp only [List.getElem_toArray, List.getElem_cons_zero, List.getElem_cons_succ, Act.put, List.setIfInBounds_toArray, List.set_cons_zero, List.set_cons_succ]
              refine wpAnyH_take (i := 13) (v := .bool false) rfl (by kernel_rfl) (by kernel_rfl) (by kernel_rfl) (fun _ _ _ h => h) (Or.inl ⟨by rfl, ?_⟩) hHeld ?_
              · intro w hSw; (try dsimp only at hSw); simp only [List.getElem_toArray, List.getElem_cons_zero, List.getElem_cons_succ]; go_simp
              simp only [List.getElem_toArray, List.getElem_cons_zero, List.getElem_cons_succ, Act.put, List.setIfInBounds_toArray, List.set_cons_zero, List.set_cons_succ]
              refine wpAnyH_done (by kernel_rfl) ?_ _
              go_wp2_with fail
              exact ⟨⟨j + 1, by omega, by simp, HST2.out⟩, by simp [intOf]; omega⟩
            · skip
              have hs16' : ((a.s.size : Int) == 16) = false := beq_eq_false_iff_ne.2 (by omega)
              have hno : hasB bl.length a.k = false ∨ a.s.size ≠ 16 := .inr hs16
              have hd2 : decide ((2 : Int) = ((1 : Nat) : Int) + 1) = true := rfl
              have hd3 : decide ((2 : Int) = 1 + 1) = true := rfl
              clear hD hM hB
              go_wp2_with (first
                | (go_at_call 11; refine (write_any a.k a.s _ (wr.alloc (.cells #[.string a.kind, .string a.s, .int .i64 a.k, .int .i64 a.bit, .slice ka a.keep.length kc] 31)) HD1.out HE1.out hwl').mono ?_; rintro e w3 hw3; obtain ⟨rfl, D3, hB3⟩ := wr_no hno hw3; have M3 := HM1.out.below (Nat.le_refl _) hB3; have hb3 := HB1.out.trans (hB3.mono HB1.out.size))
                | (go_at_call 17; refine (coded_sent sa 1 2 _ (HS.out.below hb3) (by omega)).mono ?_; rintro e w4 ⟨rfl, hb4⟩))
              have HST : Hid (St w bb mb N (j + 1) w4) := ⟨va, vc, la, lc, wa, wcp, bl, wt, D3.below (Nat.le_refl _) hb4, M3.below (Nat.le_refl _) hb4, hbl, by omega, hb3.trans (hb4.mono hb3.size)⟩
              obtain ⟨vaf, vcf, laf, lcf, waf, wcf, blf, wtf, hDf, hMf, hblf, hwlf, hBf⟩ := HST.out
              have HSF : Hid (w4.drew.cell? ⟨mb, 1, none⟩ = some (.slice waf wtf.length wcf)) := hMf.cells.2.1
              have HWT : Hid (Calls Tryd.prog 10 #[.pointer (some ⟨bb + 1, 0, none⟩)] w4.drew fun e w' => e = .returned (.int .i64 (wtf.length : Int)) ∧ w' = w4.drew) := waits_any _ (hDf.ext fun _ _ => rfl)
              have HLN : Hid (Calls Tryd.prog 22 #[.pointer (some ⟨bb + 1, 0, none⟩)] w4.drew fun e w' => e = .returned (.int .i64 (N : Int)) ∧ w' = w4.drew) := by
                have h := len_any w4.drew (hDf.ext fun _ _ => rfl)
                rw [hblf] at h
                exact h
              have HST2 : Hid (St w bb mb N (j + 1) w4.drew) := ⟨vaf, vcf, laf, lcf, waf, wcf, blf, wtf, hDf.ext fun _ _ => rfl, hMf.ext fun _ _ => rfl, hblf, hwlf, hBf.drew⟩
              clear hDf hMf hBf HST
              refine wp_region_held_drew (S := fun w' => w'.cell? ⟨mb, 1, none⟩ = some (.slice waf wtf.length wcf)) (by kernel_rfl) (HSF.out) (fun hHeld => ?_)
              refine wpAnyH_take (i := 0) (v := .pointer (some ⟨bb + 1, 0, none⟩)) rfl (by kernel_rfl) (by kernel_rfl) (by kernel_rfl) (fun _ _ _ h => h) (Or.inl ⟨by rfl, ?_⟩) hHeld ?_
              · intro w hSw; (try dsimp only at hSw); simp only [List.getElem_toArray, List.getElem_cons_zero]; go_simp
              simp only [List.getElem_toArray, List.getElem_cons_zero, Act.put, List.setIfInBounds_toArray, List.set_cons_zero, List.set_cons_succ]
              refine wpAnyH_take (i := 2) (v := .pointer (some ⟨mb, 0, none⟩)) rfl (by kernel_rfl) (by kernel_rfl) (by kernel_rfl) (fun _ _ _ h => h) (Or.inl ⟨by rfl, ?_⟩) hHeld ?_
              · intro w hSw; (try dsimp only at hSw); simp only [List.getElem_toArray, List.getElem_cons_zero, List.getElem_cons_succ]; go_simp
              simp only [List.getElem_toArray, List.getElem_cons_zero, List.getElem_cons_succ, Act.put, List.setIfInBounds_toArray, List.set_cons_zero, List.set_cons_succ]
              refine wpAnyH_take (i := 3) (v := .pointer (some ⟨mb, 0, none⟩)) rfl (by kernel_rfl) (by kernel_rfl) (by kernel_rfl) (fun _ _ _ h => h) (Or.inl ⟨by rfl, ?_⟩) hHeld ?_
              · intro w hSw; (try dsimp only at hSw); simp only [List.getElem_toArray, List.getElem_cons_zero, List.getElem_cons_succ]; go_simp
              simp only [List.getElem_toArray, List.getElem_cons_zero, List.getElem_cons_succ, Act.put, List.setIfInBounds_toArray, List.set_cons_zero, List.set_cons_succ]
              refine wpAnyH_take (i := 4) (v := .pointer (some ⟨mb, 1, none⟩)) rfl (by kernel_rfl) (by kernel_rfl) (by kernel_rfl) (fun _ _ _ h => h) (Or.inl ⟨by rfl, ?_⟩) hHeld ?_
              · intro w hSw; (try dsimp only at hSw); simp only [List.getElem_toArray, List.getElem_cons_zero, List.getElem_cons_succ]; go_simp
              simp only [List.getElem_toArray, List.getElem_cons_zero, List.getElem_cons_succ, Act.put, List.setIfInBounds_toArray, List.set_cons_zero, List.set_cons_succ]
              refine wpAnyH_take (i := 5) (v := .slice waf wtf.length wcf) rfl (by kernel_rfl) (by kernel_rfl) (by kernel_rfl) (fun _ _ _ h => h) (Or.inl ⟨by rfl, ?_⟩) hHeld ?_
              · intro w hSw; (try dsimp only at hSw); simp only [List.getElem_toArray, List.getElem_cons_zero, List.getElem_cons_succ]; go_simp
              simp only [List.getElem_toArray, List.getElem_cons_zero, List.getElem_cons_succ, Act.put, List.setIfInBounds_toArray, List.set_cons_zero, List.set_cons_succ]
              refine wpAnyH_take (i := 6) (v := .int .i64 (wtf.length : Int)) rfl (by kernel_rfl) (by kernel_rfl) (by kernel_rfl) (fun _ _ _ h => h) (Or.inl ⟨by rfl, ?_⟩) hHeld ?_
              · intro w hSw; (try dsimp only at hSw); simp only [List.getElem_toArray, List.getElem_cons_zero, List.getElem_cons_succ]; go_simp
              simp only [List.getElem_toArray, List.getElem_cons_zero, List.getElem_cons_succ, Act.put, List.setIfInBounds_toArray, List.set_cons_zero, List.set_cons_succ]
              refine wpAnyH_ready (rs := [1]) (by kernel_rfl) (by simp) ?_
              refine AllReadyH.cons rfl (fun K' hK' => ?_) AllReadyH.nil
              simp only [List.getElem_toArray, List.getElem_cons_zero, List.getElem_cons_succ]
              go_simp
              refine Calls.mono (HWT.out) ?_
              rintro e wx ⟨rfl, hwx⟩
              rw [hwx]
              clear hwx
              go_wp2_with fail
              refine hK'.out _ _ HSF.out (fun hHeld' => ?_)
              clear hK' K' hHeld
              have hHeld := hHeld'
              clear hHeld'
              refine wpAnyH_take (i := 7) (v := .bool false) rfl (by kernel_rfl) (by kernel_rfl) (by kernel_rfl) (fun _ _ _ h => h) (Or.inl ⟨by rfl, ?_⟩) hHeld ?_
              · intro w hSw; (try dsimp only at hSw); simp only [List.getElem_toArray, List.getElem_cons_zero, List.getElem_cons_succ]; go_simp
              simp only [List.getElem_toArray, List.getElem_cons_zero, List.getElem_cons_succ, Act.put, List.setIfInBounds_toArray, List.set_cons_zero, List.set_cons_succ]
              refine wpAnyH_take (i := 8) (v := .bool false) rfl (by kernel_rfl) (by kernel_rfl) (by kernel_rfl) (fun _ _ _ h => h) (Or.inl ⟨by rfl, ?_⟩) hHeld ?_
              · intro w hSw; (try dsimp only at hSw); simp only [List.getElem_toArray, List.getElem_cons_zero, List.getElem_cons_succ]; go_simp
              simp only [List.getElem_toArray, List.getElem_cons_zero, List.getElem_cons_succ, Act.put, List.setIfInBounds_toArray, List.set_cons_zero, List.set_cons_succ]
              refine wpAnyH_take (i := 9) (v := .pointer (some ⟨bb + 1, 0, none⟩)) rfl (by kernel_rfl) (by kernel_rfl) (by kernel_rfl) (fun _ _ _ h => h) (Or.inl ⟨by rfl, ?_⟩) hHeld ?_
              · intro w hSw; (try dsimp only at hSw); simp only [List.getElem_toArray, List.getElem_cons_zero, List.getElem_cons_succ]; go_simp
              simp only [List.getElem_toArray, List.getElem_cons_zero, List.getElem_cons_succ, Act.put, List.setIfInBounds_toArray, List.set_cons_zero, List.set_cons_succ]
              refine wpAnyH_take (i := 11) (v := .int .i64 (N : Int)) rfl (by kernel_rfl) (by kernel_rfl) (by kernel_rfl) (fun _ _ _ h => h) (Or.inl ⟨by rfl, ?_⟩) hHeld ?_
              · intro w hSw; (try dsimp only at hSw); simp only [List.getElem_toArray, List.getElem_cons_zero, List.getElem_cons_succ]; go_simp
              simp only [List.getElem_toArray, List.getElem_cons_zero, List.getElem_cons_succ, Act.put, List.setIfInBounds_toArray, List.set_cons_zero, List.set_cons_succ]
              refine wpAnyH_ready (rs := [10]) (by kernel_rfl) (by simp) ?_
              refine AllReadyH.cons rfl (fun K' hK' => ?_) AllReadyH.nil
              simp only [List.getElem_toArray, List.getElem_cons_zero, List.getElem_cons_succ]
              go_simp
              refine Calls.mono (HLN.out) ?_
              rintro e wx ⟨rfl, hwx⟩
              rw [hwx]
              clear hwx
              go_wp2_with fail
              refine hK'.out _ _ HSF.out (fun hHeld' => ?_)
              clear hK' K' hHeld
              have hHeld := hHeld'
              clear hHeld'
              refine wpAnyH_take (i := 12) (v := .bool false) rfl (by kernel_rfl) (by kernel_rfl) (by kernel_rfl) (fun _ _ _ h => h) (Or.inl ⟨by rfl, ?_⟩) hHeld ?_
              · intro w hSw; (try dsimp only at hSw); simp only [List.getElem_toArray, List.getElem_cons_zero, List.getElem_cons_succ]; go_simp
              simp only [List.getElem_toArray, List.getElem_cons_zero, List.getElem_cons_succ, Act.put, List.setIfInBounds_toArray, List.set_cons_zero, List.set_cons_succ]
              refine wpAnyH_take (i := 13) (v := .bool false) rfl (by kernel_rfl) (by kernel_rfl) (by kernel_rfl) (fun _ _ _ h => h) (Or.inl ⟨by rfl, ?_⟩) hHeld ?_
              · intro w hSw; (try dsimp only at hSw); simp only [List.getElem_toArray, List.getElem_cons_zero, List.getElem_cons_succ]; go_simp
              simp only [List.getElem_toArray, List.getElem_cons_zero, List.getElem_cons_succ, Act.put, List.setIfInBounds_toArray, List.set_cons_zero, List.set_cons_succ]
              refine wpAnyH_done (by kernel_rfl) ?_ _
              go_wp2_with fail
              exact ⟨⟨j + 1, by omega, by simp, HST2.out⟩, by simp [intOf]; omega⟩
          | false =>
            cases kb : (a.kind.toList == [98, 97, 114, 114, 105, 101, 114]) with
            | true =>
              clear hD hM hB
              go_wp2_with (first
                | (go_at_call 7; refine (barrier_any (wr.alloc (.cells #[.string a.kind, .string a.s, .int .i64 a.k, .int .i64 a.bit, .slice ka a.keep.length kc] 31)) HD1.out hwl').mono ?_; rintro e w2 ⟨rfl, D2, hB2⟩; have M2 := HM1.out.keep HD1.out hB2; have hb2 := HD1.out.up hbw HB1.out hB2)
                | (go_at_call 20; refine (crashM_any (.slice none 0 0) [] true w2 M2 hwl' HWL.out (fun W _ => IntsAt.nil W) (by simp)).mono ?_; rintro e w3 ⟨rfl, M3, hM3⟩; have D3 := D2.keep M2 hM3; have hb3 := M2.up hmw hb2 hM3))
              have e3 : keepAll true [] = fun _ => true := rfl
              rw [e3] at M3
              have HST : Hid (St w bb mb N (j + 1) w3) := ⟨none, 0, la, lc, none, 0, _, [], D3, M3, by rw [setl_len]; exact hbl, by simp, hb3⟩
              obtain ⟨vaf, vcf, laf, lcf, waf, wcf, blf, wtf, hDf, hMf, hblf, hwlf, hBf⟩ := HST.out
              have HSF : Hid (w3.drew.cell? ⟨mb, 1, none⟩ = some (.slice waf wtf.length wcf)) := hMf.cells.2.1
              have HWT : Hid (Calls Tryd.prog 10 #[.pointer (some ⟨bb + 1, 0, none⟩)] w3.drew fun e w' => e = .returned (.int .i64 (wtf.length : Int)) ∧ w' = w3.drew) := waits_any _ (hDf.ext fun _ _ => rfl)
              have HLN : Hid (Calls Tryd.prog 22 #[.pointer (some ⟨bb + 1, 0, none⟩)] w3.drew fun e w' => e = .returned (.int .i64 (N : Int)) ∧ w' = w3.drew) := by
                have h := len_any w3.drew (hDf.ext fun _ _ => rfl)
                rw [hblf] at h
                exact h
              have HST2 : Hid (St w bb mb N (j + 1) w3.drew) := ⟨vaf, vcf, laf, lcf, waf, wcf, blf, wtf, hDf.ext fun _ _ => rfl, hMf.ext fun _ _ => rfl, hblf, hwlf, hBf.drew⟩
              clear hDf hMf hBf HST
              refine wp_region_held_drew (S := fun w' => w'.cell? ⟨mb, 1, none⟩ = some (.slice waf wtf.length wcf)) (by kernel_rfl) (HSF.out) (fun hHeld => ?_)
              refine wpAnyH_take (i := 0) (v := .pointer (some ⟨bb + 1, 0, none⟩)) rfl (by kernel_rfl) (by kernel_rfl) (by kernel_rfl) (fun _ _ _ h => h) (Or.inl ⟨by rfl, ?_⟩) hHeld ?_
              · intro w hSw; (try dsimp only at hSw); simp only [List.getElem_toArray, List.getElem_cons_zero]; go_simp
              simp only [List.getElem_toArray, List.getElem_cons_zero, Act.put, List.setIfInBounds_toArray, List.set_cons_zero, List.set_cons_succ]
              refine wpAnyH_take (i := 2) (v := .pointer (some ⟨mb, 0, none⟩)) rfl (by kernel_rfl) (by kernel_rfl) (by kernel_rfl) (fun _ _ _ h => h) (Or.inl ⟨by rfl, ?_⟩) hHeld ?_
              · intro w hSw; (try dsimp only at hSw); simp only [List.getElem_toArray, List.getElem_cons_zero, List.getElem_cons_succ]; go_simp
              simp only [List.getElem_toArray, List.getElem_cons_zero, List.getElem_cons_succ, Act.put, List.setIfInBounds_toArray, List.set_cons_zero, List.set_cons_succ]
              refine wpAnyH_take (i := 3) (v := .pointer (some ⟨mb, 0, none⟩)) rfl (by kernel_rfl) (by kernel_rfl) (by kernel_rfl) (fun _ _ _ h => h) (Or.inl ⟨by rfl, ?_⟩) hHeld ?_
              · intro w hSw; (try dsimp only at hSw); simp only [List.getElem_toArray, List.getElem_cons_zero, List.getElem_cons_succ]; go_simp
              simp only [List.getElem_toArray, List.getElem_cons_zero, List.getElem_cons_succ, Act.put, List.setIfInBounds_toArray, List.set_cons_zero, List.set_cons_succ]
              refine wpAnyH_take (i := 4) (v := .pointer (some ⟨mb, 1, none⟩)) rfl (by kernel_rfl) (by kernel_rfl) (by kernel_rfl) (fun _ _ _ h => h) (Or.inl ⟨by rfl, ?_⟩) hHeld ?_
              · intro w hSw; (try dsimp only at hSw); simp only [List.getElem_toArray, List.getElem_cons_zero, List.getElem_cons_succ]; go_simp
              simp only [List.getElem_toArray, List.getElem_cons_zero, List.getElem_cons_succ, Act.put, List.setIfInBounds_toArray, List.set_cons_zero, List.set_cons_succ]
              refine wpAnyH_take (i := 5) (v := .slice waf wtf.length wcf) rfl (by kernel_rfl) (by kernel_rfl) (by kernel_rfl) (fun _ _ _ h => h) (Or.inl ⟨by rfl, ?_⟩) hHeld ?_
              · intro w hSw; (try dsimp only at hSw); simp only [List.getElem_toArray, List.getElem_cons_zero, List.getElem_cons_succ]; go_simp
              simp only [List.getElem_toArray, List.getElem_cons_zero, List.getElem_cons_succ, Act.put, List.setIfInBounds_toArray, List.set_cons_zero, List.set_cons_succ]
              refine wpAnyH_take (i := 6) (v := .int .i64 (wtf.length : Int)) rfl (by kernel_rfl) (by kernel_rfl) (by kernel_rfl) (fun _ _ _ h => h) (Or.inl ⟨by rfl, ?_⟩) hHeld ?_
              · intro w hSw; (try dsimp only at hSw); simp only [List.getElem_toArray, List.getElem_cons_zero, List.getElem_cons_succ]; go_simp
              simp only [List.getElem_toArray, List.getElem_cons_zero, List.getElem_cons_succ, Act.put, List.setIfInBounds_toArray, List.set_cons_zero, List.set_cons_succ]
              refine wpAnyH_ready (rs := [1]) (by kernel_rfl) (by simp) ?_
              refine AllReadyH.cons rfl (fun K' hK' => ?_) AllReadyH.nil
              simp only [List.getElem_toArray, List.getElem_cons_zero, List.getElem_cons_succ]
              go_simp
              refine Calls.mono (HWT.out) ?_
              rintro e wx ⟨rfl, hwx⟩
              rw [hwx]
              clear hwx
              go_wp2_with fail
              refine hK'.out _ _ HSF.out (fun hHeld' => ?_)
              clear hK' K' hHeld
              have hHeld := hHeld'
              clear hHeld'
              refine wpAnyH_take (i := 7) (v := .bool false) rfl (by kernel_rfl) (by kernel_rfl) (by kernel_rfl) (fun _ _ _ h => h) (Or.inl ⟨by rfl, ?_⟩) hHeld ?_
              · intro w hSw; (try dsimp only at hSw); simp only [List.getElem_toArray, List.getElem_cons_zero, List.getElem_cons_succ]; go_simp
              simp only [List.getElem_toArray, List.getElem_cons_zero, List.getElem_cons_succ, Act.put, List.setIfInBounds_toArray, List.set_cons_zero, List.set_cons_succ]
              refine wpAnyH_take (i := 8) (v := .bool false) rfl (by kernel_rfl) (by kernel_rfl) (by kernel_rfl) (fun _ _ _ h => h) (Or.inl ⟨by rfl, ?_⟩) hHeld ?_
              · intro w hSw; (try dsimp only at hSw); simp only [List.getElem_toArray, List.getElem_cons_zero, List.getElem_cons_succ]; go_simp
              simp only [List.getElem_toArray, List.getElem_cons_zero, List.getElem_cons_succ, Act.put, List.setIfInBounds_toArray, List.set_cons_zero, List.set_cons_succ]
              refine wpAnyH_take (i := 9) (v := .pointer (some ⟨bb + 1, 0, none⟩)) rfl (by kernel_rfl) (by kernel_rfl) (by kernel_rfl) (fun _ _ _ h => h) (Or.inl ⟨by rfl, ?_⟩) hHeld ?_
              · intro w hSw; (try dsimp only at hSw); simp only [List.getElem_toArray, List.getElem_cons_zero, List.getElem_cons_succ]; go_simp
              simp only [List.getElem_toArray, List.getElem_cons_zero, List.getElem_cons_succ, Act.put, List.setIfInBounds_toArray, List.set_cons_zero, List.set_cons_succ]
              refine wpAnyH_take (i := 11) (v := .int .i64 (N : Int)) rfl (by kernel_rfl) (by kernel_rfl) (by kernel_rfl) (fun _ _ _ h => h) (Or.inl ⟨by rfl, ?_⟩) hHeld ?_
              · intro w hSw; (try dsimp only at hSw); simp only [List.getElem_toArray, List.getElem_cons_zero, List.getElem_cons_succ]; go_simp
              simp only [List.getElem_toArray, List.getElem_cons_zero, List.getElem_cons_succ, Act.put, List.setIfInBounds_toArray, List.set_cons_zero, List.set_cons_succ]
              refine wpAnyH_ready (rs := [10]) (by kernel_rfl) (by simp) ?_
              refine AllReadyH.cons rfl (fun K' hK' => ?_) AllReadyH.nil
              simp only [List.getElem_toArray, List.getElem_cons_zero, List.getElem_cons_succ]
              go_simp
              refine Calls.mono (HLN.out) ?_
              rintro e wx ⟨rfl, hwx⟩
              rw [hwx]
              clear hwx
              go_wp2_with fail
              refine hK'.out _ _ HSF.out (fun hHeld' => ?_)
              clear hK' K' hHeld
              have hHeld := hHeld'
              clear hHeld'
              refine wpAnyH_take (i := 12) (v := .bool false) rfl (by kernel_rfl) (by kernel_rfl) (by kernel_rfl) (fun _ _ _ h => h) (Or.inl ⟨by rfl, ?_⟩) hHeld ?_
              · intro w hSw; (try dsimp only at hSw); simp only [List.getElem_toArray, List.getElem_cons_zero, List.getElem_cons_succ]; go_simp
              simp only [List.getElem_toArray, List.getElem_cons_zero, List.getElem_cons_succ, Act.put, List.setIfInBounds_toArray, List.set_cons_zero, List.set_cons_succ]
              refine wpAnyH_take (i := 13) (v := .bool false) rfl (by kernel_rfl) (by kernel_rfl) (by kernel_rfl) (fun _ _ _ h => h) (Or.inl ⟨by rfl, ?_⟩) hHeld ?_
              · intro w hSw; (try dsimp only at hSw); simp only [List.getElem_toArray, List.getElem_cons_zero, List.getElem_cons_succ]; go_simp
              simp only [List.getElem_toArray, List.getElem_cons_zero, List.getElem_cons_succ, Act.put, List.setIfInBounds_toArray, List.set_cons_zero, List.set_cons_succ]
              refine wpAnyH_done (by kernel_rfl) ?_ _
              go_wp2_with fail
              exact ⟨⟨j + 1, by omega, by simp, HST2.out⟩, by simp [intOf]; omega⟩
            | false =>
              cases kc' : (a.kind.toList == [99, 114, 97, 115, 104]) with
              | true =>
                have HKV : Hid (IntsAt w (.slice ka a.keep.length kc) a.keep) := hki.out
                clear hD hM hB
                go_wp2_with (first
                  | (go_at_call 13; refine (ownInts_any _ a.keep (wr.alloc (.cells #[.string a.kind, .string a.s, .int .i64 a.k, .int .i64 a.bit, .slice ka a.keep.length kc] 31)) (HKV.out.below HB1.out) (by omega)).mono ?_; rintro e w2 ⟨v2, rfl, hi2, hb2⟩; have D2 := HD1.out.below (Nat.le_refl _) hb2; have M2 := HM1.out.below (Nat.le_refl _) hb2; have hB2 := HB1.out.trans (hb2.mono HB1.out.size))
                  | (go_at_call 9; refine (crash_any v2 a.keep w2 D2 hwl' hi2 (by omega)).mono ?_; rintro e w3 ⟨rfl, D3, hB3⟩; have M3 := M2.keep D2 hB3; have hb3 := D2.up hbw hB2 hB3; have hx_w3 : w3.heap[wr.heap.size]? = some (.cells #[.string a.kind, .string a.s, .int .i64 a.k, .int .i64 a.bit, .slice ka a.keep.length kc] 31 (0, 0)) := (by rw [hB3.block _ (by have := hb2.size; simp at this ⊢; omega) (by have := HDr.out.lt; omega) (by have := HDr.out.lt; omega) (fun b hb => by have := (HDr.out.low b hb).2.1; omega), hb2.block _ (by simp)]; exact HX1.out); obtain ⟨x0_w3, x1_w3, x2_w3, x3_w3, x4_w3⟩ := row5 hx_w3)
                  | (go_at_call 20; refine (crashM_any (.slice ka a.keep.length kc) a.keep false w3 M3 hwl' HWL.out (fun W hW => HKV.out.below (M3.up hmw hb3 hW)) (by omega)).mono ?_; rintro e w4 ⟨rfl, M4, hM4⟩; have D4 := D3.keep M3 hM4; have hb4 := M3.up hmw hb3 hM4))
                have e4 : setl (keptB wt.length a.keep) wt bl wt.length = setl (keepAll false a.keep) wt bl wt.length := setl_congr _ fun i hi => (by rw [kept_has _ _ _ hi]; rfl)
                rw [e4] at D4
                have HST : Hid (St w bb mb N (j + 1) w4) := ⟨none, 0, la, lc, none, 0, _, [], D4, M4, by rw [setl_len]; exact hbl, by simp, hb4⟩
                obtain ⟨vaf, vcf, laf, lcf, waf, wcf, blf, wtf, hDf, hMf, hblf, hwlf, hBf⟩ := HST.out
                have HSF : Hid (w4.drew.cell? ⟨mb, 1, none⟩ = some (.slice waf wtf.length wcf)) := hMf.cells.2.1
                have HWT : Hid (Calls Tryd.prog 10 #[.pointer (some ⟨bb + 1, 0, none⟩)] w4.drew fun e w' => e = .returned (.int .i64 (wtf.length : Int)) ∧ w' = w4.drew) := waits_any _ (hDf.ext fun _ _ => rfl)
                have HLN : Hid (Calls Tryd.prog 22 #[.pointer (some ⟨bb + 1, 0, none⟩)] w4.drew fun e w' => e = .returned (.int .i64 (N : Int)) ∧ w' = w4.drew) := by
                  have h := len_any w4.drew (hDf.ext fun _ _ => rfl)
                  rw [hblf] at h
                  exact h
                have HST2 : Hid (St w bb mb N (j + 1) w4.drew) := ⟨vaf, vcf, laf, lcf, waf, wcf, blf, wtf, hDf.ext fun _ _ => rfl, hMf.ext fun _ _ => rfl, hblf, hwlf, hBf.drew⟩
                clear hDf hMf hBf HST
                refine wp_region_held_drew (S := fun w' => w'.cell? ⟨mb, 1, none⟩ = some (.slice waf wtf.length wcf)) (by kernel_rfl) (HSF.out) (fun hHeld => ?_)
                refine wpAnyH_take (i := 0) (v := .pointer (some ⟨bb + 1, 0, none⟩)) rfl (by kernel_rfl) (by kernel_rfl) (by kernel_rfl) (fun _ _ _ h => h) (Or.inl ⟨by rfl, ?_⟩) hHeld ?_
                · intro w hSw; (try dsimp only at hSw); simp only [List.getElem_toArray, List.getElem_cons_zero]; go_simp
                simp only [List.getElem_toArray, List.getElem_cons_zero, Act.put, List.setIfInBounds_toArray, List.set_cons_zero, List.set_cons_succ]
                refine wpAnyH_take (i := 2) (v := .pointer (some ⟨mb, 0, none⟩)) rfl (by kernel_rfl) (by kernel_rfl) (by kernel_rfl) (fun _ _ _ h => h) (Or.inl ⟨by rfl, ?_⟩) hHeld ?_
                · intro w hSw; (try dsimp only at hSw); simp only [List.getElem_toArray, List.getElem_cons_zero, List.getElem_cons_succ]; go_simp
                simp only [List.getElem_toArray, List.getElem_cons_zero, List.getElem_cons_succ, Act.put, List.setIfInBounds_toArray, List.set_cons_zero, List.set_cons_succ]
                refine wpAnyH_take (i := 3) (v := .pointer (some ⟨mb, 0, none⟩)) rfl (by kernel_rfl) (by kernel_rfl) (by kernel_rfl) (fun _ _ _ h => h) (Or.inl ⟨by rfl, ?_⟩) hHeld ?_
                · intro w hSw; (try dsimp only at hSw); simp only [List.getElem_toArray, List.getElem_cons_zero, List.getElem_cons_succ]; go_simp
                simp only [List.getElem_toArray, List.getElem_cons_zero, List.getElem_cons_succ, Act.put, List.setIfInBounds_toArray, List.set_cons_zero, List.set_cons_succ]
                refine wpAnyH_take (i := 4) (v := .pointer (some ⟨mb, 1, none⟩)) rfl (by kernel_rfl) (by kernel_rfl) (by kernel_rfl) (fun _ _ _ h => h) (Or.inl ⟨by rfl, ?_⟩) hHeld ?_
                · intro w hSw; (try dsimp only at hSw); simp only [List.getElem_toArray, List.getElem_cons_zero, List.getElem_cons_succ]; go_simp
                simp only [List.getElem_toArray, List.getElem_cons_zero, List.getElem_cons_succ, Act.put, List.setIfInBounds_toArray, List.set_cons_zero, List.set_cons_succ]
                refine wpAnyH_take (i := 5) (v := .slice waf wtf.length wcf) rfl (by kernel_rfl) (by kernel_rfl) (by kernel_rfl) (fun _ _ _ h => h) (Or.inl ⟨by rfl, ?_⟩) hHeld ?_
                · intro w hSw; (try dsimp only at hSw); simp only [List.getElem_toArray, List.getElem_cons_zero, List.getElem_cons_succ]; go_simp
                simp only [List.getElem_toArray, List.getElem_cons_zero, List.getElem_cons_succ, Act.put, List.setIfInBounds_toArray, List.set_cons_zero, List.set_cons_succ]
                refine wpAnyH_take (i := 6) (v := .int .i64 (wtf.length : Int)) rfl (by kernel_rfl) (by kernel_rfl) (by kernel_rfl) (fun _ _ _ h => h) (Or.inl ⟨by rfl, ?_⟩) hHeld ?_
                · intro w hSw; (try dsimp only at hSw); simp only [List.getElem_toArray, List.getElem_cons_zero, List.getElem_cons_succ]; go_simp
                simp only [List.getElem_toArray, List.getElem_cons_zero, List.getElem_cons_succ, Act.put, List.setIfInBounds_toArray, List.set_cons_zero, List.set_cons_succ]
                refine wpAnyH_ready (rs := [1]) (by kernel_rfl) (by simp) ?_
                refine AllReadyH.cons rfl (fun K' hK' => ?_) AllReadyH.nil
                simp only [List.getElem_toArray, List.getElem_cons_zero, List.getElem_cons_succ]
                go_simp
                refine Calls.mono (HWT.out) ?_
                rintro e wx ⟨rfl, hwx⟩
                rw [hwx]
                clear hwx
                go_wp2_with fail
                refine hK'.out _ _ HSF.out (fun hHeld' => ?_)
                clear hK' K' hHeld
                have hHeld := hHeld'
                clear hHeld'
                refine wpAnyH_take (i := 7) (v := .bool false) rfl (by kernel_rfl) (by kernel_rfl) (by kernel_rfl) (fun _ _ _ h => h) (Or.inl ⟨by rfl, ?_⟩) hHeld ?_
                · intro w hSw; (try dsimp only at hSw); simp only [List.getElem_toArray, List.getElem_cons_zero, List.getElem_cons_succ]; go_simp
                simp only [List.getElem_toArray, List.getElem_cons_zero, List.getElem_cons_succ, Act.put, List.setIfInBounds_toArray, List.set_cons_zero, List.set_cons_succ]
                refine wpAnyH_take (i := 8) (v := .bool false) rfl (by kernel_rfl) (by kernel_rfl) (by kernel_rfl) (fun _ _ _ h => h) (Or.inl ⟨by rfl, ?_⟩) hHeld ?_
                · intro w hSw; (try dsimp only at hSw); simp only [List.getElem_toArray, List.getElem_cons_zero, List.getElem_cons_succ]; go_simp
                simp only [List.getElem_toArray, List.getElem_cons_zero, List.getElem_cons_succ, Act.put, List.setIfInBounds_toArray, List.set_cons_zero, List.set_cons_succ]
                refine wpAnyH_take (i := 9) (v := .pointer (some ⟨bb + 1, 0, none⟩)) rfl (by kernel_rfl) (by kernel_rfl) (by kernel_rfl) (fun _ _ _ h => h) (Or.inl ⟨by rfl, ?_⟩) hHeld ?_
                · intro w hSw; (try dsimp only at hSw); simp only [List.getElem_toArray, List.getElem_cons_zero, List.getElem_cons_succ]; go_simp
                simp only [List.getElem_toArray, List.getElem_cons_zero, List.getElem_cons_succ, Act.put, List.setIfInBounds_toArray, List.set_cons_zero, List.set_cons_succ]
                refine wpAnyH_take (i := 11) (v := .int .i64 (N : Int)) rfl (by kernel_rfl) (by kernel_rfl) (by kernel_rfl) (fun _ _ _ h => h) (Or.inl ⟨by rfl, ?_⟩) hHeld ?_
                · intro w hSw; (try dsimp only at hSw); simp only [List.getElem_toArray, List.getElem_cons_zero, List.getElem_cons_succ]; go_simp
                simp only [List.getElem_toArray, List.getElem_cons_zero, List.getElem_cons_succ, Act.put, List.setIfInBounds_toArray, List.set_cons_zero, List.set_cons_succ]
                refine wpAnyH_ready (rs := [10]) (by kernel_rfl) (by simp) ?_
                refine AllReadyH.cons rfl (fun K' hK' => ?_) AllReadyH.nil
                simp only [List.getElem_toArray, List.getElem_cons_zero, List.getElem_cons_succ]
                go_simp
                refine Calls.mono (HLN.out) ?_
                rintro e wx ⟨rfl, hwx⟩
                rw [hwx]
                clear hwx
                go_wp2_with fail
                refine hK'.out _ _ HSF.out (fun hHeld' => ?_)
                clear hK' K' hHeld
                have hHeld := hHeld'
                clear hHeld'
                refine wpAnyH_take (i := 12) (v := .bool false) rfl (by kernel_rfl) (by kernel_rfl) (by kernel_rfl) (fun _ _ _ h => h) (Or.inl ⟨by rfl, ?_⟩) hHeld ?_
                · intro w hSw; (try dsimp only at hSw); simp only [List.getElem_toArray, List.getElem_cons_zero, List.getElem_cons_succ]; go_simp
                simp only [List.getElem_toArray, List.getElem_cons_zero, List.getElem_cons_succ, Act.put, List.setIfInBounds_toArray, List.set_cons_zero, List.set_cons_succ]
                refine wpAnyH_take (i := 13) (v := .bool false) rfl (by kernel_rfl) (by kernel_rfl) (by kernel_rfl) (fun _ _ _ h => h) (Or.inl ⟨by rfl, ?_⟩) hHeld ?_
                · intro w hSw; (try dsimp only at hSw); simp only [List.getElem_toArray, List.getElem_cons_zero, List.getElem_cons_succ]; go_simp
                simp only [List.getElem_toArray, List.getElem_cons_zero, List.getElem_cons_succ, Act.put, List.setIfInBounds_toArray, List.set_cons_zero, List.set_cons_succ]
                refine wpAnyH_done (by kernel_rfl) ?_ _
                go_wp2_with fail
                exact ⟨⟨j + 1, by omega, by simp, HST2.out⟩, by simp [intOf]; omega⟩
              | false =>
                by_cases hb0 : a.bit < 0
                · skip
                  have hrno : ¬ (hasB bl.length a.k = true ∧ 0 ≤ a.bit ∧ a.bit < 128) := fun h => by omega
                  have hd2 : decide ((2 : Int) = ((1 : Nat) : Int) + 1) = true := rfl
                  have hd3 : decide ((2 : Int) = 1 + 1) = true := rfl
                  have HRN : Hid (Calls Tryd.prog 12 #[.pointer (some ⟨bb + 1, 0, none⟩), .int .i64 a.k, .int .i64 a.bit] (wr.alloc (.cells #[.string a.kind, .string a.s, .int .i64 a.k, .int .i64 a.bit, .slice ka a.keep.length kc] 31)) fun e w' => e = .returned (.iface 120 (.pointer (some (sa 1)))) ∧ w' = (wr.alloc (.cells #[.string a.kind, .string a.s, .int .i64 a.k, .int .i64 a.bit, .slice ka a.keep.length kc] 31))) := rot_not a.k a.bit _ (wr.alloc (.cells #[.string a.kind, .string a.s, .int .i64 a.k, .int .i64 a.bit, .slice ka a.keep.length kc] 31)) HD1.out hrno HE1.out
                  clear hD hM hB hrno
                  go_wp2_with (first
                    | (go_at_call 12; go_loud (refine (HRN.out).mono ?_; rintro e w3 ⟨rfl, hw⟩; rw [hw]; clear hw; have hb3 := HB1.out))
                    | (go_at_call 17; refine (coded_sent sa 1 2 _ (HS.out.below hb3) (by omega)).mono ?_; rintro e w4 ⟨rfl, hb4⟩))
                  have HST : Hid (St w bb mb N (j + 1) w4) := ⟨va, vc, la, lc, wa, wcp, bl, wt, HD1.out.below (Nat.le_refl _) hb4, HM1.out.below (Nat.le_refl _) hb4, hbl, by omega, hb3.trans (hb4.mono hb3.size)⟩
                  obtain ⟨vaf, vcf, laf, lcf, waf, wcf, blf, wtf, hDf, hMf, hblf, hwlf, hBf⟩ := HST.out
                  have HSF : Hid (w4.drew.cell? ⟨mb, 1, none⟩ = some (.slice waf wtf.length wcf)) := hMf.cells.2.1
                  have HWT : Hid (Calls Tryd.prog 10 #[.pointer (some ⟨bb + 1, 0, none⟩)] w4.drew fun e w' => e = .returned (.int .i64 (wtf.length : Int)) ∧ w' = w4.drew) := waits_any _ (hDf.ext fun _ _ => rfl)
                  have HLN : Hid (Calls Tryd.prog 22 #[.pointer (some ⟨bb + 1, 0, none⟩)] w4.drew fun e w' => e = .returned (.int .i64 (N : Int)) ∧ w' = w4.drew) := by
                    have h := len_any w4.drew (hDf.ext fun _ _ => rfl)
                    rw [hblf] at h
                    exact h
                  have HST2 : Hid (St w bb mb N (j + 1) w4.drew) := ⟨vaf, vcf, laf, lcf, waf, wcf, blf, wtf, hDf.ext fun _ _ => rfl, hMf.ext fun _ _ => rfl, hblf, hwlf, hBf.drew⟩
                  clear hDf hMf hBf HST
                  refine wp_region_held_drew (S := fun w' => w'.cell? ⟨mb, 1, none⟩ = some (.slice waf wtf.length wcf)) (by kernel_rfl) (HSF.out) (fun hHeld => ?_)
                  refine wpAnyH_take (i := 0) (v := .pointer (some ⟨bb + 1, 0, none⟩)) rfl (by kernel_rfl) (by kernel_rfl) (by kernel_rfl) (fun _ _ _ h => h) (Or.inl ⟨by rfl, ?_⟩) hHeld ?_
                  · intro w hSw; (try dsimp only at hSw); simp only [List.getElem_toArray, List.getElem_cons_zero]; go_simp
                  simp only [List.getElem_toArray, List.getElem_cons_zero, Act.put, List.setIfInBounds_toArray, List.set_cons_zero, List.set_cons_succ]
                  refine wpAnyH_take (i := 2) (v := .pointer (some ⟨mb, 0, none⟩)) rfl (by kernel_rfl) (by kernel_rfl) (by kernel_rfl) (fun _ _ _ h => h) (Or.inl ⟨by rfl, ?_⟩) hHeld ?_
                  · intro w hSw; (try dsimp only at hSw); simp only [List.getElem_toArray, List.getElem_cons_zero, List.getElem_cons_succ]; go_simp
                  simp only [List.getElem_toArray, List.getElem_cons_zero, List.getElem_cons_succ, Act.put, List.setIfInBounds_toArray, List.set_cons_zero, List.set_cons_succ]
                  refine wpAnyH_take (i := 3) (v := .pointer (some ⟨mb, 0, none⟩)) rfl (by kernel_rfl) (by kernel_rfl) (by kernel_rfl) (fun _ _ _ h => h) (Or.inl ⟨by rfl, ?_⟩) hHeld ?_
                  · intro w hSw; (try dsimp only at hSw); simp only [List.getElem_toArray, List.getElem_cons_zero, List.getElem_cons_succ]; go_simp
                  simp only [List.getElem_toArray, List.getElem_cons_zero, List.getElem_cons_succ, Act.put, List.setIfInBounds_toArray, List.set_cons_zero, List.set_cons_succ]
                  refine wpAnyH_take (i := 4) (v := .pointer (some ⟨mb, 1, none⟩)) rfl (by kernel_rfl) (by kernel_rfl) (by kernel_rfl) (fun _ _ _ h => h) (Or.inl ⟨by rfl, ?_⟩) hHeld ?_
                  · intro w hSw; (try dsimp only at hSw); simp only [List.getElem_toArray, List.getElem_cons_zero, List.getElem_cons_succ]; go_simp
                  simp only [List.getElem_toArray, List.getElem_cons_zero, List.getElem_cons_succ, Act.put, List.setIfInBounds_toArray, List.set_cons_zero, List.set_cons_succ]
                  refine wpAnyH_take (i := 5) (v := .slice waf wtf.length wcf) rfl (by kernel_rfl) (by kernel_rfl) (by kernel_rfl) (fun _ _ _ h => h) (Or.inl ⟨by rfl, ?_⟩) hHeld ?_
                  · intro w hSw; (try dsimp only at hSw); simp only [List.getElem_toArray, List.getElem_cons_zero, List.getElem_cons_succ]; go_simp
                  simp only [List.getElem_toArray, List.getElem_cons_zero, List.getElem_cons_succ, Act.put, List.setIfInBounds_toArray, List.set_cons_zero, List.set_cons_succ]
                  refine wpAnyH_take (i := 6) (v := .int .i64 (wtf.length : Int)) rfl (by kernel_rfl) (by kernel_rfl) (by kernel_rfl) (fun _ _ _ h => h) (Or.inl ⟨by rfl, ?_⟩) hHeld ?_
                  · intro w hSw; (try dsimp only at hSw); simp only [List.getElem_toArray, List.getElem_cons_zero, List.getElem_cons_succ]; go_simp
                  simp only [List.getElem_toArray, List.getElem_cons_zero, List.getElem_cons_succ, Act.put, List.setIfInBounds_toArray, List.set_cons_zero, List.set_cons_succ]
                  refine wpAnyH_ready (rs := [1]) (by kernel_rfl) (by simp) ?_
                  refine AllReadyH.cons rfl (fun K' hK' => ?_) AllReadyH.nil
                  simp only [List.getElem_toArray, List.getElem_cons_zero, List.getElem_cons_succ]
                  go_simp
                  refine Calls.mono (HWT.out) ?_
                  rintro e wx ⟨rfl, hwx⟩
                  rw [hwx]
                  clear hwx
                  go_wp2_with fail
                  refine hK'.out _ _ HSF.out (fun hHeld' => ?_)
                  clear hK' K' hHeld
                  have hHeld := hHeld'
                  clear hHeld'
                  refine wpAnyH_take (i := 7) (v := .bool false) rfl (by kernel_rfl) (by kernel_rfl) (by kernel_rfl) (fun _ _ _ h => h) (Or.inl ⟨by rfl, ?_⟩) hHeld ?_
                  · intro w hSw; (try dsimp only at hSw); simp only [List.getElem_toArray, List.getElem_cons_zero, List.getElem_cons_succ]; go_simp
                  simp only [List.getElem_toArray, List.getElem_cons_zero, List.getElem_cons_succ, Act.put, List.setIfInBounds_toArray, List.set_cons_zero, List.set_cons_succ]
                  refine wpAnyH_take (i := 8) (v := .bool false) rfl (by kernel_rfl) (by kernel_rfl) (by kernel_rfl) (fun _ _ _ h => h) (Or.inl ⟨by rfl, ?_⟩) hHeld ?_
                  · intro w hSw; (try dsimp only at hSw); simp only [List.getElem_toArray, List.getElem_cons_zero, List.getElem_cons_succ]; go_simp
                  simp only [List.getElem_toArray, List.getElem_cons_zero, List.getElem_cons_succ, Act.put, List.setIfInBounds_toArray, List.set_cons_zero, List.set_cons_succ]
                  refine wpAnyH_take (i := 9) (v := .pointer (some ⟨bb + 1, 0, none⟩)) rfl (by kernel_rfl) (by kernel_rfl) (by kernel_rfl) (fun _ _ _ h => h) (Or.inl ⟨by rfl, ?_⟩) hHeld ?_
                  · intro w hSw; (try dsimp only at hSw); simp only [List.getElem_toArray, List.getElem_cons_zero, List.getElem_cons_succ]; go_simp
                  simp only [List.getElem_toArray, List.getElem_cons_zero, List.getElem_cons_succ, Act.put, List.setIfInBounds_toArray, List.set_cons_zero, List.set_cons_succ]
                  refine wpAnyH_take (i := 11) (v := .int .i64 (N : Int)) rfl (by kernel_rfl) (by kernel_rfl) (by kernel_rfl) (fun _ _ _ h => h) (Or.inl ⟨by rfl, ?_⟩) hHeld ?_
                  · intro w hSw; (try dsimp only at hSw); simp only [List.getElem_toArray, List.getElem_cons_zero, List.getElem_cons_succ]; go_simp
                  simp only [List.getElem_toArray, List.getElem_cons_zero, List.getElem_cons_succ, Act.put, List.setIfInBounds_toArray, List.set_cons_zero, List.set_cons_succ]
                  refine wpAnyH_ready (rs := [10]) (by kernel_rfl) (by simp) ?_
                  refine AllReadyH.cons rfl (fun K' hK' => ?_) AllReadyH.nil
                  simp only [List.getElem_toArray, List.getElem_cons_zero, List.getElem_cons_succ]
                  go_simp
                  refine Calls.mono (HLN.out) ?_
                  rintro e wx ⟨rfl, hwx⟩
                  rw [hwx]
                  clear hwx
                  go_wp2_with fail
                  refine hK'.out _ _ HSF.out (fun hHeld' => ?_)
                  clear hK' K' hHeld
                  have hHeld := hHeld'
                  clear hHeld'
                  refine wpAnyH_take (i := 12) (v := .bool false) rfl (by kernel_rfl) (by kernel_rfl) (by kernel_rfl) (fun _ _ _ h => h) (Or.inl ⟨by rfl, ?_⟩) hHeld ?_
                  · intro w hSw; (try dsimp only at hSw); simp only [List.getElem_toArray, List.getElem_cons_zero, List.getElem_cons_succ]; go_simp
                  simp only [List.getElem_toArray, List.getElem_cons_zero, List.getElem_cons_succ, Act.put, List.setIfInBounds_toArray, List.set_cons_zero, List.set_cons_succ]
                  refine wpAnyH_take (i := 13) (v := .bool false) rfl (by kernel_rfl) (by kernel_rfl) (by kernel_rfl) (fun _ _ _ h => h) (Or.inl ⟨by rfl, ?_⟩) hHeld ?_
                  · intro w hSw; (try dsimp only at hSw); simp only [List.getElem_toArray, List.getElem_cons_zero, List.getElem_cons_succ]; go_simp
                  simp only [List.getElem_toArray, List.getElem_cons_zero, List.getElem_cons_succ, Act.put, List.setIfInBounds_toArray, List.set_cons_zero, List.set_cons_succ]
                  refine wpAnyH_done (by kernel_rfl) ?_ _
                  go_wp2_with fail
                  exact ⟨⟨j + 1, by omega, by simp, HST2.out⟩, by simp [intOf]; omega⟩
                · skip
                  by_cases hb1 : 128 ≤ a.bit
                  · skip
                    have hrno : ¬ (hasB bl.length a.k = true ∧ 0 ≤ a.bit ∧ a.bit < 128) := fun h => by omega
                    have hd2 : decide ((2 : Int) = ((1 : Nat) : Int) + 1) = true := rfl
                    have hd3 : decide ((2 : Int) = 1 + 1) = true := rfl
                    have HRN : Hid (Calls Tryd.prog 12 #[.pointer (some ⟨bb + 1, 0, none⟩), .int .i64 a.k, .int .i64 a.bit] (wr.alloc (.cells #[.string a.kind, .string a.s, .int .i64 a.k, .int .i64 a.bit, .slice ka a.keep.length kc] 31)) fun e w' => e = .returned (.iface 120 (.pointer (some (sa 1)))) ∧ w' = (wr.alloc (.cells #[.string a.kind, .string a.s, .int .i64 a.k, .int .i64 a.bit, .slice ka a.keep.length kc] 31))) := rot_not a.k a.bit _ (wr.alloc (.cells #[.string a.kind, .string a.s, .int .i64 a.k, .int .i64 a.bit, .slice ka a.keep.length kc] 31)) HD1.out hrno HE1.out
                    clear hD hM hB hrno
                    go_wp2_with (first
                      | (go_at_call 12; go_loud (refine (HRN.out).mono ?_; rintro e w3 ⟨rfl, hw⟩; rw [hw]; clear hw; have hb3 := HB1.out))
                      | (go_at_call 17; refine (coded_sent sa 1 2 _ (HS.out.below hb3) (by omega)).mono ?_; rintro e w4 ⟨rfl, hb4⟩))
                    have HST : Hid (St w bb mb N (j + 1) w4) := ⟨va, vc, la, lc, wa, wcp, bl, wt, HD1.out.below (Nat.le_refl _) hb4, HM1.out.below (Nat.le_refl _) hb4, hbl, by omega, hb3.trans (hb4.mono hb3.size)⟩
                    obtain ⟨vaf, vcf, laf, lcf, waf, wcf, blf, wtf, hDf, hMf, hblf, hwlf, hBf⟩ := HST.out
                    have HSF : Hid (w4.drew.cell? ⟨mb, 1, none⟩ = some (.slice waf wtf.length wcf)) := hMf.cells.2.1
                    have HWT : Hid (Calls Tryd.prog 10 #[.pointer (some ⟨bb + 1, 0, none⟩)] w4.drew fun e w' => e = .returned (.int .i64 (wtf.length : Int)) ∧ w' = w4.drew) := waits_any _ (hDf.ext fun _ _ => rfl)
                    have HLN : Hid (Calls Tryd.prog 22 #[.pointer (some ⟨bb + 1, 0, none⟩)] w4.drew fun e w' => e = .returned (.int .i64 (N : Int)) ∧ w' = w4.drew) := by
                      have h := len_any w4.drew (hDf.ext fun _ _ => rfl)
                      rw [hblf] at h
                      exact h
                    have HST2 : Hid (St w bb mb N (j + 1) w4.drew) := ⟨vaf, vcf, laf, lcf, waf, wcf, blf, wtf, hDf.ext fun _ _ => rfl, hMf.ext fun _ _ => rfl, hblf, hwlf, hBf.drew⟩
                    clear hDf hMf hBf HST
                    refine wp_region_held_drew (S := fun w' => w'.cell? ⟨mb, 1, none⟩ = some (.slice waf wtf.length wcf)) (by kernel_rfl) (HSF.out) (fun hHeld => ?_)
                    refine wpAnyH_take (i := 0) (v := .pointer (some ⟨bb + 1, 0, none⟩)) rfl (by kernel_rfl) (by kernel_rfl) (by kernel_rfl) (fun _ _ _ h => h) (Or.inl ⟨by rfl, ?_⟩) hHeld ?_
                    · intro w hSw; (try dsimp only at hSw); simp only [List.getElem_toArray, List.getElem_cons_zero]; go_simp
                    simp only [List.getElem_toArray, List.getElem_cons_zero, Act.put, List.setIfInBounds_toArray, List.set_cons_zero, List.set_cons_succ]
                    refine wpAnyH_take (i := 2) (v := .pointer (some ⟨mb, 0, none⟩)) rfl (by kernel_rfl) (by kernel_rfl) (by kernel_rfl) (fun _ _ _ h => h) (Or.inl ⟨by rfl, ?_⟩) hHeld ?_
                    · intro w hSw; (try dsimp only at hSw); simp only [List.getElem_toArray, List.getElem_cons_zero, List.getElem_cons_succ]; go_simp
                    simp only [List.getElem_toArray, List.getElem_cons_zero, List.getElem_cons_succ, Act.put, List.setIfInBounds_toArray, List.set_cons_zero, List.set_cons_succ]
                    refine wpAnyH_take (i := 3) (v := .pointer (some ⟨mb, 0, none⟩)) rfl (by kernel_rfl) (by kernel_rfl) (by kernel_rfl) (fun _ _ _ h => h) (Or.inl ⟨by rfl, ?_⟩) hHeld ?_
                    · intro w hSw; (try dsimp only at hSw); simp only [List.getElem_toArray, List.getElem_cons_zero, List.getElem_cons_succ]; go_simp
                    simp only [List.getElem_toArray, List.getElem_cons_zero, List.getElem_cons_succ, Act.put, List.setIfInBounds_toArray, List.set_cons_zero, List.set_cons_succ]
                    refine wpAnyH_take (i := 4) (v := .pointer (some ⟨mb, 1, none⟩)) rfl (by kernel_rfl) (by kernel_rfl) (by kernel_rfl) (fun _ _ _ h => h) (Or.inl ⟨by rfl, ?_⟩) hHeld ?_
                    · intro w hSw; (try dsimp only at hSw); simp only [List.getElem_toArray, List.getElem_cons_zero, List.getElem_cons_succ]; go_simp
                    simp only [List.getElem_toArray, List.getElem_cons_zero, List.getElem_cons_succ, Act.put, List.setIfInBounds_toArray, List.set_cons_zero, List.set_cons_succ]
                    refine wpAnyH_take (i := 5) (v := .slice waf wtf.length wcf) rfl (by kernel_rfl) (by kernel_rfl) (by kernel_rfl) (fun _ _ _ h => h) (Or.inl ⟨by rfl, ?_⟩) hHeld ?_
                    · intro w hSw; (try dsimp only at hSw); simp only [List.getElem_toArray, List.getElem_cons_zero, List.getElem_cons_succ]; go_simp
                    simp only [List.getElem_toArray, List.getElem_cons_zero, List.getElem_cons_succ, Act.put, List.setIfInBounds_toArray, List.set_cons_zero, List.set_cons_succ]
                    refine wpAnyH_take (i := 6) (v := .int .i64 (wtf.length : Int)) rfl (by kernel_rfl) (by kernel_rfl) (by kernel_rfl) (fun _ _ _ h => h) (Or.inl ⟨by rfl, ?_⟩) hHeld ?_
                    · intro w hSw; (try dsimp only at hSw); simp only [List.getElem_toArray, List.getElem_cons_zero, List.getElem_cons_succ]; go_simp
                    simp only [List.getElem_toArray, List.getElem_cons_zero, List.getElem_cons_succ, Act.put, List.setIfInBounds_toArray, List.set_cons_zero, List.set_cons_succ]
                    refine wpAnyH_ready (rs := [1]) (by kernel_rfl) (by simp) ?_
                    refine AllReadyH.cons rfl (fun K' hK' => ?_) AllReadyH.nil
                    simp only [List.getElem_toArray, List.getElem_cons_zero, List.getElem_cons_succ]
                    go_simp
                    refine Calls.mono (HWT.out) ?_
                    rintro e wx ⟨rfl, hwx⟩
                    rw [hwx]
                    clear hwx
                    go_wp2_with fail
                    refine hK'.out _ _ HSF.out (fun hHeld' => ?_)
                    clear hK' K' hHeld
                    have hHeld := hHeld'
                    clear hHeld'
                    refine wpAnyH_take (i := 7) (v := .bool false) rfl (by kernel_rfl) (by kernel_rfl) (by kernel_rfl) (fun _ _ _ h => h) (Or.inl ⟨by rfl, ?_⟩) hHeld ?_
                    · intro w hSw; (try dsimp only at hSw); simp only [List.getElem_toArray, List.getElem_cons_zero, List.getElem_cons_succ]; go_simp
                    simp only [List.getElem_toArray, List.getElem_cons_zero, List.getElem_cons_succ, Act.put, List.setIfInBounds_toArray, List.set_cons_zero, List.set_cons_succ]
                    refine wpAnyH_take (i := 8) (v := .bool false) rfl (by kernel_rfl) (by kernel_rfl) (by kernel_rfl) (fun _ _ _ h => h) (Or.inl ⟨by rfl, ?_⟩) hHeld ?_
                    · intro w hSw; (try dsimp only at hSw); simp only [List.getElem_toArray, List.getElem_cons_zero, List.getElem_cons_succ]; go_simp
                    simp only [List.getElem_toArray, List.getElem_cons_zero, List.getElem_cons_succ, Act.put, List.setIfInBounds_toArray, List.set_cons_zero, List.set_cons_succ]
                    refine wpAnyH_take (i := 9) (v := .pointer (some ⟨bb + 1, 0, none⟩)) rfl (by kernel_rfl) (by kernel_rfl) (by kernel_rfl) (fun _ _ _ h => h) (Or.inl ⟨by rfl, ?_⟩) hHeld ?_
                    · intro w hSw; (try dsimp only at hSw); simp only [List.getElem_toArray, List.getElem_cons_zero, List.getElem_cons_succ]; go_simp
                    simp only [List.getElem_toArray, List.getElem_cons_zero, List.getElem_cons_succ, Act.put, List.setIfInBounds_toArray, List.set_cons_zero, List.set_cons_succ]
                    refine wpAnyH_take (i := 11) (v := .int .i64 (N : Int)) rfl (by kernel_rfl) (by kernel_rfl) (by kernel_rfl) (fun _ _ _ h => h) (Or.inl ⟨by rfl, ?_⟩) hHeld ?_
                    · intro w hSw; (try dsimp only at hSw); simp only [List.getElem_toArray, List.getElem_cons_zero, List.getElem_cons_succ]; go_simp
                    simp only [List.getElem_toArray, List.getElem_cons_zero, List.getElem_cons_succ, Act.put, List.setIfInBounds_toArray, List.set_cons_zero, List.set_cons_succ]
                    refine wpAnyH_ready (rs := [10]) (by kernel_rfl) (by simp) ?_
                    refine AllReadyH.cons rfl (fun K' hK' => ?_) AllReadyH.nil
                    simp only [List.getElem_toArray, List.getElem_cons_zero, List.getElem_cons_succ]
                    go_simp
                    refine Calls.mono (HLN.out) ?_
                    rintro e wx ⟨rfl, hwx⟩
                    rw [hwx]
                    clear hwx
                    go_wp2_with fail
                    refine hK'.out _ _ HSF.out (fun hHeld' => ?_)
                    clear hK' K' hHeld
                    have hHeld := hHeld'
                    clear hHeld'
                    refine wpAnyH_take (i := 12) (v := .bool false) rfl (by kernel_rfl) (by kernel_rfl) (by kernel_rfl) (fun _ _ _ h => h) (Or.inl ⟨by rfl, ?_⟩) hHeld ?_
                    · intro w hSw; (try dsimp only at hSw); simp only [List.getElem_toArray, List.getElem_cons_zero, List.getElem_cons_succ]; go_simp
                    simp only [List.getElem_toArray, List.getElem_cons_zero, List.getElem_cons_succ, Act.put, List.setIfInBounds_toArray, List.set_cons_zero, List.set_cons_succ]
                    refine wpAnyH_take (i := 13) (v := .bool false) rfl (by kernel_rfl) (by kernel_rfl) (by kernel_rfl) (fun _ _ _ h => h) (Or.inl ⟨by rfl, ?_⟩) hHeld ?_
                    · intro w hSw; (try dsimp only at hSw); simp only [List.getElem_toArray, List.getElem_cons_zero, List.getElem_cons_succ]; go_simp
                    simp only [List.getElem_toArray, List.getElem_cons_zero, List.getElem_cons_succ, Act.put, List.setIfInBounds_toArray, List.set_cons_zero, List.set_cons_succ]
                    refine wpAnyH_done (by kernel_rfl) ?_ _
                    go_wp2_with fail
                    exact ⟨⟨j + 1, by omega, by simp, HST2.out⟩, by simp [intOf]; omega⟩
                  · skip
                    have hd0 : decide ((0 : Int) = 0) = true := rfl
                    obtain ⟨kn, hkn2⟩ : ∃ kn : Nat, a.k = kn := ⟨a.k.toNat, by omega⟩
                    obtain ⟨bn, hbn⟩ : ∃ bn : Nat, a.bit = bn := ⟨a.bit.toNat, by omega⟩
                    obtain ⟨b, hb⟩ := get_lt (l := bl) (j := kn) (n := N) (by omega) hbl
                    have hbn8 : bn < 128 := by omega
                    have hb16 := HDr.out.bl16 b (List.mem_of_getElem? hb)
                    have HMR : Hid (Calls Tryd.prog 21 #[.pointer (some ⟨mb, 0, none⟩), .int .i64 a.k, .int .i64 a.bit] (wr.alloc (.cells #[.string a.kind, .string a.s, .int .i64 a.k, .int .i64 a.bit, .slice ka a.keep.length kc] 31)) fun e w' => e = .returned (.tuple #[]) ∧ MkAt w' mb la lc wa wcp (bl.set kn (turnL b bn)) (wt.map (rotX kn bn)) ∧ MkBut mb la wa (wr.alloc (.cells #[.string a.kind, .string a.s, .int .i64 a.k, .int .i64 a.bit, .slice ka a.keep.length kc] 31)) w') := by
                      have h := rotM_any kn bn b (wr.alloc (.cells #[.string a.kind, .string a.s, .int .i64 a.k, .int .i64 a.bit, .slice ka a.keep.length kc] 31)) HM1.out hb hb16 (fun x hx => (HDr.out.wt16 x hx).2) hbn8 hwl'
                      rw [← hkn2, ← hbn] at h
                      exact h
                    have HRO : Hid (∀ w2, DkAt w2 bb va vc bl wt → Calls Tryd.prog 12 #[.pointer (some ⟨bb + 1, 0, none⟩), .int .i64 a.k, .int .i64 a.bit] w2 fun e w' => e = .returned .nilIface ∧ DkAt w' bb va vc (bl.set kn (turnL b bn)) (wt.map (rotX kn bn)) ∧ DkBut bb va w2 w') := fun w2 D2 => by
                      rw [hkn2, hbn]; exact rot_any kn bn b w2 D2 hb hbn8 hwl'
                    clear hD hM hB hb hkn2 hbn hbn8 hb16
                    go_wp2_with (first
                      | (go_at_call 21; refine (HMR.out).mono ?_; rintro e w2 ⟨rfl, M2, hM2⟩; have D2 := HD1.out.keep HM1.out hM2; have hb2 := HM1.out.up hmw HB1.out hM2; have hx_w2 : w2.heap[wr.heap.size]? = some (.cells #[.string a.kind, .string a.s, .int .i64 a.k, .int .i64 a.bit, .slice ka a.keep.length kc] 31 (0, 0)) := (by rw [hM2.block _ (by simp) (by have := HMr.out.lt; omega) (fun b hb => by have := (HMr.out.lowL hb).2.1; omega) (fun b hb => by have := (HMr.out.lowW hb).2.1; omega)]; exact HX1.out); obtain ⟨x0_w2, x1_w2, x2_w2, x3_w2, x4_w2⟩ := row5 hx_w2)
                      | (go_at_call 12; refine (HRO.out _ D2).mono ?_; rintro e w3 ⟨rfl, D3, hB3⟩; have M3 := M2.keep D2 hB3; have hb3 := D2.up hbw hb2 hB3)
                      | (go_at_call 17; refine (coded_nil _ _).mono ?_; rintro e w4 ⟨rfl, hw⟩; rw [hw]; clear hw))
                    have HST : Hid (St w bb mb N (j + 1) w3) := ⟨va, vc, la, lc, wa, wcp, _, _, D3, M3, by rw [List.length_set]; exact hbl, by rw [List.length_map]; omega, hb3⟩
                    obtain ⟨vaf, vcf, laf, lcf, waf, wcf, blf, wtf, hDf, hMf, hblf, hwlf, hBf⟩ := HST.out
                    have HSF : Hid (w3.drew.cell? ⟨mb, 1, none⟩ = some (.slice waf wtf.length wcf)) := hMf.cells.2.1
                    have HWT : Hid (Calls Tryd.prog 10 #[.pointer (some ⟨bb + 1, 0, none⟩)] w3.drew fun e w' => e = .returned (.int .i64 (wtf.length : Int)) ∧ w' = w3.drew) := waits_any _ (hDf.ext fun _ _ => rfl)
                    have HLN : Hid (Calls Tryd.prog 22 #[.pointer (some ⟨bb + 1, 0, none⟩)] w3.drew fun e w' => e = .returned (.int .i64 (N : Int)) ∧ w' = w3.drew) := by
                      have h := len_any w3.drew (hDf.ext fun _ _ => rfl)
                      rw [hblf] at h
                      exact h
                    have HST2 : Hid (St w bb mb N (j + 1) w3.drew) := ⟨vaf, vcf, laf, lcf, waf, wcf, blf, wtf, hDf.ext fun _ _ => rfl, hMf.ext fun _ _ => rfl, hblf, hwlf, hBf.drew⟩
                    clear hDf hMf hBf HST
                    refine wp_region_held_drew (S := fun w' => w'.cell? ⟨mb, 1, none⟩ = some (.slice waf wtf.length wcf)) (by kernel_rfl) (HSF.out) (fun hHeld => ?_)
                    refine wpAnyH_take (i := 0) (v := .pointer (some ⟨bb + 1, 0, none⟩)) rfl (by kernel_rfl) (by kernel_rfl) (by kernel_rfl) (fun _ _ _ h => h) (Or.inl ⟨by rfl, ?_⟩) hHeld ?_
                    · intro w hSw; (try dsimp only at hSw); simp only [List.getElem_toArray, List.getElem_cons_zero]; go_simp
                    simp only [List.getElem_toArray, List.getElem_cons_zero, Act.put, List.setIfInBounds_toArray, List.set_cons_zero, List.set_cons_succ]
                    refine wpAnyH_take (i := 2) (v := .pointer (some ⟨mb, 0, none⟩)) rfl (by kernel_rfl) (by kernel_rfl) (by kernel_rfl) (fun _ _ _ h => h) (Or.inl ⟨by rfl, ?_⟩) hHeld ?_
                    · intro w hSw; (try dsimp only at hSw); simp only [List.getElem_toArray, List.getElem_cons_zero, List.getElem_cons_succ]; go_simp
                    simp only [List.getElem_toArray, List.getElem_cons_zero, List.getElem_cons_succ, Act.put, List.setIfInBounds_toArray, List.set_cons_zero, List.set_cons_succ]
                    refine wpAnyH_take (i := 3) (v := .pointer (some ⟨mb, 0, none⟩)) rfl (by kernel_rfl) (by kernel_rfl) (by kernel_rfl) (fun _ _ _ h => h) (Or.inl ⟨by rfl, ?_⟩) hHeld ?_
                    · intro w hSw; (try dsimp only at hSw); simp only [List.getElem_toArray, List.getElem_cons_zero, List.getElem_cons_succ]; go_simp
                    simp only [List.getElem_toArray, List.getElem_cons_zero, List.getElem_cons_succ, Act.put, List.setIfInBounds_toArray, List.set_cons_zero, List.set_cons_succ]
                    refine wpAnyH_take (i := 4) (v := .pointer (some ⟨mb, 1, none⟩)) rfl (by kernel_rfl) (by kernel_rfl) (by kernel_rfl) (fun _ _ _ h => h) (Or.inl ⟨by rfl, ?_⟩) hHeld ?_
                    · intro w hSw; (try dsimp only at hSw); simp only [List.getElem_toArray, List.getElem_cons_zero, List.getElem_cons_succ]; go_simp
                    simp only [List.getElem_toArray, List.getElem_cons_zero, List.getElem_cons_succ, Act.put, List.setIfInBounds_toArray, List.set_cons_zero, List.set_cons_succ]
                    refine wpAnyH_take (i := 5) (v := .slice waf wtf.length wcf) rfl (by kernel_rfl) (by kernel_rfl) (by kernel_rfl) (fun _ _ _ h => h) (Or.inl ⟨by rfl, ?_⟩) hHeld ?_
                    · intro w hSw; (try dsimp only at hSw); simp only [List.getElem_toArray, List.getElem_cons_zero, List.getElem_cons_succ]; go_simp
                    simp only [List.getElem_toArray, List.getElem_cons_zero, List.getElem_cons_succ, Act.put, List.setIfInBounds_toArray, List.set_cons_zero, List.set_cons_succ]
                    refine wpAnyH_take (i := 6) (v := .int .i64 (wtf.length : Int)) rfl (by kernel_rfl) (by kernel_rfl) (by kernel_rfl) (fun _ _ _ h => h) (Or.inl ⟨by rfl, ?_⟩) hHeld ?_
                    · intro w hSw; (try dsimp only at hSw); simp only [List.getElem_toArray, List.getElem_cons_zero, List.getElem_cons_succ]; go_simp
                    simp only [List.getElem_toArray, List.getElem_cons_zero, List.getElem_cons_succ, Act.put, List.setIfInBounds_toArray, List.set_cons_zero, List.set_cons_succ]
                    refine wpAnyH_ready (rs := [1]) (by kernel_rfl) (by simp) ?_
                    refine AllReadyH.cons rfl (fun K' hK' => ?_) AllReadyH.nil
                    simp only [List.getElem_toArray, List.getElem_cons_zero, List.getElem_cons_succ]
                    go_simp
                    refine Calls.mono (HWT.out) ?_
                    rintro e wx ⟨rfl, hwx⟩
                    rw [hwx]
                    clear hwx
                    go_wp2_with fail
                    refine hK'.out _ _ HSF.out (fun hHeld' => ?_)
                    clear hK' K' hHeld
                    have hHeld := hHeld'
                    clear hHeld'
                    refine wpAnyH_take (i := 7) (v := .bool false) rfl (by kernel_rfl) (by kernel_rfl) (by kernel_rfl) (fun _ _ _ h => h) (Or.inl ⟨by rfl, ?_⟩) hHeld ?_
                    · intro w hSw; (try dsimp only at hSw); simp only [List.getElem_toArray, List.getElem_cons_zero, List.getElem_cons_succ]; go_simp
                    simp only [List.getElem_toArray, List.getElem_cons_zero, List.getElem_cons_succ, Act.put, List.setIfInBounds_toArray, List.set_cons_zero, List.set_cons_succ]
                    refine wpAnyH_take (i := 8) (v := .bool false) rfl (by kernel_rfl) (by kernel_rfl) (by kernel_rfl) (fun _ _ _ h => h) (Or.inl ⟨by rfl, ?_⟩) hHeld ?_
                    · intro w hSw; (try dsimp only at hSw); simp only [List.getElem_toArray, List.getElem_cons_zero, List.getElem_cons_succ]; go_simp
                    simp only [List.getElem_toArray, List.getElem_cons_zero, List.getElem_cons_succ, Act.put, List.setIfInBounds_toArray, List.set_cons_zero, List.set_cons_succ]
                    refine wpAnyH_take (i := 9) (v := .pointer (some ⟨bb + 1, 0, none⟩)) rfl (by kernel_rfl) (by kernel_rfl) (by kernel_rfl) (fun _ _ _ h => h) (Or.inl ⟨by rfl, ?_⟩) hHeld ?_
                    · intro w hSw; (try dsimp only at hSw); simp only [List.getElem_toArray, List.getElem_cons_zero, List.getElem_cons_succ]; go_simp
                    simp only [List.getElem_toArray, List.getElem_cons_zero, List.getElem_cons_succ, Act.put, List.setIfInBounds_toArray, List.set_cons_zero, List.set_cons_succ]
                    refine wpAnyH_take (i := 11) (v := .int .i64 (N : Int)) rfl (by kernel_rfl) (by kernel_rfl) (by kernel_rfl) (fun _ _ _ h => h) (Or.inl ⟨by rfl, ?_⟩) hHeld ?_
                    · intro w hSw; (try dsimp only at hSw); simp only [List.getElem_toArray, List.getElem_cons_zero, List.getElem_cons_succ]; go_simp
                    simp only [List.getElem_toArray, List.getElem_cons_zero, List.getElem_cons_succ, Act.put, List.setIfInBounds_toArray, List.set_cons_zero, List.set_cons_succ]
                    refine wpAnyH_ready (rs := [10]) (by kernel_rfl) (by simp) ?_
                    refine AllReadyH.cons rfl (fun K' hK' => ?_) AllReadyH.nil
                    simp only [List.getElem_toArray, List.getElem_cons_zero, List.getElem_cons_succ]
                    go_simp
                    refine Calls.mono (HLN.out) ?_
                    rintro e wx ⟨rfl, hwx⟩
                    rw [hwx]
                    clear hwx
                    go_wp2_with fail
                    refine hK'.out _ _ HSF.out (fun hHeld' => ?_)
                    clear hK' K' hHeld
                    have hHeld := hHeld'
                    clear hHeld'
                    refine wpAnyH_take (i := 12) (v := .bool false) rfl (by kernel_rfl) (by kernel_rfl) (by kernel_rfl) (fun _ _ _ h => h) (Or.inl ⟨by rfl, ?_⟩) hHeld ?_
                    · intro w hSw; (try dsimp only at hSw); simp only [List.getElem_toArray, List.getElem_cons_zero, List.getElem_cons_succ]; go_simp
                    simp only [List.getElem_toArray, List.getElem_cons_zero, List.getElem_cons_succ, Act.put, List.setIfInBounds_toArray, List.set_cons_zero, List.set_cons_succ]
                    refine wpAnyH_take (i := 13) (v := .bool false) rfl (by kernel_rfl) (by kernel_rfl) (by kernel_rfl) (fun _ _ _ h => h) (Or.inl ⟨by rfl, ?_⟩) hHeld ?_
                    · intro w hSw; (try dsimp only at hSw); simp only [List.getElem_toArray, List.getElem_cons_zero, List.getElem_cons_succ]; go_simp
                    simp only [List.getElem_toArray, List.getElem_cons_zero, List.getElem_cons_succ, Act.put, List.setIfInBounds_toArray, List.set_cons_zero, List.set_cons_succ]
                    refine wpAnyH_done (by kernel_rfl) ?_ _
                    go_wp2_with fail
                    exact ⟨⟨j + 1, by omega, by simp, HST2.out⟩, by simp [intOf]; omega⟩
        · skip
          have hin : hasB bl.length a.k = false := hasB_no (by rw [hbl]; omega)
          cases kw : (a.kind.toList == [119, 114, 105, 116, 101]) with
          | true =>
            have hno : hasB bl.length a.k = false ∨ a.s.size ≠ 16 := .inl hin
            have hd2 : decide ((2 : Int) = ((1 : Nat) : Int) + 1) = true := rfl
            have hd3 : decide ((2 : Int) = 1 + 1) = true := rfl
            clear hD hM hB
            go_wp2_with (first
              | (go_at_call 11; refine (write_any a.k a.s _ (wr.alloc (.cells #[.string a.kind, .string a.s, .int .i64 a.k, .int .i64 a.bit, .slice ka a.keep.length kc] 31)) HD1.out HE1.out hwl').mono ?_; rintro e w3 hw3; obtain ⟨rfl, D3, hB3⟩ := wr_no hno hw3; have M3 := HM1.out.below (Nat.le_refl _) hB3; have hb3 := HB1.out.trans (hB3.mono HB1.out.size))
              | (go_at_call 17; refine (coded_sent sa 1 2 _ (HS.out.below hb3) (by omega)).mono ?_; rintro e w4 ⟨rfl, hb4⟩))
            have HST : Hid (St w bb mb N (j + 1) w4) := ⟨va, vc, la, lc, wa, wcp, bl, wt, D3.below (Nat.le_refl _) hb4, M3.below (Nat.le_refl _) hb4, hbl, by omega, hb3.trans (hb4.mono hb3.size)⟩
            obtain ⟨vaf, vcf, laf, lcf, waf, wcf, blf, wtf, hDf, hMf, hblf, hwlf, hBf⟩ := HST.out
            have HSF : Hid (w4.drew.cell? ⟨mb, 1, none⟩ = some (.slice waf wtf.length wcf)) := hMf.cells.2.1
            have HWT : Hid (Calls Tryd.prog 10 #[.pointer (some ⟨bb + 1, 0, none⟩)] w4.drew fun e w' => e = .returned (.int .i64 (wtf.length : Int)) ∧ w' = w4.drew) := waits_any _ (hDf.ext fun _ _ => rfl)
            have HLN : Hid (Calls Tryd.prog 22 #[.pointer (some ⟨bb + 1, 0, none⟩)] w4.drew fun e w' => e = .returned (.int .i64 (N : Int)) ∧ w' = w4.drew) := by
              have h := len_any w4.drew (hDf.ext fun _ _ => rfl)
              rw [hblf] at h
              exact h
            have HST2 : Hid (St w bb mb N (j + 1) w4.drew) := ⟨vaf, vcf, laf, lcf, waf, wcf, blf, wtf, hDf.ext fun _ _ => rfl, hMf.ext fun _ _ => rfl, hblf, hwlf, hBf.drew⟩
            clear hDf hMf hBf HST
            refine wp_region_held_drew (S := fun w' => w'.cell? ⟨mb, 1, none⟩ = some (.slice waf wtf.length wcf)) (by kernel_rfl) (HSF.out) (fun hHeld => ?_)
            refine wpAnyH_take (i := 0) (v := .pointer (some ⟨bb + 1, 0, none⟩)) rfl (by kernel_rfl) (by kernel_rfl) (by kernel_rfl) (fun _ _ _ h => h) (Or.inl ⟨by rfl, ?_⟩) hHeld ?_
            · intro w hSw; (try dsimp only at hSw); simp only [List.getElem_toArray, List.getElem_cons_zero]; go_simp
            simp only [List.getElem_toArray, List.getElem_cons_zero, Act.put, List.setIfInBounds_toArray, List.set_cons_zero, List.set_cons_succ]
            refine wpAnyH_take (i := 2) (v := .pointer (some ⟨mb, 0, none⟩)) rfl (by kernel_rfl) (by kernel_rfl) (by kernel_rfl) (fun _ _ _ h => h) (Or.inl ⟨by rfl, ?_⟩) hHeld ?_
            · intro w hSw; (try dsimp only at hSw); simp only [List.getElem_toArray, List.getElem_cons_zero, List.getElem_cons_succ]; go_simp
            simp only [List.getElem_toArray, List.getElem_cons_zero, List.getElem_cons_succ, Act.put, List.setIfInBounds_toArray, List.set_cons_zero, List.set_cons_succ]
            refine wpAnyH_take (i := 3) (v := .pointer (some ⟨mb, 0, none⟩)) rfl (by kernel_rfl) (by kernel_rfl) (by kernel_rfl) (fun _ _ _ h => h) (Or.inl ⟨by rfl, ?_⟩) hHeld ?_
            · intro w hSw; (try dsimp only at hSw); simp only [List.getElem_toArray, List.getElem_cons_zero, List.getElem_cons_succ]; go_simp
            simp only [List.getElem_toArray, List.getElem_cons_zero, List.getElem_cons_succ, Act.put, List.setIfInBounds_toArray, List.set_cons_zero, List.set_cons_succ]
            refine wpAnyH_take (i := 4) (v := .pointer (some ⟨mb, 1, none⟩)) rfl (by kernel_rfl) (by kernel_rfl) (by kernel_rfl) (fun _ _ _ h => h) (Or.inl ⟨by rfl, ?_⟩) hHeld ?_
            · intro w hSw; (try dsimp only at hSw); simp only [List.getElem_toArray, List.getElem_cons_zero, List.getElem_cons_succ]; go_simp
            simp only [List.getElem_toArray, List.getElem_cons_zero, List.getElem_cons_succ, Act.put, List.setIfInBounds_toArray, List.set_cons_zero, List.set_cons_succ]
            refine wpAnyH_take (i := 5) (v := .slice waf wtf.length wcf) rfl (by kernel_rfl) (by kernel_rfl) (by kernel_rfl) (fun _ _ _ h => h) (Or.inl ⟨by rfl, ?_⟩) hHeld ?_
            · intro w hSw; (try dsimp only at hSw); simp only [List.getElem_toArray, List.getElem_cons_zero, List.getElem_cons_succ]; go_simp
            simp only [List.getElem_toArray, List.getElem_cons_zero, List.getElem_cons_succ, Act.put, List.setIfInBounds_toArray, List.set_cons_zero, List.set_cons_succ]
            refine wpAnyH_take (i := 6) (v := .int .i64 (wtf.length : Int)) rfl (by kernel_rfl) (by kernel_rfl) (by kernel_rfl) (fun _ _ _ h => h) (Or.inl ⟨by rfl, ?_⟩) hHeld ?_
            · intro w hSw; (try dsimp only at hSw); simp only [List.getElem_toArray, List.getElem_cons_zero, List.getElem_cons_succ]; go_simp
            simp only [List.getElem_toArray, List.getElem_cons_zero, List.getElem_cons_succ, Act.put, List.setIfInBounds_toArray, List.set_cons_zero, List.set_cons_succ]
            refine wpAnyH_ready (rs := [1]) (by kernel_rfl) (by simp) ?_
            refine AllReadyH.cons rfl (fun K' hK' => ?_) AllReadyH.nil
            simp only [List.getElem_toArray, List.getElem_cons_zero, List.getElem_cons_succ]
            go_simp
            refine Calls.mono (HWT.out) ?_
            rintro e wx ⟨rfl, hwx⟩
            rw [hwx]
            clear hwx
            go_wp2_with fail
            refine hK'.out _ _ HSF.out (fun hHeld' => ?_)
            clear hK' K' hHeld
            have hHeld := hHeld'
            clear hHeld'
            refine wpAnyH_take (i := 7) (v := .bool false) rfl (by kernel_rfl) (by kernel_rfl) (by kernel_rfl) (fun _ _ _ h => h) (Or.inl ⟨by rfl, ?_⟩) hHeld ?_
            · intro w hSw; (try dsimp only at hSw); simp only [List.getElem_toArray, List.getElem_cons_zero, List.getElem_cons_succ]; go_simp
            simp only [List.getElem_toArray, List.getElem_cons_zero, List.getElem_cons_succ, Act.put, List.setIfInBounds_toArray, List.set_cons_zero, List.set_cons_succ]
            refine wpAnyH_take (i := 8) (v := .bool false) rfl (by kernel_rfl) (by kernel_rfl) (by kernel_rfl) (fun _ _ _ h => h) (Or.inl ⟨by rfl, ?_⟩) hHeld ?_
            · intro w hSw; (try dsimp only at hSw); simp only [List.getElem_toArray, List.getElem_cons_zero, List.getElem_cons_succ]; go_simp
            simp only [List.getElem_toArray, List.getElem_cons_zero, List.getElem_cons_succ, Act.put, List.setIfInBounds_toArray, List.set_cons_zero, List.set_cons_succ]
            refine wpAnyH_take (i := 9) (v := .pointer (some ⟨bb + 1, 0, none⟩)) rfl (by kernel_rfl) (by kernel_rfl) (by kernel_rfl) (fun _ _ _ h => h) (Or.inl ⟨by rfl, ?_⟩) hHeld ?_
            · intro w hSw; (try dsimp only at hSw); simp only [List.getElem_toArray, List.getElem_cons_zero, List.getElem_cons_succ]; go_simp
            simp only [List.getElem_toArray, List.getElem_cons_zero, List.getElem_cons_succ, Act.put, List.setIfInBounds_toArray, List.set_cons_zero, List.set_cons_succ]
            refine wpAnyH_take (i := 11) (v := .int .i64 (N : Int)) rfl (by kernel_rfl) (by kernel_rfl) (by kernel_rfl) (fun _ _ _ h => h) (Or.inl ⟨by rfl, ?_⟩) hHeld ?_
            · intro w hSw; (try dsimp only at hSw); simp only [List.getElem_toArray, List.getElem_cons_zero, List.getElem_cons_succ]; go_simp
            simp only [List.getElem_toArray, List.getElem_cons_zero, List.getElem_cons_succ, Act.put, List.setIfInBounds_toArray, List.set_cons_zero, List.set_cons_succ]
            refine wpAnyH_ready (rs := [10]) (by kernel_rfl) (by simp) ?_
            refine AllReadyH.cons rfl (fun K' hK' => ?_) AllReadyH.nil
            simp only [List.getElem_toArray, List.getElem_cons_zero, List.getElem_cons_succ]
            go_simp
            refine Calls.mono (HLN.out) ?_
            rintro e wx ⟨rfl, hwx⟩
            rw [hwx]
            clear hwx
            go_wp2_with fail
            refine hK'.out _ _ HSF.out (fun hHeld' => ?_)
            clear hK' K' hHeld
            have hHeld := hHeld'
            clear hHeld'
            refine wpAnyH_take (i := 12) (v := .bool false) rfl (by kernel_rfl) (by kernel_rfl) (by kernel_rfl) (fun _ _ _ h => h) (Or.inl ⟨by rfl, ?_⟩) hHeld ?_
            · intro w hSw; (try dsimp only at hSw); simp only [List.getElem_toArray, List.getElem_cons_zero, List.getElem_cons_succ]; go_simp
            simp only [List.getElem_toArray, List.getElem_cons_zero, List.getElem_cons_succ, Act.put, List.setIfInBounds_toArray, List.set_cons_zero, List.set_cons_succ]
            refine wpAnyH_take (i := 13) (v := .bool false) rfl (by kernel_rfl) (by kernel_rfl) (by kernel_rfl) (fun _ _ _ h => h) (Or.inl ⟨by rfl, ?_⟩) hHeld ?_
            · intro w hSw; (try dsimp only at hSw); simp only [List.getElem_toArray, List.getElem_cons_zero, List.getElem_cons_succ]; go_simp
            simp only [List.getElem_toArray, List.getElem_cons_zero, List.getElem_cons_succ, Act.put, List.setIfInBounds_toArray, List.set_cons_zero, List.set_cons_succ]
            refine wpAnyH_done (by kernel_rfl) ?_ _
            go_wp2_with fail
            exact ⟨⟨j + 1, by omega, by simp, HST2.out⟩, by simp [intOf]; omega⟩
          | false =>
            cases kb : (a.kind.toList == [98, 97, 114, 114, 105, 101, 114]) with
            | true =>
              clear hD hM hB
              go_wp2_with (first
                | (go_at_call 7; refine (barrier_any (wr.alloc (.cells #[.string a.kind, .string a.s, .int .i64 a.k, .int .i64 a.bit, .slice ka a.keep.length kc] 31)) HD1.out hwl').mono ?_; rintro e w2 ⟨rfl, D2, hB2⟩; have M2 := HM1.out.keep HD1.out hB2; have hb2 := HD1.out.up hbw HB1.out hB2)
                | (go_at_call 20; refine (crashM_any (.slice none 0 0) [] true w2 M2 hwl' HWL.out (fun W _ => IntsAt.nil W) (by simp)).mono ?_; rintro e w3 ⟨rfl, M3, hM3⟩; have D3 := D2.keep M2 hM3; have hb3 := M2.up hmw hb2 hM3))
              have e3 : keepAll true [] = fun _ => true := rfl
              rw [e3] at M3
              have HST : Hid (St w bb mb N (j + 1) w3) := ⟨none, 0, la, lc, none, 0, _, [], D3, M3, by rw [setl_len]; exact hbl, by simp, hb3⟩
              obtain ⟨vaf, vcf, laf, lcf, waf, wcf, blf, wtf, hDf, hMf, hblf, hwlf, hBf⟩ := HST.out
              have HSF : Hid (w3.drew.cell? ⟨mb, 1, none⟩ = some (.slice waf wtf.length wcf)) := hMf.cells.2.1
              have HWT : Hid (Calls Tryd.prog 10 #[.pointer (some ⟨bb + 1, 0, none⟩)] w3.drew fun e w' => e = .returned (.int .i64 (wtf.length : Int)) ∧ w' = w3.drew) := waits_any _ (hDf.ext fun _ _ => rfl)
              have HLN : Hid (Calls Tryd.prog 22 #[.pointer (some ⟨bb + 1, 0, none⟩)] w3.drew fun e w' => e = .returned (.int .i64 (N : Int)) ∧ w' = w3.drew) := by
                have h := len_any w3.drew (hDf.ext fun _ _ => rfl)
                rw [hblf] at h
                exact h
              have HST2 : Hid (St w bb mb N (j + 1) w3.drew) := ⟨vaf, vcf, laf, lcf, waf, wcf, blf, wtf, hDf.ext fun _ _ => rfl, hMf.ext fun _ _ => rfl, hblf, hwlf, hBf.drew⟩
              clear hDf hMf hBf HST
              refine wp_region_held_drew (S := fun w' => w'.cell? ⟨mb, 1, none⟩ = some (.slice waf wtf.length wcf)) (by kernel_rfl) (HSF.out) (fun hHeld => ?_)
              refine wpAnyH_take (i := 0) (v := .pointer (some ⟨bb + 1, 0, none⟩)) rfl (by kernel_rfl) (by kernel_rfl) (by kernel_rfl) (fun _ _ _ h => h) (Or.inl ⟨by rfl, ?_⟩) hHeld ?_
              · intro w hSw; (try dsimp only at hSw); simp only [List.getElem_toArray, List.getElem_cons_zero]; go_simp
              simp only [List.getElem_toArray, List.getElem_cons_zero, Act.put, List.setIfInBounds_toArray, List.set_cons_zero, List.set_cons_succ]
              refine wpAnyH_take (i := 2) (v := .pointer (some ⟨mb, 0, none⟩)) rfl (by kernel_rfl) (by kernel_rfl) (by kernel_rfl) (fun _ _ _ h => h) (Or.inl ⟨by rfl, ?_⟩) hHeld ?_
              · intro w hSw; (try dsimp only at hSw); simp only [List.getElem_toArray, List.getElem_cons_zero, List.getElem_cons_succ]; go_simp
              simp only [List.getElem_toArray, List.getElem_cons_zero, List.getElem_cons_succ, Act.put, List.setIfInBounds_toArray, List.set_cons_zero, List.set_cons_succ]
              refine wpAnyH_take (i := 3) (v := .pointer (some ⟨mb, 0, none⟩)) rfl (by kernel_rfl) (by kernel_rfl) (by kernel_rfl) (fun _ _ _ h => h) (Or.inl ⟨by rfl, ?_⟩) hHeld ?_
              · intro w hSw; (try dsimp only at hSw); simp only [List.getElem_toArray, List.getElem_cons_zero, List.getElem_cons_succ]; go_simp
              simp only [List.getElem_toArray, List.getElem_cons_zero, List.getElem_cons_succ, Act.put, List.setIfInBounds_toArray, List.set_cons_zero, List.set_cons_succ]
              refine wpAnyH_take (i := 4) (v := .pointer (some ⟨mb, 1, none⟩)) rfl (by kernel_rfl) (by kernel_rfl) (by kernel_rfl) (fun _ _ _ h => h) (Or.inl ⟨by rfl, ?_⟩) hHeld ?_
              · intro w hSw; (try dsimp only at hSw); simp only [List.getElem_toArray, List.getElem_cons_zero, List.getElem_cons_succ]; go_simp
              simp only [List.getElem_toArray, List.getElem_cons_zero, List.getElem_cons_succ, Act.put, List.setIfInBounds_toArray, List.set_cons_zero, List.set_cons_succ]
              refine wpAnyH_take (i := 5) (v := .slice waf wtf.length wcf) rfl (by kernel_rfl) (by kernel_rfl) (by kernel_rfl) (fun _ _ _ h => h) (Or.inl ⟨by rfl, ?_⟩) hHeld ?_
              · intro w hSw; (try dsimp only at hSw); simp only [List.getElem_toArray, List.getElem_cons_zero, List.getElem_cons_succ]; go_simp
              simp only [List.getElem_toArray, List.getElem_cons_zero, List.getElem_cons_succ, Act.put, List.setIfInBounds_toArray, List.set_cons_zero, List.set_cons_succ]
              refine wpAnyH_take (i := 6) (v := .int .i64 (wtf.length : Int)) rfl (by kernel_rfl) (by kernel_rfl) (by kernel_rfl) (fun _ _ _ h => h) (Or.inl ⟨by rfl, ?_⟩) hHeld ?_
              · intro w hSw; (try dsimp only at hSw); simp only [List.getElem_toArray, List.getElem_cons_zero, List.getElem_cons_succ]; go_simp
              simp only [List.getElem_toArray, List.getElem_cons_zero, List.getElem_cons_succ, Act.put, List.setIfInBounds_toArray, List.set_cons_zero, List.set_cons_succ]
              refine wpAnyH_ready (rs := [1]) (by kernel_rfl) (by simp) ?_
              refine AllReadyH.cons rfl (fun K' hK' => ?_) AllReadyH.nil
              simp only [List.getElem_toArray, List.getElem_cons_zero, List.getElem_cons_succ]
              go_simp
              refine Calls.mono (HWT.out) ?_
              rintro e wx ⟨rfl, hwx⟩
              rw [hwx]
              clear hwx
              go_wp2_with fail
              refine hK'.out _ _ HSF.out (fun hHeld' => ?_)
              clear hK' K' hHeld
              have hHeld := hHeld'
              clear hHeld'
              refine wpAnyH_take (i := 7) (v := .bool false) rfl (by kernel_rfl) (by kernel_rfl) (by kernel_rfl) (fun _ _ _ h => h) (Or.inl ⟨by rfl, ?_⟩) hHeld ?_
              · intro w hSw; (try dsimp only at hSw); simp only [List.getElem_toArray, List.getElem_cons_zero, List.getElem_cons_succ]; go_simp
              simp only [List.getElem_toArray, List.getElem_cons_zero, List.getElem_cons_succ, Act.put, List.setIfInBounds_toArray, List.set_cons_zero, List.set_cons_succ]
              refine wpAnyH_take (i := 8) (v := .bool false) rfl (by kernel_rfl) (by kernel_rfl) (by kernel_rfl) (fun _ _ _ h => h) (Or.inl ⟨by rfl, ?_⟩) hHeld ?_
              · intro w hSw; (try dsimp only at hSw); simp only [List.getElem_toArray, List.getElem_cons_zero, List.getElem_cons_succ]; go_simp
              simp only [List.getElem_toArray, List.getElem_cons_zero, List.getElem_cons_succ, Act.put, List.setIfInBounds_toArray, List.set_cons_zero, List.set_cons_succ]
              refine wpAnyH_take (i := 9) (v := .pointer (some ⟨bb + 1, 0, none⟩)) rfl (by kernel_rfl) (by kernel_rfl) (by kernel_rfl) (fun _ _ _ h => h) (Or.inl ⟨by rfl, ?_⟩) hHeld ?_
              · intro w hSw; (try dsimp only at hSw); simp only [List.getElem_toArray, List.getElem_cons_zero, List.getElem_cons_succ]; go_simp
              simp only [List.getElem_toArray, List.getElem_cons_zero, List.getElem_cons_succ, Act.put, List.setIfInBounds_toArray, List.set_cons_zero, List.set_cons_succ]
              refine wpAnyH_take (i := 11) (v := .int .i64 (N : Int)) rfl (by kernel_rfl) (by kernel_rfl) (by kernel_rfl) (fun _ _ _ h => h) (Or.inl ⟨by rfl, ?_⟩) hHeld ?_
              · intro w hSw; (try dsimp only at hSw); simp only [List.getElem_toArray, List.getElem_cons_zero, List.getElem_cons_succ]; go_simp
              simp only [List.getElem_toArray, List.getElem_cons_zero, List.getElem_cons_succ, Act.put, List.setIfInBounds_toArray, List.set_cons_zero, List.set_cons_succ]
              refine wpAnyH_ready (rs := [10]) (by kernel_rfl) (by simp) ?_
              refine AllReadyH.cons rfl (fun K' hK' => ?_) AllReadyH.nil
              simp only [List.getElem_toArray, List.getElem_cons_zero, List.getElem_cons_succ]
              go_simp
              refine Calls.mono (HLN.out) ?_
              rintro e wx ⟨rfl, hwx⟩
              rw [hwx]
              clear hwx
              go_wp2_with fail
              refine hK'.out _ _ HSF.out (fun hHeld' => ?_)
              clear hK' K' hHeld
              have hHeld := hHeld'
              clear hHeld'
              refine wpAnyH_take (i := 12) (v := .bool false) rfl (by kernel_rfl) (by kernel_rfl) (by kernel_rfl) (fun _ _ _ h => h) (Or.inl ⟨by rfl, ?_⟩) hHeld ?_
              · intro w hSw; (try dsimp only at hSw); simp only [List.getElem_toArray, List.getElem_cons_zero, List.getElem_cons_succ]; go_simp
              simp only [List.getElem_toArray, List.getElem_cons_zero, List.getElem_cons_succ, Act.put, List.setIfInBounds_toArray, List.set_cons_zero, List.set_cons_succ]
              refine wpAnyH_take (i := 13) (v := .bool false) rfl (by kernel_rfl) (by kernel_rfl) (by kernel_rfl) (fun _ _ _ h => h) (Or.inl ⟨by rfl, ?_⟩) hHeld ?_
              · intro w hSw; (try dsimp only at hSw); simp only [List.getElem_toArray, List.getElem_cons_zero, List.getElem_cons_succ]; go_simp
              simp only [List.getElem_toArray, List.getElem_cons_zero, List.getElem_cons_succ, Act.put, List.setIfInBounds_toArray, List.set_cons_zero, List.set_cons_succ]
              refine wpAnyH_done (by kernel_rfl) ?_ _
              go_wp2_with fail
              exact ⟨⟨j + 1, by omega, by simp, HST2.out⟩, by simp [intOf]; omega⟩
            | false =>
              cases kc' : (a.kind.toList == [99, 114, 97, 115, 104]) with
              | true =>
                have HKV : Hid (IntsAt w (.slice ka a.keep.length kc) a.keep) := hki.out
                clear hD hM hB
                go_wp2_with (first
                  | (go_at_call 13; refine (ownInts_any _ a.keep (wr.alloc (.cells #[.string a.kind, .string a.s, .int .i64 a.k, .int .i64 a.bit, .slice ka a.keep.length kc] 31)) (HKV.out.below HB1.out) (by omega)).mono ?_; rintro e w2 ⟨v2, rfl, hi2, hb2⟩; have D2 := HD1.out.below (Nat.le_refl _) hb2; have M2 := HM1.out.below (Nat.le_refl _) hb2; have hB2 := HB1.out.trans (hb2.mono HB1.out.size))
                  | (go_at_call 9; refine (crash_any v2 a.keep w2 D2 hwl' hi2 (by omega)).mono ?_; rintro e w3 ⟨rfl, D3, hB3⟩; have M3 := M2.keep D2 hB3; have hb3 := D2.up hbw hB2 hB3; have hx_w3 : w3.heap[wr.heap.size]? = some (.cells #[.string a.kind, .string a.s, .int .i64 a.k, .int .i64 a.bit, .slice ka a.keep.length kc] 31 (0, 0)) := (by rw [hB3.block _ (by have := hb2.size; simp at this ⊢; omega) (by have := HDr.out.lt; omega) (by have := HDr.out.lt; omega) (fun b hb => by have := (HDr.out.low b hb).2.1; omega), hb2.block _ (by simp)]; exact HX1.out); obtain ⟨x0_w3, x1_w3, x2_w3, x3_w3, x4_w3⟩ := row5 hx_w3)
                  | (go_at_call 20; refine (crashM_any (.slice ka a.keep.length kc) a.keep false w3 M3 hwl' HWL.out (fun W hW => HKV.out.below (M3.up hmw hb3 hW)) (by omega)).mono ?_; rintro e w4 ⟨rfl, M4, hM4⟩; have D4 := D3.keep M3 hM4; have hb4 := M3.up hmw hb3 hM4))
                have e4 : setl (keptB wt.length a.keep) wt bl wt.length = setl (keepAll false a.keep) wt bl wt.length := setl_congr _ fun i hi => (by rw [kept_has _ _ _ hi]; rfl)
                rw [e4] at D4
                have HST : Hid (St w bb mb N (j + 1) w4) := ⟨none, 0, la, lc, none, 0, _, [], D4, M4, by rw [setl_len]; exact hbl, by simp, hb4⟩
                obtain ⟨vaf, vcf, laf, lcf, waf, wcf, blf, wtf, hDf, hMf, hblf, hwlf, hBf⟩ := HST.out
                have HSF : Hid (w4.drew.cell? ⟨mb, 1, none⟩ = some (.slice waf wtf.length wcf)) := hMf.cells.2.1
                have HWT : Hid (Calls Tryd.prog 10 #[.pointer (some ⟨bb + 1, 0, none⟩)] w4.drew fun e w' => e = .returned (.int .i64 (wtf.length : Int)) ∧ w' = w4.drew) := waits_any _ (hDf.ext fun _ _ => rfl)
                have HLN : Hid (Calls Tryd.prog 22 #[.pointer (some ⟨bb + 1, 0, none⟩)] w4.drew fun e w' => e = .returned (.int .i64 (N : Int)) ∧ w' = w4.drew) := by
                  have h := len_any w4.drew (hDf.ext fun _ _ => rfl)
                  rw [hblf] at h
                  exact h
                have HST2 : Hid (St w bb mb N (j + 1) w4.drew) := ⟨vaf, vcf, laf, lcf, waf, wcf, blf, wtf, hDf.ext fun _ _ => rfl, hMf.ext fun _ _ => rfl, hblf, hwlf, hBf.drew⟩
                clear hDf hMf hBf HST
                refine wp_region_held_drew (S := fun w' => w'.cell? ⟨mb, 1, none⟩ = some (.slice waf wtf.length wcf)) (by kernel_rfl) (HSF.out) (fun hHeld => ?_)
                refine wpAnyH_take (i := 0) (v := .pointer (some ⟨bb + 1, 0, none⟩)) rfl (by kernel_rfl) (by kernel_rfl) (by kernel_rfl) (fun _ _ _ h => h) (Or.inl ⟨by rfl, ?_⟩) hHeld ?_
                · intro w hSw; (try dsimp only at hSw); simp only [List.getElem_toArray, List.getElem_cons_zero]; go_simp
                simp only [List.getElem_toArray, List.getElem_cons_zero, Act.put, List.setIfInBounds_toArray, List.set_cons_zero, List.set_cons_succ]
                refine wpAnyH_take (i := 2) (v := .pointer (some ⟨mb, 0, none⟩)) rfl (by kernel_rfl) (by kernel_rfl) (by kernel_rfl) (fun _ _ _ h => h) (Or.inl ⟨by rfl, ?_⟩) hHeld ?_
                · intro w hSw; (try dsimp only at hSw); simp only [List.getElem_toArray, List.getElem_cons_zero, List.getElem_cons_succ]; go_simp
                simp only [List.getElem_toArray, List.getElem_cons_zero, List.getElem_cons_succ, Act.put, List.setIfInBounds_toArray, List.set_cons_zero, List.set_cons_succ]
                refine wpAnyH_take (i := 3) (v := .pointer (some ⟨mb, 0, none⟩)) rfl (by kernel_rfl) (by kernel_rfl) (by kernel_rfl) (fun _ _ _ h => h) (Or.inl ⟨by rfl, ?_⟩) hHeld ?_
                · intro w hSw; (try dsimp only at hSw); simp only [List.getElem_toArray, List.getElem_cons_zero, List.getElem_cons_succ]; go_simp
                simp only [List.getElem_toArray, List.getElem_cons_zero, List.getElem_cons_succ, Act.put, List.setIfInBounds_toArray, List.set_cons_zero, List.set_cons_succ]
                refine wpAnyH_take (i := 4) (v := .pointer (some ⟨mb, 1, none⟩)) rfl (by kernel_rfl) (by kernel_rfl) (by kernel_rfl) (fun _ _ _ h => h) (Or.inl ⟨by rfl, ?_⟩) hHeld ?_
                · intro w hSw; (try dsimp only at hSw); simp only [List.getElem_toArray, List.getElem_cons_zero, List.getElem_cons_succ]; go_simp
                simp only [List.getElem_toArray, List.getElem_cons_zero, List.getElem_cons_succ, Act.put, List.setIfInBounds_toArray, List.set_cons_zero, List.set_cons_succ]
                refine wpAnyH_take (i := 5) (v := .slice waf wtf.length wcf) rfl (by kernel_rfl) (by kernel_rfl) (by kernel_rfl) (fun _ _ _ h => h) (Or.inl ⟨by rfl, ?_⟩) hHeld ?_
                · intro w hSw; (try dsimp only at hSw); simp only [List.getElem_toArray, List.getElem_cons_zero, List.getElem_cons_succ]; go_simp
                simp only [List.getElem_toArray, List.getElem_cons_zero, List.getElem_cons_succ, Act.put, List.setIfInBounds_toArray, List.set_cons_zero, List.set_cons_succ]
                refine wpAnyH_take (i := 6) (v := .int .i64 (wtf.length : Int)) rfl (by kernel_rfl) (by kernel_rfl) (by kernel_rfl) (fun _ _ _ h => h) (Or.inl ⟨by rfl, ?_⟩) hHeld ?_
                · intro w hSw; (try dsimp only at hSw); simp only [List.getElem_toArray, List.getElem_cons_zero, List.getElem_cons_succ]; go_simp
                simp only [List.getElem_toArray, List.getElem_cons_zero, List.getElem_cons_succ, Act.put, List.setIfInBounds_toArray, List.set_cons_zero, List.set_cons_succ]
                refine wpAnyH_ready (rs := [1]) (by kernel_rfl) (by simp) ?_
                refine AllReadyH.cons rfl (fun K' hK' => ?_) AllReadyH.nil
                simp only [List.getElem_toArray, List.getElem_cons_zero, List.getElem_cons_succ]
                go_simp
                refine Calls.mono (HWT.out) ?_
                rintro e wx ⟨rfl, hwx⟩
                rw [hwx]
                clear hwx
                go_wp2_with fail
                refine hK'.out _ _ HSF.out (fun hHeld' => ?_)
                clear hK' K' hHeld
                have hHeld := hHeld'
                clear hHeld'
                refine wpAnyH_take (i := 7) (v := .bool false) rfl (by kernel_rfl) (by kernel_rfl) (by kernel_rfl) (fun _ _ _ h => h) (Or.inl ⟨by rfl, ?_⟩) hHeld ?_
                · intro w hSw; (try dsimp only at hSw); simp only [List.getElem_toArray, List.getElem_cons_zero, List.getElem_cons_succ]; go_simp
                simp only [List.getElem_toArray, List.getElem_cons_zero, List.getElem_cons_succ, Act.put, List.setIfInBounds_toArray, List.set_cons_zero, List.set_cons_succ]
                refine wpAnyH_take (i := 8) (v := .bool false) rfl (by kernel_rfl) (by kernel_rfl) (by kernel_rfl) (fun _ _ _ h => h) (Or.inl ⟨by rfl, ?_⟩) hHeld ?_
                · intro w hSw; (try dsimp only at hSw); simp only [List.getElem_toArray, List.getElem_cons_zero, List.getElem_cons_succ]; go_simp
                simp only [List.getElem_toArray, List.getElem_cons_zero, List.getElem_cons_succ, Act.put, List.setIfInBounds_toArray, List.set_cons_zero, List.set_cons_succ]
                refine wpAnyH_take (i := 9) (v := .pointer (some ⟨bb + 1, 0, none⟩)) rfl (by kernel_rfl) (by kernel_rfl) (by kernel_rfl) (fun _ _ _ h => h) (Or.inl ⟨by rfl, ?_⟩) hHeld ?_
                · intro w hSw; (try dsimp only at hSw); simp only [List.getElem_toArray, List.getElem_cons_zero, List.getElem_cons_succ]; go_simp
                simp only [List.getElem_toArray, List.getElem_cons_zero, List.getElem_cons_succ, Act.put, List.setIfInBounds_toArray, List.set_cons_zero, List.set_cons_succ]
                refine wpAnyH_take (i := 11) (v := .int .i64 (N : Int)) rfl (by kernel_rfl) (by kernel_rfl) (by kernel_rfl) (fun _ _ _ h => h) (Or.inl ⟨by rfl, ?_⟩) hHeld ?_
                · intro w hSw; (try dsimp only at hSw); simp only [List.getElem_toArray, List.getElem_cons_zero, List.getElem_cons_succ]; go_simp
                simp only [List.getElem_toArray, List.getElem_cons_zero, List.getElem_cons_succ, Act.put, List.setIfInBounds_toArray, List.set_cons_zero, List.set_cons_succ]
                refine wpAnyH_ready (rs := [10]) (by kernel_rfl) (by simp) ?_
                refine AllReadyH.cons rfl (fun K' hK' => ?_) AllReadyH.nil
                simp only [List.getElem_toArray, List.getElem_cons_zero, List.getElem_cons_succ]
                go_simp
                refine Calls.mono (HLN.out) ?_
                rintro e wx ⟨rfl, hwx⟩
                rw [hwx]
                clear hwx
                go_wp2_with fail
                refine hK'.out _ _ HSF.out (fun hHeld' => ?_)
                clear hK' K' hHeld
                have hHeld := hHeld'
                clear hHeld'
                refine wpAnyH_take (i := 12) (v := .bool false) rfl (by kernel_rfl) (by kernel_rfl) (by kernel_rfl) (fun _ _ _ h => h) (Or.inl ⟨by rfl, ?_⟩) hHeld ?_
                · intro w hSw; (try dsimp only at hSw); simp only [List.getElem_toArray, List.getElem_cons_zero, List.getElem_cons_succ]; go_simp
                simp only [List.getElem_toArray, List.getElem_cons_zero, List.getElem_cons_succ, Act.put, List.setIfInBounds_toArray, List.set_cons_zero, List.set_cons_succ]
                refine wpAnyH_take (i := 13) (v := .bool false) rfl (by kernel_rfl) (by kernel_rfl) (by kernel_rfl) (fun _ _ _ h => h) (Or.inl ⟨by rfl, ?_⟩) hHeld ?_
                · intro w hSw; (try dsimp only at hSw); simp only [List.getElem_toArray, List.getElem_cons_zero, List.getElem_cons_succ]; go_simp
                simp only [List.getElem_toArray, List.getElem_cons_zero, List.getElem_cons_succ, Act.put, List.setIfInBounds_toArray, List.set_cons_zero, List.set_cons_succ]
                refine wpAnyH_done (by kernel_rfl) ?_ _
                go_wp2_with fail
                exact ⟨⟨j + 1, by omega, by simp, HST2.out⟩, by simp [intOf]; omega⟩
              | false =>
                have hrno : ¬ (hasB bl.length a.k = true ∧ 0 ≤ a.bit ∧ a.bit < 128) := fun h => by rw [hin] at h; cases h.1
                have hd2 : decide ((2 : Int) = ((1 : Nat) : Int) + 1) = true := rfl
                have hd3 : decide ((2 : Int) = 1 + 1) = true := rfl
                have HRN : Hid (Calls Tryd.prog 12 #[.pointer (some ⟨bb + 1, 0, none⟩), .int .i64 a.k, .int .i64 a.bit] (wr.alloc (.cells #[.string a.kind, .string a.s, .int .i64 a.k, .int .i64 a.bit, .slice ka a.keep.length kc] 31)) fun e w' => e = .returned (.iface 120 (.pointer (some (sa 1)))) ∧ w' = (wr.alloc (.cells #[.string a.kind, .string a.s, .int .i64 a.k, .int .i64 a.bit, .slice ka a.keep.length kc] 31))) := rot_not a.k a.bit _ (wr.alloc (.cells #[.string a.kind, .string a.s, .int .i64 a.k, .int .i64 a.bit, .slice ka a.keep.length kc] 31)) HD1.out hrno HE1.out
                clear hD hM hB hrno
                go_wp2_with (first
                  | (go_at_call 12; go_loud (refine (HRN.out).mono ?_; rintro e w3 ⟨rfl, hw⟩; rw [hw]; clear hw; have hb3 := HB1.out))
                  | (go_at_call 17; refine (coded_sent sa 1 2 _ (HS.out.below hb3) (by omega)).mono ?_; rintro e w4 ⟨rfl, hb4⟩))
                have HST : Hid (St w bb mb N (j + 1) w4) := ⟨va, vc, la, lc, wa, wcp, bl, wt, HD1.out.below (Nat.le_refl _) hb4, HM1.out.below (Nat.le_refl _) hb4, hbl, by omega, hb3.trans (hb4.mono hb3.size)⟩
                obtain ⟨vaf, vcf, laf, lcf, waf, wcf, blf, wtf, hDf, hMf, hblf, hwlf, hBf⟩ := HST.out
                have HSF : Hid (w4.drew.cell? ⟨mb, 1, none⟩ = some (.slice waf wtf.length wcf)) := hMf.cells.2.1
                have HWT : Hid (Calls Tryd.prog 10 #[.pointer (some ⟨bb + 1, 0, none⟩)] w4.drew fun e w' => e = .returned (.int .i64 (wtf.length : Int)) ∧ w' = w4.drew) := waits_any _ (hDf.ext fun _ _ => rfl)
                have HLN : Hid (Calls Tryd.prog 22 #[.pointer (some ⟨bb + 1, 0, none⟩)] w4.drew fun e w' => e = .returned (.int .i64 (N : Int)) ∧ w' = w4.drew) := by
                  have h := len_any w4.drew (hDf.ext fun _ _ => rfl)
                  rw [hblf] at h
                  exact h
                have HST2 : Hid (St w bb mb N (j + 1) w4.drew) := ⟨vaf, vcf, laf, lcf, waf, wcf, blf, wtf, hDf.ext fun _ _ => rfl, hMf.ext fun _ _ => rfl, hblf, hwlf, hBf.drew⟩
                clear hDf hMf hBf HST
                refine wp_region_held_drew (S := fun w' => w'.cell? ⟨mb, 1, none⟩ = some (.slice waf wtf.length wcf)) (by kernel_rfl) (HSF.out) (fun hHeld => ?_)
                refine wpAnyH_take (i := 0) (v := .pointer (some ⟨bb + 1, 0, none⟩)) rfl (by kernel_rfl) (by kernel_rfl) (by kernel_rfl) (fun _ _ _ h => h) (Or.inl ⟨by rfl, ?_⟩) hHeld ?_
                · intro w hSw; (try dsimp only at hSw); simp only [List.getElem_toArray, List.getElem_cons_zero]; go_simp
                simp only [List.getElem_toArray, List.getElem_cons_zero, Act.put, List.setIfInBounds_toArray, List.set_cons_zero, List.set_cons_succ]
                refine wpAnyH_take (i := 2) (v := .pointer (some ⟨mb, 0, none⟩)) rfl (by kernel_rfl) (by kernel_rfl) (by kernel_rfl) (fun _ _ _ h => h) (Or.inl ⟨by rfl, ?_⟩) hHeld ?_
                · intro w hSw; (try dsimp only at hSw); simp only [List.getElem_toArray, List.getElem_cons_zero, List.getElem_cons_succ]; go_simp
                simp only [List.getElem_toArray, List.getElem_cons_zero, List.getElem_cons_succ, Act.put, List.setIfInBounds_toArray, List.set_cons_zero, List.set_cons_succ]
                refine wpAnyH_take (i := 3) (v := .pointer (some ⟨mb, 0, none⟩)) rfl (by kernel_rfl) (by kernel_rfl) (by kernel_rfl) (fun _ _ _ h => h) (Or.inl ⟨by rfl, ?_⟩) hHeld ?_
                · intro w hSw; (try dsimp only at hSw); simp only [List.getElem_toArray, List.getElem_cons_zero, List.getElem_cons_succ]; go_simp
                simp only [List.getElem_toArray, List.getElem_cons_zero, List.getElem_cons_succ, Act.put, List.setIfInBounds_toArray, List.set_cons_zero, List.set_cons_succ]
                refine wpAnyH_take (i := 4) (v := .pointer (some ⟨mb, 1, none⟩)) rfl (by kernel_rfl) (by kernel_rfl) (by kernel_rfl) (fun _ _ _ h => h) (Or.inl ⟨by rfl, ?_⟩) hHeld ?_
                · intro w hSw; (try dsimp only at hSw); simp only [List.getElem_toArray, List.getElem_cons_zero, List.getElem_cons_succ]; go_simp
                simp only [List.getElem_toArray, List.getElem_cons_zero, List.getElem_cons_succ, Act.put, List.setIfInBounds_toArray, List.set_cons_zero, List.set_cons_succ]
                refine wpAnyH_take (i := 5) (v := .slice waf wtf.length wcf) rfl (by kernel_rfl) (by kernel_rfl) (by kernel_rfl) (fun _ _ _ h => h) (Or.inl ⟨by rfl, ?_⟩) hHeld ?_
                · intro w hSw; (try dsimp only at hSw); simp only [List.getElem_toArray, List.getElem_cons_zero, List.getElem_cons_succ]; go_simp
                simp only [List.getElem_toArray, List.getElem_cons_zero, List.getElem_cons_succ, Act.put, List.setIfInBounds_toArray, List.set_cons_zero, List.set_cons_succ]
                refine wpAnyH_take (i := 6) (v := .int .i64 (wtf.length : Int)) rfl (by kernel_rfl) (by kernel_rfl) (by kernel_rfl) (fun _ _ _ h => h) (Or.inl ⟨by rfl, ?_⟩) hHeld ?_
                · intro w hSw; (try dsimp only at hSw); simp only [List.getElem_toArray, List.getElem_cons_zero, List.getElem_cons_succ]; go_simp
                simp only [List.getElem_toArray, List.getElem_cons_zero, List.getElem_cons_succ, Act.put, List.setIfInBounds_toArray, List.set_cons_zero, List.set_cons_succ]
                refine wpAnyH_ready (rs := [1]) (by kernel_rfl) (by simp) ?_
                refine AllReadyH.cons rfl (fun K' hK' => ?_) AllReadyH.nil
                simp only [List.getElem_toArray, List.getElem_cons_zero, List.getElem_cons_succ]
                go_simp
                refine Calls.mono (HWT.out) ?_
                rintro e wx ⟨rfl, hwx⟩
                rw [hwx]
                clear hwx
                go_wp2_with fail
                refine hK'.out _ _ HSF.out (fun hHeld' => ?_)
                clear hK' K' hHeld
                have hHeld := hHeld'
                clear hHeld'
                refine wpAnyH_take (i := 7) (v := .bool false) rfl (by kernel_rfl) (by kernel_rfl) (by kernel_rfl) (fun _ _ _ h => h) (Or.inl ⟨by rfl, ?_⟩) hHeld ?_
                · intro w hSw; (try dsimp only at hSw); simp only [List.getElem_toArray, List.getElem_cons_zero, List.getElem_cons_succ]; go_simp
                simp only [List.getElem_toArray, List.getElem_cons_zero, List.getElem_cons_succ, Act.put, List.setIfInBounds_toArray, List.set_cons_zero, List.set_cons_succ]
                refine wpAnyH_take (i := 8) (v := .bool false) rfl (by kernel_rfl) (by kernel_rfl) (by kernel_rfl) (fun _ _ _ h => h) (Or.inl ⟨by rfl, ?_⟩) hHeld ?_
                · intro w hSw; (try dsimp only at hSw); simp only [List.getElem_toArray, List.getElem_cons_zero, List.getElem_cons_succ]; go_simp
                simp only [List.getElem_toArray, List.getElem_cons_zero, List.getElem_cons_succ, Act.put, List.setIfInBounds_toArray, List.set_cons_zero, List.set_cons_succ]
                refine wpAnyH_take (i := 9) (v := .pointer (some ⟨bb + 1, 0, none⟩)) rfl (by kernel_rfl) (by kernel_rfl) (by kernel_rfl) (fun _ _ _ h => h) (Or.inl ⟨by rfl, ?_⟩) hHeld ?_
                · intro w hSw; (try dsimp only at hSw); simp only [List.getElem_toArray, List.getElem_cons_zero, List.getElem_cons_succ]; go_simp
                simp only [List.getElem_toArray, List.getElem_cons_zero, List.getElem_cons_succ, Act.put, List.setIfInBounds_toArray, List.set_cons_zero, List.set_cons_succ]
                refine wpAnyH_take (i := 11) (v := .int .i64 (N : Int)) rfl (by kernel_rfl) (by kernel_rfl) (by kernel_rfl) (fun _ _ _ h => h) (Or.inl ⟨by rfl, ?_⟩) hHeld ?_
                · intro w hSw; (try dsimp only at hSw); simp only [List.getElem_toArray, List.getElem_cons_zero, List.getElem_cons_succ]; go_simp
                simp only [List.getElem_toArray, List.getElem_cons_zero, List.getElem_cons_succ, Act.put, List.setIfInBounds_toArray, List.set_cons_zero, List.set_cons_succ]
                refine wpAnyH_ready (rs := [10]) (by kernel_rfl) (by simp) ?_
                refine AllReadyH.cons rfl (fun K' hK' => ?_) AllReadyH.nil
                simp only [List.getElem_toArray, List.getElem_cons_zero, List.getElem_cons_succ]
                go_simp
                refine Calls.mono (HLN.out) ?_
                rintro e wx ⟨rfl, hwx⟩
                rw [hwx]
                clear hwx
                go_wp2_with fail
                refine hK'.out _ _ HSF.out (fun hHeld' => ?_)
                clear hK' K' hHeld
                have hHeld := hHeld'
                clear hHeld'
                refine wpAnyH_take (i := 12) (v := .bool false) rfl (by kernel_rfl) (by kernel_rfl) (by kernel_rfl) (fun _ _ _ h => h) (Or.inl ⟨by rfl, ?_⟩) hHeld ?_
                · intro w hSw; (try dsimp only at hSw); simp only [List.getElem_toArray, List.getElem_cons_zero, List.getElem_cons_succ]; go_simp
                simp only [List.getElem_toArray, List.getElem_cons_zero, List.getElem_cons_succ, Act.put, List.setIfInBounds_toArray, List.set_cons_zero, List.set_cons_succ]
                refine wpAnyH_take (i := 13) (v := .bool false) rfl (by kernel_rfl) (by kernel_rfl) (by kernel_rfl) (fun _ _ _ h => h) (Or.inl ⟨by rfl, ?_⟩) hHeld ?_
                · intro w hSw; (try dsimp only at hSw); simp only [List.getElem_toArray, List.getElem_cons_zero, List.getElem_cons_succ]; go_simp
                simp only [List.getElem_toArray, List.getElem_cons_zero, List.getElem_cons_succ, Act.put, List.setIfInBounds_toArray, List.set_cons_zero, List.set_cons_succ]
                refine wpAnyH_done (by kernel_rfl) ?_ _
                go_wp2_with fail
                exact ⟨⟨j + 1, by omega, by simp, HST2.out⟩, by simp [intOf]; omega⟩
      · skip
        have hin : hasB bl.length a.k = false := hasB_no (by omega)
        cases kw : (a.kind.toList == [119, 114, 105, 116, 101]) with
        | true =>
          have hno : hasB bl.length a.k = false ∨ a.s.size ≠ 16 := .inl hin
          have hd2 : decide ((2 : Int) = ((1 : Nat) : Int) + 1) = true := rfl
          have hd3 : decide ((2 : Int) = 1 + 1) = true := rfl
          clear hD hM hB
          go_wp2_with (first
            | (go_at_call 11; refine (write_any a.k a.s _ (wr.alloc (.cells #[.string a.kind, .string a.s, .int .i64 a.k, .int .i64 a.bit, .slice ka a.keep.length kc] 31)) HD1.out HE1.out hwl').mono ?_; rintro e w3 hw3; obtain ⟨rfl, D3, hB3⟩ := wr_no hno hw3; have M3 := HM1.out.below (Nat.le_refl _) hB3; have hb3 := HB1.out.trans (hB3.mono HB1.out.size))
            | (go_at_call 17; refine (coded_sent sa 1 2 _ (HS.out.below hb3) (by omega)).mono ?_; rintro e w4 ⟨rfl, hb4⟩))
          have HST : Hid (St w bb mb N (j + 1) w4) := ⟨va, vc, la, lc, wa, wcp, bl, wt, D3.below (Nat.le_refl _) hb4, M3.below (Nat.le_refl _) hb4, hbl, by omega, hb3.trans (hb4.mono hb3.size)⟩
          obtain ⟨vaf, vcf, laf, lcf, waf, wcf, blf, wtf, hDf, hMf, hblf, hwlf, hBf⟩ := HST.out
          have HSF : Hid (w4.drew.cell? ⟨mb, 1, none⟩ = some (.slice waf wtf.length wcf)) := hMf.cells.2.1
          have HWT : Hid (Calls Tryd.prog 10 #[.pointer (some ⟨bb + 1, 0, none⟩)] w4.drew fun e w' => e = .returned (.int .i64 (wtf.length : Int)) ∧ w' = w4.drew) := waits_any _ (hDf.ext fun _ _ => rfl)
          have HLN : Hid (Calls Tryd.prog 22 #[.pointer (some ⟨bb + 1, 0, none⟩)] w4.drew fun e w' => e = .returned (.int .i64 (N : Int)) ∧ w' = w4.drew) := by
            have h := len_any w4.drew (hDf.ext fun _ _ => rfl)
            rw [hblf] at h
            exact h
          have HST2 : Hid (St w bb mb N (j + 1) w4.drew) := ⟨vaf, vcf, laf, lcf, waf, wcf, blf, wtf, hDf.ext fun _ _ => rfl, hMf.ext fun _ _ => rfl, hblf, hwlf, hBf.drew⟩
          clear hDf hMf hBf HST
          refine wp_region_held_drew (S := fun w' => w'.cell? ⟨mb, 1, none⟩ = some (.slice waf wtf.length wcf)) (by kernel_rfl) (HSF.out) (fun hHeld => ?_)
          refine wpAnyH_take (i := 0) (v := .pointer (some ⟨bb + 1, 0, none⟩)) rfl (by kernel_rfl) (by kernel_rfl) (by kernel_rfl) (fun _ _ _ h => h) (Or.inl ⟨by rfl, ?_⟩) hHeld ?_
          · intro w hSw; (try dsimp only at hSw); simp only [List.getElem_toArray, List.getElem_cons_zero]; go_simp
          simp only [List.getElem_toArray, List.getElem_cons_zero, Act.put, List.setIfInBounds_toArray, List.set_cons_zero, List.set_cons_succ]
          refine wpAnyH_take (i := 2) (v := .pointer (some ⟨mb, 0, none⟩)) rfl (by kernel_rfl) (by kernel_rfl) (by kernel_rfl) (fun _ _ _ h => h) (Or.inl ⟨by rfl, ?_⟩) hHeld ?_
          · intro w hSw; (try dsimp only at hSw); simp only [List.getElem_toArray, List.getElem_cons_zero, List.getElem_cons_succ]; go_simp
          simp only [List.getElem_toArray, List.getElem_cons_zero, List.getElem_cons_succ, Act.put, List.setIfInBounds_toArray, List.set_cons_zero, List.set_cons_succ]
          refine wpAnyH_take (i := 3) (v := .pointer (some ⟨mb, 0, none⟩)) rfl (by kernel_rfl) (by kernel_rfl) (by kernel_rfl) (fun _ _ _ h => h) (Or.inl ⟨by rfl, ?_⟩) hHeld ?_
          · intro w hSw; (try dsimp only at hSw); simp only [List.getElem_toArray, List.getElem_cons_zero, List.getElem_cons_succ]; go_simp
          simp only [List.getElem_toArray, List.getElem_cons_zero, List.getElem_cons_succ, Act.put, List.setIfInBounds_toArray, List.set_cons_zero, List.set_cons_succ]
          refine wpAnyH_take (i := 4) (v := .pointer (some ⟨mb, 1, none⟩)) rfl (by kernel_rfl) (by kernel_rfl) (by kernel_rfl) (fun _ _ _ h => h) (Or.inl ⟨by rfl, ?_⟩) hHeld ?_
          · intro w hSw; (try dsimp only at hSw); simp only [List.getElem_toArray, List.getElem_cons_zero, List.getElem_cons_succ]; go_simp
          simp only [List.getElem_toArray, List.getElem_cons_zero, List.getElem_cons_succ, Act.put, List.setIfInBounds_toArray, List.set_cons_zero, List.set_cons_succ]
          refine wpAnyH_take (i := 5) (v := .slice waf wtf.length wcf) rfl (by kernel_rfl) (by kernel_rfl) (by kernel_rfl) (fun _ _ _ h => h) (Or.inl ⟨by rfl, ?_⟩) hHeld ?_
          · intro w hSw; (try dsimp only at hSw); simp only [List.getElem_toArray, List.getElem_cons_zero, List.getElem_cons_succ]; go_simp
          simp only [List.getElem_toArray, List.getElem_cons_zero, List.getElem_cons_succ, Act.put, List.setIfInBounds_toArray, List.set_cons_zero, List.set_cons_succ]
          refine wpAnyH_take (i := 6) (v := .int .i64 (wtf.length : Int)) rfl (by kernel_rfl) (by kernel_rfl) (by kernel_rfl) (fun _ _ _ h => h) (Or.inl ⟨by rfl, ?_⟩) hHeld ?_
          · intro w hSw; (try dsimp only at hSw); simp only [List.getElem_toArray, List.getElem_cons_zero, List.getElem_cons_succ]; go_simp
          simp only [List.getElem_toArray, List.getElem_cons_zero, List.getElem_cons_succ, Act.put, List.setIfInBounds_toArray, List.set_cons_zero, List.set_cons_succ]
          refine wpAnyH_ready (rs := [1]) (by kernel_rfl) (by simp) ?_
          refine AllReadyH.cons rfl (fun K' hK' => ?_) AllReadyH.nil
          simp only [List.getElem_toArray, List.getElem_cons_zero, List.getElem_cons_succ]
          go_simp
          refine Calls.mono (HWT.out) ?_
          rintro e wx ⟨rfl, hwx⟩
          rw [hwx]
          clear hwx
          go_wp2_with fail
          refine hK'.out _ _ HSF.out (fun hHeld' => ?_)
          clear hK' K' hHeld
          have hHeld := hHeld'
          clear hHeld'
          refine wpAnyH_take (i := 7) (v := .bool false) rfl (by kernel_rfl) (by kernel_rfl) (by kernel_rfl) (fun _ _ _ h => h) (Or.inl ⟨by rfl, ?_⟩) hHeld ?_
          · intro w hSw; (try dsimp only at hSw); simp only [List.getElem_toArray, List.getElem_cons_zero, List.getElem_cons_succ]; go_simp
          simp only [List.getElem_toArray, List.getElem_cons_zero, List.getElem_cons_succ, Act.put, List.setIfInBounds_toArray, List.set_cons_zero, List.set_cons_succ]
          refine wpAnyH_take (i := 8) (v := .bool false) rfl (by kernel_rfl) (by kernel_rfl) (by kernel_rfl) (fun _ _ _ h => h) (Or.inl ⟨by rfl, ?_⟩) hHeld ?_
          · intro w hSw; (try dsimp only at hSw); simp only [List.getElem_toArray, List.getElem_cons_zero, List.getElem_cons_succ]; go_simp
          simp only [List.getElem_toArray, List.getElem_cons_zero, List.getElem_cons_succ, Act.put, List.setIfInBounds_toArray, List.set_cons_zero, List.set_cons_succ]
          refine wpAnyH_take (i := 9) (v := .pointer (some ⟨bb + 1, 0, none⟩)) rfl (by kernel_rfl) (by kernel_rfl) (by kernel_rfl) (fun _ _ _ h => h) (Or.inl ⟨by rfl, ?_⟩) hHeld ?_
          · intro w hSw; (try dsimp only at hSw); simp only [List.getElem_toArray, List.getElem_cons_zero, List.getElem_cons_succ]; go_simp
          simp only [List.getElem_toArray, List.getElem_cons_zero, List.getElem_cons_succ, Act.put, List.setIfInBounds_toArray, List.set_cons_zero, List.set_cons_succ]
          refine wpAnyH_take (i := 11) (v := .int .i64 (N : Int)) rfl (by kernel_rfl) (by kernel_rfl) (by kernel_rfl) (fun _ _ _ h => h) (Or.inl ⟨by rfl, ?_⟩) hHeld ?_
          · intro w hSw; (try dsimp only at hSw); simp only [List.getElem_toArray, List.getElem_cons_zero, List.getElem_cons_succ]; go_simp
          simp only [List.getElem_toArray, List.getElem_cons_zero, List.getElem_cons_succ, Act.put, List.setIfInBounds_toArray, List.set_cons_zero, List.set_cons_succ]
          refine wpAnyH_ready (rs := [10]) (by kernel_rfl) (by simp) ?_
          refine AllReadyH.cons rfl (fun K' hK' => ?_) AllReadyH.nil
          simp only [List.getElem_toArray, List.getElem_cons_zero, List.getElem_cons_succ]
          go_simp
          refine Calls.mono (HLN.out) ?_
          rintro e wx ⟨rfl, hwx⟩
          rw [hwx]
          clear hwx
          go_wp2_with fail
          refine hK'.out _ _ HSF.out (fun hHeld' => ?_)
          clear hK' K' hHeld
          have hHeld := hHeld'
          clear hHeld'
          refine wpAnyH_take (i := 12) (v := .bool false) rfl (by kernel_rfl) (by kernel_rfl) (by kernel_rfl) (fun _ _ _ h => h) (Or.inl ⟨by rfl, ?_⟩) hHeld ?_
          · intro w hSw; (try dsimp only at hSw); simp only [List.getElem_toArray, List.getElem_cons_zero, List.getElem_cons_succ]; go_simp
          simp only [List.getElem_toArray, List.getElem_cons_zero, List.getElem_cons_succ, Act.put, List.setIfInBounds_toArray, List.set_cons_zero, List.set_cons_succ]
          refine wpAnyH_take (i := 13) (v := .bool false) rfl (by kernel_rfl) (by kernel_rfl) (by kernel_rfl) (fun _ _ _ h => h) (Or.inl ⟨by rfl, ?_⟩) hHeld ?_
          · intro w hSw; (try dsimp only at hSw); simp only [List.getElem_toArray, List.getElem_cons_zero, List.getElem_cons_succ]; go_simp
          simp only [List.getElem_toArray, List.getElem_cons_zero, List.getElem_cons_succ, Act.put, List.setIfInBounds_toArray, List.set_cons_zero, List.set_cons_succ]
          refine wpAnyH_done (by kernel_rfl) ?_ _
          go_wp2_with fail
          exact ⟨⟨j + 1, by omega, by simp, HST2.out⟩, by simp [intOf]; omega⟩
        | false =>
          cases kb : (a.kind.toList == [98, 97, 114, 114, 105, 101, 114]) with
          | true =>
            clear hD hM hB
            go_wp2_with (first
              | (go_at_call 7; refine (barrier_any (wr.alloc (.cells #[.string a.kind, .string a.s, .int .i64 a.k, .int .i64 a.bit, .slice ka a.keep.length kc] 31)) HD1.out hwl').mono ?_; rintro e w2 ⟨rfl, D2, hB2⟩; have M2 := HM1.out.keep HD1.out hB2; have hb2 := HD1.out.up hbw HB1.out hB2)
              | (go_at_call 20; refine (crashM_any (.slice none 0 0) [] true w2 M2 hwl' HWL.out (fun W _ => IntsAt.nil W) (by simp)).mono ?_; rintro e w3 ⟨rfl, M3, hM3⟩; have D3 := D2.keep M2 hM3; have hb3 := M2.up hmw hb2 hM3))
            have e3 : keepAll true [] = fun _ => true := rfl
            rw [e3] at M3
            have HST : Hid (St w bb mb N (j + 1) w3) := ⟨none, 0, la, lc, none, 0, _, [], D3, M3, by rw [setl_len]; exact hbl, by simp, hb3⟩
            obtain ⟨vaf, vcf, laf, lcf, waf, wcf, blf, wtf, hDf, hMf, hblf, hwlf, hBf⟩ := HST.out
            have HSF : Hid (w3.drew.cell? ⟨mb, 1, none⟩ = some (.slice waf wtf.length wcf)) := hMf.cells.2.1
            have HWT : Hid (Calls Tryd.prog 10 #[.pointer (some ⟨bb + 1, 0, none⟩)] w3.drew fun e w' => e = .returned (.int .i64 (wtf.length : Int)) ∧ w' = w3.drew) := waits_any _ (hDf.ext fun _ _ => rfl)
            have HLN : Hid (Calls Tryd.prog 22 #[.pointer (some ⟨bb + 1, 0, none⟩)] w3.drew fun e w' => e = .returned (.int .i64 (N : Int)) ∧ w' = w3.drew) := by
              have h := len_any w3.drew (hDf.ext fun _ _ => rfl)
              rw [hblf] at h
              exact h
            have HST2 : Hid (St w bb mb N (j + 1) w3.drew) := ⟨vaf, vcf, laf, lcf, waf, wcf, blf, wtf, hDf.ext fun _ _ => rfl, hMf.ext fun _ _ => rfl, hblf, hwlf, hBf.drew⟩
            clear hDf hMf hBf HST
            refine wp_region_held_drew (S := fun w' => w'.cell? ⟨mb, 1, none⟩ = some (.slice waf wtf.length wcf)) (by kernel_rfl) (HSF.out) (fun hHeld => ?_)
            refine wpAnyH_take (i := 0) (v := .pointer (some ⟨bb + 1, 0, none⟩)) rfl (by kernel_rfl) (by kernel_rfl) (by kernel_rfl) (fun _ _ _ h => h) (Or.inl ⟨by rfl, ?_⟩) hHeld ?_
            · intro w hSw; (try dsimp only at hSw); simp only [List.getElem_toArray, List.getElem_cons_zero]; go_simp
            simp only [List.getElem_toArray, List.getElem_cons_zero, Act.put, List.setIfInBounds_toArray, List.set_cons_zero, List.set_cons_succ]
            refine wpAnyH_take (i := 2) (v := .pointer (some ⟨mb, 0, none⟩)) rfl (by kernel_rfl) (by kernel_rfl) (by kernel_rfl) (fun _ _ _ h => h) (Or.inl ⟨by rfl, ?_⟩) hHeld ?_
            · intro w hSw; (try dsimp only at hSw); simp only [List.getElem_toArray, List.getElem_cons_zero, List.getElem_cons_succ]; go_simp
            simp only [List.getElem_toArray, List.getElem_cons_zero, List.getElem_cons_succ, Act.put, List.setIfInBounds_toArray, List.set_cons_zero, List.set_cons_succ]
            refine wpAnyH_take (i := 3) (v := .pointer (some ⟨mb, 0, none⟩)) rfl (by kernel_rfl) (by kernel_rfl) (by kernel_rfl) (fun _ _ _ h => h) (Or.inl ⟨by rfl, ?_⟩) hHeld ?_
            · intro w hSw; (try dsimp only at hSw); simp only [List.getElem_toArray, List.getElem_cons_zero, List.getElem_cons_succ]; go_simp
            simp only [List.getElem_toArray, List.getElem_cons_zero, List.getElem_cons_succ, Act.put, List.setIfInBounds_toArray, List.set_cons_zero, List.set_cons_succ]
            refine wpAnyH_take (i := 4) (v := .pointer (some ⟨mb, 1, none⟩)) rfl (by kernel_rfl) (by kernel_rfl) (by kernel_rfl) (fun _ _ _ h => h) (Or.inl ⟨by rfl, ?_⟩) hHeld ?_
            · intro w hSw; (try dsimp only at hSw); simp only [List.getElem_toArray, List.getElem_cons_zero, List.getElem_cons_succ]; go_simp
            simp only [List.getElem_toArray, List.getElem_cons_zero, List.getElem_cons_succ, Act.put, List.setIfInBounds_toArray, List.set_cons_zero, List.set_cons_succ]
            refine wpAnyH_take (i := 5) (v := .slice waf wtf.length wcf) rfl (by kernel_rfl) (by kernel_rfl) (by kernel_rfl) (fun _ _ _ h => h) (Or.inl ⟨by rfl, ?_⟩) hHeld ?_
            · intro w hSw; (try dsimp only at hSw); simp only [List.getElem_toArray, List.getElem_cons_zero, List.getElem_cons_succ]; go_simp
            simp only [List.getElem_toArray, List.getElem_cons_zero, List.getElem_cons_succ, Act.put, List.setIfInBounds_toArray, List.set_cons_zero, List.set_cons_succ]
            refine wpAnyH_take (i := 6) (v := .int .i64 (wtf.length : Int)) rfl (by kernel_rfl) (by kernel_rfl) (by kernel_rfl) (fun _ _ _ h => h) (Or.inl ⟨by rfl, ?_⟩) hHeld ?_
            · intro w hSw; (try dsimp only at hSw); simp only [List.getElem_toArray, List.getElem_cons_zero, List.getElem_cons_succ]; go_simp
            simp only [List.getElem_toArray, List.getElem_cons_zero, List.getElem_cons_succ, Act.put, List.setIfInBounds_toArray, List.set_cons_zero, List.set_cons_succ]
            refine wpAnyH_ready (rs := [1]) (by kernel_rfl) (by simp) ?_
            refine AllReadyH.cons rfl (fun K' hK' => ?_) AllReadyH.nil
            simp only [List.getElem_toArray, List.getElem_cons_zero, List.getElem_cons_succ]
            go_simp
            refine Calls.mono (HWT.out) ?_
            rintro e wx ⟨rfl, hwx⟩
            rw [hwx]
            clear hwx
            go_wp2_with fail
            refine hK'.out _ _ HSF.out (fun hHeld' => ?_)
            clear hK' K' hHeld
            have hHeld := hHeld'
            clear hHeld'
            refine wpAnyH_take (i := 7) (v := .bool false) rfl (by kernel_rfl) (by kernel_rfl) (by kernel_rfl) (fun _ _ _ h => h) (Or.inl ⟨by rfl, ?_⟩) hHeld ?_
            · intro w hSw; (try dsimp only at hSw); simp only [List.getElem_toArray, List.getElem_cons_zero, List.getElem_cons_succ]; go_simp
            simp only [List.getElem_toArray, List.getElem_cons_zero, List.getElem_cons_succ, Act.put, List.setIfInBounds_toArray, List.set_cons_zero, List.set_cons_succ]
            refine wpAnyH_take (i := 8) (v := .bool false) rfl (by kernel_rfl) (by kernel_rfl) (by kernel_rfl) (fun _ _ _ h => h) (Or.inl ⟨by rfl, ?_⟩) hHeld ?_
            · intro w hSw; (try dsimp only at hSw); simp only [List.getElem_toArray, List.getElem_cons_zero, List.getElem_cons_succ]; go_simp
            simp only [List.getElem_toArray, List.getElem_cons_zero, List.getElem_cons_succ, Act.put, List.setIfInBounds_toArray, List.set_cons_zero, List.set_cons_succ]
            refine wpAnyH_take (i := 9) (v := .pointer (some ⟨bb + 1, 0, none⟩)) rfl (by kernel_rfl) (by kernel_rfl) (by kernel_rfl) (fun _ _ _ h => h) (Or.inl ⟨by rfl, ?_⟩) hHeld ?_
            · intro w hSw; (try dsimp only at hSw); simp only [List.getElem_toArray, List.getElem_cons_zero, List.getElem_cons_succ]; go_simp
            simp only [List.getElem_toArray, List.getElem_cons_zero, List.getElem_cons_succ, Act.put, List.setIfInBounds_toArray, List.set_cons_zero, List.set_cons_succ]
            refine wpAnyH_take (i := 11) (v := .int .i64 (N : Int)) rfl (by kernel_rfl) (by kernel_rfl) (by kernel_rfl) (fun _ _ _ h => h) (Or.inl ⟨by rfl, ?_⟩) hHeld ?_
            · intro w hSw; (try dsimp only at hSw); simp only [List.getElem_toArray, List.getElem_cons_zero, List.getElem_cons_succ]; go_simp
            simp only [List.getElem_toArray, List.getElem_cons_zero, List.getElem_cons_succ, Act.put, List.setIfInBounds_toArray, List.set_cons_zero, List.set_cons_succ]
            refine wpAnyH_ready (rs := [10]) (by kernel_rfl) (by simp) ?_
            refine AllReadyH.cons rfl (fun K' hK' => ?_) AllReadyH.nil
            simp only [List.getElem_toArray, List.getElem_cons_zero, List.getElem_cons_succ]
            go_simp
            refine Calls.mono (HLN.out) ?_
            rintro e wx ⟨rfl, hwx⟩
            rw [hwx]
            clear hwx
            go_wp2_with fail
            refine hK'.out _ _ HSF.out (fun hHeld' => ?_)
            clear hK' K' hHeld
            have hHeld := hHeld'
            clear hHeld'
            refine wpAnyH_take (i := 12) (v := .bool false) rfl (by kernel_rfl) (by kernel_rfl) (by kernel_rfl) (fun _ _ _ h => h) (Or.inl ⟨by rfl, ?_⟩) hHeld ?_
            · intro w hSw; (try dsimp only at hSw); simp only [List.getElem_toArray, List.getElem_cons_zero, List.getElem_cons_succ]; go_simp
            simp only [List.getElem_toArray, List.getElem_cons_zero, List.getElem_cons_succ, Act.put, List.setIfInBounds_toArray, List.set_cons_zero, List.set_cons_succ]
            refine wpAnyH_take (i := 13) (v := .bool false) rfl (by kernel_rfl) (by kernel_rfl) (by kernel_rfl) (fun _ _ _ h => h) (Or.inl ⟨by rfl, ?_⟩) hHeld ?_
            · intro w hSw; (try dsimp only at hSw); simp only [List.getElem_toArray, List.getElem_cons_zero, List.getElem_cons_succ]; go_simp
            simp only [List.getElem_toArray, List.getElem_cons_zero, List.getElem_cons_succ, Act.put, List.setIfInBounds_toArray, List.set_cons_zero, List.set_cons_succ]
            refine wpAnyH_done (by kernel_rfl) ?_ _
            go_wp2_with fail
            exact ⟨⟨j + 1, by omega, by simp, HST2.out⟩, by simp [intOf]; omega⟩
          | false =>
            cases kc' : (a.kind.toList == [99, 114, 97, 115, 104]) with
            | true =>
              have HKV : Hid (IntsAt w (.slice ka a.keep.length kc) a.keep) := hki.out
              clear hD hM hB
              go_wp2_with (first
                | (go_at_call 13; refine (ownInts_any _ a.keep (wr.alloc (.cells #[.string a.kind, .string a.s, .int .i64 a.k, .int .i64 a.bit, .slice ka a.keep.length kc] 31)) (HKV.out.below HB1.out) (by omega)).mono ?_; rintro e w2 ⟨v2, rfl, hi2, hb2⟩; have D2 := HD1.out.below (Nat.le_refl _) hb2; have M2 := HM1.out.below (Nat.le_refl _) hb2; have hB2 := HB1.out.trans (hb2.mono HB1.out.size))
                | (go_at_call 9; refine (crash_any v2 a.keep w2 D2 hwl' hi2 (by omega)).mono ?_; rintro e w3 ⟨rfl, D3, hB3⟩; have M3 := M2.keep D2 hB3; have hb3 := D2.up hbw hB2 hB3; have hx_w3 : w3.heap[wr.heap.size]? = some (.cells #[.string a.kind, .string a.s, .int .i64 a.k, .int .i64 a.bit, .slice ka a.keep.length kc] 31 (0, 0)) := (by rw [hB3.block _ (by have := hb2.size; simp at this ⊢; omega) (by have := HDr.out.lt; omega) (by have := HDr.out.lt; omega) (fun b hb => by have := (HDr.out.low b hb).2.1; omega), hb2.block _ (by simp)]; exact HX1.out); obtain ⟨x0_w3, x1_w3, x2_w3, x3_w3, x4_w3⟩ := row5 hx_w3)
                | (go_at_call 20; refine (crashM_any (.slice ka a.keep.length kc) a.keep false w3 M3 hwl' HWL.out (fun W hW => HKV.out.below (M3.up hmw hb3 hW)) (by omega)).mono ?_; rintro e w4 ⟨rfl, M4, hM4⟩; have D4 := D3.keep M3 hM4; have hb4 := M3.up hmw hb3 hM4))
              have e4 : setl (keptB wt.length a.keep) wt bl wt.length = setl (keepAll false a.keep) wt bl wt.length := setl_congr _ fun i hi => (by rw [kept_has _ _ _ hi]; rfl)
              rw [e4] at D4
              have HST : Hid (St w bb mb N (j + 1) w4) := ⟨none, 0, la, lc, none, 0, _, [], D4, M4, by rw [setl_len]; exact hbl, by simp, hb4⟩
              obtain ⟨vaf, vcf, laf, lcf, waf, wcf, blf, wtf, hDf, hMf, hblf, hwlf, hBf⟩ := HST.out
              have HSF : Hid (w4.drew.cell? ⟨mb, 1, none⟩ = some (.slice waf wtf.length wcf)) := hMf.cells.2.1
              have HWT : Hid (Calls Tryd.prog 10 #[.pointer (some ⟨bb + 1, 0, none⟩)] w4.drew fun e w' => e = .returned (.int .i64 (wtf.length : Int)) ∧ w' = w4.drew) := waits_any _ (hDf.ext fun _ _ => rfl)
              have HLN : Hid (Calls Tryd.prog 22 #[.pointer (some ⟨bb + 1, 0, none⟩)] w4.drew fun e w' => e = .returned (.int .i64 (N : Int)) ∧ w' = w4.drew) := by
                have h := len_any w4.drew (hDf.ext fun _ _ => rfl)
                rw [hblf] at h
                exact h
              have HST2 : Hid (St w bb mb N (j + 1) w4.drew) := ⟨vaf, vcf, laf, lcf, waf, wcf, blf, wtf, hDf.ext fun _ _ => rfl, hMf.ext fun _ _ => rfl, hblf, hwlf, hBf.drew⟩
              clear hDf hMf hBf HST
              refine wp_region_held_drew (S := fun w' => w'.cell? ⟨mb, 1, none⟩ = some (.slice waf wtf.length wcf)) (by kernel_rfl) (HSF.out) (fun hHeld => ?_)
              refine wpAnyH_take (i := 0) (v := .pointer (some ⟨bb + 1, 0, none⟩)) rfl (by kernel_rfl) (by kernel_rfl) (by kernel_rfl) (fun _ _ _ h => h) (Or.inl ⟨by rfl, ?_⟩) hHeld ?_
              · intro w hSw; (try dsimp only at hSw); simp only [List.getElem_toArray, List.getElem_cons_zero]; go_simp
              simp only [List.getElem_toArray, List.getElem_cons_zero, Act.put, List.setIfInBounds_toArray, List.set_cons_zero, List.set_cons_succ]
              refine wpAnyH_take (i := 2) (v := .pointer (some ⟨mb, 0, none⟩)) rfl (by kernel_rfl) (by kernel_rfl) (by kernel_rfl) (fun _ _ _ h => h) (Or.inl ⟨by rfl, ?_⟩) hHeld ?_
              · intro w hSw; (try dsimp only at hSw); simp only [List.getElem_toArray, List.getElem_cons_zero, List.getElem_cons_succ]; go_simp
              simp only [List.getElem_toArray, List.getElem_cons_zero, List.getElem_cons_succ, Act.put, List.setIfInBounds_toArray, List.set_cons_zero, List.set_cons_succ]
              refine wpAnyH_take (i := 3) (v := .pointer (some ⟨mb, 0, none⟩)) rfl (by kernel_rfl) (by kernel_rfl) (by kernel_rfl) (fun _ _ _ h => h) (Or.inl ⟨by rfl, ?_⟩) hHeld ?_
              · intro w hSw; (try dsimp only at hSw); simp only [List.getElem_toArray, List.getElem_cons_zero, List.getElem_cons_succ]; go_simp
              simp only [List.getElem_toArray, List.getElem_cons_zero, List.getElem_cons_succ, Act.put, List.setIfInBounds_toArray, List.set_cons_zero, List.set_cons_succ]
              refine wpAnyH_take (i := 4) (v := .pointer (some ⟨mb, 1, none⟩)) rfl (by kernel_rfl) (by kernel_rfl) (by kernel_rfl) (fun _ _ _ h => h) (Or.inl ⟨by rfl, ?_⟩) hHeld ?_
              · intro w hSw; (try dsimp only at hSw); simp only [List.getElem_toArray, List.getElem_cons_zero, List.getElem_cons_succ]; go_simp
              simp only [List.getElem_toArray, List.getElem_cons_zero, List.getElem_cons_succ, Act.put, List.setIfInBounds_toArray, List.set_cons_zero, List.set_cons_succ]
              refine wpAnyH_take (i := 5) (v := .slice waf wtf.length wcf) rfl (by kernel_rfl) (by kernel_rfl) (by kernel_rfl) (fun _ _ _ h => h) (Or.inl ⟨by rfl, ?_⟩) hHeld ?_
              · intro w hSw; (try dsimp only at hSw); simp only [List.getElem_toArray, List.getElem_cons_zero, List.getElem_cons_succ]; go_simp
              simp only [List.getElem_toArray, List.getElem_cons_zero, List.getElem_cons_succ, Act.put, List.setIfInBounds_toArray, List.set_cons_zero, List.set_cons_succ]
              refine wpAnyH_take (i := 6) (v := .int .i64 (wtf.length : Int)) rfl (by kernel_rfl) (by kernel_rfl) (by kernel_rfl) (fun _ _ _ h => h) (Or.inl ⟨by rfl, ?_⟩) hHeld ?_
              · intro w hSw; (try dsimp only at hSw); simp only [List.getElem_toArray, List.getElem_cons_zero, List.getElem_cons_succ]; go_simp
              simp only [List.getElem_toArray, List.getElem_cons_zero, List.getElem_cons_succ, Act.put, List.setIfInBounds_toArray, List.set_cons_zero, List.set_cons_succ]
              refine wpAnyH_ready (rs := [1]) (by kernel_rfl) (by simp) ?_
              refine AllReadyH.cons rfl (fun K' hK' => ?_) AllReadyH.nil
              simp only [List.getElem_toArray, List.getElem_cons_zero, List.getElem_cons_succ]
              go_simp
              refine Calls.mono (HWT.out) ?_
              rintro e wx ⟨rfl, hwx⟩
              rw [hwx]
              clear hwx
              go_wp2_with fail
              refine hK'.out _ _ HSF.out (fun hHeld' => ?_)
              clear hK' K' hHeld
              have hHeld := hHeld'
              clear hHeld'
              refine wpAnyH_take (i := 7) (v := .bool false) rfl (by kernel_rfl) (by kernel_rfl) (by kernel_rfl) (fun _ _ _ h => h) (Or.inl ⟨by rfl, ?_⟩) hHeld ?_
              · intro w hSw; (try dsimp only at hSw); simp only [List.getElem_toArray, List.getElem_cons_zero, List.getElem_cons_succ]; go_simp
              simp only [List.getElem_toArray, List.getElem_cons_zero, List.getElem_cons_succ, Act.put, List.setIfInBounds_toArray, List.set_cons_zero, List.set_cons_succ]
              refine wpAnyH_take (i := 8) (v := .bool false) rfl (by kernel_rfl) (by kernel_rfl) (by kernel_rfl) (fun _ _ _ h => h) (Or.inl ⟨by rfl, ?_⟩) hHeld ?_
              · intro w hSw; (try dsimp only at hSw); simp only [List.getElem_toArray, List.getElem_cons_zero, List.getElem_cons_succ]; go_simp
              simp only [List.getElem_toArray, List.getElem_cons_zero, List.getElem_cons_succ, Act.put, List.setIfInBounds_toArray, List.set_cons_zero, List.set_cons_succ]
              refine wpAnyH_take (i := 9) (v := .pointer (some ⟨bb + 1, 0, none⟩)) rfl (by kernel_rfl) (by kernel_rfl) (by kernel_rfl) (fun _ _ _ h => h) (Or.inl ⟨by rfl, ?_⟩) hHeld ?_
              · intro w hSw; (try dsimp only at hSw); simp only [List.getElem_toArray, List.getElem_cons_zero, List.getElem_cons_succ]; go_simp
              simp only [List.getElem_toArray, List.getElem_cons_zero, List.getElem_cons_succ, Act.put, List.setIfInBounds_toArray, List.set_cons_zero, List.set_cons_succ]
              refine wpAnyH_take (i := 11) (v := .int .i64 (N : Int)) rfl (by kernel_rfl) (by kernel_rfl) (by kernel_rfl) (fun _ _ _ h => h) (Or.inl ⟨by rfl, ?_⟩) hHeld ?_
              · intro w hSw; (try dsimp only at hSw); simp only [List.getElem_toArray, List.getElem_cons_zero, List.getElem_cons_succ]; go_simp
              simp only [List.getElem_toArray, List.getElem_cons_zero, List.getElem_cons_succ, Act.put, List.setIfInBounds_toArray, List.set_cons_zero, List.set_cons_succ]
              refine wpAnyH_ready (rs := [10]) (by kernel_rfl) (by simp) ?_
              refine AllReadyH.cons rfl (fun K' hK' => ?_) AllReadyH.nil
              simp only [List.getElem_toArray, List.getElem_cons_zero, List.getElem_cons_succ]
              go_simp
              refine Calls.mono (HLN.out) ?_
              rintro e wx ⟨rfl, hwx⟩
              rw [hwx]
              clear hwx
              go_wp2_with fail
              refine hK'.out _ _ HSF.out (fun hHeld' => ?_)
              clear hK' K' hHeld
              have hHeld := hHeld'
              clear hHeld'
              refine wpAnyH_take (i := 12) (v := .bool false) rfl (by kernel_rfl) (by kernel_rfl) (by kernel_rfl) (fun _ _ _ h => h) (Or.inl ⟨by rfl, ?_⟩) hHeld ?_
              · intro w hSw; (try dsimp only at hSw); simp only [List.getElem_toArray, List.getElem_cons_zero, List.getElem_cons_succ]; go_simp
              simp only [List.getElem_toArray, List.getElem_cons_zero, List.getElem_cons_succ, Act.put, List.setIfInBounds_toArray, List.set_cons_zero, List.set_cons_succ]
              refine wpAnyH_take (i := 13) (v := .bool false) rfl (by kernel_rfl) (by kernel_rfl) (by kernel_rfl) (fun _ _ _ h => h) (Or.inl ⟨by rfl, ?_⟩) hHeld ?_
              · intro w hSw; (try dsimp only at hSw); simp only [List.getElem_toArray, List.getElem_cons_zero, List.getElem_cons_succ]; go_simp
              simp only [List.getElem_toArray, List.getElem_cons_zero, List.getElem_cons_succ, Act.put, List.setIfInBounds_toArray, List.set_cons_zero, List.set_cons_succ]
              refine wpAnyH_done (by kernel_rfl) ?_ _
              go_wp2_with fail
              exact ⟨⟨j + 1, by omega, by simp, HST2.out⟩, by simp [intOf]; omega⟩
            | false =>
              have hrno : ¬ (hasB bl.length a.k = true ∧ 0 ≤ a.bit ∧ a.bit < 128) := fun h => by rw [hin] at h; cases h.1
              have hd2 : decide ((2 : Int) = ((1 : Nat) : Int) + 1) = true := rfl
              have hd3 : decide ((2 : Int) = 1 + 1) = true := rfl
              have HRN : Hid (Calls Tryd.prog 12 #[.pointer (some ⟨bb + 1, 0, none⟩), .int .i64 a.k, .int .i64 a.bit] (wr.alloc (.cells #[.string a.kind, .string a.s, .int .i64 a.k, .int .i64 a.bit, .slice ka a.keep.length kc] 31)) fun e w' => e = .returned (.iface 120 (.pointer (some (sa 1)))) ∧ w' = (wr.alloc (.cells #[.string a.kind, .string a.s, .int .i64 a.k, .int .i64 a.bit, .slice ka a.keep.length kc] 31))) := rot_not a.k a.bit _ (wr.alloc (.cells #[.string a.kind, .string a.s, .int .i64 a.k, .int .i64 a.bit, .slice ka a.keep.length kc] 31)) HD1.out hrno HE1.out
              clear hD hM hB hrno
              go_wp2_with (first
                | (go_at_call 12; go_loud (refine (HRN.out).mono ?_; rintro e w3 ⟨rfl, hw⟩; rw [hw]; clear hw; have hb3 := HB1.out))
                | (go_at_call 17; refine (coded_sent sa 1 2 _ (HS.out.below hb3) (by omega)).mono ?_; rintro e w4 ⟨rfl, hb4⟩))
              have HST : Hid (St w bb mb N (j + 1) w4) := ⟨va, vc, la, lc, wa, wcp, bl, wt, HD1.out.below (Nat.le_refl _) hb4, HM1.out.below (Nat.le_refl _) hb4, hbl, by omega, hb3.trans (hb4.mono hb3.size)⟩
              obtain ⟨vaf, vcf, laf, lcf, waf, wcf, blf, wtf, hDf, hMf, hblf, hwlf, hBf⟩ := HST.out
              have HSF : Hid (w4.drew.cell? ⟨mb, 1, none⟩ = some (.slice waf wtf.length wcf)) := hMf.cells.2.1
              have HWT : Hid (Calls Tryd.prog 10 #[.pointer (some ⟨bb + 1, 0, none⟩)] w4.drew fun e w' => e = .returned (.int .i64 (wtf.length : Int)) ∧ w' = w4.drew) := waits_any _ (hDf.ext fun _ _ => rfl)
              have HLN : Hid (Calls Tryd.prog 22 #[.pointer (some ⟨bb + 1, 0, none⟩)] w4.drew fun e w' => e = .returned (.int .i64 (N : Int)) ∧ w' = w4.drew) := by
                have h := len_any w4.drew (hDf.ext fun _ _ => rfl)
                rw [hblf] at h
                exact h
              have HST2 : Hid (St w bb mb N (j + 1) w4.drew) := ⟨vaf, vcf, laf, lcf, waf, wcf, blf, wtf, hDf.ext fun _ _ => rfl, hMf.ext fun _ _ => rfl, hblf, hwlf, hBf.drew⟩
              clear hDf hMf hBf HST
              refine wp_region_held_drew (S := fun w' => w'.cell? ⟨mb, 1, none⟩ = some (.slice waf wtf.length wcf)) (by kernel_rfl) (HSF.out) (fun hHeld => ?_)
              refine wpAnyH_take (i := 0) (v := .pointer (some ⟨bb + 1, 0, none⟩)) rfl (by kernel_rfl) (by kernel_rfl) (by kernel_rfl) (fun _ _ _ h => h) (Or.inl ⟨by rfl, ?_⟩) hHeld ?_
              · intro w hSw; (try dsimp only at hSw); simp only [List.getElem_toArray, List.getElem_cons_zero]; go_simp
              simp only [List.getElem_toArray, List.getElem_cons_zero, Act.put, List.setIfInBounds_toArray, List.set_cons_zero, List.set_cons_succ]
              refine wpAnyH_take (i := 2) (v := .pointer (some ⟨mb, 0, none⟩)) rfl (by kernel_rfl) (by kernel_rfl) (by kernel_rfl) (fun _ _ _ h => h) (Or.inl ⟨by rfl, ?_⟩) hHeld ?_
              · intro w hSw; (try dsimp only at hSw); simp only [List.getElem_toArray, List.getElem_cons_zero, List.getElem_cons_succ]; go_simp
              simp only [List.getElem_toArray, List.getElem_cons_zero, List.getElem_cons_succ, Act.put, List.setIfInBounds_toArray, List.set_cons_zero, List.set_cons_succ]
              refine wpAnyH_take (i := 3) (v := .pointer (some ⟨mb, 0, none⟩)) rfl (by kernel_rfl) (by kernel_rfl) (by kernel_rfl) (fun _ _ _ h => h) (Or.inl ⟨by rfl, ?_⟩) hHeld ?_
              · intro w hSw; (try dsimp only at hSw); simp only [List.getElem_toArray, List.getElem_cons_zero, List.getElem_cons_succ]; go_simp
              simp only [List.getElem_toArray, List.getElem_cons_zero, List.getElem_cons_succ, Act.put, List.setIfInBounds_toArray, List.set_cons_zero, List.set_cons_succ]
              refine wpAnyH_take (i := 4) (v := .pointer (some ⟨mb, 1, none⟩)) rfl (by kernel_rfl) (by kernel_rfl) (by kernel_rfl) (fun _ _ _ h => h) (Or.inl ⟨by rfl, ?_⟩) hHeld ?_
              · intro w hSw; (try dsimp only at hSw); simp only [List.getElem_toArray, List.getElem_cons_zero, List.getElem_cons_succ]; go_simp
              simp only [List.getElem_toArray, List.getElem_cons_zero, List.getElem_cons_succ, Act.put, List.setIfInBounds_toArray, List.set_cons_zero, List.set_cons_succ]
              refine wpAnyH_take (i := 5) (v := .slice waf wtf.length wcf) rfl (by kernel_rfl) (by kernel_rfl) (by kernel_rfl) (fun _ _ _ h => h) (Or.inl ⟨by rfl, ?_⟩) hHeld ?_
              · intro w hSw; (try dsimp only at hSw); simp only [List.getElem_toArray, List.getElem_cons_zero, List.getElem_cons_succ]; go_simp
              simp only [List.getElem_toArray, List.getElem_cons_zero, List.getElem_cons_succ, Act.put, List.setIfInBounds_toArray, List.set_cons_zero, List.set_cons_succ]
              refine wpAnyH_take (i := 6) (v := .int .i64 (wtf.length : Int)) rfl (by kernel_rfl) (by kernel_rfl) (by kernel_rfl) (fun _ _ _ h => h) (Or.inl ⟨by rfl, ?_⟩) hHeld ?_
              · intro w hSw; (try dsimp only at hSw); simp only [List.getElem_toArray, List.getElem_cons_zero, List.getElem_cons_succ]; go_simp
              simp only [List.getElem_toArray, List.getElem_cons_zero, List.getElem_cons_succ, Act.put, List.setIfInBounds_toArray, List.set_cons_zero, List.set_cons_succ]
              refine wpAnyH_ready (rs := [1]) (by kernel_rfl) (by simp) ?_
              refine AllReadyH.cons rfl (fun K' hK' => ?_) AllReadyH.nil
              simp only [List.getElem_toArray, List.getElem_cons_zero, List.getElem_cons_succ]
              go_simp
              refine Calls.mono (HWT.out) ?_
              rintro e wx ⟨rfl, hwx⟩
              rw [hwx]
              clear hwx
              go_wp2_with fail
              refine hK'.out _ _ HSF.out (fun hHeld' => ?_)
              clear hK' K' hHeld
              have hHeld := hHeld'
              clear hHeld'
              refine wpAnyH_take (i := 7) (v := .bool false) rfl (by kernel_rfl) (by kernel_rfl) (by kernel_rfl) (fun _ _ _ h => h) (Or.inl ⟨by rfl, ?_⟩) hHeld ?_
              · intro w hSw; (try dsimp only at hSw); simp only [List.getElem_toArray, List.getElem_cons_zero, List.getElem_cons_succ]; go_simp
              simp only [List.getElem_toArray, List.getElem_cons_zero, List.getElem_cons_succ, Act.put, List.setIfInBounds_toArray, List.set_cons_zero, List.set_cons_succ]
              refine wpAnyH_take (i := 8) (v := .bool false) rfl (by kernel_rfl) (by kernel_rfl) (by kernel_rfl) (fun _ _ _ h => h) (Or.inl ⟨by rfl, ?_⟩) hHeld ?_
              · intro w hSw; (try dsimp only at hSw); simp only [List.getElem_toArray, List.getElem_cons_zero, List.getElem_cons_succ]; go_simp
              simp only [List.getElem_toArray, List.getElem_cons_zero, List.getElem_cons_succ, Act.put, List.setIfInBounds_toArray, List.set_cons_zero, List.set_cons_succ]
              refine wpAnyH_take (i := 9) (v := .pointer (some ⟨bb + 1, 0, none⟩)) rfl (by kernel_rfl) (by kernel_rfl) (by kernel_rfl) (fun _ _ _ h => h) (Or.inl ⟨by rfl, ?_⟩) hHeld ?_
              · intro w hSw; (try dsimp only at hSw); simp only [List.getElem_toArray, List.getElem_cons_zero, List.getElem_cons_succ]; go_simp
              simp only [List.getElem_toArray, List.getElem_cons_zero, List.getElem_cons_succ, Act.put, List.setIfInBounds_toArray, List.set_cons_zero, List.set_cons_succ]
              refine wpAnyH_take (i := 11) (v := .int .i64 (N : Int)) rfl (by kernel_rfl) (by kernel_rfl) (by kernel_rfl) (fun _ _ _ h => h) (Or.inl ⟨by rfl, ?_⟩) hHeld ?_
              · intro w hSw; (try dsimp only at hSw); simp only [List.getElem_toArray, List.getElem_cons_zero, List.getElem_cons_succ]; go_simp
              simp only [List.getElem_toArray, List.getElem_cons_zero, List.getElem_cons_succ, Act.put, List.setIfInBounds_toArray, List.set_cons_zero, List.set_cons_succ]
              refine wpAnyH_ready (rs := [10]) (by kernel_rfl) (by simp) ?_
              refine AllReadyH.cons rfl (fun K' hK' => ?_) AllReadyH.nil
              simp only [List.getElem_toArray, List.getElem_cons_zero, List.getElem_cons_succ]
              go_simp
              refine Calls.mono (HLN.out) ?_
              rintro e wx ⟨rfl, hwx⟩
              rw [hwx]
              clear hwx
              go_wp2_with fail
              refine hK'.out _ _ HSF.out (fun hHeld' => ?_)
              clear hK' K' hHeld
              have hHeld := hHeld'
              clear hHeld'
              refine wpAnyH_take (i := 12) (v := .bool false) rfl (by kernel_rfl) (by kernel_rfl) (by kernel_rfl) (fun _ _ _ h => h) (Or.inl ⟨by rfl, ?_⟩) hHeld ?_
              · intro w hSw; (try dsimp only at hSw); simp only [List.getElem_toArray, List.getElem_cons_zero, List.getElem_cons_succ]; go_simp
              simp only [List.getElem_toArray, List.getElem_cons_zero, List.getElem_cons_succ, Act.put, List.setIfInBounds_toArray, List.set_cons_zero, List.set_cons_succ]
              refine wpAnyH_take (i := 13) (v := .bool false) rfl (by kernel_rfl) (by kernel_rfl) (by kernel_rfl) (fun _ _ _ h => h) (Or.inl ⟨by rfl, ?_⟩) hHeld ?_
              · intro w hSw; (try dsimp only at hSw); simp only [List.getElem_toArray, List.getElem_cons_zero, List.getElem_cons_succ]; go_simp
              simp only [List.getElem_toArray, List.getElem_cons_zero, List.getElem_cons_succ, Act.put, List.setIfInBounds_toArray, List.set_cons_zero, List.set_cons_succ]
              refine wpAnyH_done (by kernel_rfl) ?_ _
              go_wp2_with fail
              exact ⟨⟨j + 1, by omega, by simp, HST2.out⟩, by simp [intOf]; omega⟩
    · obtain rfl : j = acts.length := by omega
      obtain ⟨W2, hW2⟩ : ∃ W2, W2 = wr := ⟨_, rfl⟩
      subst hW2
      have HDz : Hid _ := hD
      have HMz : Hid _ := hM
      have HBz : Hid _ := hB
      clear hD hM hB
      go_wp2_with fail
      go_loopw [16] (fun i ws => ∃ m : Nat, m ≤ N ∧ i = .int .i64 m ∧ Below W2.heap.size W2 ws) (fun i _ => N - (intOf i).toNat)
      case atStart => exact ⟨0, Nat.zero_le _, rfl, Below.refl _ _⟩
      case round =>
        obtain ⟨m, hm, rfl, hB⟩ := hrel
        have HBs : Hid _ := hB
        have hsz := hB.size
        have Ds := HDz.out.below (Nat.le_refl _) hB
        by_cases hmn : m < N
        · obtain ⟨b, hb⟩ := get_lt (l := bl) hmn hbl
          obtain ⟨sv, HSV⟩ : ∃ sv, Hid (sv = sB (rdR bl wt m)) := ⟨_, (rfl : sB (rdR bl wt m) = _)⟩
          have HR1 : Hid (Calls Tryd.prog 8 #[.pointer (some ⟨bb + 1, 0, none⟩), .int .i64 (m : Int)] wr fun e w' => e = .returned (.tuple #[.string sv, .nilIface]) ∧ Below wr.heap.size wr w') := by rw [HSV.out]; exact read_any m b wr Ds hb hwl'
          have HR2 : Hid (∀ wx, Below W2.heap.size W2 wx → Calls Tryd.prog 23 #[.pointer (some ⟨mb, 0, none⟩), .int .i64 (m : Int)] wx fun e w' => e = .returned (.string sv) ∧ w' = wx) := fun wx hx => by rw [HSV.out]; exact readM_any m b wx (HMz.out.below (Nat.le_refl _) hx) hb hwl'
          clear Ds hb hB
          go_wp2_with (first
            | (go_at_call 8; refine HR1.out.mono ?_; rintro e w6 ⟨rfl, hb6⟩; clear HR1)
            | (go_at_call 23; refine (HR2.out _ (HBs.out.trans (hb6.mono hsz))).mono ?_; rintro e w7 ⟨rfl, hw⟩; rw [hw]; clear hw))
          exact ⟨⟨m + 1, by omega, by simp, HBs.out.trans (hb6.mono hsz)⟩, by simp [intOf]; omega⟩
        · obtain rfl : N = m := by omega
          have hBw : Below w.heap.size w wr := HBz.out.trans (hB.mono HBz.out.size)
          have HSr : Hid (Sents sa wr) := HS.out.below hBw
          have HR1 : Hid (Calls Tryd.prog 8 #[.pointer (some ⟨bb + 1, 0, none⟩), .int .i64 (-1)] wr fun e w' => e = .returned (.tuple #[.string { data := #[] }, .iface 120 (.pointer (some (sa 1)))]) ∧ Below wr.heap.size wr w') := read_not (-1) _ wr Ds (hasB_no (by omega)) HSr.out.c1
          have HR2 : Hid (∀ wx, Below wr.heap.size wr wx → Calls Tryd.prog 8 #[.pointer (some ⟨bb + 1, 0, none⟩), .int .i64 (N : Int)] wx fun e w' => e = .returned (.tuple #[.string { data := #[] }, .iface 120 (.pointer (some (sa 1)))]) ∧ Below wx.heap.size wx w') := fun wx hx => read_not (N : Int) _ wx (Ds.below (Nat.le_refl _) hx) (hasB_no (by rw [hbl]; omega)) (HSr.out.below hx).c1
          have hd2 : decide ((2 : Int) = ((1 : Nat) : Int) + 1) = true := rfl
          have hd3 : decide ((2 : Int) = 1 + 1) = true := rfl
          have HBw : Hid _ := hBw
          clear Ds hB hBw
          go_wp2_with (first
            | (go_at_call 8; refine HR1.out.mono ?_; rintro e w6 ⟨rfl, hb6⟩; clear HR1)
            | (go_at_call 8; refine (HR2.out _ hb6).mono ?_; rintro e w7 ⟨rfl, hb7⟩; have S7 := (HSr.out.below hb6).below hb7; clear HR2)
            | (go_at_call 17; refine (coded_sent sa 1 2 _ S7 (by omega)).mono ?_; rintro e w8 ⟨rfl, hb8⟩; have S8 := S7.below hb8; clear S7)
            | (go_at_call 17; refine (coded_sent sa 1 2 _ S8 (by omega)).mono ?_; rintro e w9 ⟨rfl, hb9⟩))
          go_ret
          have z0 := HBw.out
          have z1 := z0.trans (hb6.mono z0.size)
          have z2 := z1.trans (hb7.mono z1.size)
          have z3 := z2.trans (hb8.mono z2.size)
          exact ⟨rfl, z3.trans (hb9.mono z3.size)⟩
end Go.Proofs.YtghhhhbllpkcdacDoor
