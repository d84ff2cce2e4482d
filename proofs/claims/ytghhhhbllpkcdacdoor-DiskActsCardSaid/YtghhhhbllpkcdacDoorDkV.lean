/-
  The walk of the law DiskStays.
  Conditions: the acts and the numbers lie in memory; package api's ErrBound is an error.
-/
import Derived.Test.YtghhhhbllpkcdacDoorDkU
import Derived.Test.YtghhhhbllpkcdacDoorDkP
import Derived.Deep.RegionHeld3
namespace Go.Proofs.YtghhhhbllpkcdacDoor
open Go.RowKit

def rdS (bl : List (List UInt8)) (wt : List (Nat × List UInt8)) (k : Nat) : ByteArray := ⟨(rdR bl wt k).toArray⟩
/-- A disk, somewhere behind B. -/
def DkIn (B bb n : Nat) (l : List DAct) (m : Nat) (w0 w : World) : Prop := ∃ va vc bl wt, DkAt w bb va vc bl wt ∧ bl.length = n ∧ Good l bl wt ∧ wt.length ≤ m ∧ B ≤ bb ∧ Below B w0 w
theorem infoSt : (Tryd.prog.info? 9).map (fun i => (i.zero, i.size, i.bytes)) = some (some (.string { data := #[] }), 1, 16) := by kernel_rfl
theorem ownsRow_same {w w' : World} {base : Nat} {e : TypeId} {size : Nat} {v : Value} {n : Nat} {xs : List Value} (h : w.ownsRow base e size v n xs) (hb : ∀ k, v.ownBlock = some k → w'.heap[k]? = w.heap[k]?) : w'.ownsRow base e size v n xs := by
  refine ⟨h.1, ?_⟩
  rcases h.2 with h2 | ⟨g, cap, cur, e1, e2, e3, e4⟩
  · exact .inl h2
  · exact .inr ⟨g, cap, cur, e1, e2, by rw [hb g (by rw [e1]; rfl)]; exact e3, e4⟩
/-- Is it such a write? -/
def hitA (m : Nat) (sv : ByteArray) (a : DAct) : Bool := !(a.kind.toList == barL) && (a.k == (m : Int)) && (a.s.toList == sv.toList)
def anyW (l : List DAct) (m : Nat) (sv : ByteArray) (q : Nat) : Bool := (l.take q).any (hitA m sv)
theorem anyW_next {l : List DAct} {m : Nat} {sv : ByteArray} {q : Nat} {a : DAct} (h : l[q]? = some a) : anyW l m sv (q + 1) = (anyW l m sv q || hitA m sv a) := by
  obtain ⟨hq, e⟩ := List.getElem?_eq_some_iff.1 h
  unfold anyW
  rw [List.take_succ_eq_append_getElem hq, e]; simp
theorem hit_all {l : List DAct} {bl : List (List UInt8)} {wt : List (Nat × List UInt8)} {m : Nat} (h : rdR bl wt m = zb ∨ Wrote l m (rdR bl wt m)) : ((rdS bl wt m).toList == (zerosB 16).toList || anyW l m (rdS bl wt m) l.length) = true := by
  rcases h with h | ⟨i, a, h1, h2, h3, h4⟩
  · have : rdS bl wt m = zerosB 16 := by unfold rdS; rw [h]; rfl
    rw [this]; simp
  · rw [Bool.or_eq_true]
    right
    unfold anyW
    rw [List.take_length, List.any_eq_true]
    refine ⟨a, List.mem_of_getElem? h1, ?_⟩
    unfold hitA
    rw [h2, h3, h4]
    show (true && ((m : Int) == (m : Int)) && ((rdS bl wt m).toList == (rdS bl wt m).toList)) = true
    simp
theorem get_lt {β : Type} {l : List β} {j n : Nat} (h : j < n) (hl : l.length = n) : ∃ b, l[j]? = some b := ⟨_, List.getElem?_eq_getElem (by omega)⟩

set_option maxRecDepth 100000 in
set_option maxHeartbeats 4000000 in
theorem diskStays_any (n : Int) (acts : List DAct) (v : Value) (keep : List Int) (v2 : Value) (k bit : Int) (p : Value) (w : World) (hA : ActsAt w v acts) (hK : IntsAt w v2 keep) (hE : w.cell? ⟨0, 0, none⟩ = some (.iface 120 p)) :
    Calls Tryd.prog 3 #[.int .i64 n, v, v2, .int .i64 k, .int .i64 bit] w fun e w' => e = .returned (.bool true) ∧ Below w.heap.size w w' := by
  obtain ⟨la, lc, rfl, hacts⟩ := hA
  have HSP := spun_any _ w hE
  have hgl : 0 < w.heap.size := World.block_lt_of_cell? w _ hE
  have HKI : Hid (IntsAt w v2 keep) := hK
  obtain ⟨ka, kc, rfl, _⟩ := hK
  have HAC : Hid (∀ i a, acts[i]? = some a → ∃ b off kv, la = some ⟨b, off, none⟩ ∧ w.cell? ⟨b, off + i * 5, none⟩ = some (.string a.kind) ∧ w.cell? ⟨b, off + i * 5 + 1, none⟩ = some (.string a.s) ∧ w.cell? ⟨b, off + i * 5 + 2, none⟩ = some (.int .i64 a.k) ∧ w.cell? ⟨b, off + i * 5 + 3, none⟩ = some (.int .i64 a.bit) ∧ w.cell? ⟨b, off + i * 5 + 4, none⟩ = some kv ∧ IntsAt w kv a.keep) := hacts
  have HER : Hid (w.cell? ⟨0, 0, none⟩ = some (.iface 120 p)) := hE
  clear hacts hE
  by_cases g1 : n < 1
  · go_enter Tryd.func3, Tryd.ntmps3
    go_wp2_with (go_at_call 5; refine HSP.mono ?_; rintro e w0 ⟨rfl, hb0⟩)
    go_ret
    exact ⟨rfl, hb0⟩
  by_cases g2 : 40 < n
  · go_enter Tryd.func3, Tryd.ntmps3
    go_wp2_with (go_at_call 5; refine HSP.mono ?_; rintro e w0 ⟨rfl, hb0⟩)
    go_ret
    exact ⟨rfl, hb0⟩
  by_cases g3 : 40 < (acts.length : Int)
  · go_enter Tryd.func3, Tryd.ntmps3
    go_wp2_with (go_at_call 5; refine HSP.mono ?_; rintro e w0 ⟨rfl, hb0⟩)
    go_ret
    exact ⟨rfl, hb0⟩
  by_cases g4 : 60 < (keep.length : Int)
  · go_enter Tryd.func3, Tryd.ntmps3
    go_wp2_with (go_at_call 5; refine HSP.mono ?_; rintro e w0 ⟨rfl, hb0⟩)
    go_ret
    exact ⟨rfl, hb0⟩
  obtain ⟨N, rfl⟩ : ∃ N : Nat, n = N := ⟨n.toNat, by omega⟩
  have hN1 : 1 ≤ N := by omega
  have hN2 : N ≤ 40 := by omega
  have hal : acts.length ≤ 40 := by omega
  have hkl : keep.length ≤ 60 := by omega
  go_enter Tryd.func3, Tryd.ntmps3
  go_wp2_with (first
    | (go_at_call 5; refine HSP.mono ?_; rintro e w0 ⟨rfl, hb0⟩; clear HSP)
    | (go_at_call 6; refine (new_any N hN1 (by omega) w0).mono ?_; rintro e w1 ⟨rfl, D1, hb1⟩))
  obtain ⟨bb, HBB⟩ : ∃ bb, Hid (bb = w0.heap.size) := ⟨_, (rfl : w0.heap.size = _)⟩
  rw [← HBB.out]
  have hbw : w.heap.size ≤ bb := by rw [HBB.out]; exact hb0.size
  have HI : Hid (DkIn w.heap.size bb N acts 0 w w1) := ⟨none, 0, _, _, by rw [HBB.out]; exact D1, by simp, Good.start acts N, by simp, hbw, hb0.trans (hb1.mono hb0.size)⟩
  clear D1 hb0 hb1 g1 g2 g3 g4
  go_loopw [14] (fun i wr => ∃ j : Nat, j ≤ acts.length ∧ i = .int .i64 j ∧ DkIn w.heap.size bb N acts j w wr) (fun i _ => acts.length - (intOf i).toNat)
  case atStart => exact ⟨0, Nat.zero_le _, rfl, HI.out⟩
  case round =>
    clear HI
    obtain ⟨j, hj, rfl, va, vc, bl, wt, D, hbl, hG, hwl, _, hB⟩ := hrel
    have HD : Hid _ := D
    have HG : Hid _ := hG
    have HBw : Hid _ := hB
    have hwl' : wt.length ≤ 100000 := by omega
    by_cases hlt : j < acts.length
    · obtain ⟨a, HX⟩ : ∃ a, Hid (acts[j]? = some a) := ⟨_, List.getElem?_eq_getElem hlt⟩
      obtain ⟨ab, ao, kv, rfl, q0, q1, q2, _, _, _⟩ := HAC.out j a HX.out
      have hab := World.block_lt_of_cell? w _ q0
      simp only at hab
      have c0 : wr.cell? ⟨ab, ao + j * 5, none⟩ = some (.string a.kind) := by rw [hB.cell (p := ⟨ab, ao + j * 5, none⟩) hab]; exact q0
      have c1 : wr.cell? ⟨ab, ao + j * 5 + 1, none⟩ = some (.string a.s) := by rw [hB.cell (p := ⟨ab, ao + j * 5 + 1, none⟩) hab]; exact q1
      have HSS : Hid (∀ w', Below wr.heap.size wr w' → (w'.cell? ⟨ab, ao + j * 5 + 2, none⟩ = some (.int .i64 a.k) ∧ w'.cell? ⟨ab, ao + j * 5 + 1, none⟩ = some (.string a.s))) := fun w' h => by
        have hb := hB.trans (h.mono hB.size)
        exact ⟨by rw [hb.cell (p := ⟨ab, ao + j * 5 + 2, none⟩) hab]; exact q2, by rw [hb.cell (p := ⟨ab, ao + j * 5 + 1, none⟩) hab]; exact q1⟩
      have HS3 : Hid (∀ w', Below w.heap.size w w' → (w'.cell? ⟨ab, ao + j * 5 + 2, none⟩ = some (.int .i64 a.k) ∧ w'.cell? ⟨ab, ao + j * 5 + 1, none⟩ = some (.string a.s))) := fun w' hb =>
        ⟨by rw [hb.cell (p := ⟨ab, ao + j * 5 + 2, none⟩) hab]; exact q2, by rw [hb.cell (p := ⟨ab, ao + j * 5 + 1, none⟩) hab]; exact q1⟩
      have HER2 : Hid (wr.cell? ⟨0, 0, none⟩ = some (.iface 120 p)) := by show _ = _; rw [hB.cell (p := ⟨0, 0, none⟩) hgl]; exact HER.out
      clear q0 q1 q2
      by_cases hs40 : 40 < (a.s.size : Int)
      · clear D hG hB HSS HS3
        go_wp2_with fail
        go_ret
        exact ⟨rfl, HBw.out⟩
      · cases hkd : (a.kind.toList == barL) with
        | true =>
          have hkd' : (a.kind.toList == [98, 97, 114, 114, 105, 101, 114]) = true := hkd
          have HBR := barrier_any wr D hwl'
          clear D hG hB hkd HSS HS3
          go_wp2_with (go_at_call 7; refine HBR.mono ?_; rintro e w2 ⟨rfl, D2, hB2⟩)
          have HB2 : Hid (Below w.heap.size w w2) := HD.out.up hbw HBw.out hB2
          have HD2 : Hid (DkAt w2 bb none 0 (setl (fun _ => true) wt bl wt.length) []) := D2
          clear D2 hB2 HBR c0 c1
          go_loopw [15] (fun i ws => ∃ m : Nat, m ≤ N ∧ i = .int .i64 m ∧ DkAt ws bb none 0 (setl (fun _ => true) wt bl wt.length) [] ∧ Below w.heap.size w ws) (fun i _ => N - (intOf i).toNat)
          case atStart => exact ⟨0, Nat.zero_le _, rfl, HD2.out, HB2.out⟩
          case round =>
            clear HD2 HB2
            obtain ⟨m, hm, rfl, D, hB⟩ := hrel
            have hB9 : Hid _ := hB
            by_cases hmn : m < N
            · obtain ⟨b, hb⟩ := get_lt (l := setl (fun _ => true) wt bl wt.length) hmn (by rw [setl_len]; exact hbl)
              have R1 := read_any m b wr D hb (by simp)
              have HC1 : Hid (∀ wx, Below wr.heap.size wr wx → Calls Tryd.prog 9 #[.pointer (some ⟨bb + 1, 0, none⟩), .slice none 0 0] wx fun e w' => e = .returned (.tuple #[]) ∧ DkAt w' bb none 0 (setl (fun _ => true) wt bl wt.length) [] ∧ Below w.heap.size w w') := fun wx hx => by
                have Dx := D.below (Nat.le_refl _) hx
                exact (crash_any (.slice none 0 0) [] wx Dx (by simp) (IntsAt.nil _) (by simp)).mono fun e w' ⟨he, D', hB'⟩ => ⟨he, D', Dx.up hbw (hB.trans (hx.mono hB.size)) hB'⟩
              have HR2 : Hid (∀ wx, DkAt wx bb none 0 (setl (fun _ => true) wt bl wt.length) [] → Below w.heap.size w wx → Calls Tryd.prog 8 #[.pointer (some ⟨bb + 1, 0, none⟩), .int .i64 (m : Int)] wx fun e w' => e = .returned (.tuple #[.string (rdS (setl (fun _ => true) wt bl wt.length) [] m), .nilIface]) ∧ DkAt w' bb none 0 (setl (fun _ => true) wt bl wt.length) [] ∧ Below w.heap.size w w') := fun wx Dx hx =>
                (read_any m b wx Dx hb (by simp)).mono fun e w' ⟨he, hB'⟩ => ⟨he, Dx.below (Nat.le_refl _) hB', hx.trans (hB'.mono hx.size)⟩
              have HR1 : Hid (Calls Tryd.prog 8 #[.pointer (some ⟨bb + 1, 0, none⟩), .int .i64 (m : Int)] wr fun e w' => e = .returned (.tuple #[.string (rdS (setl (fun _ => true) wt bl wt.length) [] m), .nilIface]) ∧ Below wr.heap.size wr w') := R1
              obtain ⟨sv, HSV⟩ : ∃ sv, Hid (sv = rdS (setl (fun _ => true) wt bl wt.length) [] m) := ⟨_, (rfl : rdS (setl (fun _ => true) wt bl wt.length) [] m = _)⟩
              rw [← HSV.out] at HR1 HR2
              have HW0 : Hid (∀ wx, DkAt wx bb none 0 (setl (fun _ => true) wt bl wt.length) [] → Calls Tryd.prog 10 #[.pointer (some ⟨bb + 1, 0, none⟩)] wx fun e w' => e = .returned (.int .i64 0) ∧ w' = wx) := fun wx Dx => waits_any wx Dx
              clear R1 D hB hb
              go_wp2_with (first
                | (go_at_call 8; refine HR1.out.mono ?_; rintro e w3 ⟨rfl, hb3⟩; clear HR1)
                | (go_at_call 9; refine (HC1.out _ hb3).mono ?_; rintro e w4 ⟨rfl, D4, hb4⟩; clear HC1 hb3)
                | (go_at_call 8; refine (HR2.out _ D4 hb4).mono ?_; rintro e w5 ⟨rfl, D5, hb5⟩; clear HR2 D4 hb4)
                | (go_at_call 10; refine (HW0.out _ D5).mono ?_; rintro e w6 ⟨rfl, hw⟩; rw [hw]; clear hw))
              exact ⟨⟨m + 1, by omega, by simp, D5, hb5⟩, by simp [intOf]; omega⟩
            · obtain rfl : N = m := by omega
              have HE : Hid (DkIn w.heap.size bb N acts (j + 1) w wr) := ⟨none, 0, _, _, D, by rw [setl_len]; exact hbl, HG.out.settle _ _, by simp, hbw, hB⟩
              clear D hB
              go_wp2_with fail
              exact ⟨⟨j + 1, by omega, by simp, HE.out⟩, by simp [intOf]; omega⟩
        | false =>
          have hkd' : (a.kind.toList == [98, 97, 114, 114, 105, 101, 114]) = false := hkd
          have HWR : Hid (∀ wx, wx = wr.drew → Calls Tryd.prog 11 #[.pointer (some ⟨bb + 1, 0, none⟩), .int .i64 a.k, .string a.s] wx fun e w' => (∃ u, e = .returned u) ∧ DkIn w.heap.size bb N acts (j + 1) w w' ∧ Below w.heap.size w w') := fun wx hx => by
            have Dx : DkAt wx bb va vc bl wt := by rw [hx]; exact D.ext fun _ _ => rfl
            have hBx : Below w.heap.size w wx := by rw [hx]; exact hB.drew
            refine (write_any a.k a.s (.iface 120 p) wx Dx (by rw [hx]; exact HER2.out) hwl').mono fun e w' h => ?_
            rcases h with ⟨h1, h2, he, va', vc', D', hB', _⟩ | ⟨_, he, D', hB'⟩
            · have hb' := Dx.up hbw hBx hB'
              have hkk := of_decide_eq_true h1
              refine ⟨⟨_, he⟩, ⟨va', vc', bl, _, D', hbl, hG.write ⟨j, a, HX.out, hkd, ?_, ?_⟩, by simp; omega, hbw, hb'⟩, hb'⟩
              · show a.k = ((a.k.toNat : Nat) : Int)
                omega
              · show a.s = ⟨a.s.data.toList.toArray⟩
                simp
            · have hb' : Below w.heap.size w w' := hBx.trans (hB'.mono hBx.size)
              exact ⟨⟨_, he⟩, ⟨va, vc, bl, wt, D', hbl, hG, by omega, hbw, hb'⟩, hb'⟩
          clear D hG hB hkd
          go_wp2_with fail
          refine wp_region_held_drew (S := fun w' => w'.cell? ⟨ab, ao + j * 5 + 2, none⟩ = some (.int .i64 a.k) ∧ w'.cell? ⟨ab, ao + j * 5 + 1, none⟩ = some (.string a.s)) (by kernel_rfl) (HSS.out _ (Below.refl _ _).drew) (fun hHeld => ?_)
          refine wpAnyH_take (i := 0) (v := .pointer (some ⟨bb + 1, 0, none⟩)) rfl (by kernel_rfl) (by kernel_rfl) (by kernel_rfl) (fun _ _ _ h => h) (Or.inl ⟨by rfl, ?_⟩) hHeld ?_
          · intro w hSw; (try dsimp only at hSw); simp only [List.getElem_toArray, List.getElem_cons_zero]; go_simp
          simp only [List.getElem_toArray, List.getElem_cons_zero, Act.put, List.setIfInBounds_toArray, List.set_cons_zero, List.set_cons_succ]
          refine wpAnyH_take (i := 1) (v := (.slice (some ⟨ab, ao, none⟩) acts.length lc)) rfl (by kernel_rfl) (by kernel_rfl) (by kernel_rfl) (fun _ _ _ h => h) (Or.inl ⟨by rfl, ?_⟩) hHeld ?_
          · intro w hSw; (try dsimp only at hSw); simp only [List.getElem_toArray, List.getElem_cons_zero, List.getElem_cons_succ]; go_simp
          simp only [List.getElem_toArray, List.getElem_cons_zero, List.getElem_cons_succ, Act.put, List.setIfInBounds_toArray, List.set_cons_zero, List.set_cons_succ]
          refine wpAnyH_take (i := 2) (v := .int .i64 (j : Int)) rfl (by kernel_rfl) (by kernel_rfl) (by kernel_rfl) (fun _ _ _ h => h) (Or.inl ⟨by rfl, ?_⟩) hHeld ?_
          · intro w hSw; (try dsimp only at hSw); simp only [List.getElem_toArray, List.getElem_cons_zero, List.getElem_cons_succ]; go_simp
          simp only [List.getElem_toArray, List.getElem_cons_zero, List.getElem_cons_succ, Act.put, List.setIfInBounds_toArray, List.set_cons_zero, List.set_cons_succ]
          refine wpAnyH_take (i := 3) (v := .pointer (some ⟨ab, ao + j * 5, none⟩)) rfl (by kernel_rfl) (by kernel_rfl) (by kernel_rfl) (fun _ _ _ h => h) (Or.inl ⟨by rfl, ?_⟩) hHeld ?_
          · intro w hSw; (try dsimp only at hSw); simp only [List.getElem_toArray, List.getElem_cons_zero, List.getElem_cons_succ]; go_simp
          simp only [List.getElem_toArray, List.getElem_cons_zero, List.getElem_cons_succ, Act.put, List.setIfInBounds_toArray, List.set_cons_zero, List.set_cons_succ]
          refine wpAnyH_take (i := 4) (v := .pointer (some ⟨ab, ao + j * 5 + 2, none⟩)) rfl (by kernel_rfl) (by kernel_rfl) (by kernel_rfl) (fun _ _ _ h => h) (Or.inl ⟨by rfl, ?_⟩) hHeld ?_
          · intro w hSw; (try dsimp only at hSw); simp only [List.getElem_toArray, List.getElem_cons_zero, List.getElem_cons_succ]; go_simp
          simp only [List.getElem_toArray, List.getElem_cons_zero, List.getElem_cons_succ, Act.put, List.setIfInBounds_toArray, List.set_cons_zero, List.set_cons_succ]
          refine wpAnyH_take (i := 5) (v := .int .i64 a.k) rfl (by kernel_rfl) (by kernel_rfl) (by kernel_rfl) (fun _ _ _ h => h) (Or.inl ⟨by rfl, ?_⟩) hHeld ?_
          · intro w hSw; (try dsimp only at hSw); simp only [List.getElem_toArray, List.getElem_cons_zero, List.getElem_cons_succ]; go_simp
          simp only [List.getElem_toArray, List.getElem_cons_zero, List.getElem_cons_succ, Act.put, List.setIfInBounds_toArray, List.set_cons_zero, List.set_cons_succ]
          refine wpAnyH_take (i := 6) (v := (.slice (some ⟨ab, ao, none⟩) acts.length lc)) rfl (by kernel_rfl) (by kernel_rfl) (by kernel_rfl) (fun _ _ _ h => h) (Or.inl ⟨by rfl, ?_⟩) hHeld ?_
          · intro w hSw; (try dsimp only at hSw); simp only [List.getElem_toArray, List.getElem_cons_zero, List.getElem_cons_succ]; go_simp
          simp only [List.getElem_toArray, List.getElem_cons_zero, List.getElem_cons_succ, Act.put, List.setIfInBounds_toArray, List.set_cons_zero, List.set_cons_succ]
          refine wpAnyH_take (i := 7) (v := .int .i64 (j : Int)) rfl (by kernel_rfl) (by kernel_rfl) (by kernel_rfl) (fun _ _ _ h => h) (Or.inl ⟨by rfl, ?_⟩) hHeld ?_
          · intro w hSw; (try dsimp only at hSw); simp only [List.getElem_toArray, List.getElem_cons_zero, List.getElem_cons_succ]; go_simp
          simp only [List.getElem_toArray, List.getElem_cons_zero, List.getElem_cons_succ, Act.put, List.setIfInBounds_toArray, List.set_cons_zero, List.set_cons_succ]
          refine wpAnyH_take (i := 8) (v := .pointer (some ⟨ab, ao + j * 5, none⟩)) rfl (by kernel_rfl) (by kernel_rfl) (by kernel_rfl) (fun _ _ _ h => h) (Or.inl ⟨by rfl, ?_⟩) hHeld ?_
          · intro w hSw; (try dsimp only at hSw); simp only [List.getElem_toArray, List.getElem_cons_zero, List.getElem_cons_succ]; go_simp
          simp only [List.getElem_toArray, List.getElem_cons_zero, List.getElem_cons_succ, Act.put, List.setIfInBounds_toArray, List.set_cons_zero, List.set_cons_succ]
          refine wpAnyH_take (i := 9) (v := .pointer (some ⟨ab, ao + j * 5 + 1, none⟩)) rfl (by kernel_rfl) (by kernel_rfl) (by kernel_rfl) (fun _ _ _ h => h) (Or.inl ⟨by rfl, ?_⟩) hHeld ?_
          · intro w hSw; (try dsimp only at hSw); simp only [List.getElem_toArray, List.getElem_cons_zero, List.getElem_cons_succ]; go_simp
          simp only [List.getElem_toArray, List.getElem_cons_zero, List.getElem_cons_succ, Act.put, List.setIfInBounds_toArray, List.set_cons_zero, List.set_cons_succ]
          refine wpAnyH_take (i := 10) (v := .string a.s) rfl (by kernel_rfl) (by kernel_rfl) (by kernel_rfl) (fun _ _ _ h => h) (Or.inl ⟨by rfl, ?_⟩) hHeld ?_
          · intro w hSw; (try dsimp only at hSw); simp only [List.getElem_toArray, List.getElem_cons_zero, List.getElem_cons_succ]; go_simp
          simp only [List.getElem_toArray, List.getElem_cons_zero, List.getElem_cons_succ, Act.put, List.setIfInBounds_toArray, List.set_cons_zero, List.set_cons_succ]
          refine wpAnyH_ready (rs := [11]) (by kernel_rfl) (by simp) ?_
          refine AllReadyH.cons rfl (fun K' hK' => ?_) AllReadyH.nil
          simp only [List.getElem_toArray, List.getElem_cons_zero, List.getElem_cons_succ]
          go_simp
          refine Calls.mono (HWR.out _ rfl) ?_
          rintro e w3 ⟨⟨u3, rfl⟩, hex, hB3⟩
          have HEX : Hid _ := hex
          have HB3 : Hid _ := hB3
          clear hex hB3
          go_wp2_with fail
          refine hK'.out _ _ (HS3.out _ HB3.out) (fun hHeld' => ?_)
          clear hK' K' hHeld
          have hHeld := hHeld'
          clear hHeld'
          refine wpAnyH_done (by kernel_rfl) ?_ _
          go_wp2_with fail
          exact ⟨⟨j + 1, by omega, by simp, HEX.out⟩, by simp [intOf]; omega⟩
    · obtain rfl : j = acts.length := by omega
      obtain ⟨W2, hW2⟩ : ∃ W2, W2 = wr := ⟨_, rfl⟩
      subst hW2
      obtain ⟨i0, hi0, hz0, hz1, hz2⟩ := info_parts infoSt
      have hW2s := hB.size
      have hltD := D.lt
      clear D hG hB
      go_wp2_with fail
      go_loopw [20, 21] (fun sv i ws => ∃ (m : Nat) (sa : Option Addr) (sc : Nat), m ≤ N ∧ i = .int .i64 m ∧ sv = .slice sa m sc ∧ ws.ownsRow W2.heap.size 9 1 (.slice sa m sc) m ((List.range m).map fun q => .string (rdS bl wt q)) ∧ Below W2.heap.size W2 ws) (fun _ i _ => N - (intOf i).toNat)
      case atStart => exact ⟨0, none, 0, Nat.zero_le _, rfl, rfl, World.ownsRow_nil _ _ _ _, Below.refl _ _⟩
      case round =>
        obtain ⟨m, sa, sc, hm, rfl, rfl, hown, hB⟩ := hrel
        have HOWN : Hid _ := hown
        have HBS : Hid _ := hB
        have Ds := HD.out.below (Nat.le_refl _) hB
        by_cases hmn : m < N
        · obtain ⟨b, hb⟩ := get_lt (l := bl) hmn hbl
          have HR1 : Hid (Calls Tryd.prog 8 #[.pointer (some ⟨bb + 1, 0, none⟩), .int .i64 (m : Int)] wr fun e w' => e = .returned (.tuple #[.string (rdS bl wt m), .nilIface]) ∧ Below wr.heap.size wr w') := read_any m b wr Ds hb hwl'
          have hsw := hB.size
          clear Ds hb hown hB
          go_wp2_with (first
            | (go_at_call 8; refine HR1.out.mono ?_; rintro e w3 ⟨rfl, hb3⟩; have hs3 := hb3.size; have HOW3 : Hid ((w3.alloc (.cells #[.string (rdS bl wt m)] 9)).ownsRow W2.heap.size 9 1 (.slice sa m sc) m ((List.range m).map fun q => .string (rdS bl wt q))) := World.ownsRow.alloc (ownsRow_same HOWN.out fun q hq => hb3.block q (World.ownsRow.lt HOWN.out q hq).2) _; clear HR1)
            | (at_builtin; go_loud (refine wpList_append_own _ (by rfl) (.tmp 136) (.tmp 138) 37 (by rfl) W2.heap.size 9 i0 _ 1 16 Tryd.underlying37 hi0 hz0 hz1 hz2 rfl (by omega) (.slice sa m sc) m ((List.range m).map fun q => .string (rdS bl wt q)) (by rfl) HOW3.out ⟨w3.heap.size, 0, none⟩ 1 1 [.string (rdS bl wt m)] (by rfl) (by rfl) (World.news_of_block (cs := #[.string (rdS bl wt m)]) (t := 9) (fr := (0, 0)) (heap_alloc_last w3 _)) (by simp [Value.oneCell']) (by unfold maxLen; omega) (by omega) (by simp; omega) ?_; intro v' w4 hown4 hgrow _)))
          obtain ⟨g, cap, rfl⟩ : ∃ g cap, v' = .slice (some ⟨g, 0, none⟩) (m + 1) cap := by
            rcases hown4.2 with ⟨_, e0⟩ | ⟨g, cap, cur, e, _⟩
            · omega
            · exact ⟨_, _, e⟩
          have hB4 : Below W2.heap.size W2 w4 := ((HBS.out.trans (hb3.mono hsw)).alloc (by omega) _).grown hgrow (by simp; omega) fun q hq => (World.ownsRow.lt HOWN.out q hq).1
          have hown5 : w4.ownsRow W2.heap.size 9 1 (.slice (some ⟨g, 0, none⟩) (m + 1) cap) (m + 1) ((List.range (m + 1)).map fun q => .string (rdS bl wt q)) := by
            rw [List.range_succ, List.map_append]; exact hown4
          exact ⟨⟨m + 1, some ⟨g, 0, none⟩, cap, by omega, by simp, rfl, hown5, hB4⟩, by simp [intOf]; omega⟩
        · obtain rfl : N = m := by omega
          have HDs : Hid (DkAt wr bb va vc bl wt) := Ds
          have HBz : Hid (Below w.heap.size w wr) := HBw.out.trans (hB.mono hW2s)
          have hBs := hB.size
          obtain ⟨g, sc', cur, e, hg1, hg2⟩ : ∃ g sc' cur, Value.slice sa N sc = .slice (some ⟨g, 0, none⟩) N sc' ∧ W2.heap.size ≤ g ∧ (wr.heap[g]? = some (.cells cur 9 (0, 0)) ∧ cur.toList.take (N * 1) = (List.range N).map fun q => .string (rdS bl wt q)) := by
            rcases hown.2 with ⟨_, e0⟩ | ⟨g, cap, cur, e, h1, h2, _, _, _, h6⟩
            · omega
            · exact ⟨g, cap, cur, e, h1, h2, h6⟩
          simp only [Value.slice.injEq] at e
          obtain ⟨rfl, _, rfl⟩ := e
          obtain ⟨hg2, hg6⟩ := hg2
          have hgc : ∀ q, q < N → cur[q]? = some (.string (rdS bl wt q)) := fun q hq => by
            have h : (cur.toList.take (N * 1))[q]? = some (.string (rdS bl wt q)) := by rw [hg6]; simp [hq]
            rw [List.getElem?_take_of_lt (by omega), Array.getElem?_toList] at h
            exact h
          have HGC : Hid _ := hgc
          have HGR : Hid _ := hg2
          clear hgc hg2 hg6 hown Ds hB
          by_cases hrot : hasB bl.length k = true ∧ 0 ≤ bit ∧ bit < 128
          · obtain ⟨hr1, hr2, hr3⟩ := hrot
            obtain ⟨kn, rfl⟩ : ∃ kn : Nat, k = kn := ⟨k.toNat, by have := of_decide_eq_true hr1; omega⟩
            obtain ⟨bn, rfl⟩ : ∃ bn : Nat, bit = bn := ⟨bit.toNat, by omega⟩
            obtain ⟨b, hb⟩ := get_lt (l := bl) (j := kn) (n := bl.length) (by have := of_decide_eq_true hr1; omega) rfl
            have hlk := (List.getElem?_eq_some_iff.1 hb).1
            have HRT1 : Hid (Calls Tryd.prog 12 #[.pointer (some ⟨bb + 1, 0, none⟩), .int .i64 (kn : Int), .int .i64 (bn : Int)] wr fun e w' => e = .returned .nilIface ∧ DkAt w' bb va vc (bl.set kn (turnL b bn)) (wt.map (rotX kn bn)) ∧ DkBut bb va wr w') := rot_any kn bn b wr HDs.out hb (by omega) hwl'
            have HRT2 : Hid (∀ w4, DkAt w4 bb va vc (bl.set kn (turnL b bn)) (wt.map (rotX kn bn)) → DkBut bb va wr w4 → Calls Tryd.prog 12 #[.pointer (some ⟨bb + 1, 0, none⟩), .int .i64 (kn : Int), .int .i64 (bn : Int)] w4 fun e w' => e = .returned .nilIface ∧ DkAt w' bb va vc bl wt ∧ DkBut bb va wr w') := fun w4 D4 h4 =>
              (rot_any kn bn (turnL b bn) w4 D4 (by rw [List.getElem?_set_self hlk]) (by omega) (by rw [List.length_map]; exact hwl')).mono fun e w' ⟨he, D', hB'⟩ => ⟨he, by
                have := rot_back (wt := wt) (bit := bn) hb
                rw [this.1, this.2] at D'; exact D', h4.trans hB'⟩
            clear hb hr1 hr2 hr3
            go_wp2_with (first
              | (go_at_call 12; refine HRT1.out.mono ?_; rintro e w4 ⟨rfl, D4, hB4⟩; clear HRT1)
              | (go_at_call 12; refine (HRT2.out _ D4 hB4).mono ?_; rintro e w5 ⟨rfl, D5, hB5⟩; clear HRT2 D4 hB4))
            have HD5 : Hid (DkAt w5 bb va vc bl wt) := D5
            have HB5 : Hid (Below w.heap.size w w5) := HDs.out.up hbw HBz.out hB5
            have HGR5 : Hid (w5.heap[g]? = some (.cells cur 9 (0, 0))) := by
              have hgl' := (Array.getElem?_eq_some_iff.1 HGR.out).1
              show _ = _
              rw [hB5.block g hgl' (by omega) (by omega) (fun a ha => by have := (HD.out.low a ha).2.1; omega)]; exact HGR.out
            clear D5 hB5 HDs HBz HGR hBs
            go_loopw [24] (fun i ws => ∃ m : Nat, m ≤ N ∧ i = .int .i64 m ∧ Below w5.heap.size w5 ws) (fun i _ => N - (intOf i).toNat)
            case atStart => exact ⟨0, Nat.zero_le _, rfl, Below.refl _ _⟩
            case round =>
              obtain ⟨m, hm, rfl, hB⟩ := hrel
              have HBs : Hid _ := hB
              have hs5 := hB.size
              have Ds := HD5.out.below (Nat.le_refl _) hB
              have hgl5 := (Array.getElem?_eq_some_iff.1 HGR5.out).1
              by_cases hmn : m < N
              · obtain ⟨b, hb⟩ := get_lt (l := bl) hmn hbl
                have HR1 : Hid (Calls Tryd.prog 8 #[.pointer (some ⟨bb + 1, 0, none⟩), .int .i64 (m : Int)] wr fun e w' => e = .returned (.tuple #[.string (rdS bl wt m), .nilIface]) ∧ Below wr.heap.size wr w') := read_any m b wr Ds hb hwl'
                have HGw : Hid (∀ w6, Below wr.heap.size wr w6 → w6.cell? ⟨g, m, none⟩ = some (.string (rdS bl wt m))) := fun w6 h6 => by
                  rw [h6.cell (p := ⟨g, m, none⟩) (by simp only; omega), hB.cell (p := ⟨g, m, none⟩) hgl5, cell_of_row _ _ _ _ _ _ HGR5.out, HGC.out m hmn]
                clear Ds hb hB
                go_wp2_with (go_at_call 8; refine HR1.out.mono ?_; rintro e w6 ⟨rfl, hb6⟩; have cg := HGw.out _ hb6; clear HR1)
                exact ⟨⟨m + 1, by omega, by simp, HBs.out.trans (hb6.mono hs5)⟩, by simp [intOf]; omega⟩
              · obtain rfl : N = m := by omega
                have hBz : Below w.heap.size w wr := HB5.out.trans (hB.mono HB5.out.size)
                have HOI : Hid (Calls Tryd.prog 13 #[.slice ka keep.length kc] wr fun e w' => ∃ v', e = .returned v' ∧ IntsAt w' v' keep ∧ Below wr.heap.size wr w') := ownInts_any _ keep wr (HKI.out.below hBz) (by omega)
                have HCR : Hid (∀ v' wx, IntsAt wx v' keep → Below wr.heap.size wr wx → Calls Tryd.prog 9 #[.pointer (some ⟨bb + 1, 0, none⟩), v'] wx fun e w' => e = .returned (.tuple #[]) ∧ DkAt w' bb none 0 (setl (keptB wt.length keep) wt bl wt.length) [] ∧ Below w.heap.size w w') := fun v' wx hi hx => by
                  have Dx := Ds.below (Nat.le_refl _) hx
                  exact (crash_any v' keep wx Dx hwl' hi (by omega)).mono fun e w' ⟨he, D', hB'⟩ => ⟨he, D', Dx.up hbw (hBz.trans (hx.mono hBz.size)) hB'⟩
                obtain ⟨BL, HBL⟩ : ∃ BL, Hid (BL = setl (keptB wt.length keep) wt bl wt.length) := ⟨_, (rfl : setl (keptB wt.length keep) wt bl wt.length = _)⟩
                rw [← HBL.out] at HCR
                have HG8 : Hid (Good acts BL []) := by rw [HBL.out]; exact HG.out.settle _ _
                have hBLl : BL.length = N := by rw [HBL.out, setl_len]; exact hbl
                clear Ds hB hBz
                go_wp2_with (first
                  | (go_at_call 13; refine HOI.out.mono ?_; rintro e w7 ⟨v7, rfl, hi7, hb7⟩; clear HOI)
                  | (go_at_call 9; refine (HCR.out _ _ hi7 hb7).mono ?_; rintro e w8 ⟨rfl, D8, hb8⟩; clear HCR hi7 hb7))
                have HD8 : Hid _ := D8
                have HB8 : Hid _ := hb8
                clear D8 hb8 HD5 HB5 HGR5 HBs hs5 hgl5
                go_loopw [27] (fun i ws => ∃ m : Nat, m ≤ N ∧ i = .int .i64 m ∧ DkAt ws bb none 0 BL [] ∧ Below w.heap.size w ws) (fun i _ => N - (intOf i).toNat)
                case atStart => exact ⟨0, Nat.zero_le _, rfl, HD8.out, HB8.out⟩
                case round =>
                  obtain ⟨m, hm, rfl, D, hB⟩ := hrel
                  have HBm : Hid _ := hB
                  by_cases hmn : m < N
                  · obtain ⟨b, hb⟩ := get_lt (l := BL) hmn hBLl
                    have HR1 : Hid (Calls Tryd.prog 8 #[.pointer (some ⟨bb + 1, 0, none⟩), .int .i64 (m : Int)] wr fun e w' => e = .returned (.tuple #[.string (rdS BL [] m), .nilIface]) ∧ DkAt w' bb none 0 BL [] ∧ Below w.heap.size w w') := (read_any m b wr D hb (by simp)).mono fun e w' ⟨he, hB'⟩ => ⟨he, D.below (Nat.le_refl _) hB', hB.trans (hB'.mono hB.size)⟩
                    have HOK : Hid (((rdS BL [] m).toList == (zerosB 16).toList || anyW acts m (rdS BL [] m) acts.length) = true) := hit_all (HG8.out.rd hb)
                    have HZ : Hid (∀ w1, Calls Tryd.prog 14 #[.int .i64 16] w1 fun e w' => e = .returned (.string (zerosB 16)) ∧ w' = w1) := fun w1 => zeros_any 16 (by omega) w1
                    obtain ⟨sv, HSV⟩ : ∃ sv, Hid (sv = rdS BL [] m) := ⟨_, (rfl : rdS BL [] m = _)⟩
                    rw [← HSV.out] at HR1 HOK
                    clear D hB hb
                    go_wp2_with (first
                      | (go_at_call 8; refine HR1.out.mono ?_; rintro e w9 ⟨rfl, D9, hb9⟩; clear HR1)
                      | (go_at_call 14; refine (HZ.out _).mono ?_; rintro e w10 ⟨rfl, hw⟩; rw [hw]; clear hw HZ))
                    have HD9 : Hid _ := D9
                    have HB9 : Hid _ := hb9
                    clear D9 hb9
                    obtain ⟨zz, HZZ⟩ : ∃ zz, Hid (zz = zerosB 16) := ⟨_, (rfl : zerosB 16 = _)⟩
                    rw [← HZZ.out] at HOK ⊢
                    go_loopw [30, 31] (fun u i ws => ∃ (q : Nat) (t : Bool), q ≤ acts.length ∧ i = .int .i64 q ∧ u = .bool t ∧ Hid (t = (sv.toList == zz.toList || anyW acts m sv q)) ∧ ws = w9) (fun _ i _ => acts.length - (intOf i).toNat)
                    case atStart => exact ⟨0, _, Nat.zero_le _, rfl, rfl, (by show _ = _; simp [anyW]), rfl⟩
                    case round =>
                      obtain ⟨q, t, hq, rfl, rfl, HT, rfl⟩ := hrel
                      by_cases hql : q < acts.length
                      · obtain ⟨a, HX⟩ : ∃ a, Hid (acts[q]? = some a) := ⟨_, List.getElem?_eq_getElem hql⟩
                        obtain ⟨ab, ao, kv, rfl, q0, q1, q2, _, _, _⟩ := HAC.out q a HX.out
                        have hab := World.block_lt_of_cell? w _ q0
                        simp only at hab
                        have c0 : wr.cell? ⟨ab, ao + q * 5, none⟩ = some (.string a.kind) := by rw [HB9.out.cell (p := ⟨ab, ao + q * 5, none⟩) hab]; exact q0
                        have c1 : wr.cell? ⟨ab, ao + q * 5 + 1, none⟩ = some (.string a.s) := by rw [HB9.out.cell (p := ⟨ab, ao + q * 5 + 1, none⟩) hab]; exact q1
                        have c2 : wr.cell? ⟨ab, ao + q * 5 + 2, none⟩ = some (.int .i64 a.k) := by rw [HB9.out.cell (p := ⟨ab, ao + q * 5 + 2, none⟩) hab]; exact q2
                        have HNX : Hid (anyW acts m sv (q + 1) = (anyW acts m sv q || hitA m sv a)) := anyW_next HX.out
                        clear q0 q1 q2
                        cases k1 : (a.kind.toList == barL) with
                        | true =>
                          have k1' : (a.kind.toList == [98, 97, 114, 114, 105, 101, 114]) = true := k1
                          have HE : Hid (t = (sv.toList == zz.toList || anyW acts m sv (q + 1))) := by
                            show _ = _
                            rw [HNX.out, hitA, k1, HT.out]; simp
                          clear k1
                          go_wp2_with fail
                          exact ⟨⟨q + 1, t, by omega, by simp, rfl, HE, (by first | rfl | trivial)⟩, by simp [intOf]; omega⟩
                        | false =>
                          have k1' : (a.kind.toList == [98, 97, 114, 114, 105, 101, 114]) = false := k1
                          cases k2 : (a.k == (m : Int)) with
                          | false =>
                            have HE : Hid (t = (sv.toList == zz.toList || anyW acts m sv (q + 1))) := by
                              show _ = _
                              rw [HNX.out, hitA, k2, HT.out]; simp
                            clear k1
                            go_wp2_with fail
                            exact ⟨⟨q + 1, t, by omega, by simp, rfl, HE, (by first | rfl | trivial)⟩, by simp [intOf]; omega⟩
                          | true =>
                            cases k3 : (a.s.toList == sv.toList) with
                            | false =>
                              have HE : Hid (t = (sv.toList == zz.toList || anyW acts m sv (q + 1))) := by
                                show _ = _
                                rw [HNX.out, hitA, k3, HT.out]; simp
                              clear k1
                              go_wp2_with fail
                              exact ⟨⟨q + 1, t, by omega, by simp, rfl, HE, (by first | rfl | trivial)⟩, by simp [intOf]; omega⟩
                            | true =>
                              have HE : Hid (true = (sv.toList == zz.toList || anyW acts m sv (q + 1))) := by
                                show _ = _
                                rw [HNX.out, hitA, k1, k2, k3]; simp
                              clear k1
                              go_wp2_with fail
                              exact ⟨⟨q + 1, true, by omega, by simp, rfl, HE, (by first | rfl | trivial)⟩, by simp [intOf]; omega⟩
                      · obtain rfl : q = acts.length := by omega
                        obtain rfl : t = true := HT.out.trans HOK.out
                        go_wp2_with fail
                        exact ⟨⟨m + 1, by omega, by simp, HD9.out, HB9.out⟩, by simp [intOf]; omega⟩
                  · clear D hB
                    go_wp2_with fail
                    go_ret
                    exact ⟨rfl, HBm.out⟩
          · have HRN := rot_not k bit (.iface 120 p) wr HDs.out hrot (by rw [HBz.out.cell (p := ⟨0, 0, none⟩) hgl]; exact HER.out)
            clear hrot
            go_wp2_with (go_at_call 12; refine HRN.mono ?_; rintro e w5 ⟨rfl, hw⟩; rw [hw]; clear hw)
            obtain ⟨w5, hw5⟩ : ∃ w5, w5 = wr := ⟨_, rfl⟩
            subst hw5
            have HD5 : Hid (DkAt w5 bb va vc bl wt) := HDs.out
            have HB5 : Hid (Below w.heap.size w w5) := HBz.out
            have HGR5 : Hid (w5.heap[g]? = some (.cells cur 9 (0, 0))) := HGR.out
            clear HDs HBz HGR hBs HRN
            go_loopw [24] (fun i ws => ∃ m : Nat, m ≤ N ∧ i = .int .i64 m ∧ Below w5.heap.size w5 ws) (fun i _ => N - (intOf i).toNat)
            case atStart => exact ⟨0, Nat.zero_le _, rfl, Below.refl _ _⟩
            case round =>
              obtain ⟨m, hm, rfl, hB⟩ := hrel
              have HBs : Hid _ := hB
              have hs5 := hB.size
              have Ds := HD5.out.below (Nat.le_refl _) hB
              have hgl5 := (Array.getElem?_eq_some_iff.1 HGR5.out).1
              by_cases hmn : m < N
              · obtain ⟨b, hb⟩ := get_lt (l := bl) hmn hbl
                have HR1 : Hid (Calls Tryd.prog 8 #[.pointer (some ⟨bb + 1, 0, none⟩), .int .i64 (m : Int)] wr fun e w' => e = .returned (.tuple #[.string (rdS bl wt m), .nilIface]) ∧ Below wr.heap.size wr w') := read_any m b wr Ds hb hwl'
                have HGw : Hid (∀ w6, Below wr.heap.size wr w6 → w6.cell? ⟨g, m, none⟩ = some (.string (rdS bl wt m))) := fun w6 h6 => by
                  rw [h6.cell (p := ⟨g, m, none⟩) (by simp only; omega), hB.cell (p := ⟨g, m, none⟩) hgl5, cell_of_row _ _ _ _ _ _ HGR5.out, HGC.out m hmn]
                clear Ds hb hB
                go_wp2_with (go_at_call 8; refine HR1.out.mono ?_; rintro e w6 ⟨rfl, hb6⟩; have cg := HGw.out _ hb6; clear HR1)
                exact ⟨⟨m + 1, by omega, by simp, HBs.out.trans (hb6.mono hs5)⟩, by simp [intOf]; omega⟩
              · obtain rfl : N = m := by omega
                have hBz : Below w.heap.size w wr := HB5.out.trans (hB.mono HB5.out.size)
                have HOI : Hid (Calls Tryd.prog 13 #[.slice ka keep.length kc] wr fun e w' => ∃ v', e = .returned v' ∧ IntsAt w' v' keep ∧ Below wr.heap.size wr w') := ownInts_any _ keep wr (HKI.out.below hBz) (by omega)
                have HCR : Hid (∀ v' wx, IntsAt wx v' keep → Below wr.heap.size wr wx → Calls Tryd.prog 9 #[.pointer (some ⟨bb + 1, 0, none⟩), v'] wx fun e w' => e = .returned (.tuple #[]) ∧ DkAt w' bb none 0 (setl (keptB wt.length keep) wt bl wt.length) [] ∧ Below w.heap.size w w') := fun v' wx hi hx => by
                  have Dx := Ds.below (Nat.le_refl _) hx
                  exact (crash_any v' keep wx Dx hwl' hi (by omega)).mono fun e w' ⟨he, D', hB'⟩ => ⟨he, D', Dx.up hbw (hBz.trans (hx.mono hBz.size)) hB'⟩
                obtain ⟨BL, HBL⟩ : ∃ BL, Hid (BL = setl (keptB wt.length keep) wt bl wt.length) := ⟨_, (rfl : setl (keptB wt.length keep) wt bl wt.length = _)⟩
                rw [← HBL.out] at HCR
                have HG8 : Hid (Good acts BL []) := by rw [HBL.out]; exact HG.out.settle _ _
                have hBLl : BL.length = N := by rw [HBL.out, setl_len]; exact hbl
                clear Ds hB hBz
                go_wp2_with (first
                  | (go_at_call 13; refine HOI.out.mono ?_; rintro e w7 ⟨v7, rfl, hi7, hb7⟩; clear HOI)
                  | (go_at_call 9; refine (HCR.out _ _ hi7 hb7).mono ?_; rintro e w8 ⟨rfl, D8, hb8⟩; clear HCR hi7 hb7))
                have HD8 : Hid _ := D8
                have HB8 : Hid _ := hb8
                clear D8 hb8 HD5 HB5 HGR5 HBs hs5 hgl5
                go_loopw [27] (fun i ws => ∃ m : Nat, m ≤ N ∧ i = .int .i64 m ∧ DkAt ws bb none 0 BL [] ∧ Below w.heap.size w ws) (fun i _ => N - (intOf i).toNat)
                case atStart => exact ⟨0, Nat.zero_le _, rfl, HD8.out, HB8.out⟩
                case round =>
                  obtain ⟨m, hm, rfl, D, hB⟩ := hrel
                  have HBm : Hid _ := hB
                  by_cases hmn : m < N
                  · obtain ⟨b, hb⟩ := get_lt (l := BL) hmn hBLl
                    have HR1 : Hid (Calls Tryd.prog 8 #[.pointer (some ⟨bb + 1, 0, none⟩), .int .i64 (m : Int)] wr fun e w' => e = .returned (.tuple #[.string (rdS BL [] m), .nilIface]) ∧ DkAt w' bb none 0 BL [] ∧ Below w.heap.size w w') := (read_any m b wr D hb (by simp)).mono fun e w' ⟨he, hB'⟩ => ⟨he, D.below (Nat.le_refl _) hB', hB.trans (hB'.mono hB.size)⟩
                    have HOK : Hid (((rdS BL [] m).toList == (zerosB 16).toList || anyW acts m (rdS BL [] m) acts.length) = true) := hit_all (HG8.out.rd hb)
                    have HZ : Hid (∀ w1, Calls Tryd.prog 14 #[.int .i64 16] w1 fun e w' => e = .returned (.string (zerosB 16)) ∧ w' = w1) := fun w1 => zeros_any 16 (by omega) w1
                    obtain ⟨sv, HSV⟩ : ∃ sv, Hid (sv = rdS BL [] m) := ⟨_, (rfl : rdS BL [] m = _)⟩
                    rw [← HSV.out] at HR1 HOK
                    clear D hB hb
                    go_wp2_with (first
                      | (go_at_call 8; refine HR1.out.mono ?_; rintro e w9 ⟨rfl, D9, hb9⟩; clear HR1)
                      | (go_at_call 14; refine (HZ.out _).mono ?_; rintro e w10 ⟨rfl, hw⟩; rw [hw]; clear hw HZ))
                    have HD9 : Hid _ := D9
                    have HB9 : Hid _ := hb9
                    clear D9 hb9
                    obtain ⟨zz, HZZ⟩ : ∃ zz, Hid (zz = zerosB 16) := ⟨_, (rfl : zerosB 16 = _)⟩
                    rw [← HZZ.out] at HOK ⊢
                    go_loopw [30, 31] (fun u i ws => ∃ (q : Nat) (t : Bool), q ≤ acts.length ∧ i = .int .i64 q ∧ u = .bool t ∧ Hid (t = (sv.toList == zz.toList || anyW acts m sv q)) ∧ ws = w9) (fun _ i _ => acts.length - (intOf i).toNat)
                    case atStart => exact ⟨0, _, Nat.zero_le _, rfl, rfl, (by show _ = _; simp [anyW]), rfl⟩
                    case round =>
                      obtain ⟨q, t, hq, rfl, rfl, HT, rfl⟩ := hrel
                      by_cases hql : q < acts.length
                      · obtain ⟨a, HX⟩ : ∃ a, Hid (acts[q]? = some a) := ⟨_, List.getElem?_eq_getElem hql⟩
                        obtain ⟨ab, ao, kv, rfl, q0, q1, q2, _, _, _⟩ := HAC.out q a HX.out
                        have hab := World.block_lt_of_cell? w _ q0
                        simp only at hab
                        have c0 : wr.cell? ⟨ab, ao + q * 5, none⟩ = some (.string a.kind) := by rw [HB9.out.cell (p := ⟨ab, ao + q * 5, none⟩) hab]; exact q0
                        have c1 : wr.cell? ⟨ab, ao + q * 5 + 1, none⟩ = some (.string a.s) := by rw [HB9.out.cell (p := ⟨ab, ao + q * 5 + 1, none⟩) hab]; exact q1
                        have c2 : wr.cell? ⟨ab, ao + q * 5 + 2, none⟩ = some (.int .i64 a.k) := by rw [HB9.out.cell (p := ⟨ab, ao + q * 5 + 2, none⟩) hab]; exact q2
                        have HNX : Hid (anyW acts m sv (q + 1) = (anyW acts m sv q || hitA m sv a)) := anyW_next HX.out
                        clear q0 q1 q2
                        cases k1 : (a.kind.toList == barL) with
                        | true =>
                          have k1' : (a.kind.toList == [98, 97, 114, 114, 105, 101, 114]) = true := k1
                          have HE : Hid (t = (sv.toList == zz.toList || anyW acts m sv (q + 1))) := by
                            show _ = _
                            rw [HNX.out, hitA, k1, HT.out]; simp
                          clear k1
                          go_wp2_with fail
                          exact ⟨⟨q + 1, t, by omega, by simp, rfl, HE, (by first | rfl | trivial)⟩, by simp [intOf]; omega⟩
                        | false =>
                          have k1' : (a.kind.toList == [98, 97, 114, 114, 105, 101, 114]) = false := k1
                          cases k2 : (a.k == (m : Int)) with
                          | false =>
                            have HE : Hid (t = (sv.toList == zz.toList || anyW acts m sv (q + 1))) := by
                              show _ = _
                              rw [HNX.out, hitA, k2, HT.out]; simp
                            clear k1
                            go_wp2_with fail
                            exact ⟨⟨q + 1, t, by omega, by simp, rfl, HE, (by first | rfl | trivial)⟩, by simp [intOf]; omega⟩
                          | true =>
                            cases k3 : (a.s.toList == sv.toList) with
                            | false =>
                              have HE : Hid (t = (sv.toList == zz.toList || anyW acts m sv (q + 1))) := by
                                show _ = _
                                rw [HNX.out, hitA, k3, HT.out]; simp
                              clear k1
                              go_wp2_with fail
                              exact ⟨⟨q + 1, t, by omega, by simp, rfl, HE, (by first | rfl | trivial)⟩, by simp [intOf]; omega⟩
                            | true =>
                              have HE : Hid (true = (sv.toList == zz.toList || anyW acts m sv (q + 1))) := by
                                show _ = _
                                rw [HNX.out, hitA, k1, k2, k3]; simp
                              clear k1
                              go_wp2_with fail
                              exact ⟨⟨q + 1, true, by omega, by simp, rfl, HE, (by first | rfl | trivial)⟩, by simp [intOf]; omega⟩
                      · obtain rfl : q = acts.length := by omega
                        obtain rfl : t = true := HT.out.trans HOK.out
                        go_wp2_with fail
                        exact ⟨⟨m + 1, by omega, by simp, HD9.out, HB9.out⟩, by simp [intOf]; omega⟩
                  · clear D hB
                    go_wp2_with fail
                    go_ret
                    exact ⟨rfl, HBm.out⟩
end Go.Proofs.YtghhhhbllpkcdacDoor
