/-
  The contract of the document's Crash.
  Conditions: the disk lies in memory.
-/
import Derived.Test.YtnmknngpihjhnaaGreatDoorMkA
import Derived.BigRegion
namespace Go.Proofs.YtnmknngpihjhnaaGreatDoor
open Go.RowKit

theorem setl_step {keep : Nat → Bool} {wt : List (Nat × List UInt8)} {bl : List (List UInt8)} {j : Nat} {x : Nat × List UInt8} (h : wt[j]? = some x) : setl keep wt bl (j + 1) = if keep j then (setl keep wt bl j).set x.1 x.2 else setl keep wt bl j := by
  show (match wt[j]? with | some x => if keep j then (setl keep wt bl j).set x.1 x.2 else setl keep wt bl j | none => setl keep wt bl j) = _
  rw [h]
theorem setl_congr {k1 k2 : Nat → Bool} {wt : List (Nat × List UInt8)} {bl : List (List UInt8)} : ∀ j, (∀ i, i < j → k1 i = k2 i) → setl k1 wt bl j = setl k2 wt bl j
  | 0, _ => rfl
  | j + 1, h => by
    have ih := setl_congr (wt := wt) (bl := bl) j (fun i hi => h i (by omega))
    unfold setl
    rw [ih, h j (by omega)]

def keepAll (all : Bool) (keep : List Int) (i : Nat) : Bool := all || hasTo keep (i : Int) keep.length
set_option maxRecDepth 100000 in
set_option maxHeartbeats 2000000 in
theorem crashM_any {mb : Nat} {la : Option Addr} {lc : Nat} {wa : Option Addr} {wcp : Nat} {bl : List (List UInt8)} {wt : List (Nat × List UInt8)} (v : Value) (keep : List Int) (all : Bool) (w : World) (M : MkAt w mb la lc wa wcp bl wt) (hwl : wt.length ≤ 100000) (hwt : ∀ x ∈ wt, x.1 < bl.length) (hv : ∀ W, MkBut mb la wa w W → IntsAt W v keep) (hkl : keep.length ≤ 100000) :
    Calls Tryz.prog 67 #[.pointer (some ⟨mb, 0, none⟩), v, .bool all] w fun e w' => e = .returned (.tuple #[]) ∧ MkAt w' mb la lc none 0 (setl (keepAll all keep) wt bl wt.length) [] ∧ MkBut mb la wa w w' := by
  have HM : Hid (MkAt w mb la lc wa wcp bl wt) := M
  have HV : Hid (∀ W, MkBut mb la wa w W → IntsAt W v keep) := hv
  obtain ⟨ka, kc, rfl, _⟩ := hv w (MkBut.of_below (Below.refl _ _))
  obtain ⟨kf, HKF⟩ : ∃ kf : Nat → Bool, kf = keepAll all keep := ⟨_, rfl⟩
  rw [← HKF]
  have HKF : Hid (kf = keepAll all keep) := HKF
  have HWT : Hid (∀ x ∈ wt, x.1 < bl.length) := hwt
  clear M hv hwt
  go_enter Tryz.func67, Tryz.ntmps67
  go_wp2_with fail
  go_loopw [6] (fun i wr => ∃ j : Nat, j ≤ wt.length ∧ i = .int .i64 j ∧ MkAt wr mb la lc wa wcp (setl kf wt bl j) wt ∧ MkBut mb la wa w wr) (fun i _ => wt.length - (intOf i).toNat)
  case atStart => exact ⟨0, Nat.zero_le _, rfl, HM.out, MkBut.of_below (Below.refl _ _)⟩
  case round =>
    obtain ⟨j, hj, rfl, M, hbut⟩ := hrel
    have HMr : Hid _ := M
    have HB : Hid _ := hbut
    obtain ⟨c1, c2, c3⟩ := M.cells
    have f1 := c3 1
    have HC1 : Hid _ := c1
    clear c3 c1
    by_cases hlt : j < wt.length
    · obtain ⟨x, HX⟩ : ∃ x, Hid (wt[j]? = some x) := ⟨_, List.getElem?_eq_getElem hlt⟩
      obtain ⟨gw, rfl, q0, q1, _⟩ := M.w_at HX.out
      have HQ0 : Hid _ := q0
      have HQ1 : Hid (wr.cell? ⟨gw, j * 2 + 1, none⟩ = some (.string (sB x.2))) := q1
      have HH := hasInts_any _ keep (j : Int) wr (HV.out wr hbut) hkl
      have HS := setl_step (keep := kf) (bl := bl) HX.out
      have hkj : kf j = (all || hasTo keep (j : Int) keep.length) := by rw [HKF.out]; rfl
      clear M hbut q0 q1
      cases hk : kf j with
      | false =>
        rw [hk] at HS hkj
        have HS' : Hid (setl kf wt bl (j + 1) = setl kf wt bl j) := HS
        obtain ⟨rfl, hh⟩ : all = false ∧ hasTo keep (j : Int) keep.length = false := by
          cases all with
          | true => exact absurd hkj (by simp)
          | false => exact ⟨rfl, (by simpa using hkj.symm)⟩
        rw [hh] at HH
        clear HS hkj hh
        go_wp2_with (go_at_call 81; refine HH.mono ?_; rintro e w' ⟨rfl, hw⟩; rw [hw]; clear hw)
        exact ⟨⟨j + 1, by omega, by simp, by rw [HS'.out]; exact HMr.out, HB.out⟩, by simp [intOf]; omega⟩
      | true =>
        rw [hk, if_pos rfl] at HS
        have HS' : Hid (setl kf wt bl (j + 1) = (setl kf wt bl j).set x.1 x.2) := HS
        have hxl := HWT.out x (List.mem_of_getElem? HX.out)
        obtain ⟨BL, HBL⟩ : ∃ BL, Hid (BL = setl kf wt bl j) := ⟨_, (rfl : setl kf wt bl j = _)⟩
        have hBl : BL.length = bl.length := by rw [HBL.out, setl_len]
        have c1 : wr.cell? ⟨mb, 0, none⟩ = some (.slice la BL.length lc) := by rw [HBL.out]; exact HC1.out
        obtain ⟨gl, rfl, cl, fl⟩ := HMr.out.l_at (k := x.1) (b := (setl kf wt bl j)[x.1]'(by rw [setl_len]; exact hxl)) (List.getElem?_eq_getElem _)
        obtain ⟨old, cl'⟩ : ∃ old, wr.cell? ⟨gl, x.1, none⟩ = some (.string old) := ⟨_, cl⟩
        have q0 := HQ0.out
        have q1 := HQ1.out
        have HE : Hid (MkAt (wr.setCell ⟨gl, x.1, none⟩ (.string (sB x.2))) mb (some ⟨gl, 0, none⟩) lc (some ⟨gw, 0, none⟩) wcp (setl kf wt bl (j + 1)) wt) := by rw [HS'.out]; exact HMr.out.set_l rfl x.2
        have HEB : Hid (MkBut mb (some ⟨gl, 0, none⟩) (some ⟨gw, 0, none⟩) w (wr.setCell ⟨gl, x.1, none⟩ (.string (sB x.2)))) := HB.out.trans (MkAt.but_l rfl _ _)
        clear HS cl
        have hxl2 : x.1 < BL.length := by omega
        cases all with
        | true =>
          clear HH hkj
          go_wp2_with fail
          go_region
          go_wp2_with fail
          exact ⟨⟨j + 1, by omega, by simp, HE.out.ext fun _ _ => rfl, MkBut.of_heap HEB.out rfl rfl rfl rfl⟩, by simp [intOf]; omega⟩
        | false =>
          have hh : hasTo keep (j : Int) keep.length = true := by rw [hk] at hkj; simpa using hkj.symm
          rw [hh] at HH
          clear hkj hh
          go_wp2_with (go_at_call 81; refine HH.mono ?_; rintro e w' ⟨rfl, hw⟩; rw [hw]; clear hw)
          go_region
          go_wp2_with fail
          exact ⟨⟨j + 1, by omega, by simp, HE.out.ext fun _ _ => rfl, MkBut.of_heap HEB.out rfl rfl rfl rfl⟩, by simp [intOf]; omega⟩
    · obtain rfl : j = wt.length := by omega
      clear M hbut
      go_wp2_with fail
      go_returns
      exact ⟨rfl, HMr.out.forget, HB.out.trans (MkAt.but_forget _ _)⟩
end Go.Proofs.YtnmknngpihjhnaaGreatDoor
