/-
  The walk of the law 'TreeFiles', told apart from what its callees do.
  Conditions: those that stand ahead of the theorem: a contract for each call.
-/
import Derived.Test.YtilkjafggfdjeaaDoorPGet
import Derived.Deep.RegionHeld3
import Derived.Deep.DrawnRows
import Derived.Deep.DeepCutAuto
import Derived.Deep.DeepFit
import Derived.Deep.QuietTactic
import Derived.BigQuiet
namespace Go.Proofs.YtilkjafggfdjeaaDoor
open Go.RowKit
attribute [local go_sem ↓] Go.wp_at_zero Go.wp_at_succ

theorem ret_boolF {b c : Bool} (h : b = c) : Ending.returned (.bool b) = .returned (.bool c) := by rw [h]
/-- What the law asks of its calls behind the copy, which lies in block b. -/
structure TfTail (k d : ByteArray) (x : Bool) (xa : Option Addr) (un xc b : Nat) (R H : World → Prop) (ev : Value) (fl : List ByteArray) (F : Nat → Nat) : Prop where
  on : ∀ w' w'', H w' → Below w'.heap.size w' w'' → H w''
  low : ∀ w', H w' → b < w'.heap.size
  cells : ∀ w', H w' → w'.cell? ⟨b, 0, none⟩ = some (.string k) ∧ w'.cell? ⟨b, 1, none⟩ = some (.string d) ∧ w'.cell? ⟨b, 2, none⟩ = some (.bool x) ∧ w'.cell? ⟨b, 3, none⟩ = some (.slice xa un xc)
  len : fl.length ≤ 1000
  files : ∀ w', H w' → Calls Tryd.prog 24 #[.agg #[.string k, .string d, .bool x, .slice xa un xc]] w' fun e w'' => ∃ va vc, e = .returned (.slice va fl.length vc) ∧ H w'' ∧ ∀ w3, Below w''.heap.size w'' w3 → ∀ (j : Nat) (s : ByteArray), fl[j]? = some s → ∃ g off, va = some ⟨g, off, none⟩ ∧ w3.cell? ⟨g, off + j, none⟩ = some (.string s)
  check : ∀ w', H w' → Calls Tryd.prog 15 #[.agg #[.string k, .string d, .bool x, .slice xa un xc]] w' fun e w'' => e = .returned ev ∧ Below w'.heap.size w' w''
  err : ev = .nilIface ∨ (fl.length = 0 ∧ ∃ t p, ev = .iface t p)
  get : ev = .nilIface → ∀ w', H w' → ∀ (j : Nat) (s : ByteArray), fl[j]? = some s → Calls Tryd.prog 26 #[.agg #[.string k, .string d, .bool x, .slice xa un xc], .string s] w' fun e w'' => ∃ dt ex ga gn gc, e = .returned (.tuple #[.agg #[.string { data := #[102, 105, 108, 101] }, .string dt, .bool ex, .slice ga gn gc], .nilIface]) ∧ F (j + 1) = F j + dt.size ∧ Below w'.heap.size w' w''
  zero : F 0 = 0
  bound : ∀ j, j ≤ fl.length → F j ≤ 1000000000
  size : ev = .nilIface → ∀ w', H w' → Calls Tryd.prog 21 #[.agg #[.string k, .string d, .bool x, .slice xa un xc]] w' fun e w'' => e = .returned (.int .i64 (F fl.length : Int)) ∧ H w''
  apart : ∀ (i j : Nat) (s t : ByteArray), i < j → fl[i]? = some s → fl[j]? = some t → (s.toList == t.toList) = false
  ends : ∀ w', H w' → R w'
/-- What it asks of the copy. -/
def TfOwn (k d : ByteArray) (x : Bool) (ua : Option Addr) (un uc : Nat) (R : World → Prop) (w' : World) : Prop :=
  Calls Tryd.prog 11 #[.agg #[.string k, .string d, .bool x, .slice ua un uc]] w' fun e w1 => ∃ xa xc, e = .returned (.agg #[.string k, .string d, .bool x, .slice xa un xc]) ∧ ∃ H ev fl F, H (w1.alloc (.cells #[.string k, .string d, .bool x, .slice xa un xc] 24)) ∧ TfTail k d x xa un xc w1.heap.size R H ev fl F

set_option maxRecDepth 100000 in
set_option maxHeartbeats 4000000 in
theorem tfiles_skel (k d : ByteArray) (x : Bool) (ua : Option Addr) (un uc : Nat) (w : World) (la : Int) (hla : la = 0 ∨ la = 1)
    (R G : World → Prop) (HR : Hid (∀ w', G w' → R w'))
    (HT : Hid (Calls Tryd.prog 9 #[] (w.alloc (.cells #[.string k, .string d, .bool x, .slice ua un uc] 24)) fun e w' => e = .returned (.bool true) ∧ G w'))
    (HK : Hid (∀ w', G w' → w'.cell? ⟨w.heap.size, 0, none⟩ = some (.string k) ∧ w'.cell? ⟨w.heap.size, 1, none⟩ = some (.string d) ∧ w'.cell? ⟨w.heap.size, 2, none⟩ = some (.bool x) ∧ w'.cell? ⟨w.heap.size, 3, none⟩ = some (.slice ua un uc)))
    (HGS : Hid (∀ w', G w' → Calls Tryd.prog 10 #[.agg #[.string k, .string d, .bool x, .slice ua un uc], .int .i64 100] w' fun e w'' => e = .returned (.int .i64 la) ∧ G w''))
    (HO : Hid (la = 0 → ∀ w', G w' → TfOwn k d x ua un uc R w')) :
    Calls Tryd.prog 5 #[.agg #[.string k, .string d, .bool x, .slice ua un uc]] w fun e w' => e = .returned (.bool true) ∧ R w' := by
  go_enter Tryd.func5, Tryd.ntmps5
  go_wp2_with fail
  refine Calls.mono HT.out ?_
  rintro e w2 ⟨rfl, hg2⟩
  obtain ⟨c0, c1, c2, c3⟩ := HK.out _ hg2
  clear HT
  go_wp2_with fail
  refine Calls.mono (HGS.out _ hg2) ?_
  clear c0 c1 c2 c3 hg2
  rintro e w3 ⟨rfl, hg⟩
  clear HGS w2
  rcases hla with rfl | rfl
  rotate_left
  · clear HO HK
    go_wp2_with fail
    go_ret
    exact ⟨rfl, HR.out _ hg⟩
  have HX : Hid _ := HO.out rfl _ hg
  obtain ⟨c0, c1, c2, c3⟩ := HK.out _ hg
  clear HO HK HR hg
  go_wp2_with fail
  refine Calls.mono HX.out ?_
  clear HX c0 c1 c2 c3
  rintro e w4 ⟨xa, xc, rfl, H, ev, fl, F, hH, t⟩
  have T : Hid (TfTail k d x xa un xc w4.heap.size R H ev fl F) := t
  clear t
  obtain ⟨c0, c1, c2, c3⟩ := T.out.cells _ hH
  go_wp2_with fail
  refine Calls.mono (T.out.files _ hH) ?_
  clear c0 c1 c2 c3 hH
  rintro e w5 ⟨va, vc, rfl, hH, hTX⟩
  have HTX : Hid _ := hTX
  clear hTX
  have hln := T.out.len
  obtain ⟨c0, c1, c2, c3⟩ := T.out.cells _ hH
  go_wp2_with fail
  refine Calls.mono (T.out.check _ hH) ?_
  clear c0 c1 c2 c3
  rintro e w6 ⟨rfl, hb6⟩
  have HB6 : Hid (Below w5.heap.size w5 w6) := hb6
  have HH6 : Hid (H w6) := T.out.on _ _ hH hb6
  clear hb6 hH
  rcases T.out.err with hev | ⟨h0, tt, tp, hev⟩
  rotate_left
  · subst hev
    have h0' : ((fl.length : Int) == 0) = true := by rw [h0]; rfl
    clear h0
    go_wp2_with fail
    go_ret
    exact ⟨rfl, T.out.ends _ HH6.out⟩
  subst hev
  have HZ : Hid (F 0 = 0) := T.out.zero
  have HBD : Hid _ := T.out.bound
  go_wp2_with fail
  go_loopw [6, 7] (fun z i wr => ∃ j : Nat, j ≤ fl.length ∧ i = .int .i64 j ∧ z = .int .i64 (F j : Int) ∧ H wr ∧ Below w5.heap.size w5 wr) (fun _ i _ => fl.length - (intOf i).toNat)
  case atStart => exact ⟨0, Nat.zero_le _, rfl, by rw [HZ.out]; rfl, HH6.out, HB6.out⟩
  case round =>
    obtain ⟨j, hj, rfl, rfl, hH, hB⟩ := hrel
    have HH : Hid (H wr) := hH
    have HB : Hid (Below w5.heap.size w5 wr) := hB
    have hFj := HBD.out j hj
    clear hH hB HB6 HH6
    by_cases hlt : j < fl.length
    rotate_left
    · obtain rfl : j = fl.length := by omega
      obtain ⟨c0, c1, c2, c3⟩ := T.out.cells _ HH.out
      go_wp2_with fail
      refine Calls.mono (T.out.size rfl _ HH.out) ?_
      clear c0 c1 c2 c3
      rintro e w7 ⟨rfl, hH7⟩
      have HE : Hid (R w7) := T.out.ends _ hH7
      clear hH7
      go_wp2_with fail
      go_ret
      exact ⟨ret_boolF (by simp), HE.out⟩
    obtain ⟨s, hs⟩ : ∃ s, fl[j]? = some s := ⟨fl[j], List.getElem?_eq_getElem hlt⟩
    obtain ⟨g, off, rfl, hc⟩ := HTX.out wr HB.out j s hs
    have HS : Hid (fl[j]? = some s) := hs
    have hj0 : (0 : Int) ≤ (j : Int) := by omega
    have hj1 : (j : Int) < (fl.length : Int) := by omega
    have hcell := T.out.cells _ HH.out
    have hgl := lt_of_cell hc
    have HCC : Hid (∀ w', Below wr.heap.size wr w' → (w'.cell? ⟨w4.heap.size, 0, none⟩ = some (.string k) ∧ w'.cell? ⟨w4.heap.size, 1, none⟩ = some (.string d) ∧ w'.cell? ⟨w4.heap.size, 2, none⟩ = some (.bool x) ∧ w'.cell? ⟨w4.heap.size, 3, none⟩ = some (.slice xa un xc)) ∧ w'.cell? ⟨g, off + j, none⟩ = some (.string s)) := fun w' h => ⟨T.out.cells _ (T.out.on _ _ HH.out h), by rw [h.cell (p := ⟨g, off + j, none⟩) hgl]; exact hc⟩
    have HGT : Hid (∀ w', H w' → Calls Tryd.prog 26 #[.agg #[.string k, .string d, .bool x, .slice xa un xc], .string s] w' fun e w'' => ∃ dt ex ga gn gc, e = .returned (.tuple #[.agg #[.string { data := #[102, 105, 108, 101] }, .string dt, .bool ex, .slice ga gn gc], .nilIface]) ∧ F (j + 1) = F j + dt.size ∧ Below w'.heap.size w' w'') := fun w' h => T.out.get rfl w' h j s hs
    clear hs hc hcell
    go_upto_region 12 with fail
    go_cut [8, 9] (fun p q wx => ∃ by_ dt ex ga gn gc, p = .pointer (some ⟨by_, 0, none⟩) ∧ q = .nilIface ∧ Hid (wx.heap[by_]? = some (.cells #[.string { data := #[102, 105, 108, 101] }, .string dt, .bool ex, .slice ga gn gc] 24 (0, 0)) ∧ F (j + 1) = F j + dt.size ∧ Below wr.heap.size wr wx))
    case first =>
      refine wp_region_held_drew (S := fun w' => (w'.cell? ⟨w4.heap.size, 0, none⟩ = some (.string k) ∧ w'.cell? ⟨w4.heap.size, 1, none⟩ = some (.string d) ∧ w'.cell? ⟨w4.heap.size, 2, none⟩ = some (.bool x) ∧ w'.cell? ⟨w4.heap.size, 3, none⟩ = some (.slice xa un xc)) ∧ w'.cell? ⟨g, off + j, none⟩ = some (.string s)) (by kernel_rfl) (HCC.out _ (Below.refl _ _).drew) (fun hHeld => ?_)
      refine wpAnyH_take (i := 0) (v := .agg #[.string k, .string d, .bool x, .slice xa un xc]) rfl (by kernel_rfl) (by kernel_rfl) (by kernel_rfl) (fun _ _ _ h => h) (Or.inl ⟨by rfl, ?_⟩) hHeld ?_
      · intro w hSw; (try dsimp only at hSw); simp only [List.getElem_toArray, List.getElem_cons_zero]; go_simp
      simp only [List.getElem_toArray, List.getElem_cons_zero, Act.put, List.setIfInBounds_toArray, List.set_cons_zero, List.set_cons_succ]
      refine wpAnyH_take (i := 1) (v := .slice (some ⟨g, off, none⟩) fl.length vc) rfl (by kernel_rfl) (by kernel_rfl) (by kernel_rfl) (fun _ _ _ h => h) (Or.inl ⟨by rfl, ?_⟩) hHeld ?_
      · intro w hSw; (try dsimp only at hSw); simp only [List.getElem_toArray, List.getElem_cons_zero, List.getElem_cons_succ]; go_simp
      simp only [List.getElem_toArray, List.getElem_cons_zero, List.getElem_cons_succ, Act.put, List.setIfInBounds_toArray, List.set_cons_zero, List.set_cons_succ]
      refine wpAnyH_take (i := 2) (v := .int .i64 (j : Int)) rfl (by kernel_rfl) (by kernel_rfl) (by kernel_rfl) (fun _ _ _ h => h) (Or.inl ⟨by rfl, ?_⟩) hHeld ?_
      · intro w hSw; (try dsimp only at hSw); simp only [List.getElem_toArray, List.getElem_cons_zero, List.getElem_cons_succ]; go_simp
      simp only [List.getElem_toArray, List.getElem_cons_zero, List.getElem_cons_succ, Act.put, List.setIfInBounds_toArray, List.set_cons_zero, List.set_cons_succ]
      refine wpAnyH_take (i := 3) (v := .pointer (some ⟨g, off + j, none⟩)) rfl (by kernel_rfl) (by kernel_rfl) (by kernel_rfl) (fun _ _ _ h => h) (Or.inl ⟨by rfl, ?_⟩) hHeld ?_
      · intro w hSw; (try dsimp only at hSw); simp only [List.getElem_toArray, List.getElem_cons_zero, List.getElem_cons_succ]; go_simp
      simp only [List.getElem_toArray, List.getElem_cons_zero, List.getElem_cons_succ, Act.put, List.setIfInBounds_toArray, List.set_cons_zero, List.set_cons_succ]
      refine wpAnyH_take (i := 4) (v := .string s) rfl (by kernel_rfl) (by kernel_rfl) (by kernel_rfl) (fun _ _ _ h => h) (Or.inl ⟨by rfl, ?_⟩) hHeld ?_
      · intro w hSw; (try dsimp only at hSw); simp only [List.getElem_toArray, List.getElem_cons_zero, List.getElem_cons_succ]; go_simp
      simp only [List.getElem_toArray, List.getElem_cons_zero, List.getElem_cons_succ, Act.put, List.setIfInBounds_toArray, List.set_cons_zero, List.set_cons_succ]
      refine wpAnyH_ready (rs := [5, 9]) (by kernel_rfl) (by simp) ?_
      refine AllReadyH.cons rfl (fun K' hK => ?_) (AllReadyH.cons rfl (fun K' hK => ?_) AllReadyH.nil)
      · skip
        simp only [List.getElem_toArray, List.getElem_cons_zero, List.getElem_cons_succ]
        go_simp
        refine Calls.mono (HGT.out _ (T.out.on _ _ HH.out (Below.refl _ _).drew)) ?_
        rintro e wx ⟨dt, ex, ga, gn, gc, rfl, hF, hb⟩
        have HF : Hid _ := hF
        have HBX : Hid (Below wr.heap.size wr wx) := (Below.refl _ _).drew.trans hb
        clear hF hb
        go_wp2_with fail
        refine hK.out _ _ (HCC.out _ HBX.out) (fun hHeld' => ?_)
        clear hK K' hHeld
        have hHeld := hHeld'
        clear hHeld'
        refine wpAnyH_take (i := 6) (v := .tuple #[.agg #[.string { data := #[102, 105, 108, 101] }, .string dt, .bool ex, .slice ga gn gc], .nilIface]) rfl (by kernel_rfl) (by kernel_rfl) (by kernel_rfl) (fun _ _ _ h => h) (Or.inl ⟨by rfl, ?_⟩) hHeld ?_
        · intro w hSw; (try dsimp only at hSw); simp only [List.getElem_toArray, List.getElem_cons_zero, List.getElem_cons_succ]; go_simp
        simp only [List.getElem_toArray, List.getElem_cons_zero, List.getElem_cons_succ, Act.put, List.setIfInBounds_toArray, List.set_cons_zero, List.set_cons_succ]
        refine wpAnyH_take (i := 7) (v := .agg #[.string { data := #[102, 105, 108, 101] }, .string dt, .bool ex, .slice ga gn gc]) rfl (by kernel_rfl) (by kernel_rfl) (by kernel_rfl) (fun _ _ _ h => h) (Or.inl ⟨by rfl, ?_⟩) hHeld ?_
        · intro w hSw; (try dsimp only at hSw); simp only [List.getElem_toArray, List.getElem_cons_zero, List.getElem_cons_succ]; go_simp
        simp only [List.getElem_toArray, List.getElem_cons_zero, List.getElem_cons_succ, Act.put, List.setIfInBounds_toArray, List.set_cons_zero, List.set_cons_succ]
        refine wpAnyH_take (i := 8) (v := .nilIface) rfl (by kernel_rfl) (by kernel_rfl) (by kernel_rfl) (fun _ _ _ h => h) (Or.inl ⟨by rfl, ?_⟩) hHeld ?_
        · intro w hSw; (try dsimp only at hSw); simp only [List.getElem_toArray, List.getElem_cons_zero, List.getElem_cons_succ]; go_simp
        simp only [List.getElem_toArray, List.getElem_cons_zero, List.getElem_cons_succ, Act.put, List.setIfInBounds_toArray, List.set_cons_zero, List.set_cons_succ]
        refine wpAnyH_ready (rs := [9]) (by kernel_rfl) (by simp) ?_
        refine AllReadyH.cons rfl (fun K' hK => ?_) AllReadyH.nil
        simp only [List.getElem_toArray, List.getElem_cons_zero, List.getElem_cons_succ]
        go_simp
        go_wp2_with fail
        have HBA : Hid (∀ o, Below wr.heap.size wr (wx.alloc o)) := fun o => HBX.out.alloc HBX.out.size o
        have HROW : Hid _ := row_alloc' wx #[.string { data := #[] }, .string { data := #[] }, .bool false, .slice none 0 0] 24
        refine hK.out _ _ (HCC.out _ (HBA.out _)) (fun hHeld' => ?_)
        clear hK K' hHeld
        have hHeld := hHeld'
        clear hHeld'
        refine wpAnyH_ready (rs := [10]) (by kernel_rfl) (by simp) ?_
        refine AllReadyH.cons rfl (fun K' hK => ?_) AllReadyH.nil
        have HBS : Hid (Below wr.heap.size wr (wx.alloc (.cells #[.string { data := #[102, 105, 108, 101] }, .string dt, .bool ex, .slice ga gn gc] 24))) := HBA.out _
        have HRS : Hid _ := row_alloc' wx #[.string { data := #[102, 105, 108, 101] }, .string dt, .bool ex, .slice ga gn gc] 24
        simp only [List.getElem_toArray, List.getElem_cons_zero, List.getElem_cons_succ]
        go_simp
        go_wp2_with fail
        refine hK.out _ _ (HCC.out _ HBS.out) (fun hHeld' => ?_)
        clear hK K' hHeld
        have hHeld := hHeld'
        clear hHeld'
        refine wpAnyH_take (i := 11) (v := .nilIface) rfl (by kernel_rfl) (by kernel_rfl) (by kernel_rfl) (fun _ _ _ h => h) (Or.inl ⟨by rfl, ?_⟩) hHeld ?_
        · intro w hSw; (try dsimp only at hSw); simp only [List.getElem_toArray, List.getElem_cons_zero, List.getElem_cons_succ]; go_simp
        simp only [List.getElem_toArray, List.getElem_cons_zero, List.getElem_cons_succ, Act.put, List.setIfInBounds_toArray, List.set_cons_zero, List.set_cons_succ]
        refine wpAnyH_done (by kernel_rfl) ?_ _
        go_wp2_with fail
        go_meet
        case rel => exact ⟨_, dt, ex, ga, gn, gc, rfl, rfl, HRS.out, HF.out, HBS.out⟩
      · skip
        simp only [List.getElem_toArray, List.getElem_cons_zero, List.getElem_cons_succ]
        go_simp
        go_wp2_with fail
        have HB1 : Hid (Below wr.heap.size wr (wr.drew.alloc (.cells #[.string { data := #[] }, .string { data := #[] }, .bool false, .slice none 0 0] 24))) := (Below.refl _ _).drew.alloc (Nat.le_refl _) _
        have HROW1 : Hid _ := row_alloc' wr.drew #[.string { data := #[] }, .string { data := #[] }, .bool false, .slice none 0 0] 24
        refine hK.out _ _ (HCC.out _ HB1.out) (fun hHeld' => ?_)
        clear hK K' hHeld
        have hHeld := hHeld'
        clear hHeld'
        refine wpAnyH_ready (rs := [5]) (by kernel_rfl) (by simp) ?_
        refine AllReadyH.cons rfl (fun K' hK => ?_) AllReadyH.nil
        simp only [List.getElem_toArray, List.getElem_cons_zero, List.getElem_cons_succ]
        go_simp
        refine Calls.mono (HGT.out _ (T.out.on _ _ HH.out HB1.out)) ?_
        rintro e wx ⟨dt, ex, ga, gn, gc, rfl, hF, hb⟩
        have HF : Hid _ := hF
        have HBX : Hid (Below wr.heap.size wr wx) := HB1.out.trans (hb.mono HB1.out.size)
        have HROW : Hid (wx.heap[wr.heap.size]? = some (.cells #[.string { data := #[] }, .string { data := #[] }, .bool false, .slice none 0 0] 24 (0, 0))) := (hb.block wr.heap.size (by simp)).trans HROW1.out
        clear hF hb
        go_wp2_with fail
        refine hK.out _ _ (HCC.out _ HBX.out) (fun hHeld' => ?_)
        clear hK K' hHeld
        have hHeld := hHeld'
        clear hHeld'
        refine wpAnyH_take (i := 6) (v := .tuple #[.agg #[.string { data := #[102, 105, 108, 101] }, .string dt, .bool ex, .slice ga gn gc], .nilIface]) rfl (by kernel_rfl) (by kernel_rfl) (by kernel_rfl) (fun _ _ _ h => h) (Or.inl ⟨by rfl, ?_⟩) hHeld ?_
        · intro w hSw; (try dsimp only at hSw); simp only [List.getElem_toArray, List.getElem_cons_zero, List.getElem_cons_succ]; go_simp
        simp only [List.getElem_toArray, List.getElem_cons_zero, List.getElem_cons_succ, Act.put, List.setIfInBounds_toArray, List.set_cons_zero, List.set_cons_succ]
        refine wpAnyH_take (i := 7) (v := .agg #[.string { data := #[102, 105, 108, 101] }, .string dt, .bool ex, .slice ga gn gc]) rfl (by kernel_rfl) (by kernel_rfl) (by kernel_rfl) (fun _ _ _ h => h) (Or.inl ⟨by rfl, ?_⟩) hHeld ?_
        · intro w hSw; (try dsimp only at hSw); simp only [List.getElem_toArray, List.getElem_cons_zero, List.getElem_cons_succ]; go_simp
        simp only [List.getElem_toArray, List.getElem_cons_zero, List.getElem_cons_succ, Act.put, List.setIfInBounds_toArray, List.set_cons_zero, List.set_cons_succ]
        refine wpAnyH_take (i := 8) (v := .nilIface) rfl (by kernel_rfl) (by kernel_rfl) (by kernel_rfl) (fun _ _ _ h => h) (Or.inl ⟨by rfl, ?_⟩) hHeld ?_
        · intro w hSw; (try dsimp only at hSw); simp only [List.getElem_toArray, List.getElem_cons_zero, List.getElem_cons_succ]; go_simp
        simp only [List.getElem_toArray, List.getElem_cons_zero, List.getElem_cons_succ, Act.put, List.setIfInBounds_toArray, List.set_cons_zero, List.set_cons_succ]
        have HBZ : Hid (wr.heap.size ≤ wr.heap.size) := Nat.le_refl _
        refine wpAnyH_ready (rs := [10]) (by kernel_rfl) (by simp) ?_
        refine AllReadyH.cons rfl (fun K' hK => ?_) AllReadyH.nil
        obtain ⟨⟨q0, q1, q2, q3⟩, f0, f1, f2, f3⟩ := row4b HROW.out
        have hS := ((((But1.refl wr.heap.size wx).set 0 (.string { data := #[102, 105, 108, 101] })).set 1 (.string dt)).set 2 (.bool ex)).set 3 (.slice ga gn gc)
        have HBS : Hid _ := hS.below (HBX.out) (by have := HBZ.out; omega)
        have HRS : Hid _ := set4b_row HROW.out (.string { data := #[102, 105, 108, 101] }) (.string dt) (.bool ex) (.slice ga gn gc)
        clear hS
        simp only [List.getElem_toArray, List.getElem_cons_zero, List.getElem_cons_succ]
        go_simp
        go_wp2_with fail
        refine hK.out _ _ (HCC.out _ HBS.out) (fun hHeld' => ?_)
        clear hK K' hHeld
        have hHeld := hHeld'
        clear hHeld'
        refine wpAnyH_take (i := 11) (v := .nilIface) rfl (by kernel_rfl) (by kernel_rfl) (by kernel_rfl) (fun _ _ _ h => h) (Or.inl ⟨by rfl, ?_⟩) hHeld ?_
        · intro w hSw; (try dsimp only at hSw); simp only [List.getElem_toArray, List.getElem_cons_zero, List.getElem_cons_succ]; go_simp
        simp only [List.getElem_toArray, List.getElem_cons_zero, List.getElem_cons_succ, Act.put, List.setIfInBounds_toArray, List.set_cons_zero, List.set_cons_succ]
        refine wpAnyH_done (by kernel_rfl) ?_ _
        go_wp2_with fail
        go_meet
        case rel => exact ⟨_, dt, ex, ga, gn, gc, rfl, rfl, HRS.out, HF.out, HBS.out⟩
    case rest =>
      obtain ⟨bq, dt, ex, ga, gn, gc, rfl, rfl, HREL⟩ := hcut
      obtain ⟨⟨q0, q1, q2, q3⟩, _⟩ := row4b HREL.out.1
      have hwr : IntKind.i64.wrap ((F j : Int) + (dt.size : Int)) = (F (j + 1) : Int) := by
        have h1 := HREL.out.2.1
        have h2 := HBD.out (j + 1) (by omega)
        have e : (F j : Int) + (dt.size : Int) = (F (j + 1) : Int) := by omega
        rw [e]
        simp (disch := omega) only [IntWalk.i64_in]
      have HBW : Hid (Below w5.heap.size w5 wc) := HB.out.trans (HREL.out.2.2.mono HB.out.size)
      have HHW : Hid (H wc) := T.out.on _ _ HH.out HREL.out.2.2
      clear HCC HGT HREL HB HH
      generalize hfn : F (j + 1) = fn at *
      have HFN : Hid (F (j + 1) = fn) := hfn
      clear hfn
      go_wp2_with fail
      go_loopw [10] (fun i wi => ∃ m : Nat, m ≤ j ∧ i = .int .i64 m ∧ Below wc.heap.size wc wi) (fun i _ => j - (intOf i).toNat)
      case atStart => exact ⟨0, Nat.zero_le _, rfl, Below.refl _ _⟩
      case round =>
        obtain ⟨m, hm, rfl, hbi⟩ := hrel
        have HBI : Hid (Below wc.heap.size wc wr) := hbi
        clear hbi
        by_cases hmj : m < j
        · obtain ⟨s', hs'⟩ : ∃ s', fl[m]? = some s' := ⟨fl[m]'(by omega), List.getElem?_eq_getElem (by omega)⟩
          have hbw := HBW.out.trans (HBI.out.mono HBW.out.size)
          obtain ⟨g1, o1, e1, k1⟩ := HTX.out wr hbw m s' hs'
          obtain ⟨g2, o2, e2, k2⟩ := HTX.out wr hbw j s HS.out
          simp only [Option.some.injEq, Addr.mk.injEq, and_true] at e1 e2
          obtain ⟨rfl, rfl⟩ := e1
          obtain ⟨rfl, rfl⟩ := e2
          have hap := T.out.apart m j s' s hmj hs' HS.out
          have hm0 : (0 : Int) ≤ (m : Int) := by omega
          have hm1 : (m : Int) < (j : Int) := by omega
          have hm2 : (m : Int) < (fl.length : Int) := by omega
          clear hs' hbw
          go_wp2_with fail
          go_quiet (fail)
          go_wp2_with fail
          go_roundw
          case rel => exact ⟨m + 1, by omega, by go_num, below_drewN HBI.out _⟩
          case measure => simp [intOf]; omega
        · have hm1 : ¬ (m : Int) < (j : Int) := by omega
          have HBE : Hid (Below w5.heap.size w5 wr) := HBW.out.trans (HBI.out.mono HBW.out.size)
          have HHE : Hid (H wr) := T.out.on _ _ HHW.out HBI.out
          go_wp2_with fail
          go_roundw
          case rel => exact ⟨j + 1, by omega, by go_num, by rw [HFN.out], HHE.out, HBE.out⟩
          case measure => simp [intOf]; omega
end Go.Proofs.YtilkjafggfdjeaaDoor
