/-
  The walk of the law 'PackTells', told apart from what its callees do.
  Conditions: those that stand ahead of the theorem: a contract for each call.
-/
import Derived.Test.YtilkjafggfdjeaaDoorPackH
import Derived.Deep.RegionHeld3
import Derived.Deep.DrawnRows
import Derived.Deep.DeepCutAuto
import Derived.Deep.DeepFit
namespace Go.Proofs.YtilkjafggfdjeaaDoor
open Go.RowKit
attribute [local go_sem ↓] Go.wp_at_zero Go.wp_at_succ

/-- A node lies in a block. -/
def Box4 (w : World) (b : Nat) : Prop := ∃ k d x a n c, w.heap[b]? = some (.cells #[.string k, .string d, .bool x, .slice a n c] 24 (0, 0))
/-- The last four calls: First, FirstOf, coded, SameTree; bx, bc: the blocks of the law's two nodes. -/
def PtFirst (q : ByteArray) (bx bc : Nat) (R : World → Prop) (w4 : World) : Prop :=
  Calls Tryd.prog 32 #[.string q] w4 fun e w5 => ∃ k5 d5 x5 a5 n5 c5 rs ev, e = .returned (.tuple #[.agg #[.string k5, .string d5, .bool x5, .slice a5 n5 c5], .string rs, ev]) ∧ (Box4 w5 bx) ∧
    Calls Tryd.prog 33 #[.string q] ((((w5.setCell ⟨bx, 0, none⟩ (.string k5)).setCell ⟨bx, 1, none⟩ (.string d5)).setCell ⟨bx, 2, none⟩ (.bool x5)).setCell ⟨bx, 3, none⟩ (.slice a5 n5 c5)) fun e w6 => ∃ k6 d6 x6 a6 n6 c6 en, e = .returned (.tuple #[.agg #[.string k6, .string d6, .bool x6, .slice a6 n6 c6], .string rs, .int .i64 en]) ∧ (Box4 w6 bc) ∧
      Calls Tryd.prog 14 #[ev, .int .i64 en] ((((w6.setCell ⟨bc, 0, none⟩ (.string k6)).setCell ⟨bc, 1, none⟩ (.string d6)).setCell ⟨bc, 2, none⟩ (.bool x6)).setCell ⟨bc, 3, none⟩ (.slice a6 n6 c6)) fun e w7 => e = .returned (.bool true) ∧ (w7.cell? ⟨bx, 0, none⟩ = some (.string k5) ∧ w7.cell? ⟨bx, 1, none⟩ = some (.string d5) ∧ w7.cell? ⟨bx, 2, none⟩ = some (.bool x5) ∧ w7.cell? ⟨bx, 3, none⟩ = some (.slice a5 n5 c5)) ∧ (w7.cell? ⟨bc, 0, none⟩ = some (.string k6) ∧ w7.cell? ⟨bc, 1, none⟩ = some (.string d6) ∧ w7.cell? ⟨bc, 2, none⟩ = some (.bool x6) ∧ w7.cell? ⟨bc, 3, none⟩ = some (.slice a6 n6 c6)) ∧
        Calls Tryd.prog 13 #[.agg #[.string k5, .string d5, .bool x5, .slice a5 n5 c5], .agg #[.string k6, .string d6, .bool x6, .slice a6 n6 c6]] w7 fun e w8 => e = .returned (.bool true) ∧ R w8
/-- Four calls: Read, ReadTree, coded, SameTree. -/
def PtRead (q : ByteArray) (R : World → Prop) (w0 : World) : Prop :=
  Calls Tryd.prog 30 #[.string q] w0 fun e w1 => ∃ k3 d3 x3 a3 n3 c3 ev, e = .returned (.tuple #[.agg #[.string k3, .string d3, .bool x3, .slice a3 n3 c3], ev]) ∧
    Calls Tryd.prog 31 #[.string q] (w1.alloc (.cells #[.string k3, .string d3, .bool x3, .slice a3 n3 c3] 24)) fun e w2 => ∃ k4 d4 x4 a4 n4 c4 en, e = .returned (.tuple #[.agg #[.string k4, .string d4, .bool x4, .slice a4 n4 c4], .int .i64 en]) ∧
      Calls Tryd.prog 14 #[ev, .int .i64 en] (w2.alloc (.cells #[.string k4, .string d4, .bool x4, .slice a4 n4 c4] 24)) fun e w3 => e = .returned (.bool true) ∧ (w3.cell? ⟨w1.heap.size, 0, none⟩ = some (.string k3) ∧ w3.cell? ⟨w1.heap.size, 1, none⟩ = some (.string d3) ∧ w3.cell? ⟨w1.heap.size, 2, none⟩ = some (.bool x3) ∧ w3.cell? ⟨w1.heap.size, 3, none⟩ = some (.slice a3 n3 c3)) ∧ (w3.cell? ⟨w2.heap.size, 0, none⟩ = some (.string k4) ∧ w3.cell? ⟨w2.heap.size, 1, none⟩ = some (.string d4) ∧ w3.cell? ⟨w2.heap.size, 2, none⟩ = some (.bool x4) ∧ w3.cell? ⟨w2.heap.size, 3, none⟩ = some (.slice a4 n4 c4)) ∧
        Calls Tryd.prog 13 #[.agg #[.string k3, .string d3, .bool x3, .slice a3 n3 c3], .agg #[.string k4, .string d4, .bool x4, .slice a4 n4 c4]] w3 fun e w4 => e = .returned (.bool true) ∧ PtFirst q w1.heap.size w2.heap.size R w4
/-- Three calls: the copy, its text, the document's text. -/
def PtText (k d q : ByteArray) (x : Bool) (ua : Option Addr) (un uc b0 : Nat) (R : World → Prop) (w' : World) : Prop :=
  Calls Tryd.prog 11 #[.agg #[.string k, .string d, .bool x, .slice ua un uc]] w' fun e w1 => ∃ xa xc, e = .returned (.agg #[.string k, .string d, .bool x, .slice xa un xc]) ∧ (w1.cell? ⟨b0, 0, none⟩ = some (.string k) ∧ w1.cell? ⟨b0, 1, none⟩ = some (.string d) ∧ w1.cell? ⟨b0, 2, none⟩ = some (.bool x) ∧ w1.cell? ⟨b0, 3, none⟩ = some (.slice ua un uc)) ∧
    Calls Tryd.prog 28 #[.agg #[.string k, .string d, .bool x, .slice xa un xc]] w1 fun e w2 => ∃ tx, e = .returned (.string tx) ∧ (w2.cell? ⟨b0, 0, none⟩ = some (.string k) ∧ w2.cell? ⟨b0, 1, none⟩ = some (.string d) ∧ w2.cell? ⟨b0, 2, none⟩ = some (.bool x) ∧ w2.cell? ⟨b0, 3, none⟩ = some (.slice ua un uc)) ∧
      Calls Tryd.prog 29 #[.agg #[.string k, .string d, .bool x, .slice ua un uc]] w2 fun e w3 => e = .returned (.string tx) ∧ (w3.cell? ⟨b0, 0, none⟩ = some (.string k) ∧ w3.cell? ⟨b0, 1, none⟩ = some (.string d) ∧ w3.cell? ⟨b0, 2, none⟩ = some (.bool x) ∧ w3.cell? ⟨b0, 3, none⟩ = some (.slice ua un uc)) ∧ PtRead q R w3

theorem box4 {w : World} {b : Nat} (h : Box4 w b) : ∃ v0 v1 v2 v3, (w.cell? ⟨b, 0, none⟩ = some v0 ∧ w.cell? ⟨b, 1, none⟩ = some v1 ∧ w.cell? ⟨b, 2, none⟩ = some v2 ∧ w.cell? ⟨b, 3, none⟩ = some v3) ∧ w.frozen? ⟨b, 0, none⟩ = false ∧ w.frozen? ⟨b, 1, none⟩ = false ∧ w.frozen? ⟨b, 2, none⟩ = false ∧ w.frozen? ⟨b, 3, none⟩ = false := by
  obtain ⟨_, _, _, _, _, _, h⟩ := h
  exact ⟨_, _, _, _, row4 h⟩

set_option maxRecDepth 100000 in
set_option maxHeartbeats 4000000 in
theorem ptell_skel (k d q : ByteArray) (x : Bool) (ua : Option Addr) (un uc : Nat) (w : World) (la : Int) (hla : la = 0 ∨ la = 1) (hq : q.size ≤ maxLen)
    (R G : World → Prop) (HR : Hid (∀ w', G w' → R w'))
    (HT : Hid (Calls Tryd.prog 27 #[] (w.alloc (.cells #[.string k, .string d, .bool x, .slice ua un uc] 24)) fun e w' => e = .returned (.bool true) ∧ G w'))
    (HD : Hid (∀ w', G w' → G w'.drew))
    (HK : Hid (∀ w', G w' → w'.cell? ⟨w.heap.size, 0, none⟩ = some (.string k) ∧ w'.cell? ⟨w.heap.size, 1, none⟩ = some (.string d) ∧ w'.cell? ⟨w.heap.size, 2, none⟩ = some (.bool x) ∧ w'.cell? ⟨w.heap.size, 3, none⟩ = some (.slice ua un uc)))
    (HGS : Hid (∀ w', G w' → Calls Tryd.prog 10 #[.agg #[.string k, .string d, .bool x, .slice ua un uc], .int .i64 230] w' fun e w'' => e = .returned (.int .i64 la) ∧ G w''))
    (HO : Hid (la = 0 → q.size ≤ 20001 → ∀ w', G w' → PtText k d q x ua un uc w.heap.size R w')) :
    Calls Tryd.prog 6 #[.agg #[.string k, .string d, .bool x, .slice ua un uc], .string q] w fun e w' => e = .returned (.bool true) ∧ R w' := by
  unfold maxLen at hq
  go_enter Tryd.func6, Tryd.ntmps6
  go_wp2_with fail
  refine Calls.mono HT.out ?_
  rintro e w2 ⟨rfl, hg2⟩
  obtain ⟨c0, c1, c2, c3⟩ := HK.out _ hg2
  clear HT
  go_wp2_with fail
  refine Calls.mono (HGS.out _ hg2) ?_
  clear c0 c1 c2 c3 hg2
  rintro e w3 ⟨rfl, hg⟩
  clear HGS w2
  rcases hla with rfl | rfl
  rotate_left
  · clear HO HK
    go_wp2_with fail
    go_ret
    exact ⟨rfl, HR.out _ hg⟩
  by_cases hbig : 3000 < q.size ∧ q.size ≠ 20001
  · have h1 : (3000 : Int) < (q.size : Int) := by omega
    have h2 : ((q.size : Int) != 20001) = true := by rw [bne_iff_ne]; omega
    clear HO HK hbig
    go_wp2_with fail
    go_ret
    exact ⟨rfl, HR.out _ hg⟩
  have HS : Hid (∀ w', PtText k d q x ua un uc w.heap.size R w' → PtText k d q x ua un uc w.heap.size R w') := fun _ h => h
  have HX : Hid (PtText k d q x ua un uc w.heap.size R w3.drew) := HO.out rfl (by omega) _ (HD.out _ hg)
  have HC0 : Hid _ := HK.out _ (HD.out _ hg)
  clear HO HK HD HR
  by_cases hb3 : 3000 < q.size
  all_goals
    try have h1 : (3000 : Int) < (q.size : Int) := by omega
    try have h1 : ¬ (3000 : Int) < (q.size : Int) := by omega
    try have h2 : ((q.size : Int) != 20001) = false := by simp; omega
    clear hbig
    go_upto_region 4 with fail
    refine wp_region_held_drew (S := fun w' => w'.cell? ⟨w.heap.size, 0, none⟩ = some (.string k) ∧ w'.cell? ⟨w.heap.size, 1, none⟩ = some (.string d) ∧ w'.cell? ⟨w.heap.size, 2, none⟩ = some (.bool x) ∧ w'.cell? ⟨w.heap.size, 3, none⟩ = some (.slice ua un uc)) (by kernel_rfl) (HC0.out) (fun hHeld => ?_)
    refine wpAnyH_take (i := 0) (v := .agg #[.string k, .string d, .bool x, .slice ua un uc]) rfl (by kernel_rfl) (by kernel_rfl) (by kernel_rfl) (fun _ _ _ h => h) (Or.inl ⟨by rfl, ?_⟩) hHeld ?_
    · intro w hSw; (try dsimp only at hSw); simp only [List.getElem_toArray, List.getElem_cons_zero]; go_simp
    simp only [List.getElem_toArray, List.getElem_cons_zero, Act.put, List.setIfInBounds_toArray, List.set_cons_zero, List.set_cons_succ]
    refine wpAnyH_take (i := 3) (v := .agg #[.string k, .string d, .bool x, .slice ua un uc]) rfl (by kernel_rfl) (by kernel_rfl) (by kernel_rfl) (fun _ _ _ h => h) (Or.inl ⟨by rfl, ?_⟩) hHeld ?_
    · intro w hSw; (try dsimp only at hSw); simp only [List.getElem_toArray, List.getElem_cons_zero, List.getElem_cons_succ]; go_simp
    simp only [List.getElem_toArray, List.getElem_cons_zero, List.getElem_cons_succ, Act.put, List.setIfInBounds_toArray, List.set_cons_zero, List.set_cons_succ]
    refine wpAnyH_ready (rs := [1]) (by kernel_rfl) (by simp) ?_
    refine AllReadyH.cons rfl (fun K' hK => ?_) AllReadyH.nil
    simp only [List.getElem_toArray, List.getElem_cons_zero, List.getElem_cons_succ]
    go_simp
    refine Calls.mono (HX.out) ?_
    rintro e wx ⟨xa, xc, rfl, hc, hx⟩
    have HX1 : Hid _ := hx
    have HC1 : Hid _ := hc
    clear hx hc
    go_wp2_with fail
    refine hK.out _ _ (HC1.out) (fun hHeld' => ?_)
    clear hK K' hHeld
    have hHeld := hHeld'
    clear hHeld'
    refine wpAnyH_ready (rs := [2]) (by kernel_rfl) (by simp) ?_
    refine AllReadyH.cons rfl (fun K' hK => ?_) AllReadyH.nil
    simp only [List.getElem_toArray, List.getElem_cons_zero, List.getElem_cons_succ]
    go_simp
    refine Calls.mono (HX1.out) ?_
    rintro e wx ⟨tx, rfl, hc, hx⟩
    have HX2 : Hid _ := hx
    have HC2 : Hid _ := hc
    clear hx hc
    go_wp2_with fail
    refine hK.out _ _ (HC2.out) (fun hHeld' => ?_)
    clear hK K' hHeld
    have hHeld := hHeld'
    clear hHeld'
    refine wpAnyH_ready (rs := [4]) (by kernel_rfl) (by simp) ?_
    refine AllReadyH.cons rfl (fun K' hK => ?_) AllReadyH.nil
    simp only [List.getElem_toArray, List.getElem_cons_zero, List.getElem_cons_succ]
    go_simp
    refine Calls.mono (HX2.out) ?_
    rintro e wx ⟨rfl, hc, hx⟩
    have HX3 : Hid _ := hx
    have HC3 : Hid _ := hc
    clear hx hc
    go_wp2_with fail
    refine hK.out _ _ (HC3.out) (fun hHeld' => ?_)
    clear hK K' hHeld
    have hHeld := hHeld'
    clear hHeld'
    refine wpAnyH_take (i := 5) (v := .bool false) rfl (by kernel_rfl) (by kernel_rfl) (by kernel_rfl) (fun _ _ _ h => h) (Or.inl ⟨by rfl, ?_⟩) hHeld ?_
    · intro w hSw; (try dsimp only at hSw); simp only [List.getElem_toArray, List.getElem_cons_zero, List.getElem_cons_succ]; go_simp
    simp only [List.getElem_toArray, List.getElem_cons_zero, List.getElem_cons_succ, Act.put, List.setIfInBounds_toArray, List.set_cons_zero, List.set_cons_succ]
    refine wpAnyH_done (by kernel_rfl) ?_ _
    clear hHeld HX HX1 HX2 HC0 HC1 HC2 HC3 hg
    go_wp2_with fail
    refine Calls.mono HX3.out ?_
    clear HX3
    rintro e w4 ⟨k3, d3, x3, a3, n3, c3, ev, rfl, hx⟩
    have HX : Hid _ := hx
    clear hx
    go_wp2_with fail
    refine Calls.mono HX.out ?_
    clear HX
    rintro e w5 ⟨k4, d4, x4, a4, n4, c4, en, rfl, hx⟩
    have HX : Hid _ := hx
    clear hx
    go_wp2_with fail
    refine Calls.mono HX.out ?_
    clear HX
    rintro e w6 ⟨rfl, ⟨c0, c1, c2, c3⟩, ⟨e0, e1, e2, e3⟩, hx⟩
    have HX : Hid _ := hx
    clear hx
    go_wp2_with fail
    refine Calls.mono HX.out ?_
    clear HX c0 c1 c2 c3 e0 e1 e2 e3
    rintro e w7 ⟨rfl, hx⟩
    have HX : Hid (PtFirst q w4.heap.size w5.heap.size R w7) := hx
    clear hx
    go_wp2_with fail
    refine Calls.mono HX.out ?_
    clear HX
    rintro e w8 ⟨k5, d5, x5, a5, n5, c5, rs, ev2, rfl, hb, hx⟩
    have HX : Hid _ := hx
    obtain ⟨v0, v1, v2, v3, ⟨c0, c1, c2, c3⟩, f0, f1, f2, f3⟩ := box4 hb
    clear hx hb
    go_wp2_with fail
    refine Calls.mono HX.out ?_
    clear HX c0 c1 c2 c3 f0 f1 f2 f3
    rintro e w9 ⟨k6, d6, x6, a6, n6, c6, en2, rfl, hb, hx⟩
    have HX : Hid _ := hx
    obtain ⟨u0, u1, u2, u3, ⟨c0, c1, c2, c3⟩, f0, f1, f2, f3⟩ := box4 hb
    clear hx hb
    go_wp2_with fail
    refine Calls.mono HX.out ?_
    clear HX c0 c1 c2 c3 f0 f1 f2 f3
    rintro e w10 ⟨rfl, ⟨c0, c1, c2, c3⟩, ⟨e0, e1, e2, e3⟩, hx⟩
    have HX : Hid _ := hx
    clear hx
    go_wp2_with fail
    refine Calls.mono HX.out ?_
    clear HX c0 c1 c2 c3 e0 e1 e2 e3
    rintro e w11 ⟨rfl, hr⟩
    have HE : Hid (R w11) := hr
    clear hr
    go_wp2_with fail
    go_ret
    exact ⟨ret_bool (by simp), HE.out⟩
end Go.Proofs.YtilkjafggfdjeaaDoor
