/-
  The walk of the law 'PathPuts', told apart from what its callees do.
  Conditions: those that stand ahead of the theorem: a contract for each call.
-/
import Derived.Test.YtilkjafggfdjeabDoorBoxes
import Derived.Deep.RegionHeld3
import Derived.Deep.DrawnRows
import Derived.Deep.DeepCutAuto
import Derived.Deep.DeepFit
namespace Go.Proofs.YtilkjafggfdjeabDoor
open Go.RowKit
attribute [local go_sem ↓] Go.wp_at_zero Go.wp_at_succ

theorem ret_boolP {b c : Bool} (h : b = c) : Ending.returned (.bool b) = .returned (.bool c) := by rw [h]
/-- Drop, Get, coded. -/
def PuDrop (k3 d3 : ByteArray) (x3 : Bool) (a3 : Option Addr) (n3 c3 : Nat) (s : ByteArray) (R : World → Prop) (w : World) : Prop :=
  Calls Tryd.prog 14 #[.agg #[.string k3, .string d3, .bool x3, .slice a3 n3 c3], .string s] w fun e w1 => ∃ k7 d7 x7 a7 n7 c7 ev, e = .returned (.tuple #[.agg #[.string k7, .string d7, .bool x7, .slice a7 n7 c7], ev]) ∧ (((∃ ty q, ev = .iface ty q) ∧ (s.toList == [47]) = true ∧ R (w1.alloc (.cells #[.string k7, .string d7, .bool x7, .slice a7 n7 c7] 24))) ∨
    (ev = .nilIface ∧ Calls Tryd.prog 11 #[.agg #[.string k7, .string d7, .bool x7, .slice a7 n7 c7], .string s] (w1.alloc (.cells #[.string k7, .string d7, .bool x7, .slice a7 n7 c7] 24)) fun e w2 => ∃ k8 d8 x8 a8 n8 c8 er, e = .returned (.tuple #[.agg #[.string k8, .string d8, .bool x8, .slice a8 n8 c8], er]) ∧ Calls Tryd.prog 15 #[er, .int .i64 6] w2 fun e w3 => e = .returned (.bool true) ∧ R w3))
/-- Two Gets of the other path, Same; by: the block of the tree with what was put. -/
def PuGets (k d : ByteArray) (x : Bool) (xa : Option Addr) (un xc : Nat) (k3 d3 : ByteArray) (x3 : Bool) (a3 : Option Addr) (n3 c3 : Nat) (s t : ByteArray) (yb0 : Nat) (R : World → Prop) (w : World) : Prop :=
  Calls Tryd.prog 11 #[.agg #[.string k, .string d, .bool x, .slice xa un xc], .string t] w fun e w1 => ∃ k5 d5 x5 a5 n5 c5 e1, e = .returned (.tuple #[.agg #[.string k5, .string d5, .bool x5, .slice a5 n5 c5], e1]) ∧ ((w1.alloc (.cells #[.string k5, .string d5, .bool x5, .slice a5 n5 c5] 24)).cell? ⟨yb0, 0, none⟩ = some (.string k3) ∧ (w1.alloc (.cells #[.string k5, .string d5, .bool x5, .slice a5 n5 c5] 24)).cell? ⟨yb0, 1, none⟩ = some (.string d3) ∧ (w1.alloc (.cells #[.string k5, .string d5, .bool x5, .slice a5 n5 c5] 24)).cell? ⟨yb0, 2, none⟩ = some (.bool x3) ∧ (w1.alloc (.cells #[.string k5, .string d5, .bool x5, .slice a5 n5 c5] 24)).cell? ⟨yb0, 3, none⟩ = some (.slice a3 n3 c3)) ∧
    Calls Tryd.prog 11 #[.agg #[.string k3, .string d3, .bool x3, .slice a3 n3 c3], .string t] (w1.alloc (.cells #[.string k5, .string d5, .bool x5, .slice a5 n5 c5] 24)) fun e w2 => ∃ k6 d6 x6 a6 n6 c6 e2, e = .returned (.tuple #[.agg #[.string k6, .string d6, .bool x6, .slice a6 n6 c6], e2]) ∧
      (((∃ t1 q1 t2 q2, e1 = .iface t1 q1 ∧ e2 = .iface t2 q2) ∧ ((w2.alloc (.cells #[.string k6, .string d6, .bool x6, .slice a6 n6 c6] 24)).cell? ⟨yb0, 0, none⟩ = some (.string k3) ∧ (w2.alloc (.cells #[.string k6, .string d6, .bool x6, .slice a6 n6 c6] 24)).cell? ⟨yb0, 1, none⟩ = some (.string d3) ∧ (w2.alloc (.cells #[.string k6, .string d6, .bool x6, .slice a6 n6 c6] 24)).cell? ⟨yb0, 2, none⟩ = some (.bool x3) ∧ (w2.alloc (.cells #[.string k6, .string d6, .bool x6, .slice a6 n6 c6] 24)).cell? ⟨yb0, 3, none⟩ = some (.slice a3 n3 c3)) ∧ PuDrop k3 d3 x3 a3 n3 c3 s R (w2.alloc (.cells #[.string k6, .string d6, .bool x6, .slice a6 n6 c6] 24)).drew) ∨
       (e1 = .nilIface ∧ e2 = .nilIface ∧ ((w2.alloc (.cells #[.string k6, .string d6, .bool x6, .slice a6 n6 c6] 24)).cell? ⟨w1.heap.size, 0, none⟩ = some (.string k5) ∧ (w2.alloc (.cells #[.string k6, .string d6, .bool x6, .slice a6 n6 c6] 24)).cell? ⟨w1.heap.size, 1, none⟩ = some (.string d5) ∧ (w2.alloc (.cells #[.string k6, .string d6, .bool x6, .slice a6 n6 c6] 24)).cell? ⟨w1.heap.size, 2, none⟩ = some (.bool x5) ∧ (w2.alloc (.cells #[.string k6, .string d6, .bool x6, .slice a6 n6 c6] 24)).cell? ⟨w1.heap.size, 3, none⟩ = some (.slice a5 n5 c5)) ∧
        Calls Tryd.prog 12 #[.agg #[.string k5, .string d5, .bool x5, .slice a5 n5 c5], .agg #[.string k6, .string d6, .bool x6, .slice a6 n6 c6]] (w2.alloc (.cells #[.string k6, .string d6, .bool x6, .slice a6 n6 c6] 24)).drew fun e w3 => e = .returned (.bool true) ∧ (w3.cell? ⟨w1.heap.size, 0, none⟩ = some (.string k5) ∧ w3.cell? ⟨w1.heap.size, 1, none⟩ = some (.string d5) ∧ w3.cell? ⟨w1.heap.size, 2, none⟩ = some (.bool x5) ∧ w3.cell? ⟨w1.heap.size, 3, none⟩ = some (.slice a5 n5 c5)) ∧ (w3.cell? ⟨w2.heap.size, 0, none⟩ = some (.string k6) ∧ w3.cell? ⟨w2.heap.size, 1, none⟩ = some (.string d6) ∧ w3.cell? ⟨w2.heap.size, 2, none⟩ = some (.bool x6) ∧ w3.cell? ⟨w2.heap.size, 3, none⟩ = some (.slice a6 n6 c6)) ∧ (w3.cell? ⟨yb0, 0, none⟩ = some (.string k3) ∧ w3.cell? ⟨yb0, 1, none⟩ = some (.string d3) ∧ w3.cell? ⟨yb0, 2, none⟩ = some (.bool x3) ∧ w3.cell? ⟨yb0, 3, none⟩ = some (.slice a3 n3 c3)) ∧ PuDrop k3 d3 x3 a3 n3 c3 s R w3))
/-- IsApart. -/
def PuIs (k d : ByteArray) (x : Bool) (xa : Option Addr) (un xc : Nat) (k3 d3 : ByteArray) (x3 : Bool) (a3 : Option Addr) (n3 c3 : Nat) (s t : ByteArray) (xb yb0 : Nat) (R : World → Prop) (w : World) : Prop :=
  Calls Tryd.prog 13 #[.string s, .string t] w fun e w1 => ∃ ap, e = .returned (.bool ap) ∧ ((ap = false ∧ R w1) ∨ (ap = true ∧ (w1.cell? ⟨xb, 0, none⟩ = some (.string k) ∧ w1.cell? ⟨xb, 1, none⟩ = some (.string d) ∧ w1.cell? ⟨xb, 2, none⟩ = some (.bool x) ∧ w1.cell? ⟨xb, 3, none⟩ = some (.slice xa un xc)) ∧ PuGets k d x xa un xc k3 d3 x3 a3 n3 c3 s t yb0 R w1))
/-- Behind Put: the error, or Get and Same. -/
def PuAfter (k d : ByteArray) (x : Bool) (xa : Option Addr) (un xc : Nat) (k2 d2 : ByteArray) (x2 : Bool) (ub : Option Addr) (vn vc : Nat) (k3 d3 : ByteArray) (x3 : Bool) (a3 : Option Addr) (n3 c3 : Nat) (s t : ByteArray) (b0 xb yb0 : Nat) (R : World → Prop) (ev : Value) (w : World) : Prop :=
  ((∃ ty q, ev = .iface ty q) ∧ (k3.toList == []) = true ∧ n3 = 0 ∧ R w) ∨
  (ev = .nilIface ∧ Calls Tryd.prog 11 #[.agg #[.string k3, .string d3, .bool x3, .slice a3 n3 c3], .string s] w fun e w1 => ∃ k4 d4 x4 a4 n4 c4, e = .returned (.tuple #[.agg #[.string k4, .string d4, .bool x4, .slice a4 n4 c4], .nilIface]) ∧ ((w1.alloc (.cells #[.string k4, .string d4, .bool x4, .slice a4 n4 c4] 24)).cell? ⟨b0 + 1, 0, none⟩ = some (.string k2) ∧ (w1.alloc (.cells #[.string k4, .string d4, .bool x4, .slice a4 n4 c4] 24)).cell? ⟨b0 + 1, 1, none⟩ = some (.string d2) ∧ (w1.alloc (.cells #[.string k4, .string d4, .bool x4, .slice a4 n4 c4] 24)).cell? ⟨b0 + 1, 2, none⟩ = some (.bool x2) ∧ (w1.alloc (.cells #[.string k4, .string d4, .bool x4, .slice a4 n4 c4] 24)).cell? ⟨b0 + 1, 3, none⟩ = some (.slice ub vn vc)) ∧
    Calls Tryd.prog 12 #[.agg #[.string k4, .string d4, .bool x4, .slice a4 n4 c4], .agg #[.string k2, .string d2, .bool x2, .slice ub vn vc]] (w1.alloc (.cells #[.string k4, .string d4, .bool x4, .slice a4 n4 c4] 24)) fun e w2 => e = .returned (.bool true) ∧ PuIs k d x xa un xc k3 d3 x3 a3 n3 c3 s t xb yb0 R w2)
/-- The copy of what is put, and Put: W: the world behind the tree's own copy, which lies in block xb. -/
structure PuRegion (k d : ByteArray) (x : Bool) (xa : Option Addr) (un xc : Nat) (k2 d2 : ByteArray) (x2 : Bool) (ub : Option Addr) (vn vc : Nat) (s t : ByteArray) (b0 xb : Nat) (R : World → Prop) (W : World) : Prop where
  cells : ∀ w', Below W.heap.size W w' → w'.cell? ⟨xb, 0, none⟩ = some (.string k) ∧ w'.cell? ⟨xb, 1, none⟩ = some (.string d) ∧ w'.cell? ⟨xb, 2, none⟩ = some (.bool x) ∧ w'.cell? ⟨xb, 3, none⟩ = some (.slice xa un xc) ∧ w'.cell? ⟨b0 + 1, 0, none⟩ = some (.string k2) ∧ w'.cell? ⟨b0 + 1, 1, none⟩ = some (.string d2) ∧ w'.cell? ⟨b0 + 1, 2, none⟩ = some (.bool x2) ∧ w'.cell? ⟨b0 + 1, 3, none⟩ = some (.slice ub vn vc)
  calls : ∀ w', Below W.heap.size W w' → Calls Tryd.prog 9 #[.agg #[.string k2, .string d2, .bool x2, .slice ub vn vc]] w' fun e w1 => ∃ yb yc, e = .returned (.agg #[.string k2, .string d2, .bool x2, .slice yb vn yc]) ∧ Below w'.heap.size w' w1 ∧
    ∀ w2, Below w1.heap.size w1 w2 → Calls Tryd.prog 10 #[.agg #[.string k, .string d, .bool x, .slice xa un xc], .string s, .agg #[.string k2, .string d2, .bool x2, .slice yb vn yc]] w2 fun e w3 => ∃ k3 d3 x3 a3 n3 c3 ev, e = .returned (.tuple #[.agg #[.string k3, .string d3, .bool x3, .slice a3 n3 c3], ev]) ∧ Below w2.heap.size w2 w3 ∧
      ∀ yb0 w4, ButUp yb0 w3 w4 → W.heap.size ≤ yb0 → (yb0 < w2.heap.size ∨ w3.heap.size ≤ yb0) → (w4.cell? ⟨yb0, 0, none⟩ = some (.string k3) ∧ w4.cell? ⟨yb0, 1, none⟩ = some (.string d3) ∧ w4.cell? ⟨yb0, 2, none⟩ = some (.bool x3) ∧ w4.cell? ⟨yb0, 3, none⟩ = some (.slice a3 n3 c3)) → PuAfter k d x xa un xc k2 d2 x2 ub vn vc k3 d3 x3 a3 n3 c3 s t b0 xb yb0 R ev w4
/-- The tree's own copy. -/
def PuOwn (k d : ByteArray) (x : Bool) (ua : Option Addr) (un uc : Nat) (k2 d2 : ByteArray) (x2 : Bool) (ub : Option Addr) (vn vc : Nat) (s t : ByteArray) (b0 : Nat) (R : World → Prop) (w' : World) : Prop :=
  Calls Tryd.prog 9 #[.agg #[.string k, .string d, .bool x, .slice ua un uc]] w' fun e w1 => ∃ xa xc, e = .returned (.agg #[.string k, .string d, .bool x, .slice xa un xc]) ∧ PuRegion k d x xa un xc k2 d2 x2 ub vn vc s t b0 w1.heap.size R (w1.alloc (.cells #[.string k, .string d, .bool x, .slice xa un xc] 24))

set_option maxRecDepth 100000 in
set_option maxHeartbeats 8000000 in
theorem puts_skel (k d : ByteArray) (x : Bool) (ua : Option Addr) (un uc : Nat) (k2 d2 : ByteArray) (x2 : Bool) (ub : Option Addr) (vn vc : Nat) (s t : ByteArray) (w : World) (la lb : Int) (hla : la = 0 ∨ la = 1) (hlb : lb = 0 ∨ lb = 1) (hsm : s.size ≤ maxLen) (htm : t.size ≤ maxLen)
    (R G : World → Prop) (HR : Hid (∀ w', G w' → R w'))
    (HT : Hid (Calls Tryd.prog 7 #[] ((w.alloc (.cells #[.string k, .string d, .bool x, .slice ua un uc] 24)).alloc (.cells #[.string k2, .string d2, .bool x2, .slice ub vn vc] 24)) fun e w' => e = .returned (.bool true) ∧ G w'))
    (HD : Hid (∀ w', G w' → G w'.drew))
    (HK : Hid (∀ w', G w' → w'.cell? ⟨w.heap.size, 0, none⟩ = some (.string k) ∧ w'.cell? ⟨w.heap.size, 1, none⟩ = some (.string d) ∧ w'.cell? ⟨w.heap.size, 2, none⟩ = some (.bool x) ∧ w'.cell? ⟨w.heap.size, 3, none⟩ = some (.slice ua un uc) ∧ w'.cell? ⟨w.heap.size + 1, 0, none⟩ = some (.string k2) ∧ w'.cell? ⟨w.heap.size + 1, 1, none⟩ = some (.string d2) ∧ w'.cell? ⟨w.heap.size + 1, 2, none⟩ = some (.bool x2) ∧ w'.cell? ⟨w.heap.size + 1, 3, none⟩ = some (.slice ub vn vc)))
    (HGS : Hid (∀ w', G w' → Calls Tryd.prog 8 #[.agg #[.string k, .string d, .bool x, .slice ua un uc], .int .i64 100] w' fun e w'' => e = .returned (.int .i64 la) ∧ G w''))
    (HGT : Hid (∀ w', G w' → Calls Tryd.prog 8 #[.agg #[.string k2, .string d2, .bool x2, .slice ub vn vc], .int .i64 60] w' fun e w'' => e = .returned (.int .i64 lb) ∧ G w''))
    (HO : Hid (la + lb = 0 → s.size ≤ 150 → t.size ≤ 150 → ∀ w', G w' → PuOwn k d x ua un uc k2 d2 x2 ub vn vc s t w.heap.size R w')) :
    Calls Tryd.prog 3 #[.agg #[.string k, .string d, .bool x, .slice ua un uc], .string s, .string t, .agg #[.string k2, .string d2, .bool x2, .slice ub vn vc]] w fun e w' => e = .returned (.bool true) ∧ R w' := by
  unfold maxLen at hsm htm
  go_enter Tryd.func3, Tryd.ntmps3
  go_wp2_with fail
  refine Calls.mono HT.out ?_
  rintro e w2 ⟨rfl, hg2⟩
  have wk : IntKind.i64.wrap (la + lb) = la + lb := by
    rcases hla with rfl | rfl <;> rcases hlb with rfl | rfl <;> decide
  have hlo : 0 ≤ la + lb := by omega
  clear hla hlb HT
  go_upto_region 2 with fail
  go_cut [39] (fun c wx => c = .bool (decide (0 < la + lb) || (decide (150 < s.size) || decide (150 < t.size))) ∧ G wx)
  case first =>
    refine wp_region_held_drew (S := fun w' => w'.cell? ⟨w.heap.size, 0, none⟩ = some (.string k) ∧ w'.cell? ⟨w.heap.size, 1, none⟩ = some (.string d) ∧ w'.cell? ⟨w.heap.size, 2, none⟩ = some (.bool x) ∧ w'.cell? ⟨w.heap.size, 3, none⟩ = some (.slice ua un uc) ∧ w'.cell? ⟨w.heap.size + 1, 0, none⟩ = some (.string k2) ∧ w'.cell? ⟨w.heap.size + 1, 1, none⟩ = some (.string d2) ∧ w'.cell? ⟨w.heap.size + 1, 2, none⟩ = some (.bool x2) ∧ w'.cell? ⟨w.heap.size + 1, 3, none⟩ = some (.slice ub vn vc)) (by kernel_rfl) (HK.out _ (HD.out _ hg2)) (fun hHeld => ?_)
    refine wpAnyH_take (i := 0) (v := .bool true) rfl (by kernel_rfl) (by kernel_rfl) (by kernel_rfl) (fun _ _ _ h => h) (Or.inl ⟨by rfl, ?_⟩) hHeld ?_
    · intro w hSw; (try dsimp only at hSw); simp only [List.getElem_toArray, List.getElem_cons_zero]; go_simp
    simp only [List.getElem_toArray, List.getElem_cons_zero, Act.put, List.setIfInBounds_toArray, List.set_cons_zero, List.set_cons_succ]
    refine wpAnyH_take (i := 1) (v := .bool false) rfl (by kernel_rfl) (by kernel_rfl) (by kernel_rfl) (fun _ _ _ h => h) (Or.inl ⟨by rfl, ?_⟩) hHeld ?_
    · intro w hSw; (try dsimp only at hSw); simp only [List.getElem_toArray, List.getElem_cons_zero, List.getElem_cons_succ]; go_simp
    simp only [List.getElem_toArray, List.getElem_cons_zero, List.getElem_cons_succ, Act.put, List.setIfInBounds_toArray, List.set_cons_zero, List.set_cons_succ]
    refine wpAnyH_take (i := 2) (v := .bool false) rfl (by kernel_rfl) (by kernel_rfl) (by kernel_rfl) (fun _ _ _ h => h) (Or.inl ⟨by rfl, ?_⟩) hHeld ?_
    · intro w hSw; (try dsimp only at hSw); simp only [List.getElem_toArray, List.getElem_cons_zero, List.getElem_cons_succ]; go_simp
    simp only [List.getElem_toArray, List.getElem_cons_zero, List.getElem_cons_succ, Act.put, List.setIfInBounds_toArray, List.set_cons_zero, List.set_cons_succ]
    refine wpAnyH_take (i := 3) (v := .agg #[.string k, .string d, .bool x, .slice ua un uc]) rfl (by kernel_rfl) (by kernel_rfl) (by kernel_rfl) (fun _ _ _ h => h) (Or.inl ⟨by rfl, ?_⟩) hHeld ?_
    · intro w hSw; (try dsimp only at hSw); simp only [List.getElem_toArray, List.getElem_cons_zero, List.getElem_cons_succ]; go_simp
    simp only [List.getElem_toArray, List.getElem_cons_zero, List.getElem_cons_succ, Act.put, List.setIfInBounds_toArray, List.set_cons_zero, List.set_cons_succ]
    refine wpAnyH_take (i := 5) (v := .agg #[.string k2, .string d2, .bool x2, .slice ub vn vc]) rfl (by kernel_rfl) (by kernel_rfl) (by kernel_rfl) (fun _ _ _ h => h) (Or.inl ⟨by rfl, ?_⟩) hHeld ?_
    · intro w hSw; (try dsimp only at hSw); simp only [List.getElem_toArray, List.getElem_cons_zero, List.getElem_cons_succ]; go_simp
    simp only [List.getElem_toArray, List.getElem_cons_zero, List.getElem_cons_succ, Act.put, List.setIfInBounds_toArray, List.set_cons_zero, List.set_cons_succ]
    refine wpAnyH_ready (rs := [4]) (by kernel_rfl) (by simp) ?_
    refine AllReadyH.cons rfl (fun K' hK => ?_) AllReadyH.nil
    simp only [List.getElem_toArray, List.getElem_cons_zero, List.getElem_cons_succ]
    go_simp
    refine Calls.mono (HGS.out _ (HD.out _ hg2)) ?_
    rintro e wx ⟨rfl, hg⟩
    go_wp2_with fail
    refine hK.out _ _ (HK.out _ hg) (fun hHeld' => ?_)
    clear hK K' hHeld
    have hHeld := hHeld'
    clear hHeld'
    refine wpAnyH_ready (rs := [6]) (by kernel_rfl) (by simp) ?_
    refine AllReadyH.cons rfl (fun K' hK => ?_) AllReadyH.nil
    simp only [List.getElem_toArray, List.getElem_cons_zero, List.getElem_cons_succ]
    go_simp
    refine Calls.mono (HGT.out _ hg) ?_
    rintro e wx ⟨rfl, hg'⟩
    go_wp2_with fail
    refine hK.out _ _ (HK.out _ hg') (fun hHeld' => ?_)
    clear hK K' hHeld
    have hHeld := hHeld'
    clear hHeld'
    refine wpAnyH_take (i := 7) (v := .int .i64 (la + lb)) rfl (by kernel_rfl) (by kernel_rfl) (by kernel_rfl) (fun _ _ _ h => h) (Or.inl ⟨by rfl, ?_⟩) hHeld ?_
    · intro w hSw; (try dsimp only at hSw); simp only [List.getElem_toArray, List.getElem_cons_zero, List.getElem_cons_succ]; go_simp
    simp only [List.getElem_toArray, List.getElem_cons_zero, List.getElem_cons_succ, Act.put, List.setIfInBounds_toArray, List.set_cons_zero, List.set_cons_succ]
    by_cases hbig : 0 < la + lb
    · skip
      refine wpAnyH_take (i := 8) (v := .bool true) rfl (by kernel_rfl) (by kernel_rfl) (by kernel_rfl) (fun _ _ _ h => h) (Or.inl ⟨by rfl, ?_⟩) hHeld ?_
      · intro w hSw; (try dsimp only at hSw); simp only [List.getElem_toArray, List.getElem_cons_zero, List.getElem_cons_succ]; go_simp
      simp only [List.getElem_toArray, List.getElem_cons_zero, List.getElem_cons_succ, Act.put, List.setIfInBounds_toArray, List.set_cons_zero, List.set_cons_succ]
      refine wpAnyH_take (i := 9) (v := .bool true) rfl (by kernel_rfl) (by kernel_rfl) (by kernel_rfl) (fun _ _ _ h => h) (Or.inl ⟨by rfl, ?_⟩) hHeld ?_
      · intro w hSw; (try dsimp only at hSw); simp only [List.getElem_toArray, List.getElem_cons_zero, List.getElem_cons_succ]; go_simp
      simp only [List.getElem_toArray, List.getElem_cons_zero, List.getElem_cons_succ, Act.put, List.setIfInBounds_toArray, List.set_cons_zero, List.set_cons_succ]
      refine wpAnyH_take (i := 10) (v := .bool true) rfl (by kernel_rfl) (by kernel_rfl) (by kernel_rfl) (fun _ _ _ h => h) (Or.inl ⟨by rfl, ?_⟩) hHeld ?_
      · intro w hSw; (try dsimp only at hSw); simp only [List.getElem_toArray, List.getElem_cons_zero, List.getElem_cons_succ]; go_simp
      simp only [List.getElem_toArray, List.getElem_cons_zero, List.getElem_cons_succ, Act.put, List.setIfInBounds_toArray, List.set_cons_zero, List.set_cons_succ]
      refine wpAnyH_take (i := 11) (v := undef) rfl (by kernel_rfl) (by kernel_rfl) (by kernel_rfl) (fun _ _ _ h => h) (Or.inr ⟨by rfl, rfl⟩) hHeld ?_
      simp only [List.getElem_toArray, List.getElem_cons_zero, List.getElem_cons_succ, Act.put, List.setIfInBounds_toArray, List.set_cons_zero, List.set_cons_succ]
      refine wpAnyH_take (i := 12) (v := undef) rfl (by kernel_rfl) (by kernel_rfl) (by kernel_rfl) (fun _ _ _ h => h) (Or.inr ⟨by rfl, rfl⟩) hHeld ?_
      simp only [List.getElem_toArray, List.getElem_cons_zero, List.getElem_cons_succ, Act.put, List.setIfInBounds_toArray, List.set_cons_zero, List.set_cons_succ]
      refine wpAnyH_take (i := 13) (v := undef) rfl (by kernel_rfl) (by kernel_rfl) (by kernel_rfl) (fun _ _ _ h => h) (Or.inr ⟨by rfl, rfl⟩) hHeld ?_
      simp only [List.getElem_toArray, List.getElem_cons_zero, List.getElem_cons_succ, Act.put, List.setIfInBounds_toArray, List.set_cons_zero, List.set_cons_succ]
      refine wpAnyH_take (i := 14) (v := .bool true) rfl (by kernel_rfl) (by kernel_rfl) (by kernel_rfl) (fun _ _ _ h => h) (Or.inl ⟨by rfl, ?_⟩) hHeld ?_
      · intro w hSw; (try dsimp only at hSw); simp only [List.getElem_toArray, List.getElem_cons_zero, List.getElem_cons_succ]; go_simp
      simp only [List.getElem_toArray, List.getElem_cons_zero, List.getElem_cons_succ, Act.put, List.setIfInBounds_toArray, List.set_cons_zero, List.set_cons_succ]
      refine wpAnyH_take (i := 15) (v := .bool true) rfl (by kernel_rfl) (by kernel_rfl) (by kernel_rfl) (fun _ _ _ h => h) (Or.inl ⟨by rfl, ?_⟩) hHeld ?_
      · intro w hSw; (try dsimp only at hSw); simp only [List.getElem_toArray, List.getElem_cons_zero, List.getElem_cons_succ]; go_simp
      simp only [List.getElem_toArray, List.getElem_cons_zero, List.getElem_cons_succ, Act.put, List.setIfInBounds_toArray, List.set_cons_zero, List.set_cons_succ]
      refine wpAnyH_take (i := 16) (v := undef) rfl (by kernel_rfl) (by kernel_rfl) (by kernel_rfl) (fun _ _ _ h => h) (Or.inr ⟨by rfl, rfl⟩) hHeld ?_
      simp only [List.getElem_toArray, List.getElem_cons_zero, List.getElem_cons_succ, Act.put, List.setIfInBounds_toArray, List.set_cons_zero, List.set_cons_succ]
      refine wpAnyH_take (i := 17) (v := undef) rfl (by kernel_rfl) (by kernel_rfl) (by kernel_rfl) (fun _ _ _ h => h) (Or.inr ⟨by rfl, rfl⟩) hHeld ?_
      simp only [List.getElem_toArray, List.getElem_cons_zero, List.getElem_cons_succ, Act.put, List.setIfInBounds_toArray, List.set_cons_zero, List.set_cons_succ]
      refine wpAnyH_take (i := 18) (v := undef) rfl (by kernel_rfl) (by kernel_rfl) (by kernel_rfl) (fun _ _ _ h => h) (Or.inr ⟨by rfl, rfl⟩) hHeld ?_
      simp only [List.getElem_toArray, List.getElem_cons_zero, List.getElem_cons_succ, Act.put, List.setIfInBounds_toArray, List.set_cons_zero, List.set_cons_succ]
      refine wpAnyH_take (i := 19) (v := .bool true) rfl (by kernel_rfl) (by kernel_rfl) (by kernel_rfl) (fun _ _ _ h => h) (Or.inl ⟨by rfl, ?_⟩) hHeld ?_
      · intro w hSw; (try dsimp only at hSw); simp only [List.getElem_toArray, List.getElem_cons_zero, List.getElem_cons_succ]; go_simp
      simp only [List.getElem_toArray, List.getElem_cons_zero, List.getElem_cons_succ, Act.put, List.setIfInBounds_toArray, List.set_cons_zero, List.set_cons_succ]
      refine wpAnyH_done (by kernel_rfl) ?_ _
      go_wp2_with fail
      go_meet
      case rel => exact ⟨by rw [decide_eq_true (p := 0 < la + lb) (by omega)]; rfl, hg'⟩
    by_cases h1 : 150 < s.size
    · have h1' : (150 : Int) < (s.size : Int) := by omega
      refine wpAnyH_take (i := 8) (v := .bool false) rfl (by kernel_rfl) (by kernel_rfl) (by kernel_rfl) (fun _ _ _ h => h) (Or.inl ⟨by rfl, ?_⟩) hHeld ?_
      · intro w hSw; (try dsimp only at hSw); simp only [List.getElem_toArray, List.getElem_cons_zero, List.getElem_cons_succ]; go_simp
      simp only [List.getElem_toArray, List.getElem_cons_zero, List.getElem_cons_succ, Act.put, List.setIfInBounds_toArray, List.set_cons_zero, List.set_cons_succ]
      refine wpAnyH_take (i := 9) (v := .bool false) rfl (by kernel_rfl) (by kernel_rfl) (by kernel_rfl) (fun _ _ _ h => h) (Or.inl ⟨by rfl, ?_⟩) hHeld ?_
      · intro w hSw; (try dsimp only at hSw); simp only [List.getElem_toArray, List.getElem_cons_zero, List.getElem_cons_succ]; go_simp
      simp only [List.getElem_toArray, List.getElem_cons_zero, List.getElem_cons_succ, Act.put, List.setIfInBounds_toArray, List.set_cons_zero, List.set_cons_succ]
      refine wpAnyH_take (i := 10) (v := .bool false) rfl (by kernel_rfl) (by kernel_rfl) (by kernel_rfl) (fun _ _ _ h => h) (Or.inl ⟨by rfl, ?_⟩) hHeld ?_
      · intro w hSw; (try dsimp only at hSw); simp only [List.getElem_toArray, List.getElem_cons_zero, List.getElem_cons_succ]; go_simp
      simp only [List.getElem_toArray, List.getElem_cons_zero, List.getElem_cons_succ, Act.put, List.setIfInBounds_toArray, List.set_cons_zero, List.set_cons_succ]
      refine wpAnyH_take (i := 11) (v := .string s) rfl (by kernel_rfl) (by kernel_rfl) (by kernel_rfl) (fun _ _ _ h => h) (Or.inl ⟨by rfl, ?_⟩) hHeld ?_
      · intro w hSw; (try dsimp only at hSw); simp only [List.getElem_toArray, List.getElem_cons_zero, List.getElem_cons_succ]; go_simp
      simp only [List.getElem_toArray, List.getElem_cons_zero, List.getElem_cons_succ, Act.put, List.setIfInBounds_toArray, List.set_cons_zero, List.set_cons_succ]
      refine wpAnyH_take (i := 12) (v := .int .i64 (s.size : Int)) rfl (by kernel_rfl) (by kernel_rfl) (by kernel_rfl) (fun _ _ _ h => h) (Or.inl ⟨by rfl, ?_⟩) hHeld ?_
      · intro w hSw; (try dsimp only at hSw); simp only [List.getElem_toArray, List.getElem_cons_zero, List.getElem_cons_succ]; go_simp
      simp only [List.getElem_toArray, List.getElem_cons_zero, List.getElem_cons_succ, Act.put, List.setIfInBounds_toArray, List.set_cons_zero, List.set_cons_succ]
      refine wpAnyH_take (i := 13) (v := .bool true) rfl (by kernel_rfl) (by kernel_rfl) (by kernel_rfl) (fun _ _ _ h => h) (Or.inl ⟨by rfl, ?_⟩) hHeld ?_
      · intro w hSw; (try dsimp only at hSw); simp only [List.getElem_toArray, List.getElem_cons_zero, List.getElem_cons_succ]; go_simp
      simp only [List.getElem_toArray, List.getElem_cons_zero, List.getElem_cons_succ, Act.put, List.setIfInBounds_toArray, List.set_cons_zero, List.set_cons_succ]
      refine wpAnyH_take (i := 14) (v := .bool true) rfl (by kernel_rfl) (by kernel_rfl) (by kernel_rfl) (fun _ _ _ h => h) (Or.inl ⟨by rfl, ?_⟩) hHeld ?_
      · intro w hSw; (try dsimp only at hSw); simp only [List.getElem_toArray, List.getElem_cons_zero, List.getElem_cons_succ]; go_simp
      simp only [List.getElem_toArray, List.getElem_cons_zero, List.getElem_cons_succ, Act.put, List.setIfInBounds_toArray, List.set_cons_zero, List.set_cons_succ]
      refine wpAnyH_take (i := 15) (v := .bool true) rfl (by kernel_rfl) (by kernel_rfl) (by kernel_rfl) (fun _ _ _ h => h) (Or.inl ⟨by rfl, ?_⟩) hHeld ?_
      · intro w hSw; (try dsimp only at hSw); simp only [List.getElem_toArray, List.getElem_cons_zero, List.getElem_cons_succ]; go_simp
      simp only [List.getElem_toArray, List.getElem_cons_zero, List.getElem_cons_succ, Act.put, List.setIfInBounds_toArray, List.set_cons_zero, List.set_cons_succ]
      refine wpAnyH_take (i := 16) (v := undef) rfl (by kernel_rfl) (by kernel_rfl) (by kernel_rfl) (fun _ _ _ h => h) (Or.inr ⟨by rfl, rfl⟩) hHeld ?_
      simp only [List.getElem_toArray, List.getElem_cons_zero, List.getElem_cons_succ, Act.put, List.setIfInBounds_toArray, List.set_cons_zero, List.set_cons_succ]
      refine wpAnyH_take (i := 17) (v := undef) rfl (by kernel_rfl) (by kernel_rfl) (by kernel_rfl) (fun _ _ _ h => h) (Or.inr ⟨by rfl, rfl⟩) hHeld ?_
      simp only [List.getElem_toArray, List.getElem_cons_zero, List.getElem_cons_succ, Act.put, List.setIfInBounds_toArray, List.set_cons_zero, List.set_cons_succ]
      refine wpAnyH_take (i := 18) (v := undef) rfl (by kernel_rfl) (by kernel_rfl) (by kernel_rfl) (fun _ _ _ h => h) (Or.inr ⟨by rfl, rfl⟩) hHeld ?_
      simp only [List.getElem_toArray, List.getElem_cons_zero, List.getElem_cons_succ, Act.put, List.setIfInBounds_toArray, List.set_cons_zero, List.set_cons_succ]
      refine wpAnyH_take (i := 19) (v := .bool true) rfl (by kernel_rfl) (by kernel_rfl) (by kernel_rfl) (fun _ _ _ h => h) (Or.inl ⟨by rfl, ?_⟩) hHeld ?_
      · intro w hSw; (try dsimp only at hSw); simp only [List.getElem_toArray, List.getElem_cons_zero, List.getElem_cons_succ]; go_simp
      simp only [List.getElem_toArray, List.getElem_cons_zero, List.getElem_cons_succ, Act.put, List.setIfInBounds_toArray, List.set_cons_zero, List.set_cons_succ]
      refine wpAnyH_done (by kernel_rfl) ?_ _
      go_wp2_with fail
      go_meet
      case rel => exact ⟨by rw [decide_eq_false (p := 0 < la + lb) (by omega), decide_eq_true (p := 150 < s.size) (by omega)]; rfl, hg'⟩
    have h1' : ¬ (150 : Int) < (s.size : Int) := by omega
    by_cases h2 : 150 < t.size
    · have h2' : (150 : Int) < (t.size : Int) := by omega
      refine wpAnyH_take (i := 8) (v := .bool false) rfl (by kernel_rfl) (by kernel_rfl) (by kernel_rfl) (fun _ _ _ h => h) (Or.inl ⟨by rfl, ?_⟩) hHeld ?_
      · intro w hSw; (try dsimp only at hSw); simp only [List.getElem_toArray, List.getElem_cons_zero, List.getElem_cons_succ]; go_simp
      simp only [List.getElem_toArray, List.getElem_cons_zero, List.getElem_cons_succ, Act.put, List.setIfInBounds_toArray, List.set_cons_zero, List.set_cons_succ]
      refine wpAnyH_take (i := 9) (v := .bool false) rfl (by kernel_rfl) (by kernel_rfl) (by kernel_rfl) (fun _ _ _ h => h) (Or.inl ⟨by rfl, ?_⟩) hHeld ?_
      · intro w hSw; (try dsimp only at hSw); simp only [List.getElem_toArray, List.getElem_cons_zero, List.getElem_cons_succ]; go_simp
      simp only [List.getElem_toArray, List.getElem_cons_zero, List.getElem_cons_succ, Act.put, List.setIfInBounds_toArray, List.set_cons_zero, List.set_cons_succ]
      refine wpAnyH_take (i := 10) (v := .bool false) rfl (by kernel_rfl) (by kernel_rfl) (by kernel_rfl) (fun _ _ _ h => h) (Or.inl ⟨by rfl, ?_⟩) hHeld ?_
      · intro w hSw; (try dsimp only at hSw); simp only [List.getElem_toArray, List.getElem_cons_zero, List.getElem_cons_succ]; go_simp
      simp only [List.getElem_toArray, List.getElem_cons_zero, List.getElem_cons_succ, Act.put, List.setIfInBounds_toArray, List.set_cons_zero, List.set_cons_succ]
      refine wpAnyH_take (i := 11) (v := .string s) rfl (by kernel_rfl) (by kernel_rfl) (by kernel_rfl) (fun _ _ _ h => h) (Or.inl ⟨by rfl, ?_⟩) hHeld ?_
      · intro w hSw; (try dsimp only at hSw); simp only [List.getElem_toArray, List.getElem_cons_zero, List.getElem_cons_succ]; go_simp
      simp only [List.getElem_toArray, List.getElem_cons_zero, List.getElem_cons_succ, Act.put, List.setIfInBounds_toArray, List.set_cons_zero, List.set_cons_succ]
      refine wpAnyH_take (i := 12) (v := .int .i64 (s.size : Int)) rfl (by kernel_rfl) (by kernel_rfl) (by kernel_rfl) (fun _ _ _ h => h) (Or.inl ⟨by rfl, ?_⟩) hHeld ?_
      · intro w hSw; (try dsimp only at hSw); simp only [List.getElem_toArray, List.getElem_cons_zero, List.getElem_cons_succ]; go_simp
      simp only [List.getElem_toArray, List.getElem_cons_zero, List.getElem_cons_succ, Act.put, List.setIfInBounds_toArray, List.set_cons_zero, List.set_cons_succ]
      refine wpAnyH_take (i := 13) (v := .bool false) rfl (by kernel_rfl) (by kernel_rfl) (by kernel_rfl) (fun _ _ _ h => h) (Or.inl ⟨by rfl, ?_⟩) hHeld ?_
      · intro w hSw; (try dsimp only at hSw); simp only [List.getElem_toArray, List.getElem_cons_zero, List.getElem_cons_succ]; go_simp
      simp only [List.getElem_toArray, List.getElem_cons_zero, List.getElem_cons_succ, Act.put, List.setIfInBounds_toArray, List.set_cons_zero, List.set_cons_succ]
      refine wpAnyH_take (i := 14) (v := .bool false) rfl (by kernel_rfl) (by kernel_rfl) (by kernel_rfl) (fun _ _ _ h => h) (Or.inl ⟨by rfl, ?_⟩) hHeld ?_
      · intro w hSw; (try dsimp only at hSw); simp only [List.getElem_toArray, List.getElem_cons_zero, List.getElem_cons_succ]; go_simp
      simp only [List.getElem_toArray, List.getElem_cons_zero, List.getElem_cons_succ, Act.put, List.setIfInBounds_toArray, List.set_cons_zero, List.set_cons_succ]
      refine wpAnyH_take (i := 15) (v := .bool false) rfl (by kernel_rfl) (by kernel_rfl) (by kernel_rfl) (fun _ _ _ h => h) (Or.inl ⟨by rfl, ?_⟩) hHeld ?_
      · intro w hSw; (try dsimp only at hSw); simp only [List.getElem_toArray, List.getElem_cons_zero, List.getElem_cons_succ]; go_simp
      simp only [List.getElem_toArray, List.getElem_cons_zero, List.getElem_cons_succ, Act.put, List.setIfInBounds_toArray, List.set_cons_zero, List.set_cons_succ]
      refine wpAnyH_take (i := 16) (v := .string t) rfl (by kernel_rfl) (by kernel_rfl) (by kernel_rfl) (fun _ _ _ h => h) (Or.inl ⟨by rfl, ?_⟩) hHeld ?_
      · intro w hSw; (try dsimp only at hSw); simp only [List.getElem_toArray, List.getElem_cons_zero, List.getElem_cons_succ]; go_simp
      simp only [List.getElem_toArray, List.getElem_cons_zero, List.getElem_cons_succ, Act.put, List.setIfInBounds_toArray, List.set_cons_zero, List.set_cons_succ]
      refine wpAnyH_take (i := 17) (v := .int .i64 (t.size : Int)) rfl (by kernel_rfl) (by kernel_rfl) (by kernel_rfl) (fun _ _ _ h => h) (Or.inl ⟨by rfl, ?_⟩) hHeld ?_
      · intro w hSw; (try dsimp only at hSw); simp only [List.getElem_toArray, List.getElem_cons_zero, List.getElem_cons_succ]; go_simp
      simp only [List.getElem_toArray, List.getElem_cons_zero, List.getElem_cons_succ, Act.put, List.setIfInBounds_toArray, List.set_cons_zero, List.set_cons_succ]
      refine wpAnyH_take (i := 18) (v := .bool true) rfl (by kernel_rfl) (by kernel_rfl) (by kernel_rfl) (fun _ _ _ h => h) (Or.inl ⟨by rfl, ?_⟩) hHeld ?_
      · intro w hSw; (try dsimp only at hSw); simp only [List.getElem_toArray, List.getElem_cons_zero, List.getElem_cons_succ]; go_simp
      simp only [List.getElem_toArray, List.getElem_cons_zero, List.getElem_cons_succ, Act.put, List.setIfInBounds_toArray, List.set_cons_zero, List.set_cons_succ]
      refine wpAnyH_take (i := 19) (v := .bool true) rfl (by kernel_rfl) (by kernel_rfl) (by kernel_rfl) (fun _ _ _ h => h) (Or.inl ⟨by rfl, ?_⟩) hHeld ?_
      · intro w hSw; (try dsimp only at hSw); simp only [List.getElem_toArray, List.getElem_cons_zero, List.getElem_cons_succ]; go_simp
      simp only [List.getElem_toArray, List.getElem_cons_zero, List.getElem_cons_succ, Act.put, List.setIfInBounds_toArray, List.set_cons_zero, List.set_cons_succ]
      refine wpAnyH_done (by kernel_rfl) ?_ _
      go_wp2_with fail
      go_meet
      case rel => exact ⟨by rw [decide_eq_false (p := 0 < la + lb) (by omega), decide_eq_false (p := 150 < s.size) (by omega), decide_eq_true (p := 150 < t.size) (by omega)]; rfl, hg'⟩
    · have h2' : ¬ (150 : Int) < (t.size : Int) := by omega
      refine wpAnyH_take (i := 8) (v := .bool false) rfl (by kernel_rfl) (by kernel_rfl) (by kernel_rfl) (fun _ _ _ h => h) (Or.inl ⟨by rfl, ?_⟩) hHeld ?_
      · intro w hSw; (try dsimp only at hSw); simp only [List.getElem_toArray, List.getElem_cons_zero, List.getElem_cons_succ]; go_simp
      simp only [List.getElem_toArray, List.getElem_cons_zero, List.getElem_cons_succ, Act.put, List.setIfInBounds_toArray, List.set_cons_zero, List.set_cons_succ]
      refine wpAnyH_take (i := 9) (v := .bool false) rfl (by kernel_rfl) (by kernel_rfl) (by kernel_rfl) (fun _ _ _ h => h) (Or.inl ⟨by rfl, ?_⟩) hHeld ?_
      · intro w hSw; (try dsimp only at hSw); simp only [List.getElem_toArray, List.getElem_cons_zero, List.getElem_cons_succ]; go_simp
      simp only [List.getElem_toArray, List.getElem_cons_zero, List.getElem_cons_succ, Act.put, List.setIfInBounds_toArray, List.set_cons_zero, List.set_cons_succ]
      refine wpAnyH_take (i := 10) (v := .bool false) rfl (by kernel_rfl) (by kernel_rfl) (by kernel_rfl) (fun _ _ _ h => h) (Or.inl ⟨by rfl, ?_⟩) hHeld ?_
      · intro w hSw; (try dsimp only at hSw); simp only [List.getElem_toArray, List.getElem_cons_zero, List.getElem_cons_succ]; go_simp
      simp only [List.getElem_toArray, List.getElem_cons_zero, List.getElem_cons_succ, Act.put, List.setIfInBounds_toArray, List.set_cons_zero, List.set_cons_succ]
      refine wpAnyH_take (i := 11) (v := .string s) rfl (by kernel_rfl) (by kernel_rfl) (by kernel_rfl) (fun _ _ _ h => h) (Or.inl ⟨by rfl, ?_⟩) hHeld ?_
      · intro w hSw; (try dsimp only at hSw); simp only [List.getElem_toArray, List.getElem_cons_zero, List.getElem_cons_succ]; go_simp
      simp only [List.getElem_toArray, List.getElem_cons_zero, List.getElem_cons_succ, Act.put, List.setIfInBounds_toArray, List.set_cons_zero, List.set_cons_succ]
      refine wpAnyH_take (i := 12) (v := .int .i64 (s.size : Int)) rfl (by kernel_rfl) (by kernel_rfl) (by kernel_rfl) (fun _ _ _ h => h) (Or.inl ⟨by rfl, ?_⟩) hHeld ?_
      · intro w hSw; (try dsimp only at hSw); simp only [List.getElem_toArray, List.getElem_cons_zero, List.getElem_cons_succ]; go_simp
      simp only [List.getElem_toArray, List.getElem_cons_zero, List.getElem_cons_succ, Act.put, List.setIfInBounds_toArray, List.set_cons_zero, List.set_cons_succ]
      refine wpAnyH_take (i := 13) (v := .bool false) rfl (by kernel_rfl) (by kernel_rfl) (by kernel_rfl) (fun _ _ _ h => h) (Or.inl ⟨by rfl, ?_⟩) hHeld ?_
      · intro w hSw; (try dsimp only at hSw); simp only [List.getElem_toArray, List.getElem_cons_zero, List.getElem_cons_succ]; go_simp
      simp only [List.getElem_toArray, List.getElem_cons_zero, List.getElem_cons_succ, Act.put, List.setIfInBounds_toArray, List.set_cons_zero, List.set_cons_succ]
      refine wpAnyH_take (i := 14) (v := .bool false) rfl (by kernel_rfl) (by kernel_rfl) (by kernel_rfl) (fun _ _ _ h => h) (Or.inl ⟨by rfl, ?_⟩) hHeld ?_
      · intro w hSw; (try dsimp only at hSw); simp only [List.getElem_toArray, List.getElem_cons_zero, List.getElem_cons_succ]; go_simp
      simp only [List.getElem_toArray, List.getElem_cons_zero, List.getElem_cons_succ, Act.put, List.setIfInBounds_toArray, List.set_cons_zero, List.set_cons_succ]
      refine wpAnyH_take (i := 15) (v := .bool false) rfl (by kernel_rfl) (by kernel_rfl) (by kernel_rfl) (fun _ _ _ h => h) (Or.inl ⟨by rfl, ?_⟩) hHeld ?_
      · intro w hSw; (try dsimp only at hSw); simp only [List.getElem_toArray, List.getElem_cons_zero, List.getElem_cons_succ]; go_simp
      simp only [List.getElem_toArray, List.getElem_cons_zero, List.getElem_cons_succ, Act.put, List.setIfInBounds_toArray, List.set_cons_zero, List.set_cons_succ]
      refine wpAnyH_take (i := 16) (v := .string t) rfl (by kernel_rfl) (by kernel_rfl) (by kernel_rfl) (fun _ _ _ h => h) (Or.inl ⟨by rfl, ?_⟩) hHeld ?_
      · intro w hSw; (try dsimp only at hSw); simp only [List.getElem_toArray, List.getElem_cons_zero, List.getElem_cons_succ]; go_simp
      simp only [List.getElem_toArray, List.getElem_cons_zero, List.getElem_cons_succ, Act.put, List.setIfInBounds_toArray, List.set_cons_zero, List.set_cons_succ]
      refine wpAnyH_take (i := 17) (v := .int .i64 (t.size : Int)) rfl (by kernel_rfl) (by kernel_rfl) (by kernel_rfl) (fun _ _ _ h => h) (Or.inl ⟨by rfl, ?_⟩) hHeld ?_
      · intro w hSw; (try dsimp only at hSw); simp only [List.getElem_toArray, List.getElem_cons_zero, List.getElem_cons_succ]; go_simp
      simp only [List.getElem_toArray, List.getElem_cons_zero, List.getElem_cons_succ, Act.put, List.setIfInBounds_toArray, List.set_cons_zero, List.set_cons_succ]
      refine wpAnyH_take (i := 18) (v := .bool false) rfl (by kernel_rfl) (by kernel_rfl) (by kernel_rfl) (fun _ _ _ h => h) (Or.inl ⟨by rfl, ?_⟩) hHeld ?_
      · intro w hSw; (try dsimp only at hSw); simp only [List.getElem_toArray, List.getElem_cons_zero, List.getElem_cons_succ]; go_simp
      simp only [List.getElem_toArray, List.getElem_cons_zero, List.getElem_cons_succ, Act.put, List.setIfInBounds_toArray, List.set_cons_zero, List.set_cons_succ]
      refine wpAnyH_take (i := 19) (v := .bool false) rfl (by kernel_rfl) (by kernel_rfl) (by kernel_rfl) (fun _ _ _ h => h) (Or.inl ⟨by rfl, ?_⟩) hHeld ?_
      · intro w hSw; (try dsimp only at hSw); simp only [List.getElem_toArray, List.getElem_cons_zero, List.getElem_cons_succ]; go_simp
      simp only [List.getElem_toArray, List.getElem_cons_zero, List.getElem_cons_succ, Act.put, List.setIfInBounds_toArray, List.set_cons_zero, List.set_cons_succ]
      refine wpAnyH_done (by kernel_rfl) ?_ _
      go_wp2_with fail
      go_meet
      case rel => exact ⟨by rw [decide_eq_false (p := 0 < la + lb) (by omega), decide_eq_false (p := 150 < s.size) (by omega), decide_eq_false (p := 150 < t.size) (by omega)]; rfl, hg'⟩
  case rest =>
    obtain ⟨rfl, hg⟩ := hcut
    by_cases hend : 0 < la + lb ∨ 150 < s.size ∨ 150 < t.size
    · have hend' : (decide (0 < la + lb) || (decide (150 < s.size) || decide (150 < t.size))) = true := by simpa using hend
      rw [hend']
      go_wp2_with fail
      go_ret
      exact ⟨rfl, HR.out _ hg⟩
    have hend' : (decide (0 < la + lb) || (decide (150 < s.size) || decide (150 < t.size))) = false := by simpa using hend
    rw [hend']
    have HX : Hid _ := HO.out (by omega) (by omega) (by omega) _ hg
    obtain ⟨d0, d1, d2', d3, hrest⟩ := HK.out _ hg
    clear hrest HGS HGT HO hend hend' wk hlo HK HD HR hg2 w2 hg hsm htm
    go_wp2_with fail
    refine Calls.mono HX.out ?_
    clear HX d0 d1 d2' d3 wc
    rintro e w3 ⟨xa, xc, rfl, hrg⟩
    have HRG : Hid (PuRegion k d x xa un xc k2 d2 x2 ub vn vc s t w.heap.size w3.heap.size R (w3.alloc (.cells #[.string k, .string d, .bool x, .slice xa un xc] 24))) := hrg
    clear hrg
    go_upto_region 5 with fail
    go_cut [11, 12] (fun p ev wx => ∃ yb0 k3 d3 x3 a3 n3 c3, p = .pointer (some ⟨yb0, 0, none⟩) ∧ (wx.cell? ⟨yb0, 0, none⟩ = some (.string k3) ∧ wx.cell? ⟨yb0, 1, none⟩ = some (.string d3) ∧ wx.cell? ⟨yb0, 2, none⟩ = some (.bool x3) ∧ wx.cell? ⟨yb0, 3, none⟩ = some (.slice a3 n3 c3)) ∧ PuAfter k d x xa un xc k2 d2 x2 ub vn vc k3 d3 x3 a3 n3 c3 s t w.heap.size w3.heap.size yb0 R ev wx)
    case first =>
      refine wp_region_held_drew (S := fun w' => w'.cell? ⟨w3.heap.size, 0, none⟩ = some (.string k) ∧ w'.cell? ⟨w3.heap.size, 1, none⟩ = some (.string d) ∧ w'.cell? ⟨w3.heap.size, 2, none⟩ = some (.bool x) ∧ w'.cell? ⟨w3.heap.size, 3, none⟩ = some (.slice xa un xc) ∧ w'.cell? ⟨w.heap.size + 1, 0, none⟩ = some (.string k2) ∧ w'.cell? ⟨w.heap.size + 1, 1, none⟩ = some (.string d2) ∧ w'.cell? ⟨w.heap.size + 1, 2, none⟩ = some (.bool x2) ∧ w'.cell? ⟨w.heap.size + 1, 3, none⟩ = some (.slice ub vn vc)) (by kernel_rfl) (HRG.out.cells _ (Below.refl (w3.alloc (.cells #[.string k, .string d, .bool x, .slice xa un xc] 24)).heap.size (w3.alloc (.cells #[.string k, .string d, .bool x, .slice xa un xc] 24))).drew) (fun hHeld => ?_)
      refine wpAnyH_take (i := 0) (v := .agg #[.string k, .string d, .bool x, .slice xa un xc]) rfl (by kernel_rfl) (by kernel_rfl) (by kernel_rfl) (fun _ _ _ h => h) (Or.inl ⟨by rfl, ?_⟩) hHeld ?_
      · intro w hSw; (try dsimp only at hSw); simp only [List.getElem_toArray, List.getElem_cons_zero]; go_simp
      simp only [List.getElem_toArray, List.getElem_cons_zero, Act.put, List.setIfInBounds_toArray, List.set_cons_zero, List.set_cons_succ]
      refine wpAnyH_take (i := 1) (v := .string s) rfl (by kernel_rfl) (by kernel_rfl) (by kernel_rfl) (fun _ _ _ h => h) (Or.inl ⟨by rfl, ?_⟩) hHeld ?_
      · intro w hSw; (try dsimp only at hSw); simp only [List.getElem_toArray, List.getElem_cons_zero, List.getElem_cons_succ]; go_simp
      simp only [List.getElem_toArray, List.getElem_cons_zero, List.getElem_cons_succ, Act.put, List.setIfInBounds_toArray, List.set_cons_zero, List.set_cons_succ]
      refine wpAnyH_take (i := 2) (v := .agg #[.string k2, .string d2, .bool x2, .slice ub vn vc]) rfl (by kernel_rfl) (by kernel_rfl) (by kernel_rfl) (fun _ _ _ h => h) (Or.inl ⟨by rfl, ?_⟩) hHeld ?_
      · intro w hSw; (try dsimp only at hSw); simp only [List.getElem_toArray, List.getElem_cons_zero, List.getElem_cons_succ]; go_simp
      simp only [List.getElem_toArray, List.getElem_cons_zero, List.getElem_cons_succ, Act.put, List.setIfInBounds_toArray, List.set_cons_zero, List.set_cons_succ]
      refine wpAnyH_ready (rs := [3, 8]) (by kernel_rfl) (by simp) ?_
      refine AllReadyH.cons rfl (fun K' hK => ?_) (AllReadyH.cons rfl (fun K' hK => ?_) AllReadyH.nil)
      · skip
        simp only [List.getElem_toArray, List.getElem_cons_zero, List.getElem_cons_succ]
        go_simp
        refine Calls.mono (HRG.out.calls _ ((Below.refl (w3.alloc (.cells #[.string k, .string d, .bool x, .slice xa un xc] 24)).heap.size (w3.alloc (.cells #[.string k, .string d, .bool x, .slice xa un xc] 24))).drew)) ?_
        rintro e w4 ⟨yb, yc, rfl, hb4, hput⟩
        have HPUT : Hid _ := hput
        have HB4 : Hid (Below (w3.alloc (.cells #[.string k, .string d, .bool x, .slice xa un xc] 24)).heap.size (w3.alloc (.cells #[.string k, .string d, .bool x, .slice xa un xc] 24)) w4) := ((Below.refl (w3.alloc (.cells #[.string k, .string d, .bool x, .slice xa un xc] 24)).heap.size (w3.alloc (.cells #[.string k, .string d, .bool x, .slice xa un xc] 24))).drew).trans (hb4.mono ((Below.refl (w3.alloc (.cells #[.string k, .string d, .bool x, .slice xa un xc] 24)).heap.size (w3.alloc (.cells #[.string k, .string d, .bool x, .slice xa un xc] 24))).drew).size)
        clear hput hb4
        go_wp2_with fail
        refine hK.out _ _ (HRG.out.cells _ HB4.out) (fun hHeld' => ?_)
        clear hK K' hHeld
        have hHeld := hHeld'
        clear hHeld'
        refine wpAnyH_ready (rs := [4, 8]) (by kernel_rfl) (by simp) ?_
        refine AllReadyH.cons rfl (fun K' hK => ?_) (AllReadyH.cons rfl (fun K' hK => ?_) AllReadyH.nil)
        · skip
          simp only [List.getElem_toArray, List.getElem_cons_zero, List.getElem_cons_succ]
          go_simp
          refine Calls.mono (HPUT.out _ (Below.refl _ _)) ?_
          rintro e w5 ⟨k3, d3, x3, a3, n3, c3, ev, rfl, hb5, haft⟩
          have HAFT : Hid _ := haft
          have HB5 : Hid (Below (w3.alloc (.cells #[.string k, .string d, .bool x, .slice xa un xc] 24)).heap.size (w3.alloc (.cells #[.string k, .string d, .bool x, .slice xa un xc] 24)) w5) := (HB4.out).trans (hb5.mono (HB4.out).size)
          have hz5 := hb5.size
          clear haft
          go_wp2_with fail
          refine hK.out _ _ (HRG.out.cells _ HB5.out) (fun hHeld' => ?_)
          clear hK K' hHeld
          have hHeld := hHeld'
          clear hHeld'
          refine wpAnyH_take (i := 5) (v := .tuple #[.agg #[.string k3, .string d3, .bool x3, .slice a3 n3 c3], ev]) rfl (by kernel_rfl) (by kernel_rfl) (by kernel_rfl) (fun _ _ _ h => h) (Or.inl ⟨by rfl, ?_⟩) hHeld ?_
          · intro w hSw; (try dsimp only at hSw); simp only [List.getElem_toArray, List.getElem_cons_zero, List.getElem_cons_succ]; go_simp
          simp only [List.getElem_toArray, List.getElem_cons_zero, List.getElem_cons_succ, Act.put, List.setIfInBounds_toArray, List.set_cons_zero, List.set_cons_succ]
          refine wpAnyH_take (i := 6) (v := .agg #[.string k3, .string d3, .bool x3, .slice a3 n3 c3]) rfl (by kernel_rfl) (by kernel_rfl) (by kernel_rfl) (fun _ _ _ h => h) (Or.inl ⟨by rfl, ?_⟩) hHeld ?_
          · intro w hSw; (try dsimp only at hSw); simp only [List.getElem_toArray, List.getElem_cons_zero, List.getElem_cons_succ]; go_simp
          simp only [List.getElem_toArray, List.getElem_cons_zero, List.getElem_cons_succ, Act.put, List.setIfInBounds_toArray, List.set_cons_zero, List.set_cons_succ]
          refine wpAnyH_take (i := 7) (v := ev) rfl (by kernel_rfl) (by kernel_rfl) (by kernel_rfl) (fun _ _ _ h => h) (Or.inl ⟨by rfl, ?_⟩) hHeld ?_
          · intro w hSw; (try dsimp only at hSw); simp only [List.getElem_toArray, List.getElem_cons_zero, List.getElem_cons_succ]; go_simp
          simp only [List.getElem_toArray, List.getElem_cons_zero, List.getElem_cons_succ, Act.put, List.setIfInBounds_toArray, List.set_cons_zero, List.set_cons_succ]
          refine wpAnyH_ready (rs := [8]) (by kernel_rfl) (by simp) ?_
          refine AllReadyH.cons rfl (fun K' hK => ?_) AllReadyH.nil
          simp only [List.getElem_toArray, List.getElem_cons_zero, List.getElem_cons_succ]
          go_simp
          go_wp2_with fail
          have HB6 : Hid (Below (w3.alloc (.cells #[.string k, .string d, .bool x, .slice xa un xc] 24)).heap.size (w3.alloc (.cells #[.string k, .string d, .bool x, .slice xa un xc] 24)) (w5.alloc (.cells #[.string { data := #[] }, .string { data := #[] }, .bool false, .slice none 0 0] 24))) := (HB5.out).alloc (HB5.out).size _
          refine hK.out _ _ (HRG.out.cells _ HB6.out) (fun hHeld' => ?_)
          clear hK K' hHeld
          have hHeld := hHeld'
          clear hHeld'
          have hr9 := row_alloc' w5 #[.string k3, .string d3, .bool x3, .slice a3 n3 c3] 24
          have HA9 : Hid _ := HAFT.out w5.heap.size (w5.alloc (.cells #[.string k3, .string d3, .bool x3, .slice a3 n3 c3] 24)) (ButUp.of_below ((Below.refl _ _).alloc (Nat.le_refl _) _)) HB5.out.size (.inr (Nat.le_refl _)) (row4b hr9).1
          have HC9 : Hid _ := (row4b hr9).1
          have HB9 : Hid (Below (w3.alloc (.cells #[.string k, .string d, .bool x, .slice xa un xc] 24)).heap.size (w3.alloc (.cells #[.string k, .string d, .bool x, .slice xa un xc] 24)) (w5.alloc (.cells #[.string k3, .string d3, .bool x3, .slice a3 n3 c3] 24))) := HB5.out.alloc HB5.out.size _
          clear hr9
          refine wpAnyH_ready (rs := [9]) (by kernel_rfl) (by simp) ?_
          refine AllReadyH.cons rfl (fun K' hK => ?_) AllReadyH.nil
          simp only [List.getElem_toArray, List.getElem_cons_zero, List.getElem_cons_succ]
          go_simp
          go_wp2_with fail
          refine hK.out _ _ (HRG.out.cells _ HB9.out) (fun hHeld' => ?_)
          clear hK K' hHeld
          have hHeld := hHeld'
          clear hHeld'
          refine wpAnyH_take (i := 10) (v := ev) rfl (by kernel_rfl) (by kernel_rfl) (by kernel_rfl) (fun _ _ _ h => h) (Or.inl ⟨by rfl, ?_⟩) hHeld ?_
          · intro w hSw; (try dsimp only at hSw); simp only [List.getElem_toArray, List.getElem_cons_zero, List.getElem_cons_succ]; go_simp
          simp only [List.getElem_toArray, List.getElem_cons_zero, List.getElem_cons_succ, Act.put, List.setIfInBounds_toArray, List.set_cons_zero, List.set_cons_succ]
          refine wpAnyH_done (by kernel_rfl) ?_ _
          go_wp2_with fail
          go_meet
          case rel => exact ⟨w5.heap.size, k3, d3, x3, a3, n3, c3, rfl, HC9.out, HA9.out⟩
        · skip
          simp only [List.getElem_toArray, List.getElem_cons_zero, List.getElem_cons_succ]
          go_simp
          go_wp2_with fail
          have HB6 : Hid (Below (w3.alloc (.cells #[.string k, .string d, .bool x, .slice xa un xc] 24)).heap.size (w3.alloc (.cells #[.string k, .string d, .bool x, .slice xa un xc] 24)) (w4.alloc (.cells #[.string { data := #[] }, .string { data := #[] }, .bool false, .slice none 0 0] 24))) := (HB4.out).alloc (HB4.out).size _
          refine hK.out _ _ (HRG.out.cells _ HB6.out) (fun hHeld' => ?_)
          clear hK K' hHeld
          have hHeld := hHeld'
          clear hHeld'
          refine wpAnyH_ready (rs := [4]) (by kernel_rfl) (by simp) ?_
          refine AllReadyH.cons rfl (fun K' hK => ?_) AllReadyH.nil
          simp only [List.getElem_toArray, List.getElem_cons_zero, List.getElem_cons_succ]
          go_simp
          refine Calls.mono (HPUT.out _ ((Below.refl _ _).alloc (Nat.le_refl _) _)) ?_
          rintro e w5 ⟨k3, d3, x3, a3, n3, c3, ev, rfl, hb5, haft⟩
          have HAFT : Hid _ := haft
          have HB5 : Hid (Below (w3.alloc (.cells #[.string k, .string d, .bool x, .slice xa un xc] 24)).heap.size (w3.alloc (.cells #[.string k, .string d, .bool x, .slice xa un xc] 24)) w5) := (HB6.out).trans (hb5.mono (HB6.out).size)
          have hz5 := hb5.size
          clear haft
          go_wp2_with fail
          refine hK.out _ _ (HRG.out.cells _ HB5.out) (fun hHeld' => ?_)
          clear hK K' hHeld
          have hHeld := hHeld'
          clear hHeld'
          refine wpAnyH_take (i := 5) (v := .tuple #[.agg #[.string k3, .string d3, .bool x3, .slice a3 n3 c3], ev]) rfl (by kernel_rfl) (by kernel_rfl) (by kernel_rfl) (fun _ _ _ h => h) (Or.inl ⟨by rfl, ?_⟩) hHeld ?_
          · intro w hSw; (try dsimp only at hSw); simp only [List.getElem_toArray, List.getElem_cons_zero, List.getElem_cons_succ]; go_simp
          simp only [List.getElem_toArray, List.getElem_cons_zero, List.getElem_cons_succ, Act.put, List.setIfInBounds_toArray, List.set_cons_zero, List.set_cons_succ]
          refine wpAnyH_take (i := 6) (v := .agg #[.string k3, .string d3, .bool x3, .slice a3 n3 c3]) rfl (by kernel_rfl) (by kernel_rfl) (by kernel_rfl) (fun _ _ _ h => h) (Or.inl ⟨by rfl, ?_⟩) hHeld ?_
          · intro w hSw; (try dsimp only at hSw); simp only [List.getElem_toArray, List.getElem_cons_zero, List.getElem_cons_succ]; go_simp
          simp only [List.getElem_toArray, List.getElem_cons_zero, List.getElem_cons_succ, Act.put, List.setIfInBounds_toArray, List.set_cons_zero, List.set_cons_succ]
          refine wpAnyH_take (i := 7) (v := ev) rfl (by kernel_rfl) (by kernel_rfl) (by kernel_rfl) (fun _ _ _ h => h) (Or.inl ⟨by rfl, ?_⟩) hHeld ?_
          · intro w hSw; (try dsimp only at hSw); simp only [List.getElem_toArray, List.getElem_cons_zero, List.getElem_cons_succ]; go_simp
          simp only [List.getElem_toArray, List.getElem_cons_zero, List.getElem_cons_succ, Act.put, List.setIfInBounds_toArray, List.set_cons_zero, List.set_cons_succ]
          have hrow9 : w5.heap[w4.heap.size]? = some (.cells #[.string { data := #[] }, .string { data := #[] }, .bool false, .slice none 0 0] 24 (0, 0)) := (hb5.block w4.heap.size (by simp)).trans (row_alloc' w4 _ _)
          obtain ⟨⟨q0, q1, q2, q3⟩, g0, g1, g2, g3⟩ := row4b hrow9
          have hS9 := ((((But1.refl (w4.heap.size) w5).set 0 (.string k3)).set 1 (.string d3)).set 2 (.bool x3)).set 3 (.slice a3 n3 c3)
          have hr9 := set4b_row hrow9 (.string k3) (.string d3) (.bool x3) (.slice a3 n3 c3)
          have hA9 := HAFT.out (w4.heap.size) _ (ButUp.of_but hS9) (HB4.out.size) (.inl (by simp)) (row4b hr9).1
          have HA9 : Hid _ := hA9
          have HC9 : Hid _ := (row4b hr9).1
          have HB9 : Hid (Below (w3.alloc (.cells #[.string k, .string d, .bool x, .slice xa un xc] 24)).heap.size (w3.alloc (.cells #[.string k, .string d, .bool x, .slice xa un xc] 24)) ((((w5.setCell ⟨w4.heap.size, 0, none⟩ (.string k3)).setCell ⟨w4.heap.size, 1, none⟩ (.string d3)).setCell ⟨w4.heap.size, 2, none⟩ (.bool x3)).setCell ⟨w4.heap.size, 3, none⟩ (.slice a3 n3 c3))) := hS9.below (HB5.out) (HB4.out.size)
          clear hA9 hr9 hS9 hrow9
          refine wpAnyH_ready (rs := [9]) (by kernel_rfl) (by simp) ?_
          refine AllReadyH.cons rfl (fun K' hK => ?_) AllReadyH.nil
          simp only [List.getElem_toArray, List.getElem_cons_zero, List.getElem_cons_succ]
          go_simp
          go_wp2_with fail
          refine hK.out _ _ (HRG.out.cells _ HB9.out) (fun hHeld' => ?_)
          clear hK K' hHeld
          have hHeld := hHeld'
          clear hHeld'
          refine wpAnyH_take (i := 10) (v := ev) rfl (by kernel_rfl) (by kernel_rfl) (by kernel_rfl) (fun _ _ _ h => h) (Or.inl ⟨by rfl, ?_⟩) hHeld ?_
          · intro w hSw; (try dsimp only at hSw); simp only [List.getElem_toArray, List.getElem_cons_zero, List.getElem_cons_succ]; go_simp
          simp only [List.getElem_toArray, List.getElem_cons_zero, List.getElem_cons_succ, Act.put, List.setIfInBounds_toArray, List.set_cons_zero, List.set_cons_succ]
          refine wpAnyH_done (by kernel_rfl) ?_ _
          go_wp2_with fail
          go_meet
          case rel => exact ⟨w4.heap.size, k3, d3, x3, a3, n3, c3, rfl, HC9.out, HA9.out⟩
      · skip
        simp only [List.getElem_toArray, List.getElem_cons_zero, List.getElem_cons_succ]
        go_simp
        go_wp2_with fail
        have HB3 : Hid (Below (w3.alloc (.cells #[.string k, .string d, .bool x, .slice xa un xc] 24)).heap.size (w3.alloc (.cells #[.string k, .string d, .bool x, .slice xa un xc] 24)) ((w3.alloc (.cells #[.string k, .string d, .bool x, .slice xa un xc] 24)).drew.alloc (.cells #[.string { data := #[] }, .string { data := #[] }, .bool false, .slice none 0 0] 24))) := ((Below.refl (w3.alloc (.cells #[.string k, .string d, .bool x, .slice xa un xc] 24)).heap.size (w3.alloc (.cells #[.string k, .string d, .bool x, .slice xa un xc] 24))).drew).alloc ((Below.refl (w3.alloc (.cells #[.string k, .string d, .bool x, .slice xa un xc] 24)).heap.size (w3.alloc (.cells #[.string k, .string d, .bool x, .slice xa un xc] 24))).drew).size _
        refine hK.out _ _ (HRG.out.cells _ HB3.out) (fun hHeld' => ?_)
        clear hK K' hHeld
        have hHeld := hHeld'
        clear hHeld'
        refine wpAnyH_ready (rs := [3]) (by kernel_rfl) (by simp) ?_
        refine AllReadyH.cons rfl (fun K' hK => ?_) AllReadyH.nil
        simp only [List.getElem_toArray, List.getElem_cons_zero, List.getElem_cons_succ]
        go_simp
        refine Calls.mono (HRG.out.calls _ (HB3.out)) ?_
        rintro e w4 ⟨yb, yc, rfl, hb4, hput⟩
        have HPUT : Hid _ := hput
        have HB4 : Hid (Below (w3.alloc (.cells #[.string k, .string d, .bool x, .slice xa un xc] 24)).heap.size (w3.alloc (.cells #[.string k, .string d, .bool x, .slice xa un xc] 24)) w4) := (HB3.out).trans (hb4.mono (HB3.out).size)
        have hw4 : w3.heap.size + 2 ≤ w4.heap.size := by
          have h : ((w3.alloc (.cells #[.string k, .string d, .bool x, .slice xa un xc] 24)).alloc (.cells #[.string { data := #[] }, .string { data := #[] }, .bool false, .slice none 0 0] 24)).heap.size ≤ w4.heap.size := hb4.size
          simpa using h
        have hb4k : w4.heap[w3.heap.size + 1]? = some (.cells #[.string { data := #[] }, .string { data := #[] }, .bool false, .slice none 0 0] 24 (0, 0)) := by
          have h : ((w3.alloc (.cells #[.string k, .string d, .bool x, .slice xa un xc] 24)).alloc (.cells #[.string { data := #[] }, .string { data := #[] }, .bool false, .slice none 0 0] 24)).heap[(w3.alloc (.cells #[.string k, .string d, .bool x, .slice xa un xc] 24)).heap.size]? = _ := row_alloc' (w3.alloc (.cells #[.string k, .string d, .bool x, .slice xa un xc] 24)) #[.string { data := #[] }, .string { data := #[] }, .bool false, .slice none 0 0] 24
          have h2 : w4.heap[w3.heap.size + 1]? = ((w3.alloc (.cells #[.string k, .string d, .bool x, .slice xa un xc] 24)).alloc (.cells #[.string { data := #[] }, .string { data := #[] }, .bool false, .slice none 0 0] 24)).heap[w3.heap.size + 1]? := hb4.block (w3.heap.size + 1) (show w3.heap.size + 1 < ((w3.alloc (.cells #[.string k, .string d, .bool x, .slice xa un xc] 24)).alloc (.cells #[.string { data := #[] }, .string { data := #[] }, .bool false, .slice none 0 0] 24)).heap.size by simp)
          rw [h2]
          simpa using h
        clear hput hb4
        go_wp2_with fail
        refine hK.out _ _ (HRG.out.cells _ HB4.out) (fun hHeld' => ?_)
        clear hK K' hHeld
        have hHeld := hHeld'
        clear hHeld'
        refine wpAnyH_ready (rs := [4]) (by kernel_rfl) (by simp) ?_
        refine AllReadyH.cons rfl (fun K' hK => ?_) AllReadyH.nil
        simp only [List.getElem_toArray, List.getElem_cons_zero, List.getElem_cons_succ]
        go_simp
        refine Calls.mono (HPUT.out _ (Below.refl _ _)) ?_
        rintro e w5 ⟨k3, d3, x3, a3, n3, c3, ev, rfl, hb5, haft⟩
        have HAFT : Hid _ := haft
        have HB5 : Hid (Below (w3.alloc (.cells #[.string k, .string d, .bool x, .slice xa un xc] 24)).heap.size (w3.alloc (.cells #[.string k, .string d, .bool x, .slice xa un xc] 24)) w5) := (HB4.out).trans (hb5.mono (HB4.out).size)
        have hz5 := hb5.size
        clear haft
        go_wp2_with fail
        refine hK.out _ _ (HRG.out.cells _ HB5.out) (fun hHeld' => ?_)
        clear hK K' hHeld
        have hHeld := hHeld'
        clear hHeld'
        refine wpAnyH_take (i := 5) (v := .tuple #[.agg #[.string k3, .string d3, .bool x3, .slice a3 n3 c3], ev]) rfl (by kernel_rfl) (by kernel_rfl) (by kernel_rfl) (fun _ _ _ h => h) (Or.inl ⟨by rfl, ?_⟩) hHeld ?_
        · intro w hSw; (try dsimp only at hSw); simp only [List.getElem_toArray, List.getElem_cons_zero, List.getElem_cons_succ]; go_simp
        simp only [List.getElem_toArray, List.getElem_cons_zero, List.getElem_cons_succ, Act.put, List.setIfInBounds_toArray, List.set_cons_zero, List.set_cons_succ]
        refine wpAnyH_take (i := 6) (v := .agg #[.string k3, .string d3, .bool x3, .slice a3 n3 c3]) rfl (by kernel_rfl) (by kernel_rfl) (by kernel_rfl) (fun _ _ _ h => h) (Or.inl ⟨by rfl, ?_⟩) hHeld ?_
        · intro w hSw; (try dsimp only at hSw); simp only [List.getElem_toArray, List.getElem_cons_zero, List.getElem_cons_succ]; go_simp
        simp only [List.getElem_toArray, List.getElem_cons_zero, List.getElem_cons_succ, Act.put, List.setIfInBounds_toArray, List.set_cons_zero, List.set_cons_succ]
        refine wpAnyH_take (i := 7) (v := ev) rfl (by kernel_rfl) (by kernel_rfl) (by kernel_rfl) (fun _ _ _ h => h) (Or.inl ⟨by rfl, ?_⟩) hHeld ?_
        · intro w hSw; (try dsimp only at hSw); simp only [List.getElem_toArray, List.getElem_cons_zero, List.getElem_cons_succ]; go_simp
        simp only [List.getElem_toArray, List.getElem_cons_zero, List.getElem_cons_succ, Act.put, List.setIfInBounds_toArray, List.set_cons_zero, List.set_cons_succ]
        have hrow9 : w5.heap[(w3.heap.size + 1)]? = some (.cells #[.string { data := #[] }, .string { data := #[] }, .bool false, .slice none 0 0] 24 (0, 0)) := (hb5.block (w3.heap.size + 1) (by omega)).trans hb4k
        obtain ⟨⟨q0, q1, q2, q3⟩, g0, g1, g2, g3⟩ := row4b hrow9
        have hS9 := ((((But1.refl ((w3.heap.size + 1)) w5).set 0 (.string k3)).set 1 (.string d3)).set 2 (.bool x3)).set 3 (.slice a3 n3 c3)
        have hr9 := set4b_row hrow9 (.string k3) (.string d3) (.bool x3) (.slice a3 n3 c3)
        have hA9 := HAFT.out ((w3.heap.size + 1)) _ (ButUp.of_but hS9) (by simp) (.inl (by omega)) (row4b hr9).1
        have HA9 : Hid _ := hA9
        have HC9 : Hid _ := (row4b hr9).1
        have HB9 : Hid (Below (w3.alloc (.cells #[.string k, .string d, .bool x, .slice xa un xc] 24)).heap.size (w3.alloc (.cells #[.string k, .string d, .bool x, .slice xa un xc] 24)) ((((w5.setCell ⟨(w3.heap.size + 1), 0, none⟩ (.string k3)).setCell ⟨(w3.heap.size + 1), 1, none⟩ (.string d3)).setCell ⟨(w3.heap.size + 1), 2, none⟩ (.bool x3)).setCell ⟨(w3.heap.size + 1), 3, none⟩ (.slice a3 n3 c3))) := hS9.below (HB5.out) (by simp)
        clear hA9 hr9 hS9 hrow9
        refine wpAnyH_ready (rs := [9]) (by kernel_rfl) (by simp) ?_
        refine AllReadyH.cons rfl (fun K' hK => ?_) AllReadyH.nil
        simp only [List.getElem_toArray, List.getElem_cons_zero, List.getElem_cons_succ]
        go_simp
        go_wp2_with fail
        refine hK.out _ _ (HRG.out.cells _ HB9.out) (fun hHeld' => ?_)
        clear hK K' hHeld
        have hHeld := hHeld'
        clear hHeld'
        refine wpAnyH_take (i := 10) (v := ev) rfl (by kernel_rfl) (by kernel_rfl) (by kernel_rfl) (fun _ _ _ h => h) (Or.inl ⟨by rfl, ?_⟩) hHeld ?_
        · intro w hSw; (try dsimp only at hSw); simp only [List.getElem_toArray, List.getElem_cons_zero, List.getElem_cons_succ]; go_simp
        simp only [List.getElem_toArray, List.getElem_cons_zero, List.getElem_cons_succ, Act.put, List.setIfInBounds_toArray, List.set_cons_zero, List.set_cons_succ]
        refine wpAnyH_done (by kernel_rfl) ?_ _
        go_wp2_with fail
        go_meet
        case rel => exact ⟨(w3.heap.size + 1), k3, d3, x3, a3, n3, c3, rfl, HC9.out, HA9.out⟩
    case rest =>
      obtain ⟨yb0, k3, d3, x3, a3, n3, c3, rfl, hcy, haf⟩ := hcut
      have HRGC : Hid _ := HRG.out.cells
      clear HRG
      unfold PuAfter at haf
      rcases haf with ⟨⟨ty, q, rfl⟩, hk0, hn0, hR⟩ | ⟨rfl, haf⟩
      · obtain ⟨y0, y1, y2, y3⟩ := hcy
        have HRR : Hid _ := hR
        subst hn0
        clear hR
        go_wp2_with fail
        go_ret
        exact ⟨rfl, HRR.out⟩
      have HG : Hid _ := haf
      obtain ⟨y0, y1, y2, y3⟩ := hcy
      clear haf
      go_wp2_with fail
      refine Calls.mono HG.out ?_
      clear HG y0 y1 y2 y3
      rintro e w6 ⟨k4, d4, x4, a4, n4, c4, rfl, ⟨b0, b1, b2, b3⟩, hs⟩
      have HS : Hid _ := hs
      clear hs
      go_wp2_with fail
      refine Calls.mono HS.out ?_
      clear HS b0 b1 b2 b3
      rintro e w7 ⟨rfl, his⟩
      unfold PuIs at his
      have HIS : Hid _ := his
      clear his
      go_wp2_with fail
      refine Calls.mono HIS.out ?_
      clear HIS
      rintro e w8 ⟨ap, rfl, ⟨rfl, hR⟩ | ⟨rfl, ⟨x0, x1, x2', x3⟩, hgs⟩⟩
      · have HRR : Hid _ := hR
        clear hR
        go_wp2_with fail
        go_ret
        exact ⟨rfl, HRR.out⟩
      unfold PuGets at hgs
      have HGS : Hid _ := hgs
      clear hgs
      go_wp2_with fail
      refine Calls.mono HGS.out ?_
      clear HGS x0 x1 x2' x3
      rintro e w9 ⟨k5, d5, x5, a5, n5, c5, e1, rfl, ⟨y0, y1, y2, y3⟩, hgb⟩
      have HGB : Hid _ := hgb
      clear hgb
      go_wp2_with fail
      refine Calls.mono HGB.out ?_
      clear HGB y0 y1 y2 y3
      rintro e w10 ⟨k6, d6, x6, a6, n6, c6, e2, rfl, ⟨⟨t1, q1, t2, q2, rfl, rfl⟩, ⟨y0, y1, y2, y3⟩, hdr⟩ | ⟨rfl, rfl, ⟨g0, g1, g2, g3⟩, hsm⟩⟩
      · skip
        go_upto_region 15 with fail
        refine wp_region_held_drew (S := fun _ => True) (by kernel_rfl) (trivial) (fun hHeld => ?_)
        refine wpAnyH_take (i := 0) (v := .iface t1 q1) rfl (by kernel_rfl) (by kernel_rfl) (by kernel_rfl) (fun _ _ _ h => h) (Or.inl ⟨by rfl, ?_⟩) hHeld ?_
        · intro w hSw; (try dsimp only at hSw); simp only [List.getElem_toArray, List.getElem_cons_zero]; go_simp
        simp only [List.getElem_toArray, List.getElem_cons_zero, Act.put, List.setIfInBounds_toArray, List.set_cons_zero, List.set_cons_succ]
        refine wpAnyH_take (i := 1) (v := .bool false) rfl (by kernel_rfl) (by kernel_rfl) (by kernel_rfl) (fun _ _ _ h => h) (Or.inl ⟨by rfl, ?_⟩) hHeld ?_
        · intro w hSw; (try dsimp only at hSw); simp only [List.getElem_toArray, List.getElem_cons_zero, List.getElem_cons_succ]; go_simp
        simp only [List.getElem_toArray, List.getElem_cons_zero, List.getElem_cons_succ, Act.put, List.setIfInBounds_toArray, List.set_cons_zero, List.set_cons_succ]
        refine wpAnyH_take (i := 2) (v := .iface t2 q2) rfl (by kernel_rfl) (by kernel_rfl) (by kernel_rfl) (fun _ _ _ h => h) (Or.inl ⟨by rfl, ?_⟩) hHeld ?_
        · intro w hSw; (try dsimp only at hSw); simp only [List.getElem_toArray, List.getElem_cons_zero, List.getElem_cons_succ]; go_simp
        simp only [List.getElem_toArray, List.getElem_cons_zero, List.getElem_cons_succ, Act.put, List.setIfInBounds_toArray, List.set_cons_zero, List.set_cons_succ]
        refine wpAnyH_take (i := 3) (v := .bool false) rfl (by kernel_rfl) (by kernel_rfl) (by kernel_rfl) (fun _ _ _ h => h) (Or.inl ⟨by rfl, ?_⟩) hHeld ?_
        · intro w hSw; (try dsimp only at hSw); simp only [List.getElem_toArray, List.getElem_cons_zero, List.getElem_cons_succ]; go_simp
        simp only [List.getElem_toArray, List.getElem_cons_zero, List.getElem_cons_succ, Act.put, List.setIfInBounds_toArray, List.set_cons_zero, List.set_cons_succ]
        refine wpAnyH_take (i := 4) (v := .bool false) rfl (by kernel_rfl) (by kernel_rfl) (by kernel_rfl) (fun _ _ _ h => h) (Or.inl ⟨by rfl, ?_⟩) hHeld ?_
        · intro w hSw; (try dsimp only at hSw); simp only [List.getElem_toArray, List.getElem_cons_zero, List.getElem_cons_succ]; go_simp
        simp only [List.getElem_toArray, List.getElem_cons_zero, List.getElem_cons_succ, Act.put, List.setIfInBounds_toArray, List.set_cons_zero, List.set_cons_succ]
        refine wpAnyH_take (i := 5) (v := .bool false) rfl (by kernel_rfl) (by kernel_rfl) (by kernel_rfl) (fun _ _ _ h => h) (Or.inl ⟨by rfl, ?_⟩) hHeld ?_
        · intro w hSw; (try dsimp only at hSw); simp only [List.getElem_toArray, List.getElem_cons_zero, List.getElem_cons_succ]; go_simp
        simp only [List.getElem_toArray, List.getElem_cons_zero, List.getElem_cons_succ, Act.put, List.setIfInBounds_toArray, List.set_cons_zero, List.set_cons_succ]
        refine wpAnyH_take (i := 6) (v := .iface t1 q1) rfl (by kernel_rfl) (by kernel_rfl) (by kernel_rfl) (fun _ _ _ h => h) (Or.inl ⟨by rfl, ?_⟩) hHeld ?_
        · intro w hSw; (try dsimp only at hSw); simp only [List.getElem_toArray, List.getElem_cons_zero, List.getElem_cons_succ]; go_simp
        simp only [List.getElem_toArray, List.getElem_cons_zero, List.getElem_cons_succ, Act.put, List.setIfInBounds_toArray, List.set_cons_zero, List.set_cons_succ]
        refine wpAnyH_take (i := 7) (v := .bool false) rfl (by kernel_rfl) (by kernel_rfl) (by kernel_rfl) (fun _ _ _ h => h) (Or.inl ⟨by rfl, ?_⟩) hHeld ?_
        · intro w hSw; (try dsimp only at hSw); simp only [List.getElem_toArray, List.getElem_cons_zero, List.getElem_cons_succ]; go_simp
        simp only [List.getElem_toArray, List.getElem_cons_zero, List.getElem_cons_succ, Act.put, List.setIfInBounds_toArray, List.set_cons_zero, List.set_cons_succ]
        refine wpAnyH_take (i := 8) (v := .bool false) rfl (by kernel_rfl) (by kernel_rfl) (by kernel_rfl) (fun _ _ _ h => h) (Or.inl ⟨by rfl, ?_⟩) hHeld ?_
        · intro w hSw; (try dsimp only at hSw); simp only [List.getElem_toArray, List.getElem_cons_zero, List.getElem_cons_succ]; go_simp
        simp only [List.getElem_toArray, List.getElem_cons_zero, List.getElem_cons_succ, Act.put, List.setIfInBounds_toArray, List.set_cons_zero, List.set_cons_succ]
        refine wpAnyH_take (i := 9) (v := undef) rfl (by kernel_rfl) (by kernel_rfl) (by kernel_rfl) (fun _ _ _ h => h) (Or.inr ⟨by rfl, rfl⟩) hHeld ?_
        simp only [List.getElem_toArray, List.getElem_cons_zero, List.getElem_cons_succ, Act.put, List.setIfInBounds_toArray, List.set_cons_zero, List.set_cons_succ]
        refine wpAnyH_take (i := 10) (v := undef) rfl (by kernel_rfl) (by kernel_rfl) (by kernel_rfl) (fun _ _ _ h => h) (Or.inr ⟨by rfl, rfl⟩) hHeld ?_
        simp only [List.getElem_toArray, List.getElem_cons_zero, List.getElem_cons_succ, Act.put, List.setIfInBounds_toArray, List.set_cons_zero, List.set_cons_succ]
        refine wpAnyH_take (i := 11) (v := undef) rfl (by kernel_rfl) (by kernel_rfl) (by kernel_rfl) (fun _ _ _ h => h) (Or.inr ⟨by rfl, rfl⟩) hHeld ?_
        simp only [List.getElem_toArray, List.getElem_cons_zero, List.getElem_cons_succ, Act.put, List.setIfInBounds_toArray, List.set_cons_zero, List.set_cons_succ]
        refine wpAnyH_take (i := 12) (v := undef) rfl (by kernel_rfl) (by kernel_rfl) (by kernel_rfl) (fun _ _ _ h => h) (Or.inr ⟨by rfl, rfl⟩) hHeld ?_
        simp only [List.getElem_toArray, List.getElem_cons_zero, List.getElem_cons_succ, Act.put, List.setIfInBounds_toArray, List.set_cons_zero, List.set_cons_succ]
        refine wpAnyH_take (i := 13) (v := .bool false) rfl (by kernel_rfl) (by kernel_rfl) (by kernel_rfl) (fun _ _ _ h => h) (Or.inl ⟨by rfl, ?_⟩) hHeld ?_
        · intro w hSw; (try dsimp only at hSw); simp only [List.getElem_toArray, List.getElem_cons_zero, List.getElem_cons_succ]; go_simp
        simp only [List.getElem_toArray, List.getElem_cons_zero, List.getElem_cons_succ, Act.put, List.setIfInBounds_toArray, List.set_cons_zero, List.set_cons_succ]
        refine wpAnyH_take (i := 14) (v := .bool false) rfl (by kernel_rfl) (by kernel_rfl) (by kernel_rfl) (fun _ _ _ h => h) (Or.inl ⟨by rfl, ?_⟩) hHeld ?_
        · intro w hSw; (try dsimp only at hSw); simp only [List.getElem_toArray, List.getElem_cons_zero, List.getElem_cons_succ]; go_simp
        simp only [List.getElem_toArray, List.getElem_cons_zero, List.getElem_cons_succ, Act.put, List.setIfInBounds_toArray, List.set_cons_zero, List.set_cons_succ]
        refine wpAnyH_done (by kernel_rfl) ?_ _
        have HDR : Hid (PuDrop k3 d3 x3 a3 n3 c3 s R (w10.alloc (.cells #[.string k6, .string d6, .bool x6, .slice a6 n6 c6] 24)).drew) := hdr
        clear hdr
        go_wp2_with fail
        refine Calls.mono HDR.out ?_
        clear HDR y0 y1 y2 y3
        rintro e w12 ⟨k7, d7, x7, a7, n7, c7, ev, rfl, ⟨⟨ty, q, rfl⟩, hst, hR⟩ | ⟨rfl, hgz⟩⟩
        · have HRR : Hid _ := hR
          clear hR
          go_wp2_with fail
          go_ret
          exact ⟨rfl, HRR.out⟩
        · have HGZ : Hid _ := hgz
          clear hgz
          go_wp2_with fail
          refine Calls.mono HGZ.out ?_
          clear HGZ
          rintro e w13 ⟨k8, d8, x8, a8, n8, c8, er, rfl, hcd⟩
          have HCD : Hid _ := hcd
          clear hcd
          go_wp2_with fail
          refine Calls.mono HCD.out ?_
          clear HCD
          rintro e w14 ⟨rfl, hR⟩
          have HRR : Hid _ := hR
          clear hR
          go_wp2_with fail
          go_ret
          exact ⟨rfl, HRR.out⟩
      · skip
        have hrB := (row4b (row_alloc' w10 #[.string k6, .string d6, .bool x6, .slice a6 n6 c6] 24)).1
        have HSM : Hid _ := hsm
        clear hsm
        go_upto_region 15 with fail
        refine wp_region_held_drew (S := fun w' => w'.cell? ⟨w9.heap.size, 0, none⟩ = some (.string k5) ∧ w'.cell? ⟨w9.heap.size, 1, none⟩ = some (.string d5) ∧ w'.cell? ⟨w9.heap.size, 2, none⟩ = some (.bool x5) ∧ w'.cell? ⟨w9.heap.size, 3, none⟩ = some (.slice a5 n5 c5) ∧ w'.cell? ⟨w10.heap.size, 0, none⟩ = some (.string k6) ∧ w'.cell? ⟨w10.heap.size, 1, none⟩ = some (.string d6) ∧ w'.cell? ⟨w10.heap.size, 2, none⟩ = some (.bool x6) ∧ w'.cell? ⟨w10.heap.size, 3, none⟩ = some (.slice a6 n6 c6)) (by kernel_rfl) (⟨g0, g1, g2, g3, hrB⟩) (fun hHeld => ?_)
        refine wpAnyH_take (i := 0) (v := .nilIface) rfl (by kernel_rfl) (by kernel_rfl) (by kernel_rfl) (fun _ _ _ h => h) (Or.inl ⟨by rfl, ?_⟩) hHeld ?_
        · intro w hSw; (try dsimp only at hSw); simp only [List.getElem_toArray, List.getElem_cons_zero]; go_simp
        simp only [List.getElem_toArray, List.getElem_cons_zero, Act.put, List.setIfInBounds_toArray, List.set_cons_zero, List.set_cons_succ]
        refine wpAnyH_take (i := 1) (v := .bool true) rfl (by kernel_rfl) (by kernel_rfl) (by kernel_rfl) (fun _ _ _ h => h) (Or.inl ⟨by rfl, ?_⟩) hHeld ?_
        · intro w hSw; (try dsimp only at hSw); simp only [List.getElem_toArray, List.getElem_cons_zero, List.getElem_cons_succ]; go_simp
        simp only [List.getElem_toArray, List.getElem_cons_zero, List.getElem_cons_succ, Act.put, List.setIfInBounds_toArray, List.set_cons_zero, List.set_cons_succ]
        refine wpAnyH_take (i := 2) (v := .nilIface) rfl (by kernel_rfl) (by kernel_rfl) (by kernel_rfl) (fun _ _ _ h => h) (Or.inl ⟨by rfl, ?_⟩) hHeld ?_
        · intro w hSw; (try dsimp only at hSw); simp only [List.getElem_toArray, List.getElem_cons_zero, List.getElem_cons_succ]; go_simp
        simp only [List.getElem_toArray, List.getElem_cons_zero, List.getElem_cons_succ, Act.put, List.setIfInBounds_toArray, List.set_cons_zero, List.set_cons_succ]
        refine wpAnyH_take (i := 3) (v := .bool true) rfl (by kernel_rfl) (by kernel_rfl) (by kernel_rfl) (fun _ _ _ h => h) (Or.inl ⟨by rfl, ?_⟩) hHeld ?_
        · intro w hSw; (try dsimp only at hSw); simp only [List.getElem_toArray, List.getElem_cons_zero, List.getElem_cons_succ]; go_simp
        simp only [List.getElem_toArray, List.getElem_cons_zero, List.getElem_cons_succ, Act.put, List.setIfInBounds_toArray, List.set_cons_zero, List.set_cons_succ]
        refine wpAnyH_take (i := 4) (v := .bool false) rfl (by kernel_rfl) (by kernel_rfl) (by kernel_rfl) (fun _ _ _ h => h) (Or.inl ⟨by rfl, ?_⟩) hHeld ?_
        · intro w hSw; (try dsimp only at hSw); simp only [List.getElem_toArray, List.getElem_cons_zero, List.getElem_cons_succ]; go_simp
        simp only [List.getElem_toArray, List.getElem_cons_zero, List.getElem_cons_succ, Act.put, List.setIfInBounds_toArray, List.set_cons_zero, List.set_cons_succ]
        refine wpAnyH_take (i := 5) (v := .bool false) rfl (by kernel_rfl) (by kernel_rfl) (by kernel_rfl) (fun _ _ _ h => h) (Or.inl ⟨by rfl, ?_⟩) hHeld ?_
        · intro w hSw; (try dsimp only at hSw); simp only [List.getElem_toArray, List.getElem_cons_zero, List.getElem_cons_succ]; go_simp
        simp only [List.getElem_toArray, List.getElem_cons_zero, List.getElem_cons_succ, Act.put, List.setIfInBounds_toArray, List.set_cons_zero, List.set_cons_succ]
        refine wpAnyH_take (i := 6) (v := .nilIface) rfl (by kernel_rfl) (by kernel_rfl) (by kernel_rfl) (fun _ _ _ h => h) (Or.inl ⟨by rfl, ?_⟩) hHeld ?_
        · intro w hSw; (try dsimp only at hSw); simp only [List.getElem_toArray, List.getElem_cons_zero, List.getElem_cons_succ]; go_simp
        simp only [List.getElem_toArray, List.getElem_cons_zero, List.getElem_cons_succ, Act.put, List.setIfInBounds_toArray, List.set_cons_zero, List.set_cons_succ]
        refine wpAnyH_take (i := 7) (v := .bool true) rfl (by kernel_rfl) (by kernel_rfl) (by kernel_rfl) (fun _ _ _ h => h) (Or.inl ⟨by rfl, ?_⟩) hHeld ?_
        · intro w hSw; (try dsimp only at hSw); simp only [List.getElem_toArray, List.getElem_cons_zero, List.getElem_cons_succ]; go_simp
        simp only [List.getElem_toArray, List.getElem_cons_zero, List.getElem_cons_succ, Act.put, List.setIfInBounds_toArray, List.set_cons_zero, List.set_cons_succ]
        refine wpAnyH_take (i := 8) (v := .bool true) rfl (by kernel_rfl) (by kernel_rfl) (by kernel_rfl) (fun _ _ _ h => h) (Or.inl ⟨by rfl, ?_⟩) hHeld ?_
        · intro w hSw; (try dsimp only at hSw); simp only [List.getElem_toArray, List.getElem_cons_zero, List.getElem_cons_succ]; go_simp
        simp only [List.getElem_toArray, List.getElem_cons_zero, List.getElem_cons_succ, Act.put, List.setIfInBounds_toArray, List.set_cons_zero, List.set_cons_succ]
        refine wpAnyH_take (i := 9) (v := .agg #[.string k5, .string d5, .bool x5, .slice a5 n5 c5]) rfl (by kernel_rfl) (by kernel_rfl) (by kernel_rfl) (fun _ _ _ h => h) (Or.inl ⟨by rfl, ?_⟩) hHeld ?_
        · intro w hSw; (try dsimp only at hSw); simp only [List.getElem_toArray, List.getElem_cons_zero, List.getElem_cons_succ]; go_simp
        simp only [List.getElem_toArray, List.getElem_cons_zero, List.getElem_cons_succ, Act.put, List.setIfInBounds_toArray, List.set_cons_zero, List.set_cons_succ]
        refine wpAnyH_take (i := 10) (v := .agg #[.string k6, .string d6, .bool x6, .slice a6 n6 c6]) rfl (by kernel_rfl) (by kernel_rfl) (by kernel_rfl) (fun _ _ _ h => h) (Or.inl ⟨by rfl, ?_⟩) hHeld ?_
        · intro w hSw; (try dsimp only at hSw); simp only [List.getElem_toArray, List.getElem_cons_zero, List.getElem_cons_succ]; go_simp
        simp only [List.getElem_toArray, List.getElem_cons_zero, List.getElem_cons_succ, Act.put, List.setIfInBounds_toArray, List.set_cons_zero, List.set_cons_succ]
        refine wpAnyH_ready (rs := [11]) (by kernel_rfl) (by simp) ?_
        refine AllReadyH.cons rfl (fun K' hK => ?_) AllReadyH.nil
        simp only [List.getElem_toArray, List.getElem_cons_zero, List.getElem_cons_succ]
        go_simp
        refine Calls.mono HSM.out ?_
        rintro e w11 ⟨rfl, ⟨h0, h1, h2, h3⟩, h4, ⟨y0, y1, y2, y3⟩, hdr⟩
        go_wp2_with fail
        refine hK.out _ _ ⟨h0, h1, h2, h3, h4⟩ (fun hHeld' => ?_)
        clear hK K' hHeld
        have hHeld := hHeld'
        clear hHeld'
        clear h0 h1 h2 h3 h4 g0 g1 g2 g3 hrB HSM
        refine wpAnyH_take (i := 12) (v := .bool false) rfl (by kernel_rfl) (by kernel_rfl) (by kernel_rfl) (fun _ _ _ h => h) (Or.inl ⟨by rfl, ?_⟩) hHeld ?_
        · intro w hSw; (try dsimp only at hSw); simp only [List.getElem_toArray, List.getElem_cons_zero, List.getElem_cons_succ]; go_simp
        simp only [List.getElem_toArray, List.getElem_cons_zero, List.getElem_cons_succ, Act.put, List.setIfInBounds_toArray, List.set_cons_zero, List.set_cons_succ]
        refine wpAnyH_take (i := 13) (v := .bool false) rfl (by kernel_rfl) (by kernel_rfl) (by kernel_rfl) (fun _ _ _ h => h) (Or.inl ⟨by rfl, ?_⟩) hHeld ?_
        · intro w hSw; (try dsimp only at hSw); simp only [List.getElem_toArray, List.getElem_cons_zero, List.getElem_cons_succ]; go_simp
        simp only [List.getElem_toArray, List.getElem_cons_zero, List.getElem_cons_succ, Act.put, List.setIfInBounds_toArray, List.set_cons_zero, List.set_cons_succ]
        refine wpAnyH_take (i := 14) (v := .bool false) rfl (by kernel_rfl) (by kernel_rfl) (by kernel_rfl) (fun _ _ _ h => h) (Or.inl ⟨by rfl, ?_⟩) hHeld ?_
        · intro w hSw; (try dsimp only at hSw); simp only [List.getElem_toArray, List.getElem_cons_zero, List.getElem_cons_succ]; go_simp
        simp only [List.getElem_toArray, List.getElem_cons_zero, List.getElem_cons_succ, Act.put, List.setIfInBounds_toArray, List.set_cons_zero, List.set_cons_succ]
        refine wpAnyH_done (by kernel_rfl) ?_ _
        have HDR : Hid (PuDrop k3 d3 x3 a3 n3 c3 s R w11) := hdr
        clear hdr
        go_wp2_with fail
        refine Calls.mono HDR.out ?_
        clear HDR y0 y1 y2 y3
        rintro e w12 ⟨k7, d7, x7, a7, n7, c7, ev, rfl, ⟨⟨ty, q, rfl⟩, hst, hR⟩ | ⟨rfl, hgz⟩⟩
        · have HRR : Hid _ := hR
          clear hR
          go_wp2_with fail
          go_ret
          exact ⟨rfl, HRR.out⟩
        · have HGZ : Hid _ := hgz
          clear hgz
          go_wp2_with fail
          refine Calls.mono HGZ.out ?_
          clear HGZ
          rintro e w13 ⟨k8, d8, x8, a8, n8, c8, er, rfl, hcd⟩
          have HCD : Hid _ := hcd
          clear hcd
          go_wp2_with fail
          refine Calls.mono HCD.out ?_
          clear HCD
          rintro e w14 ⟨rfl, hR⟩
          have HRR : Hid _ := hR
          clear hR
          go_wp2_with fail
          go_ret
          exact ⟨rfl, HRR.out⟩
end Go.Proofs.YtilkjafggfdjeabDoor
