/-
  The walk of the law 'PathActs', told apart from what its callees do.
  Conditions: those that each states.
-/
import Derived.Test.YtpjjpmikhjlgnaaGreatDoorM11
import Derived.Deep.RegionHeld3
import Derived.Deep.DrawnRows
import Derived.Deep.DeepCutAuto
import Derived.Deep.DeepFit
namespace Go.Proofs.YtpjjpmikhjlgnaaGreatDoor
open Go.RowKit
attribute [local go_sem ↓] Go.wp_at_zero Go.wp_at_succ

/-- Two answers that are a node, told alike: f: their boxes are new. -/
def TwoAt (c1 c2 : FuncId) (as1 as2 : Array Value) (L : Nat) (f : Bool) (w : World) : Prop :=
  Calls Tryz.prog c1 as1 w fun e w1 => ∃ k3 d3 x3 a3 n3 c3 ev, e = .returned (.tuple #[.agg #[.string k3, .string d3, .bool x3, .slice a3 n3 c3], ev]) ∧ Below w.heap.size w w1 ∧ ∀ ab w2, ButUp ab w1 w2 → L ≤ ab → (if f = true then w1.heap.size ≤ ab else ab < w.heap.size) →
    Calls Tryz.prog c2 as2 w2 fun e w3 => ∃ k4 d4 x4 a4 n4 c4 er, e = .returned (.tuple #[.agg #[.string k4, .string d4, .bool x4, .slice a4 n4 c4], .int .i64 er]) ∧ Below w2.heap.size w2 w3 ∧ ∀ bb w4, ButUp bb w3 w4 → L ≤ bb → (if f = true then w3.heap.size ≤ bb else bb < w.heap.size) →
      Calls Tryz.prog 10 #[ev, .int .i64 er] w4 fun e w5 => e = .returned (.bool true) ∧ Below w4.heap.size w4 w5 ∧
        Calls Tryz.prog 14 #[.agg #[.string k3, .string d3, .bool x3, .slice a3 n3 c3], .agg #[.string k4, .string d4, .bool x4, .slice a4 n4 c4]] w5 fun e w6 => e = .returned (.bool true) ∧ Below w5.heap.size w5 w6
/-- The paths' names. -/
def AcSplit (s : ByteArray) (w : World) : Prop :=
  Calls Tryz.prog 8 #[.string s] w fun e w1 => ∃ la ln lc ev, e = .returned (.tuple #[.slice la ln lc, ev]) ∧ Below w.heap.size w w1 ∧
    Calls Tryz.prog 9 #[.string s] w1 fun e w2 => ∃ ma mn mc er, e = .returned (.tuple #[.slice ma mn mc, .int .i64 er]) ∧ Below w1.heap.size w1 w2 ∧
      Calls Tryz.prog 10 #[ev, .int .i64 er] w2 fun e w3 => e = .returned (.bool true) ∧ Below w2.heap.size w2 w3 ∧
        Calls Tryz.prog 11 #[.slice la ln lc, .slice ma mn mc] w3 fun e w4 => e = .returned (.bool true) ∧ Below w3.heap.size w3 w4
/-- The paths followed, and the tree as it was. -/
def AcFol (k d : ByteArray) (x : Bool) (ua : Option Addr) (un uc : Nat) (xa : Option Addr) (xc : Nat) (s : ByteArray) (w : World) : Prop :=
  Calls Tryz.prog 19 #[.agg #[.string k, .string d, .bool x, .slice xa un xc], .string s] w fun e w1 => ∃ p ev, e = .returned (.tuple #[.string p, ev]) ∧ Below w.heap.size w w1 ∧
    Calls Tryz.prog 20 #[.agg #[.string k, .string d, .bool x, .slice ua un uc], .string s] w1 fun e w2 => ∃ q er, e = .returned (.tuple #[.string q, .int .i64 er]) ∧ (p.toList == q.toList) = true ∧ Below w1.heap.size w1 w2 ∧
      Calls Tryz.prog 10 #[ev, .int .i64 er] w2 fun e w3 => e = .returned (.bool true) ∧ Below w2.heap.size w2 w3 ∧
        Calls Tryz.prog 14 #[.agg #[.string k, .string d, .bool x, .slice xa un xc], .agg #[.string k, .string d, .bool x, .slice ua un uc]] w3 fun e w4 => e = .returned (.bool true) ∧ Below w3.heap.size w3 w4
/-- All behind the tree's own copy; W: the world behind it. -/
structure AcAll (k d : ByteArray) (x : Bool) (ua : Option Addr) (un uc : Nat) (k2 d2 : ByteArray) (x2 : Bool) (ub : Option Addr) (vn vc : Nat) (xa : Option Addr) (xc : Nat) (s : ByteArray) (b0 ob : Nat) (W : World) : Prop where
  cells : ∀ w', Below W.heap.size W w' → w'.cell? ⟨b0, 0, none⟩ = some (.string k) ∧ w'.cell? ⟨b0, 1, none⟩ = some (.string d) ∧ w'.cell? ⟨b0, 2, none⟩ = some (.bool x) ∧ w'.cell? ⟨b0, 3, none⟩ = some (.slice ua un uc) ∧ w'.cell? ⟨b0 + 1, 0, none⟩ = some (.string k2) ∧ w'.cell? ⟨b0 + 1, 1, none⟩ = some (.string d2) ∧ w'.cell? ⟨b0 + 1, 2, none⟩ = some (.bool x2) ∧ w'.cell? ⟨b0 + 1, 3, none⟩ = some (.slice ub vn vc) ∧ w'.cell? ⟨ob, 0, none⟩ = some (.string k) ∧ w'.cell? ⟨ob, 1, none⟩ = some (.string d) ∧ w'.cell? ⟨ob, 2, none⟩ = some (.bool x) ∧ w'.cell? ⟨ob, 3, none⟩ = some (.slice xa un xc)
  split : ∀ w', Below W.heap.size W w' → AcSplit s w'
  get : ∀ w', Below W.heap.size W w' → TwoAt 12 13 #[.agg #[.string k, .string d, .bool x, .slice xa un xc], .string s] #[.agg #[.string k, .string d, .bool x, .slice ua un uc], .string s] W.heap.size true w'
  put : ∀ w', Below W.heap.size W w' → Calls Tryz.prog 7 #[.agg #[.string k2, .string d2, .bool x2, .slice ub vn vc]] w' fun e w1 => ∃ yb yc, e = .returned (.agg #[.string k2, .string d2, .bool x2, .slice yb vn yc]) ∧ Below w'.heap.size w' w1 ∧ TwoAt 15 16 #[.agg #[.string k, .string d, .bool x, .slice xa un xc], .string s, .agg #[.string k2, .string d2, .bool x2, .slice yb vn yc]] #[.agg #[.string k, .string d, .bool x, .slice ua un uc], .string s, .agg #[.string k2, .string d2, .bool x2, .slice ub vn vc]] W.heap.size false w1
  drop : ∀ w', Below W.heap.size W w' → TwoAt 17 18 #[.agg #[.string k, .string d, .bool x, .slice xa un xc], .string s] #[.agg #[.string k, .string d, .bool x, .slice ua un uc], .string s] W.heap.size false w'
  fol : ∀ w', Below W.heap.size W w' → AcFol k d x ua un uc xa xc s w'

set_option maxRecDepth 100000 in
set_option maxHeartbeats 8000000 in
theorem acts_skel (k d : ByteArray) (x : Bool) (ua : Option Addr) (un uc : Nat) (k2 d2 : ByteArray) (x2 : Bool) (ub : Option Addr) (vn vc : Nat) (s : ByteArray) (w : World) (la lb : Int) (hla : la = 0 ∨ la = 1) (hlb : lb = 0 ∨ lb = 1) (hsm : s.size ≤ maxLen)
    (R G : World → Prop) (HR : Hid (∀ w', G w' → R w'))
    (HT : Hid (Calls Tryz.prog 5 #[] ((w.alloc (.cells #[.string k, .string d, .bool x, .slice ua un uc] 24)).alloc (.cells #[.string k2, .string d2, .bool x2, .slice ub vn vc] 24)) fun e w' => e = .returned (.bool true) ∧ G w'))
    (HD : Hid (∀ w', G w' → G w'.drew))
    (HK : Hid (∀ w', G w' → w'.cell? ⟨w.heap.size, 0, none⟩ = some (.string k) ∧ w'.cell? ⟨w.heap.size, 1, none⟩ = some (.string d) ∧ w'.cell? ⟨w.heap.size, 2, none⟩ = some (.bool x) ∧ w'.cell? ⟨w.heap.size, 3, none⟩ = some (.slice ua un uc) ∧ w'.cell? ⟨w.heap.size + 1, 0, none⟩ = some (.string k2) ∧ w'.cell? ⟨w.heap.size + 1, 1, none⟩ = some (.string d2) ∧ w'.cell? ⟨w.heap.size + 1, 2, none⟩ = some (.bool x2) ∧ w'.cell? ⟨w.heap.size + 1, 3, none⟩ = some (.slice ub vn vc)))
    (HGS : Hid (∀ w', G w' → Calls Tryz.prog 6 #[.agg #[.string k, .string d, .bool x, .slice ua un uc], .int .i64 100] w' fun e w'' => e = .returned (.int .i64 la) ∧ G w''))
    (HGT : Hid (∀ w', G w' → Calls Tryz.prog 6 #[.agg #[.string k2, .string d2, .bool x2, .slice ub vn vc], .int .i64 100] w' fun e w'' => e = .returned (.int .i64 lb) ∧ G w''))
    (HO : Hid (la + lb = 0 → s.size ≤ 150 → ∀ w', G w' → Calls Tryz.prog 7 #[.agg #[.string k, .string d, .bool x, .slice ua un uc]] w' fun e w1 => ∃ xa xc, e = .returned (.agg #[.string k, .string d, .bool x, .slice xa un xc]) ∧ AcAll k d x ua un uc k2 d2 x2 ub vn vc xa xc s w.heap.size w1.heap.size (w1.alloc (.cells #[.string k, .string d, .bool x, .slice xa un xc] 24)) ∧ ∀ w'', Below (w1.alloc (.cells #[.string k, .string d, .bool x, .slice xa un xc] 24)).heap.size (w1.alloc (.cells #[.string k, .string d, .bool x, .slice xa un xc] 24)) w'' → R w'')) :
    Calls Tryz.prog 3 #[.agg #[.string k, .string d, .bool x, .slice ua un uc], .string s, .agg #[.string k2, .string d2, .bool x2, .slice ub vn vc]] w fun e w' => e = .returned (.bool true) ∧ R w' := by
  unfold maxLen at hsm
  go_enter Tryz.func3, Tryz.ntmps3
  go_wp2_with fail
  refine Calls.mono HT.out ?_
  rintro e w2 ⟨rfl, hg2⟩
  have wk : IntKind.i64.wrap (la + lb) = la + lb := by
    rcases hla with rfl | rfl <;> rcases hlb with rfl | rfl <;> decide
  have hlo : 0 ≤ la + lb := by omega
  clear hla hlb HT
  go_upto_region 2 with fail
  go_cut [32] (fun c wx => c = .bool (decide (0 < la + lb) || decide (150 < s.size)) ∧ G wx)
  case first =>
    refine wp_region_held_drew (S := fun w' => w'.cell? ⟨w.heap.size, 0, none⟩ = some (.string k) ∧ w'.cell? ⟨w.heap.size, 1, none⟩ = some (.string d) ∧ w'.cell? ⟨w.heap.size, 2, none⟩ = some (.bool x) ∧ w'.cell? ⟨w.heap.size, 3, none⟩ = some (.slice ua un uc) ∧ w'.cell? ⟨w.heap.size + 1, 0, none⟩ = some (.string k2) ∧ w'.cell? ⟨w.heap.size + 1, 1, none⟩ = some (.string d2) ∧ w'.cell? ⟨w.heap.size + 1, 2, none⟩ = some (.bool x2) ∧ w'.cell? ⟨w.heap.size + 1, 3, none⟩ = some (.slice ub vn vc)) (by kernel_rfl) (HK.out _ (HD.out _ hg2)) (fun hHeld => ?_)
    refine wpAnyH_take (i := 0) (v := .bool true) rfl (by kernel_rfl) (by kernel_rfl) (by kernel_rfl) (fun _ _ _ h => h) (Or.inl ⟨by rfl, ?_⟩) hHeld ?_
    · intro w hSw; (try dsimp only at hSw); simp only [List.getElem_toArray, List.getElem_cons_zero]; go_simp
    simp only [List.getElem_toArray, List.getElem_cons_zero, Act.put, List.setIfInBounds_toArray, List.set_cons_zero, List.set_cons_succ]
    refine wpAnyH_take (i := 1) (v := .bool false) rfl (by kernel_rfl) (by kernel_rfl) (by kernel_rfl) (fun _ _ _ h => h) (Or.inl ⟨by rfl, ?_⟩) hHeld ?_
    · intro w hSw; (try dsimp only at hSw); simp only [List.getElem_toArray, List.getElem_cons_zero, List.getElem_cons_succ]; go_simp
    simp only [List.getElem_toArray, List.getElem_cons_zero, List.getElem_cons_succ, Act.put, List.setIfInBounds_toArray, List.set_cons_zero, List.set_cons_succ]
    refine wpAnyH_take (i := 2) (v := .bool false) rfl (by kernel_rfl) (by kernel_rfl) (by kernel_rfl) (fun _ _ _ h => h) (Or.inl ⟨by rfl, ?_⟩) hHeld ?_
    · intro w hSw; (try dsimp only at hSw); simp only [List.getElem_toArray, List.getElem_cons_zero, List.getElem_cons_succ]; go_simp
    simp only [List.getElem_toArray, List.getElem_cons_zero, List.getElem_cons_succ, Act.put, List.setIfInBounds_toArray, List.set_cons_zero, List.set_cons_succ]
    refine wpAnyH_take (i := 3) (v := .agg #[.string k, .string d, .bool x, .slice ua un uc]) rfl (by kernel_rfl) (by kernel_rfl) (by kernel_rfl) (fun _ _ _ h => h) (Or.inl ⟨by rfl, ?_⟩) hHeld ?_
    · intro w hSw; (try dsimp only at hSw); simp only [List.getElem_toArray, List.getElem_cons_zero, List.getElem_cons_succ]; go_simp
    simp only [List.getElem_toArray, List.getElem_cons_zero, List.getElem_cons_succ, Act.put, List.setIfInBounds_toArray, List.set_cons_zero, List.set_cons_succ]
    refine wpAnyH_take (i := 5) (v := .agg #[.string k2, .string d2, .bool x2, .slice ub vn vc]) rfl (by kernel_rfl) (by kernel_rfl) (by kernel_rfl) (fun _ _ _ h => h) (Or.inl ⟨by rfl, ?_⟩) hHeld ?_
    · intro w hSw; (try dsimp only at hSw); simp only [List.getElem_toArray, List.getElem_cons_zero, List.getElem_cons_succ]; go_simp
    simp only [List.getElem_toArray, List.getElem_cons_zero, List.getElem_cons_succ, Act.put, List.setIfInBounds_toArray, List.set_cons_zero, List.set_cons_succ]
    refine wpAnyH_ready (rs := [4]) (by kernel_rfl) (by simp) ?_
    refine AllReadyH.cons rfl (fun K' hK => ?_) AllReadyH.nil
    simp only [List.getElem_toArray, List.getElem_cons_zero, List.getElem_cons_succ]
    go_simp
    refine Calls.mono (HGS.out _ (HD.out _ hg2)) ?_
    rintro e wx ⟨rfl, hg⟩
    go_wp2_with fail
    refine hK.out _ _ (HK.out _ hg) (fun hHeld' => ?_)
    clear hK K' hHeld
    have hHeld := hHeld'
    clear hHeld'
    refine wpAnyH_ready (rs := [6]) (by kernel_rfl) (by simp) ?_
    refine AllReadyH.cons rfl (fun K' hK => ?_) AllReadyH.nil
    simp only [List.getElem_toArray, List.getElem_cons_zero, List.getElem_cons_succ]
    go_simp
    refine Calls.mono (HGT.out _ hg) ?_
    rintro e wx ⟨rfl, hg'⟩
    go_wp2_with fail
    refine hK.out _ _ (HK.out _ hg') (fun hHeld' => ?_)
    clear hK K' hHeld
    have hHeld := hHeld'
    clear hHeld'
    refine wpAnyH_take (i := 7) (v := .int .i64 (la + lb)) rfl (by kernel_rfl) (by kernel_rfl) (by kernel_rfl) (fun _ _ _ h => h) (Or.inl ⟨by rfl, ?_⟩) hHeld ?_
    · intro w hSw; (try dsimp only at hSw); simp only [List.getElem_toArray, List.getElem_cons_zero, List.getElem_cons_succ]; go_simp
    simp only [List.getElem_toArray, List.getElem_cons_zero, List.getElem_cons_succ, Act.put, List.setIfInBounds_toArray, List.set_cons_zero, List.set_cons_succ]
    by_cases hbig : 0 < la + lb
    · skip
      refine wpAnyH_take (i := 8) (v := .bool true) rfl (by kernel_rfl) (by kernel_rfl) (by kernel_rfl) (fun _ _ _ h => h) (Or.inl ⟨by rfl, ?_⟩) hHeld ?_
      · intro w hSw; (try dsimp only at hSw); simp only [List.getElem_toArray, List.getElem_cons_zero, List.getElem_cons_succ]; go_simp
      simp only [List.getElem_toArray, List.getElem_cons_zero, List.getElem_cons_succ, Act.put, List.setIfInBounds_toArray, List.set_cons_zero, List.set_cons_succ]
      refine wpAnyH_take (i := 9) (v := .bool true) rfl (by kernel_rfl) (by kernel_rfl) (by kernel_rfl) (fun _ _ _ h => h) (Or.inl ⟨by rfl, ?_⟩) hHeld ?_
      · intro w hSw; (try dsimp only at hSw); simp only [List.getElem_toArray, List.getElem_cons_zero, List.getElem_cons_succ]; go_simp
      simp only [List.getElem_toArray, List.getElem_cons_zero, List.getElem_cons_succ, Act.put, List.setIfInBounds_toArray, List.set_cons_zero, List.set_cons_succ]
      refine wpAnyH_take (i := 10) (v := .bool true) rfl (by kernel_rfl) (by kernel_rfl) (by kernel_rfl) (fun _ _ _ h => h) (Or.inl ⟨by rfl, ?_⟩) hHeld ?_
      · intro w hSw; (try dsimp only at hSw); simp only [List.getElem_toArray, List.getElem_cons_zero, List.getElem_cons_succ]; go_simp
      simp only [List.getElem_toArray, List.getElem_cons_zero, List.getElem_cons_succ, Act.put, List.setIfInBounds_toArray, List.set_cons_zero, List.set_cons_succ]
      refine wpAnyH_take (i := 11) (v := undef) rfl (by kernel_rfl) (by kernel_rfl) (by kernel_rfl) (fun _ _ _ h => h) (Or.inr ⟨by rfl, rfl⟩) hHeld ?_
      simp only [List.getElem_toArray, List.getElem_cons_zero, List.getElem_cons_succ, Act.put, List.setIfInBounds_toArray, List.set_cons_zero, List.set_cons_succ]
      refine wpAnyH_take (i := 12) (v := undef) rfl (by kernel_rfl) (by kernel_rfl) (by kernel_rfl) (fun _ _ _ h => h) (Or.inr ⟨by rfl, rfl⟩) hHeld ?_
      simp only [List.getElem_toArray, List.getElem_cons_zero, List.getElem_cons_succ, Act.put, List.setIfInBounds_toArray, List.set_cons_zero, List.set_cons_succ]
      refine wpAnyH_take (i := 13) (v := undef) rfl (by kernel_rfl) (by kernel_rfl) (by kernel_rfl) (fun _ _ _ h => h) (Or.inr ⟨by rfl, rfl⟩) hHeld ?_
      simp only [List.getElem_toArray, List.getElem_cons_zero, List.getElem_cons_succ, Act.put, List.setIfInBounds_toArray, List.set_cons_zero, List.set_cons_succ]
      refine wpAnyH_take (i := 14) (v := .bool true) rfl (by kernel_rfl) (by kernel_rfl) (by kernel_rfl) (fun _ _ _ h => h) (Or.inl ⟨by rfl, ?_⟩) hHeld ?_
      · intro w hSw; (try dsimp only at hSw); simp only [List.getElem_toArray, List.getElem_cons_zero, List.getElem_cons_succ]; go_simp
      simp only [List.getElem_toArray, List.getElem_cons_zero, List.getElem_cons_succ, Act.put, List.setIfInBounds_toArray, List.set_cons_zero, List.set_cons_succ]
      refine wpAnyH_done (by kernel_rfl) ?_ _
      go_wp2_with fail
      go_meet
      case rel => exact ⟨by rw [decide_eq_true (p := 0 < la + lb) (by omega)]; rfl, hg'⟩
    by_cases h1 : 150 < s.size
    · have h1' : (150 : Int) < (s.size : Int) := by omega
      refine wpAnyH_take (i := 8) (v := .bool false) rfl (by kernel_rfl) (by kernel_rfl) (by kernel_rfl) (fun _ _ _ h => h) (Or.inl ⟨by rfl, ?_⟩) hHeld ?_
      · intro w hSw; (try dsimp only at hSw); simp only [List.getElem_toArray, List.getElem_cons_zero, List.getElem_cons_succ]; go_simp
      simp only [List.getElem_toArray, List.getElem_cons_zero, List.getElem_cons_succ, Act.put, List.setIfInBounds_toArray, List.set_cons_zero, List.set_cons_succ]
      refine wpAnyH_take (i := 9) (v := .bool false) rfl (by kernel_rfl) (by kernel_rfl) (by kernel_rfl) (fun _ _ _ h => h) (Or.inl ⟨by rfl, ?_⟩) hHeld ?_
      · intro w hSw; (try dsimp only at hSw); simp only [List.getElem_toArray, List.getElem_cons_zero, List.getElem_cons_succ]; go_simp
      simp only [List.getElem_toArray, List.getElem_cons_zero, List.getElem_cons_succ, Act.put, List.setIfInBounds_toArray, List.set_cons_zero, List.set_cons_succ]
      refine wpAnyH_take (i := 10) (v := .bool false) rfl (by kernel_rfl) (by kernel_rfl) (by kernel_rfl) (fun _ _ _ h => h) (Or.inl ⟨by rfl, ?_⟩) hHeld ?_
      · intro w hSw; (try dsimp only at hSw); simp only [List.getElem_toArray, List.getElem_cons_zero, List.getElem_cons_succ]; go_simp
      simp only [List.getElem_toArray, List.getElem_cons_zero, List.getElem_cons_succ, Act.put, List.setIfInBounds_toArray, List.set_cons_zero, List.set_cons_succ]
      refine wpAnyH_take (i := 11) (v := .string s) rfl (by kernel_rfl) (by kernel_rfl) (by kernel_rfl) (fun _ _ _ h => h) (Or.inl ⟨by rfl, ?_⟩) hHeld ?_
      · intro w hSw; (try dsimp only at hSw); simp only [List.getElem_toArray, List.getElem_cons_zero, List.getElem_cons_succ]; go_simp
      simp only [List.getElem_toArray, List.getElem_cons_zero, List.getElem_cons_succ, Act.put, List.setIfInBounds_toArray, List.set_cons_zero, List.set_cons_succ]
      refine wpAnyH_take (i := 12) (v := .int .i64 (s.size : Int)) rfl (by kernel_rfl) (by kernel_rfl) (by kernel_rfl) (fun _ _ _ h => h) (Or.inl ⟨by rfl, ?_⟩) hHeld ?_
      · intro w hSw; (try dsimp only at hSw); simp only [List.getElem_toArray, List.getElem_cons_zero, List.getElem_cons_succ]; go_simp
      simp only [List.getElem_toArray, List.getElem_cons_zero, List.getElem_cons_succ, Act.put, List.setIfInBounds_toArray, List.set_cons_zero, List.set_cons_succ]
      refine wpAnyH_take (i := 13) (v := .bool true) rfl (by kernel_rfl) (by kernel_rfl) (by kernel_rfl) (fun _ _ _ h => h) (Or.inl ⟨by rfl, ?_⟩) hHeld ?_
      · intro w hSw; (try dsimp only at hSw); simp only [List.getElem_toArray, List.getElem_cons_zero, List.getElem_cons_succ]; go_simp
      simp only [List.getElem_toArray, List.getElem_cons_zero, List.getElem_cons_succ, Act.put, List.setIfInBounds_toArray, List.set_cons_zero, List.set_cons_succ]
      refine wpAnyH_take (i := 14) (v := .bool true) rfl (by kernel_rfl) (by kernel_rfl) (by kernel_rfl) (fun _ _ _ h => h) (Or.inl ⟨by rfl, ?_⟩) hHeld ?_
      · intro w hSw; (try dsimp only at hSw); simp only [List.getElem_toArray, List.getElem_cons_zero, List.getElem_cons_succ]; go_simp
      simp only [List.getElem_toArray, List.getElem_cons_zero, List.getElem_cons_succ, Act.put, List.setIfInBounds_toArray, List.set_cons_zero, List.set_cons_succ]
      refine wpAnyH_done (by kernel_rfl) ?_ _
      go_wp2_with fail
      go_meet
      case rel => exact ⟨by rw [decide_eq_false (p := 0 < la + lb) (by omega), decide_eq_true (p := 150 < s.size) (by omega)]; rfl, hg'⟩
    · have h1' : ¬ (150 : Int) < (s.size : Int) := by omega
      refine wpAnyH_take (i := 8) (v := .bool false) rfl (by kernel_rfl) (by kernel_rfl) (by kernel_rfl) (fun _ _ _ h => h) (Or.inl ⟨by rfl, ?_⟩) hHeld ?_
      · intro w hSw; (try dsimp only at hSw); simp only [List.getElem_toArray, List.getElem_cons_zero, List.getElem_cons_succ]; go_simp
      simp only [List.getElem_toArray, List.getElem_cons_zero, List.getElem_cons_succ, Act.put, List.setIfInBounds_toArray, List.set_cons_zero, List.set_cons_succ]
      refine wpAnyH_take (i := 9) (v := .bool false) rfl (by kernel_rfl) (by kernel_rfl) (by kernel_rfl) (fun _ _ _ h => h) (Or.inl ⟨by rfl, ?_⟩) hHeld ?_
      · intro w hSw; (try dsimp only at hSw); simp only [List.getElem_toArray, List.getElem_cons_zero, List.getElem_cons_succ]; go_simp
      simp only [List.getElem_toArray, List.getElem_cons_zero, List.getElem_cons_succ, Act.put, List.setIfInBounds_toArray, List.set_cons_zero, List.set_cons_succ]
      refine wpAnyH_take (i := 10) (v := .bool false) rfl (by kernel_rfl) (by kernel_rfl) (by kernel_rfl) (fun _ _ _ h => h) (Or.inl ⟨by rfl, ?_⟩) hHeld ?_
      · intro w hSw; (try dsimp only at hSw); simp only [List.getElem_toArray, List.getElem_cons_zero, List.getElem_cons_succ]; go_simp
      simp only [List.getElem_toArray, List.getElem_cons_zero, List.getElem_cons_succ, Act.put, List.setIfInBounds_toArray, List.set_cons_zero, List.set_cons_succ]
      refine wpAnyH_take (i := 11) (v := .string s) rfl (by kernel_rfl) (by kernel_rfl) (by kernel_rfl) (fun _ _ _ h => h) (Or.inl ⟨by rfl, ?_⟩) hHeld ?_
      · intro w hSw; (try dsimp only at hSw); simp only [List.getElem_toArray, List.getElem_cons_zero, List.getElem_cons_succ]; go_simp
      simp only [List.getElem_toArray, List.getElem_cons_zero, List.getElem_cons_succ, Act.put, List.setIfInBounds_toArray, List.set_cons_zero, List.set_cons_succ]
      refine wpAnyH_take (i := 12) (v := .int .i64 (s.size : Int)) rfl (by kernel_rfl) (by kernel_rfl) (by kernel_rfl) (fun _ _ _ h => h) (Or.inl ⟨by rfl, ?_⟩) hHeld ?_
      · intro w hSw; (try dsimp only at hSw); simp only [List.getElem_toArray, List.getElem_cons_zero, List.getElem_cons_succ]; go_simp
      simp only [List.getElem_toArray, List.getElem_cons_zero, List.getElem_cons_succ, Act.put, List.setIfInBounds_toArray, List.set_cons_zero, List.set_cons_succ]
      refine wpAnyH_take (i := 13) (v := .bool false) rfl (by kernel_rfl) (by kernel_rfl) (by kernel_rfl) (fun _ _ _ h => h) (Or.inl ⟨by rfl, ?_⟩) hHeld ?_
      · intro w hSw; (try dsimp only at hSw); simp only [List.getElem_toArray, List.getElem_cons_zero, List.getElem_cons_succ]; go_simp
      simp only [List.getElem_toArray, List.getElem_cons_zero, List.getElem_cons_succ, Act.put, List.setIfInBounds_toArray, List.set_cons_zero, List.set_cons_succ]
      refine wpAnyH_take (i := 14) (v := .bool false) rfl (by kernel_rfl) (by kernel_rfl) (by kernel_rfl) (fun _ _ _ h => h) (Or.inl ⟨by rfl, ?_⟩) hHeld ?_
      · intro w hSw; (try dsimp only at hSw); simp only [List.getElem_toArray, List.getElem_cons_zero, List.getElem_cons_succ]; go_simp
      simp only [List.getElem_toArray, List.getElem_cons_zero, List.getElem_cons_succ, Act.put, List.setIfInBounds_toArray, List.set_cons_zero, List.set_cons_succ]
      refine wpAnyH_done (by kernel_rfl) ?_ _
      go_wp2_with fail
      go_meet
      case rel => exact ⟨by rw [decide_eq_false (p := 0 < la + lb) (by omega), decide_eq_false (p := 150 < s.size) (by omega)]; rfl, hg'⟩
  case rest =>
    obtain ⟨rfl, hg⟩ := hcut
    by_cases hend : 0 < la + lb ∨ 150 < s.size
    · have hend' : (decide (0 < la + lb) || decide (150 < s.size)) = true := by simpa using hend
      rw [hend']
      go_wp2_with fail
      go_ret
      exact ⟨rfl, HR.out _ hg⟩
    have hend' : (decide (0 < la + lb) || decide (150 < s.size)) = false := by simpa using hend
    rw [hend']
    have HX : Hid _ := HO.out (by omega) (by omega) _ hg
    obtain ⟨d0, d1, d2', d3, hrest⟩ := HK.out _ hg
    clear hrest HGS HGT HO hend hend' wk hlo HK HD HR hg2 w2 hg hsm
    go_wp2_with fail
    refine Calls.mono HX.out ?_
    clear HX d0 d1 d2' d3 wc
    rintro e w3 ⟨xa, xc, rfl, hall, hrr⟩
    obtain ⟨ob, hob⟩ : ∃ ob, ob = w3.heap.size := ⟨_, rfl⟩
    obtain ⟨W, hW⟩ : ∃ W, W = w3.alloc (.cells #[.string k, .string d, .bool x, .slice xa un xc] 24) := ⟨_, rfl⟩
    rw [← hob, ← hW] at hall
    rw [← hW] at hrr
    have hzW : ob < W.heap.size := by rw [hW, hob]; simp
    have HAL : Hid _ := hall
    have HRR : Hid _ := hrr
    have HWW : Hid (W = w3.alloc (.cells #[.string k, .string d, .bool x, .slice xa un xc] 24)) := hW
    have HOB : Hid (ob = w3.heap.size) := hob
    have HS : Hid _ := HAL.out.split W (Below.refl _ _)
    clear hall hrr hW hob
    go_upto_region 5 with fail
    rw [← HWW.out, ← HOB.out]
    clear HWW HOB
    go_wp2_with fail
    refine Calls.mono HS.out ?_
    clear HS
    rintro e w4 ⟨sa, sn, sc, ev, rfl, hb4, hs4⟩
    have HB4 : Hid (Below W.heap.size W w4) := hb4
    have HS4 : Hid _ := hs4
    clear hb4 hs4
    go_wp2_with fail
    refine Calls.mono HS4.out ?_
    clear HS4
    rintro e w5 ⟨ma, mn, mc, er, rfl, hb5, hs5⟩
    have HB5 : Hid (Below W.heap.size W w5) := HB4.out.trans (hb5.mono HB4.out.size)
    have HS5 : Hid _ := hs5
    clear hb5 hs5 HB4
    go_wp2_with fail
    refine Calls.mono HS5.out ?_
    clear HS5
    rintro e w6 ⟨rfl, hb6, hs6⟩
    have HB6 : Hid (Below W.heap.size W w6) := HB5.out.trans (hb6.mono HB5.out.size)
    have HS6 : Hid _ := hs6
    clear hb6 hs6 HB5
    go_wp2_with fail
    refine Calls.mono HS6.out ?_
    clear HS6
    rintro e w7 ⟨rfl, hb7⟩
    have HB7 : Hid (Below W.heap.size W w7) := HB6.out.trans (hb7.mono HB6.out.size)
    have HG : Hid _ := HAL.out.get w7 HB7.out
    obtain ⟨_, _, _, _, _, _, _, _, o0, o1, o2, o3⟩ := HAL.out.cells w7 HB7.out
    clear hb7 HB6
    go_wp2_with fail
    refine Calls.mono HG.out ?_
    clear HG o0 o1 o2 o3
    have HBw7 : Hid (Below W.heap.size W w7) := HB7.out
    rintro e wa1 ⟨k3, d3, x3, a3, n3, c3, ev1, rfl, hb, hn⟩
    have HBwa1 : Hid (Below W.heap.size W wa1) := HBw7.out.trans (hb.mono HBw7.out.size)
    have hzwa1 := hb.size
    have hzzwa1 := HBwa1.out.size
    have HN : Hid _ := hn
    clear hn
    clear hb
    go_upto_region 10 with fail
    obtain ⟨ab, hab⟩ : ∃ b, b = wa1.heap.size := ⟨_, rfl⟩
    obtain ⟨ws1, hws⟩ : ∃ ws, ws = wa1.alloc (.cells #[.string k3, .string d3, .bool x3, .slice a3 n3 c3] 24) := ⟨_, rfl⟩
    rw [← hws, ← hab]
    have hA : Below wa1.heap.size wa1 ws1 := by rw [hws]; exact (Below.refl _ _).alloc (Nat.le_refl _) _
    have HRab : Hid (ws1.heap[ab]? = some (.cells #[.string k3, .string d3, .bool x3, .slice a3 n3 c3] 24 (0, 0))) := show _ = _ by rw [hws, hab]; exact row_alloc' _ _ _
    have HBws1 : Hid (Below W.heap.size W ws1) := HBwa1.out.trans (hA.mono HBwa1.out.size)
    have hzws1 : wa1.heap.size + 1 ≤ ws1.heap.size := by rw [hws]; simp
    have h1ab : W.heap.size ≤ ab := by omega
    have h2ab : ab < ws1.heap.size := by omega
    have HM : Hid _ := HN.out ab ws1 (ButUp.of_below hA) (by omega) (by simp; omega)
    clear hA HN hws hab
    obtain ⟨c0, c1, c2, c3, e0, e1, e2, e3, o0, o1, o2, o3⟩ := HAL.out.cells ws1 HBws1.out
    go_wp2_with fail
    refine Calls.mono HM.out ?_
    clear HM
    clear c0 c1 c2 c3 e0 e1 e2 e3 o0 o1 o2 o3
    rintro e wa2 ⟨k4, d4, x4, a4, n4, c4, er1, rfl, hb, hn⟩
    have HBwa2 : Hid (Below W.heap.size W wa2) := HBws1.out.trans (hb.mono HBws1.out.size)
    have hzwa2 := hb.size
    have hzzwa2 := HBwa2.out.size
    have HN : Hid _ := hn
    have hrab : wa2.heap[ab]? = some (.cells #[.string k3, .string d3, .bool x3, .slice a3 n3 c3] 24 (0, 0)) := (hb.block ab (by omega)).trans HRab.out
    clear HRab
    clear hn
    clear hb
    go_upto_region 11 with fail
    obtain ⟨bb, hab⟩ : ∃ b, b = wa2.heap.size := ⟨_, rfl⟩
    obtain ⟨ws2, hws⟩ : ∃ ws, ws = wa2.alloc (.cells #[.string k4, .string d4, .bool x4, .slice a4 n4 c4] 24) := ⟨_, rfl⟩
    rw [← hws, ← hab]
    have hA : Below wa2.heap.size wa2 ws2 := by rw [hws]; exact (Below.refl _ _).alloc (Nat.le_refl _) _
    have HRbb : Hid (ws2.heap[bb]? = some (.cells #[.string k4, .string d4, .bool x4, .slice a4 n4 c4] 24 (0, 0))) := show _ = _ by rw [hws, hab]; exact row_alloc' _ _ _
    have HRab : Hid (ws2.heap[ab]? = some (.cells #[.string k3, .string d3, .bool x3, .slice a3 n3 c3] 24 (0, 0))) := (hA.block ab (by omega)).trans hrab
    clear hrab
    have HBws2 : Hid (Below W.heap.size W ws2) := HBwa2.out.trans (hA.mono HBwa2.out.size)
    have hzws2 : wa2.heap.size + 1 ≤ ws2.heap.size := by rw [hws]; simp
    have h1bb : W.heap.size ≤ bb := by omega
    have h2bb : bb < ws2.heap.size := by omega
    have hne : ab ≠ bb := by omega
    have HM : Hid _ := HN.out bb ws2 (ButUp.of_below hA) (by omega) (by simp; omega)
    clear hA HN hws hab
    go_wp2_with fail
    refine Calls.mono HM.out ?_
    clear HM
    rintro e wd3 ⟨rfl, hb, hn⟩
    have HBwd3 : Hid (Below W.heap.size W wd3) := HBws2.out.trans (hb.mono HBws2.out.size)
    have hzwd3 := hb.size
    have HN : Hid _ := hn
    have hrab : wd3.heap[ab]? = some (.cells #[.string k3, .string d3, .bool x3, .slice a3 n3 c3] 24 (0, 0)) := (hb.block ab (by omega)).trans HRab.out
    clear HRab
    have HRab : Hid _ := hrab
    have hrbb : wd3.heap[bb]? = some (.cells #[.string k4, .string d4, .bool x4, .slice a4 n4 c4] 24 (0, 0)) := (hb.block bb (by omega)).trans HRbb.out
    clear HRbb
    have HRbb : Hid _ := hrbb
    obtain ⟨⟨u0, u1, u2, u3⟩, _⟩ := row4b hrab
    obtain ⟨⟨v0, v1, v2, v3⟩, _⟩ := row4b hrbb
    clear hb hn hrab hrbb
    go_wp2_with fail
    refine Calls.mono HN.out ?_
    clear HN u0 u1 u2 u3 v0 v1 v2 v3
    rintro e we3 ⟨rfl, hb⟩
    have HBwe3 : Hid (Below W.heap.size W we3) := HBwd3.out.trans (hb.mono HBwd3.out.size)
    have hzwe3 := hb.size
    have hrab : we3.heap[ab]? = some (.cells #[.string k3, .string d3, .bool x3, .slice a3 n3 c3] 24 (0, 0)) := (hb.block ab (by omega)).trans HRab.out
    clear HRab
    have HRab : Hid _ := hrab
    clear hrab
    have hrbb : we3.heap[bb]? = some (.cells #[.string k4, .string d4, .bool x4, .slice a4 n4 c4] 24 (0, 0)) := (hb.block bb (by omega)).trans HRbb.out
    clear HRbb
    have HRbb : Hid _ := hrbb
    clear hrbb
    clear hb
    go_upto_region 13 with fail
    refine wp_region_held_drew (S := fun w' => w'.cell? ⟨ob, 0, none⟩ = some (.string k) ∧ w'.cell? ⟨ob, 1, none⟩ = some (.string d) ∧ w'.cell? ⟨ob, 2, none⟩ = some (.bool x) ∧ w'.cell? ⟨ob, 3, none⟩ = some (.slice xa un xc) ∧ w'.cell? ⟨w.heap.size + 1, 0, none⟩ = some (.string k2) ∧ w'.cell? ⟨w.heap.size + 1, 1, none⟩ = some (.string d2) ∧ w'.cell? ⟨w.heap.size + 1, 2, none⟩ = some (.bool x2) ∧ w'.cell? ⟨w.heap.size + 1, 3, none⟩ = some (.slice ub vn vc)) (by kernel_rfl) ((fun hc => ⟨hc.2.2.2.2.2.2.2.2.1, hc.2.2.2.2.2.2.2.2.2.1, hc.2.2.2.2.2.2.2.2.2.2.1, hc.2.2.2.2.2.2.2.2.2.2.2, hc.2.2.2.2.1, hc.2.2.2.2.2.1, hc.2.2.2.2.2.2.1, hc.2.2.2.2.2.2.2.1⟩) (HAL.out.cells _ HBwe3.out.drew)) (fun hHeld => ?_)
    refine wpAnyH_take (i := 0) (v := .agg #[.string k, .string d, .bool x, .slice xa un xc]) rfl (by kernel_rfl) (by kernel_rfl) (by kernel_rfl) (fun _ _ _ h => h) (Or.inl ⟨by rfl, ?_⟩) hHeld ?_
    · intro w hSw; (try dsimp only at hSw); simp only [List.getElem_toArray, List.getElem_cons_zero]; go_simp
    simp only [List.getElem_toArray, List.getElem_cons_zero, Act.put, List.setIfInBounds_toArray, List.set_cons_zero, List.set_cons_succ]
    refine wpAnyH_take (i := 1) (v := .string s) rfl (by kernel_rfl) (by kernel_rfl) (by kernel_rfl) (fun _ _ _ h => h) (Or.inl ⟨by rfl, ?_⟩) hHeld ?_
    · intro w hSw; (try dsimp only at hSw); simp only [List.getElem_toArray, List.getElem_cons_zero, List.getElem_cons_succ]; go_simp
    simp only [List.getElem_toArray, List.getElem_cons_zero, List.getElem_cons_succ, Act.put, List.setIfInBounds_toArray, List.set_cons_zero, List.set_cons_succ]
    refine wpAnyH_take (i := 2) (v := .agg #[.string k2, .string d2, .bool x2, .slice ub vn vc]) rfl (by kernel_rfl) (by kernel_rfl) (by kernel_rfl) (fun _ _ _ h => h) (Or.inl ⟨by rfl, ?_⟩) hHeld ?_
    · intro w hSw; (try dsimp only at hSw); simp only [List.getElem_toArray, List.getElem_cons_zero, List.getElem_cons_succ]; go_simp
    simp only [List.getElem_toArray, List.getElem_cons_zero, List.getElem_cons_succ, Act.put, List.setIfInBounds_toArray, List.set_cons_zero, List.set_cons_succ]
    refine wpAnyH_ready (rs := [3]) (by kernel_rfl) (by simp) ?_
    refine AllReadyH.cons rfl (fun K' hK => ?_) AllReadyH.nil
    simp only [List.getElem_toArray, List.getElem_cons_zero, List.getElem_cons_succ]
    go_simp
    refine Calls.mono (HAL.out.put _ HBwe3.out.drew) ?_
    rintro e wo ⟨yb, yc, rfl, hb, hn⟩
    have HBwo : Hid (Below W.heap.size W wo) := (HBwe3.out.drew).trans (hb.mono (HBwe3.out.drew).size)
    have hzwo : we3.heap.size ≤ wo.heap.size := hb.size
    have hrab : wo.heap[ab]? = some (.cells #[.string k3, .string d3, .bool x3, .slice a3 n3 c3] 24 (0, 0)) := (hb.block ab (show ab < we3.heap.size by omega)).trans HRab.out
    have hrbb : wo.heap[bb]? = some (.cells #[.string k4, .string d4, .bool x4, .slice a4 n4 c4] 24 (0, 0)) := (hb.block bb (show bb < we3.heap.size by omega)).trans HRbb.out
    clear HRab HRbb
    have HRab : Hid _ := hrab
    have HRbb : Hid _ := hrbb
    have HN : Hid _ := hn
    clear hb hn hrab hrbb
    go_wp2_with fail
    refine hK.out _ _ ((fun hc => ⟨hc.2.2.2.2.2.2.2.2.1, hc.2.2.2.2.2.2.2.2.2.1, hc.2.2.2.2.2.2.2.2.2.2.1, hc.2.2.2.2.2.2.2.2.2.2.2, hc.2.2.2.2.1, hc.2.2.2.2.2.1, hc.2.2.2.2.2.2.1, hc.2.2.2.2.2.2.2.1⟩) (HAL.out.cells _ HBwo.out)) (fun hHeld' => ?_)
    clear hK K' hHeld
    have hHeld := hHeld'
    clear hHeld'
    refine wpAnyH_ready (rs := [4]) (by kernel_rfl) (by simp) ?_
    refine AllReadyH.cons rfl (fun K' hK => ?_) AllReadyH.nil
    simp only [List.getElem_toArray, List.getElem_cons_zero, List.getElem_cons_succ]
    go_simp
    refine Calls.mono HN.out ?_
    clear HN
    rintro e wa4 ⟨k5, d5, x5, a5, n5, c5, ev2, rfl, hb, hn⟩
    have HBwa4 : Hid (Below W.heap.size W wa4) := HBwo.out.trans (hb.mono HBwo.out.size)
    have hzwa4 := hb.size
    have hrab : wa4.heap[ab]? = some (.cells #[.string k3, .string d3, .bool x3, .slice a3 n3 c3] 24 (0, 0)) := (hb.block ab (by omega)).trans HRab.out
    have hrbb : wa4.heap[bb]? = some (.cells #[.string k4, .string d4, .bool x4, .slice a4 n4 c4] 24 (0, 0)) := (hb.block bb (by omega)).trans HRbb.out
    clear HRab HRbb
    have HN : Hid _ := hn
    clear hb hn
    go_wp2_with fail
    refine hK.out _ _ ((fun hc => ⟨hc.2.2.2.2.2.2.2.2.1, hc.2.2.2.2.2.2.2.2.2.1, hc.2.2.2.2.2.2.2.2.2.2.1, hc.2.2.2.2.2.2.2.2.2.2.2, hc.2.2.2.2.1, hc.2.2.2.2.2.1, hc.2.2.2.2.2.2.1, hc.2.2.2.2.2.2.2.1⟩) (HAL.out.cells _ HBwa4.out)) (fun hHeld' => ?_)
    clear hK K' hHeld
    have hHeld := hHeld'
    clear hHeld'
    refine wpAnyH_take (i := 5) (v := .tuple #[.agg #[.string k5, .string d5, .bool x5, .slice a5 n5 c5], ev2]) rfl (by kernel_rfl) (by kernel_rfl) (by kernel_rfl) (fun _ _ _ h => h) (Or.inl ⟨by rfl, ?_⟩) hHeld ?_
    · intro w hSw; (try dsimp only at hSw); simp only [List.getElem_toArray, List.getElem_cons_zero, List.getElem_cons_succ]; go_simp
    simp only [List.getElem_toArray, List.getElem_cons_zero, List.getElem_cons_succ, Act.put, List.setIfInBounds_toArray, List.set_cons_zero, List.set_cons_succ]
    refine wpAnyH_take (i := 6) (v := .agg #[.string k5, .string d5, .bool x5, .slice a5 n5 c5]) rfl (by kernel_rfl) (by kernel_rfl) (by kernel_rfl) (fun _ _ _ h => h) (Or.inl ⟨by rfl, ?_⟩) hHeld ?_
    · intro w hSw; (try dsimp only at hSw); simp only [List.getElem_toArray, List.getElem_cons_zero, List.getElem_cons_succ]; go_simp
    simp only [List.getElem_toArray, List.getElem_cons_zero, List.getElem_cons_succ, Act.put, List.setIfInBounds_toArray, List.set_cons_zero, List.set_cons_succ]
    refine wpAnyH_take (i := 7) (v := ev2) rfl (by kernel_rfl) (by kernel_rfl) (by kernel_rfl) (fun _ _ _ h => h) (Or.inl ⟨by rfl, ?_⟩) hHeld ?_
    · intro w hSw; (try dsimp only at hSw); simp only [List.getElem_toArray, List.getElem_cons_zero, List.getElem_cons_succ]; go_simp
    simp only [List.getElem_toArray, List.getElem_cons_zero, List.getElem_cons_succ, Act.put, List.setIfInBounds_toArray, List.set_cons_zero, List.set_cons_succ]
    obtain ⟨⟨q0, q1, q2, q3⟩, g0, g1, g2, g3⟩ := row4b hrab
    have hS := ((((But1.refl ab wa4).set 0 (.string k5)).set 1 (.string d5)).set 2 (.bool x5)).set 3 (.slice a5 n5 c5)
    have hrw := set4b_row hrab (.string k5) (.string d5) (.bool x5) (.slice a5 n5 c5)
    have HBs : Hid (Below W.heap.size W ((((wa4.setCell ⟨ab, 0, none⟩ (.string k5)).setCell ⟨ab, 1, none⟩ (.string d5)).setCell ⟨ab, 2, none⟩ (.bool x5)).setCell ⟨ab, 3, none⟩ (.slice a5 n5 c5))) := hS.below HBwa4.out (by omega)
    have HS4 : Hid _ := hS
    have HRW : Hid _ := hrw
    clear hS hrw
    refine wpAnyH_ready (rs := [8]) (by kernel_rfl) (by simp) ?_
    refine AllReadyH.cons rfl (fun K' hK => ?_) AllReadyH.nil
    simp only [List.getElem_toArray, List.getElem_cons_zero, List.getElem_cons_succ]
    go_simp
    go_wp2_with fail
    refine hK.out _ _ ((fun hc => ⟨hc.2.2.2.2.2.2.2.2.1, hc.2.2.2.2.2.2.2.2.2.1, hc.2.2.2.2.2.2.2.2.2.2.1, hc.2.2.2.2.2.2.2.2.2.2.2, hc.2.2.2.2.1, hc.2.2.2.2.2.1, hc.2.2.2.2.2.2.1, hc.2.2.2.2.2.2.2.1⟩) (HAL.out.cells _ HBs.out)) (fun hHeld' => ?_)
    clear hK K' hHeld
    have hHeld := hHeld'
    clear hHeld'
    refine wpAnyH_take (i := 9) (v := ev2) rfl (by kernel_rfl) (by kernel_rfl) (by kernel_rfl) (fun _ _ _ h => h) (Or.inl ⟨by rfl, ?_⟩) hHeld ?_
    · intro w hSw; (try dsimp only at hSw); simp only [List.getElem_toArray, List.getElem_cons_zero, List.getElem_cons_succ]; go_simp
    simp only [List.getElem_toArray, List.getElem_cons_zero, List.getElem_cons_succ, Act.put, List.setIfInBounds_toArray, List.set_cons_zero, List.set_cons_succ]
    refine wpAnyH_done (by kernel_rfl) ?_ _
    obtain ⟨ws4, hws⟩ : ∃ ws, ws = ((((wa4.setCell ⟨ab, 0, none⟩ (.string k5)).setCell ⟨ab, 1, none⟩ (.string d5)).setCell ⟨ab, 2, none⟩ (.bool x5)).setCell ⟨ab, 3, none⟩ (.slice a5 n5 c5)) := ⟨_, rfl⟩
    rw [← hws]
    have hS := HS4.out
    have hrw := HRW.out
    rw [← hws] at hS hrw
    have HRab : Hid (ws4.heap[ab]? = some (.cells #[.string k5, .string d5, .bool x5, .slice a5 n5 c5] 24 (0, 0))) := hrw
    have HRbb : Hid (ws4.heap[bb]? = some (.cells #[.string k4, .string d4, .bool x4, .slice a4 n4 c4] 24 (0, 0))) := (hS.block bb (by omega)).trans hrbb
    have HBws4 : Hid (Below W.heap.size W ws4) := hS.below HBwa4.out (by omega)
    have hzws4 : wa4.heap.size ≤ ws4.heap.size := Nat.le_of_eq hS.size.symm
    have HM : Hid _ := HN.out ab ws4 (ButUp.of_but hS) (by omega) (by simp; omega)
    clear hS hrw HN hws q0 q1 q2 q3 g0 g1 g2 g3 hrab hrbb HS4 HRW HBs
    obtain ⟨c0, c1, c2, c3, e0, e1, e2, e3, o0, o1, o2, o3⟩ := HAL.out.cells ws4 HBws4.out
    go_wp2_with fail
    refine Calls.mono HM.out ?_
    clear HM
    clear c0 c1 c2 c3 e0 e1 e2 e3 o0 o1 o2 o3
    rintro e wa5 ⟨k6, d6, x6, a6, n6, c6, er2, rfl, hb, hn⟩
    have HBwa5 : Hid (Below W.heap.size W wa5) := HBws4.out.trans (hb.mono HBws4.out.size)
    have hzwa5 := hb.size
    have hzzwa5 := HBwa5.out.size
    have HN : Hid _ := hn
    have hrab : wa5.heap[ab]? = some (.cells #[.string k5, .string d5, .bool x5, .slice a5 n5 c5] 24 (0, 0)) := (hb.block ab (by omega)).trans HRab.out
    have hrbb : wa5.heap[bb]? = some (.cells #[.string k4, .string d4, .bool x4, .slice a4 n4 c4] 24 (0, 0)) := (hb.block bb (by omega)).trans HRbb.out
    clear HRab
    clear HRbb
    clear hn
    clear hb
    obtain ⟨⟨q0, q1, q2, q3⟩, g0, g1, g2, g3⟩ := row4b hrbb
    have hzb : bb < wa5.heap.size := by omega
    go_upto_region 15 with fail
    have hS := ((((But1.refl bb wa5).set 0 (.string k6)).set 1 (.string d6)).set 2 (.bool x6)).set 3 (.slice a6 n6 c6)
    have hrw := set4b_row hrbb (.string k6) (.string d6) (.bool x6) (.slice a6 n6 c6)
    obtain ⟨ws5, hws⟩ : ∃ ws, ws = ((((wa5.setCell ⟨bb, 0, none⟩ (.string k6)).setCell ⟨bb, 1, none⟩ (.string d6)).setCell ⟨bb, 2, none⟩ (.bool x6)).setCell ⟨bb, 3, none⟩ (.slice a6 n6 c6)) := ⟨_, rfl⟩
    rw [← hws]
    rw [← hws] at hS hrw
    have HRbb : Hid (ws5.heap[bb]? = some (.cells #[.string k6, .string d6, .bool x6, .slice a6 n6 c6] 24 (0, 0))) := hrw
    have HRab : Hid (ws5.heap[ab]? = some (.cells #[.string k5, .string d5, .bool x5, .slice a5 n5 c5] 24 (0, 0))) := (hS.block ab (by omega)).trans hrab
    have HBws5 : Hid (Below W.heap.size W ws5) := hS.below HBwa5.out (by omega)
    have hzws5 : wa5.heap.size ≤ ws5.heap.size := Nat.le_of_eq hS.size.symm
    have HM : Hid _ := HN.out bb ws5 (ButUp.of_but hS) (by omega) (by simp; omega)
    clear hS hrw HN hws q0 q1 q2 q3 g0 g1 g2 g3 hzb hrab hrbb
    go_wp2_with fail
    refine Calls.mono HM.out ?_
    clear HM
    rintro e wd6 ⟨rfl, hb, hn⟩
    have HBwd6 : Hid (Below W.heap.size W wd6) := HBws5.out.trans (hb.mono HBws5.out.size)
    have hzwd6 := hb.size
    have HN : Hid _ := hn
    have hrab : wd6.heap[ab]? = some (.cells #[.string k5, .string d5, .bool x5, .slice a5 n5 c5] 24 (0, 0)) := (hb.block ab (by omega)).trans HRab.out
    clear HRab
    have HRab : Hid _ := hrab
    have hrbb : wd6.heap[bb]? = some (.cells #[.string k6, .string d6, .bool x6, .slice a6 n6 c6] 24 (0, 0)) := (hb.block bb (by omega)).trans HRbb.out
    clear HRbb
    have HRbb : Hid _ := hrbb
    obtain ⟨⟨u0, u1, u2, u3⟩, _⟩ := row4b hrab
    obtain ⟨⟨v0, v1, v2, v3⟩, _⟩ := row4b hrbb
    clear hb hn hrab hrbb
    go_wp2_with fail
    refine Calls.mono HN.out ?_
    clear HN u0 u1 u2 u3 v0 v1 v2 v3
    rintro e we6 ⟨rfl, hb⟩
    have HBwe6 : Hid (Below W.heap.size W we6) := HBwd6.out.trans (hb.mono HBwd6.out.size)
    have hzwe6 := hb.size
    have hrab : we6.heap[ab]? = some (.cells #[.string k5, .string d5, .bool x5, .slice a5 n5 c5] 24 (0, 0)) := (hb.block ab (by omega)).trans HRab.out
    clear HRab
    have HRab : Hid _ := hrab
    clear hrab
    have hrbb : we6.heap[bb]? = some (.cells #[.string k6, .string d6, .bool x6, .slice a6 n6 c6] 24 (0, 0)) := (hb.block bb (by omega)).trans HRbb.out
    clear HRbb
    have HRbb : Hid _ := hrbb
    clear hrbb
    clear hb
    have HG : Hid _ := HAL.out.drop we6 HBwe6.out
    obtain ⟨c0, c1, c2, c3, e0, e1, e2, e3, o0, o1, o2, o3⟩ := HAL.out.cells we6 HBwe6.out
    go_wp2_with fail
    refine Calls.mono HG.out ?_
    clear HG
    clear c0 c1 c2 c3 e0 e1 e2 e3 o0 o1 o2 o3
    rintro e wa7 ⟨k7, d7, x7, a7, n7, c7, ev3, rfl, hb, hn⟩
    have HBwa7 : Hid (Below W.heap.size W wa7) := HBwe6.out.trans (hb.mono HBwe6.out.size)
    have hzwa7 := hb.size
    have hzzwa7 := HBwa7.out.size
    have HN : Hid _ := hn
    have hrab : wa7.heap[ab]? = some (.cells #[.string k5, .string d5, .bool x5, .slice a5 n5 c5] 24 (0, 0)) := (hb.block ab (by omega)).trans HRab.out
    have hrbb : wa7.heap[bb]? = some (.cells #[.string k6, .string d6, .bool x6, .slice a6 n6 c6] 24 (0, 0)) := (hb.block bb (by omega)).trans HRbb.out
    clear HRab
    clear HRbb
    clear hn
    clear hb
    obtain ⟨⟨q0, q1, q2, q3⟩, g0, g1, g2, g3⟩ := row4b hrab
    have hzb : ab < wa7.heap.size := by omega
    go_upto_region 18 with fail
    have hS := ((((But1.refl ab wa7).set 0 (.string k7)).set 1 (.string d7)).set 2 (.bool x7)).set 3 (.slice a7 n7 c7)
    have hrw := set4b_row hrab (.string k7) (.string d7) (.bool x7) (.slice a7 n7 c7)
    obtain ⟨ws7, hws⟩ : ∃ ws, ws = ((((wa7.setCell ⟨ab, 0, none⟩ (.string k7)).setCell ⟨ab, 1, none⟩ (.string d7)).setCell ⟨ab, 2, none⟩ (.bool x7)).setCell ⟨ab, 3, none⟩ (.slice a7 n7 c7)) := ⟨_, rfl⟩
    rw [← hws]
    rw [← hws] at hS hrw
    have HRab : Hid (ws7.heap[ab]? = some (.cells #[.string k7, .string d7, .bool x7, .slice a7 n7 c7] 24 (0, 0))) := hrw
    have HRbb : Hid (ws7.heap[bb]? = some (.cells #[.string k6, .string d6, .bool x6, .slice a6 n6 c6] 24 (0, 0))) := (hS.block bb (by omega)).trans hrbb
    have HBws7 : Hid (Below W.heap.size W ws7) := hS.below HBwa7.out (by omega)
    have hzws7 : wa7.heap.size ≤ ws7.heap.size := Nat.le_of_eq hS.size.symm
    have HM : Hid _ := HN.out ab ws7 (ButUp.of_but hS) (by omega) (by simp; omega)
    clear hS hrw HN hws q0 q1 q2 q3 g0 g1 g2 g3 hzb hrab hrbb
    obtain ⟨c0, c1, c2, c3, e0, e1, e2, e3, o0, o1, o2, o3⟩ := HAL.out.cells ws7 HBws7.out
    go_wp2_with fail
    refine Calls.mono HM.out ?_
    clear HM
    clear c0 c1 c2 c3 e0 e1 e2 e3 o0 o1 o2 o3
    rintro e wa8 ⟨k8, d8, x8, a8, n8, c8, er3, rfl, hb, hn⟩
    have HBwa8 : Hid (Below W.heap.size W wa8) := HBws7.out.trans (hb.mono HBws7.out.size)
    have hzwa8 := hb.size
    have hzzwa8 := HBwa8.out.size
    have HN : Hid _ := hn
    have hrab : wa8.heap[ab]? = some (.cells #[.string k7, .string d7, .bool x7, .slice a7 n7 c7] 24 (0, 0)) := (hb.block ab (by omega)).trans HRab.out
    have hrbb : wa8.heap[bb]? = some (.cells #[.string k6, .string d6, .bool x6, .slice a6 n6 c6] 24 (0, 0)) := (hb.block bb (by omega)).trans HRbb.out
    clear HRab
    clear HRbb
    clear hn
    clear hb
    obtain ⟨⟨q0, q1, q2, q3⟩, g0, g1, g2, g3⟩ := row4b hrbb
    have hzb : bb < wa8.heap.size := by omega
    go_upto_region 19 with fail
    have hS := ((((But1.refl bb wa8).set 0 (.string k8)).set 1 (.string d8)).set 2 (.bool x8)).set 3 (.slice a8 n8 c8)
    have hrw := set4b_row hrbb (.string k8) (.string d8) (.bool x8) (.slice a8 n8 c8)
    obtain ⟨ws8, hws⟩ : ∃ ws, ws = ((((wa8.setCell ⟨bb, 0, none⟩ (.string k8)).setCell ⟨bb, 1, none⟩ (.string d8)).setCell ⟨bb, 2, none⟩ (.bool x8)).setCell ⟨bb, 3, none⟩ (.slice a8 n8 c8)) := ⟨_, rfl⟩
    rw [← hws]
    rw [← hws] at hS hrw
    have HRbb : Hid (ws8.heap[bb]? = some (.cells #[.string k8, .string d8, .bool x8, .slice a8 n8 c8] 24 (0, 0))) := hrw
    have HRab : Hid (ws8.heap[ab]? = some (.cells #[.string k7, .string d7, .bool x7, .slice a7 n7 c7] 24 (0, 0))) := (hS.block ab (by omega)).trans hrab
    have HBws8 : Hid (Below W.heap.size W ws8) := hS.below HBwa8.out (by omega)
    have hzws8 : wa8.heap.size ≤ ws8.heap.size := Nat.le_of_eq hS.size.symm
    have HM : Hid _ := HN.out bb ws8 (ButUp.of_but hS) (by omega) (by simp; omega)
    clear hS hrw HN hws q0 q1 q2 q3 g0 g1 g2 g3 hzb hrab hrbb
    go_wp2_with fail
    refine Calls.mono HM.out ?_
    clear HM
    rintro e wd9 ⟨rfl, hb, hn⟩
    have HBwd9 : Hid (Below W.heap.size W wd9) := HBws8.out.trans (hb.mono HBws8.out.size)
    have hzwd9 := hb.size
    have HN : Hid _ := hn
    have hrab : wd9.heap[ab]? = some (.cells #[.string k7, .string d7, .bool x7, .slice a7 n7 c7] 24 (0, 0)) := (hb.block ab (by omega)).trans HRab.out
    clear HRab
    have HRab : Hid _ := hrab
    have hrbb : wd9.heap[bb]? = some (.cells #[.string k8, .string d8, .bool x8, .slice a8 n8 c8] 24 (0, 0)) := (hb.block bb (by omega)).trans HRbb.out
    clear HRbb
    have HRbb : Hid _ := hrbb
    obtain ⟨⟨u0, u1, u2, u3⟩, _⟩ := row4b hrab
    obtain ⟨⟨v0, v1, v2, v3⟩, _⟩ := row4b hrbb
    clear hb hn hrab hrbb
    go_wp2_with fail
    refine Calls.mono HN.out ?_
    clear HN u0 u1 u2 u3 v0 v1 v2 v3
    rintro e we9 ⟨rfl, hb⟩
    have HBwe9 : Hid (Below W.heap.size W we9) := HBwd9.out.trans (hb.mono HBwd9.out.size)
    have hzwe9 := hb.size
    have hrab : we9.heap[ab]? = some (.cells #[.string k7, .string d7, .bool x7, .slice a7 n7 c7] 24 (0, 0)) := (hb.block ab (by omega)).trans HRab.out
    clear HRab
    have HRab : Hid _ := hrab
    clear hrab
    have hrbb : we9.heap[bb]? = some (.cells #[.string k8, .string d8, .bool x8, .slice a8 n8 c8] 24 (0, 0)) := (hb.block bb (by omega)).trans HRbb.out
    clear HRbb
    have HRbb : Hid _ := hrbb
    clear hrbb
    clear hb
    have HG : Hid _ := HAL.out.fol we9 HBwe9.out
    obtain ⟨c0, c1, c2, c3, e0, e1, e2, e3, o0, o1, o2, o3⟩ := HAL.out.cells we9 HBwe9.out
    go_wp2_with fail
    refine Calls.mono HG.out ?_
    clear HG
    clear c0 c1 c2 c3 e0 e1 e2 e3 o0 o1 o2 o3
    rintro e wf ⟨p, ev4, rfl, hb, hn⟩
    have HBwf : Hid (Below W.heap.size W wf) := HBwe9.out.trans (hb.mono HBwe9.out.size)
    have HN : Hid _ := hn
    clear hb hn
    obtain ⟨c0, c1, c2, c3, e0, e1, e2, e3, o0, o1, o2, o3⟩ := HAL.out.cells wf HBwf.out
    go_wp2_with fail
    refine Calls.mono HN.out ?_
    clear HN
    clear c0 c1 c2 c3 e0 e1 e2 e3 o0 o1 o2 o3
    rintro e wg ⟨q, er4, rfl, hpq, hb, hn⟩
    have HBwg : Hid (Below W.heap.size W wg) := HBwf.out.trans (hb.mono HBwf.out.size)
    have HN : Hid _ := hn
    clear hb hn
    go_wp2_with fail
    refine Calls.mono HN.out ?_
    clear HN
    rintro e wh ⟨rfl, hb, hn⟩
    have HBwh : Hid (Below W.heap.size W wh) := HBwg.out.trans (hb.mono HBwg.out.size)
    have HN : Hid _ := hn
    clear hb hn
    obtain ⟨c0, c1, c2, c3, e0, e1, e2, e3, o0, o1, o2, o3⟩ := HAL.out.cells wh HBwh.out
    go_wp2_with fail
    refine Calls.mono HN.out ?_
    clear HN
    clear c0 c1 c2 c3 e0 e1 e2 e3 o0 o1 o2 o3
    rintro e wi ⟨rfl, hb⟩
    have HBwi : Hid (Below W.heap.size W wi) := HBwh.out.trans (hb.mono HBwh.out.size)
    clear hb
    go_wp2_with fail
    go_ret
    exact ⟨rfl, HRR.out _ HBwi.out⟩
end Go.Proofs.YtpjjpmikhjlgnaaGreatDoor
