/-
  The walk of the law 'DiffBack', told apart from what its callees do.
  Conditions: those that stand ahead of the theorem: a contract for each call.
-/
import Derived.Test.YtilkjafggfdjeabDoorBoxes
import Derived.Deep.RegionHeld3
import Derived.Deep.DrawnRows
import Derived.Deep.DeepCutAuto
import Derived.Deep.DeepFit
namespace Go.Proofs.YtilkjafggfdjeabDoor
open Go.RowKit
attribute [local go_sem ↓] Go.wp_at_zero Go.wp_at_succ

/-- Both Gets of a change's path are made: what they say, and Same. -/
def DbBoth (kd : ByteArray) (k4 d4 : ByteArray) (x4 : Bool) (a4 : Option Addr) (n4 c4 : Nat) (k5 d5 : ByteArray) (x5 : Bool) (a5 : Option Addr) (n5 c5 : Nat) (pb : Nat) (H : World → Prop) (e1 e2 : Value) (w : World) : Prop := H w ∧ (w.cell? ⟨pb, 0, none⟩ = some (.string k4) ∧ w.cell? ⟨pb, 1, none⟩ = some (.string d4) ∧ w.cell? ⟨pb, 2, none⟩ = some (.bool x4) ∧ w.cell? ⟨pb, 3, none⟩ = some (.slice a4 n4 c4)) ∧
  (((kd.toList == [97, 100, 100]) = true ∧ (kd.toList == [100, 114, 111, 112]) = false ∧ (∃ ty q, e1 = .iface ty q) ∧ e2 = .nilIface) ∨
   ((kd.toList == [97, 100, 100]) = false ∧ (kd.toList == [100, 114, 111, 112]) = true ∧ e1 = .nilIface ∧ ∃ ty q, e2 = .iface ty q) ∨
   ((kd.toList == [97, 100, 100]) = false ∧ (kd.toList == [100, 114, 111, 112]) = false ∧ e1 = .nilIface ∧ e2 = .nilIface ∧ ∀ w', Below w.heap.size w w' → Calls Tryd.prog 12 #[.agg #[.string k4, .string d4, .bool x4, .slice a4 n4 c4], .agg #[.string k5, .string d5, .bool x5, .slice a5 n5 c5]] w' fun e w'' => e = .returned (.bool false) ∧ H w''))
/-- The first Get is made. -/
def DbOne (kd pt : ByteArray) (k2 d2 : ByteArray) (x2 : Bool) (yb : Option Addr) (vn yc : Nat) (k4 d4 : ByteArray) (x4 : Bool) (a4 : Option Addr) (n4 c4 : Nat) (pb : Nat) (H : World → Prop) (e1 : Value) (w : World) : Prop := H w ∧
  ∀ w', Below w.heap.size w w' → Calls Tryd.prog 11 #[.agg #[.string k2, .string d2, .bool x2, .slice yb vn yc], .string pt] w' fun e w3 => ∃ k5 d5 x5 a5 n5 c5 e2, e = .returned (.tuple #[.agg #[.string k5, .string d5, .bool x5, .slice a5 n5 c5], e2]) ∧ Below w'.heap.size w' w3 ∧
    ∀ qb w4, ButUp qb w3 w4 → w.heap.size ≤ qb → (qb < w'.heap.size ∨ w3.heap.size ≤ qb) → DbBoth kd k4 d4 x4 a4 n4 c4 k5 d5 x5 a5 n5 c5 pb H e1 e2 w4
/-- What the law asks of its calls behind the changes l, in the world w5. -/
structure DbTail (k d : ByteArray) (x : Bool) (xa : Option Addr) (un xc : Nat) (k2 d2 : ByteArray) (x2 : Bool) (yb : Option Addr) (vn yc : Nat) (xb zb : Nat) (R H : World → Prop) (va : Option Addr) (n : Nat) (K T : Nat → ByteArray) (w5 : World) : Prop where
  low : ∀ w', H w' → w5.heap.size ≤ w'.heap.size
  on : ∀ w' w'', H w' → Below w'.heap.size w' w'' → H w''
  but : ∀ b w' w'', H w' → ButUp b w' w'' → w5.heap.size ≤ b → H w''
  cells : ∀ w', H w' → w'.cell? ⟨xb, 0, none⟩ = some (.string k) ∧ w'.cell? ⟨xb, 1, none⟩ = some (.string d) ∧ w'.cell? ⟨xb, 2, none⟩ = some (.bool x) ∧ w'.cell? ⟨xb, 3, none⟩ = some (.slice xa un xc) ∧ w'.cell? ⟨zb, 0, none⟩ = some (.string k2) ∧ w'.cell? ⟨zb, 1, none⟩ = some (.string d2) ∧ w'.cell? ⟨zb, 2, none⟩ = some (.bool x2) ∧ w'.cell? ⟨zb, 3, none⟩ = some (.slice yb vn yc)
  chg : ∀ w', H w' → ∀ j, j < n → ∃ b off, va = some ⟨b, off, none⟩ ∧ w'.cell? ⟨b, off + j * 6, none⟩ = some (.string (K j)) ∧ w'.cell? ⟨b, off + j * 6 + 1, none⟩ = some (.string (T j))
  gets : ∀ w', H w' → ∀ j, j < n → Calls Tryd.prog 11 #[.agg #[.string k, .string d, .bool x, .slice xa un xc], .string (T j)] w' fun e w1 => ∃ k4 d4 x4 a4 n4 c4 e1, e = .returned (.tuple #[.agg #[.string k4, .string d4, .bool x4, .slice a4 n4 c4], e1]) ∧ Below w'.heap.size w' w1 ∧
    ∀ pb w2, ButUp pb w1 w2 → w5.heap.size ≤ pb → (pb < w'.heap.size ∨ w1.heap.size ≤ pb) → (w2.cell? ⟨pb, 0, none⟩ = some (.string k4) ∧ w2.cell? ⟨pb, 1, none⟩ = some (.string d4) ∧ w2.cell? ⟨pb, 2, none⟩ = some (.bool x4) ∧ w2.cell? ⟨pb, 3, none⟩ = some (.slice a4 n4 c4)) → DbOne (K j) (T j) k2 d2 x2 yb vn yc k4 d4 x4 a4 n4 c4 pb H e1 w2
  few : n ≤ 1000000
  ends : ∀ w', H w' → R w'
/-- The two Sames. -/
def DbSames (k d : ByteArray) (x : Bool) (xa : Option Addr) (un xc : Nat) (k2 d2 : ByteArray) (x2 : Bool) (yb : Option Addr) (vn yc : Nat) (k3 d3 : ByteArray) (x3 : Bool) (a3 : Option Addr) (n3 c3 : Nat) (sb : Bool) (H : World → Prop) (w : World) : Prop := Calls Tryd.prog 12 #[.agg #[.string k3, .string d3, .bool x3, .slice a3 n3 c3], .agg #[.string k2, .string d2, .bool x2, .slice yb vn yc]] w fun e w1 => e = .returned (.bool true) ∧ H w1 ∧ ∀ w', H w' → Calls Tryd.prog 12 #[.agg #[.string k, .string d, .bool x, .slice xa un xc], .agg #[.string k2, .string d2, .bool x2, .slice yb vn yc]] w' fun e w2 => e = .returned (.bool sb) ∧ H w2
/-- Diff, Apply, Diff of the second with itself. -/
def DbDiff (k d : ByteArray) (x : Bool) (xa : Option Addr) (un xc : Nat) (k2 d2 : ByteArray) (x2 : Bool) (yb : Option Addr) (vn yc : Nat) (xb zb : Nat) (R : World → Prop) (w : World) : Prop :=
  Calls Tryd.prog 21 #[.agg #[.string k, .string d, .bool x, .slice xa un xc], .agg #[.string k2, .string d2, .bool x2, .slice yb vn yc]] w fun e w5 => (∃ ty q, e = .returned (.tuple #[.slice none 0 0, .iface ty q]) ∧ R w5) ∨
    ∃ va n vc H K T sb, e = .returned (.tuple #[.slice va n vc, .nilIface]) ∧ H w5 ∧ DbTail k d x xa un xc k2 d2 x2 yb vn yc xb zb R H va n K T w5 ∧ decide (n = 0) = sb ∧
      Calls Tryd.prog 22 #[.agg #[.string k, .string d, .bool x, .slice xa un xc], .slice va n vc] w5 fun e w6 => ∃ k3 d3 x3 a3 n3 c3, e = .returned (.tuple #[.agg #[.string k3, .string d3, .bool x3, .slice a3 n3 c3], .nilIface]) ∧ Below w5.heap.size w5 w6 ∧
        Calls Tryd.prog 21 #[.agg #[.string k2, .string d2, .bool x2, .slice yb vn yc], .agg #[.string k2, .string d2, .bool x2, .slice yb vn yc]] (w6.alloc (.cells #[.string k3, .string d3, .bool x3, .slice a3 n3 c3] 24)) fun e w7 => ∃ oa oc, e = .returned (.tuple #[.slice oa 0 oc, .nilIface]) ∧ Below (w6.alloc (.cells #[.string k3, .string d3, .bool x3, .slice a3 n3 c3] 24)).heap.size (w6.alloc (.cells #[.string k3, .string d3, .bool x3, .slice a3 n3 c3] 24)) w7 ∧ DbSames k d x xa un xc k2 d2 x2 yb vn yc k3 d3 x3 a3 n3 c3 sb H w7
/-- The two copies. -/
def DbOwns (k d : ByteArray) (x : Bool) (ua : Option Addr) (un uc : Nat) (k2 d2 : ByteArray) (x2 : Bool) (ub : Option Addr) (vn vc : Nat) (b0 : Nat) (R : World → Prop) (w' : World) : Prop :=
  Calls Tryd.prog 9 #[.agg #[.string k, .string d, .bool x, .slice ua un uc]] w' fun e w1 => ∃ xa xc, e = .returned (.agg #[.string k, .string d, .bool x, .slice xa un xc]) ∧ ((w1.alloc (.cells #[.string k, .string d, .bool x, .slice xa un xc] 24)).cell? ⟨b0 + 1, 0, none⟩ = some (.string k2) ∧ (w1.alloc (.cells #[.string k, .string d, .bool x, .slice xa un xc] 24)).cell? ⟨b0 + 1, 1, none⟩ = some (.string d2) ∧ (w1.alloc (.cells #[.string k, .string d, .bool x, .slice xa un xc] 24)).cell? ⟨b0 + 1, 2, none⟩ = some (.bool x2) ∧ (w1.alloc (.cells #[.string k, .string d, .bool x, .slice xa un xc] 24)).cell? ⟨b0 + 1, 3, none⟩ = some (.slice ub vn vc)) ∧
    Calls Tryd.prog 9 #[.agg #[.string k2, .string d2, .bool x2, .slice ub vn vc]] (w1.alloc (.cells #[.string k, .string d, .bool x, .slice xa un xc] 24)) fun e w2 => ∃ yb yc, e = .returned (.agg #[.string k2, .string d2, .bool x2, .slice yb vn yc]) ∧ ((w2.alloc (.cells #[.string k2, .string d2, .bool x2, .slice yb vn yc] 24)).cell? ⟨w1.heap.size, 0, none⟩ = some (.string k) ∧ (w2.alloc (.cells #[.string k2, .string d2, .bool x2, .slice yb vn yc] 24)).cell? ⟨w1.heap.size, 1, none⟩ = some (.string d) ∧ (w2.alloc (.cells #[.string k2, .string d2, .bool x2, .slice yb vn yc] 24)).cell? ⟨w1.heap.size, 2, none⟩ = some (.bool x) ∧ (w2.alloc (.cells #[.string k2, .string d2, .bool x2, .slice yb vn yc] 24)).cell? ⟨w1.heap.size, 3, none⟩ = some (.slice xa un xc)) ∧ DbDiff k d x xa un xc k2 d2 x2 yb vn yc w1.heap.size w2.heap.size R (w2.alloc (.cells #[.string k2, .string d2, .bool x2, .slice yb vn yc] 24))

set_option maxRecDepth 100000 in
set_option maxHeartbeats 8000000 in
theorem dback_skel (k d : ByteArray) (x : Bool) (ua : Option Addr) (un uc : Nat) (k2 d2 : ByteArray) (x2 : Bool) (ub : Option Addr) (vn vc : Nat) (w : World) (la lb : Int) (hla : la = 0 ∨ la = 1) (hlb : lb = 0 ∨ lb = 1)
    (R G : World → Prop) (HR : Hid (∀ w', G w' → R w'))
    (HT : Hid (Calls Tryd.prog 20 #[] ((w.alloc (.cells #[.string k, .string d, .bool x, .slice ua un uc] 24)).alloc (.cells #[.string k2, .string d2, .bool x2, .slice ub vn vc] 24)) fun e w' => e = .returned (.bool true) ∧ G w'))
    (HD : Hid (∀ w', G w' → G w'.drew))
    (HK : Hid (∀ w', G w' → w'.cell? ⟨w.heap.size, 0, none⟩ = some (.string k) ∧ w'.cell? ⟨w.heap.size, 1, none⟩ = some (.string d) ∧ w'.cell? ⟨w.heap.size, 2, none⟩ = some (.bool x) ∧ w'.cell? ⟨w.heap.size, 3, none⟩ = some (.slice ua un uc) ∧ w'.cell? ⟨w.heap.size + 1, 0, none⟩ = some (.string k2) ∧ w'.cell? ⟨w.heap.size + 1, 1, none⟩ = some (.string d2) ∧ w'.cell? ⟨w.heap.size + 1, 2, none⟩ = some (.bool x2) ∧ w'.cell? ⟨w.heap.size + 1, 3, none⟩ = some (.slice ub vn vc)))
    (HGS : Hid (∀ w', G w' → Calls Tryd.prog 8 #[.agg #[.string k, .string d, .bool x, .slice ua un uc], .int .i64 60] w' fun e w'' => e = .returned (.int .i64 la) ∧ G w''))
    (HGT : Hid (∀ w', G w' → Calls Tryd.prog 8 #[.agg #[.string k2, .string d2, .bool x2, .slice ub vn vc], .int .i64 60] w' fun e w'' => e = .returned (.int .i64 lb) ∧ G w''))
    (HO : Hid (la + lb = 0 → ∀ w', G w' → DbOwns k d x ua un uc k2 d2 x2 ub vn vc w.heap.size R w')) :
    Calls Tryd.prog 6 #[.agg #[.string k, .string d, .bool x, .slice ua un uc], .agg #[.string k2, .string d2, .bool x2, .slice ub vn vc]] w fun e w' => e = .returned (.bool true) ∧ R w' := by
  go_enter Tryd.func6, Tryd.ntmps6
  go_wp2_with fail
  refine Calls.mono HT.out ?_
  rintro e w2 ⟨rfl, hg2⟩
  have wk : IntKind.i64.wrap (la + lb) = la + lb := by
    rcases hla with rfl | rfl <;> rcases hlb with rfl | rfl <;> decide
  have hlo : 0 ≤ la + lb := by omega
  clear hla hlb HT
  go_upto_region 2 with fail
  go_cut [28] (fun c wx => c = .bool (decide (0 < la + lb)) ∧ G wx)
  case first =>
    refine wp_region_held_drew (S := fun w' => w'.cell? ⟨w.heap.size, 0, none⟩ = some (.string k) ∧ w'.cell? ⟨w.heap.size, 1, none⟩ = some (.string d) ∧ w'.cell? ⟨w.heap.size, 2, none⟩ = some (.bool x) ∧ w'.cell? ⟨w.heap.size, 3, none⟩ = some (.slice ua un uc) ∧ w'.cell? ⟨w.heap.size + 1, 0, none⟩ = some (.string k2) ∧ w'.cell? ⟨w.heap.size + 1, 1, none⟩ = some (.string d2) ∧ w'.cell? ⟨w.heap.size + 1, 2, none⟩ = some (.bool x2) ∧ w'.cell? ⟨w.heap.size + 1, 3, none⟩ = some (.slice ub vn vc)) (by kernel_rfl) (HK.out _ (HD.out _ hg2)) (fun hHeld => ?_)
    refine wpAnyH_take (i := 0) (v := .bool true) rfl (by kernel_rfl) (by kernel_rfl) (by kernel_rfl) (fun _ _ _ h => h) (Or.inl ⟨by rfl, ?_⟩) hHeld ?_
    · intro w hSw; (try dsimp only at hSw); simp only [List.getElem_toArray, List.getElem_cons_zero]; go_simp
    simp only [List.getElem_toArray, List.getElem_cons_zero, Act.put, List.setIfInBounds_toArray, List.set_cons_zero, List.set_cons_succ]
    refine wpAnyH_take (i := 1) (v := .bool false) rfl (by kernel_rfl) (by kernel_rfl) (by kernel_rfl) (fun _ _ _ h => h) (Or.inl ⟨by rfl, ?_⟩) hHeld ?_
    · intro w hSw; (try dsimp only at hSw); simp only [List.getElem_toArray, List.getElem_cons_zero, List.getElem_cons_succ]; go_simp
    simp only [List.getElem_toArray, List.getElem_cons_zero, List.getElem_cons_succ, Act.put, List.setIfInBounds_toArray, List.set_cons_zero, List.set_cons_succ]
    refine wpAnyH_take (i := 2) (v := .bool false) rfl (by kernel_rfl) (by kernel_rfl) (by kernel_rfl) (fun _ _ _ h => h) (Or.inl ⟨by rfl, ?_⟩) hHeld ?_
    · intro w hSw; (try dsimp only at hSw); simp only [List.getElem_toArray, List.getElem_cons_zero, List.getElem_cons_succ]; go_simp
    simp only [List.getElem_toArray, List.getElem_cons_zero, List.getElem_cons_succ, Act.put, List.setIfInBounds_toArray, List.set_cons_zero, List.set_cons_succ]
    refine wpAnyH_take (i := 3) (v := .agg #[.string k, .string d, .bool x, .slice ua un uc]) rfl (by kernel_rfl) (by kernel_rfl) (by kernel_rfl) (fun _ _ _ h => h) (Or.inl ⟨by rfl, ?_⟩) hHeld ?_
    · intro w hSw; (try dsimp only at hSw); simp only [List.getElem_toArray, List.getElem_cons_zero, List.getElem_cons_succ]; go_simp
    simp only [List.getElem_toArray, List.getElem_cons_zero, List.getElem_cons_succ, Act.put, List.setIfInBounds_toArray, List.set_cons_zero, List.set_cons_succ]
    refine wpAnyH_take (i := 5) (v := .agg #[.string k2, .string d2, .bool x2, .slice ub vn vc]) rfl (by kernel_rfl) (by kernel_rfl) (by kernel_rfl) (fun _ _ _ h => h) (Or.inl ⟨by rfl, ?_⟩) hHeld ?_
    · intro w hSw; (try dsimp only at hSw); simp only [List.getElem_toArray, List.getElem_cons_zero, List.getElem_cons_succ]; go_simp
    simp only [List.getElem_toArray, List.getElem_cons_zero, List.getElem_cons_succ, Act.put, List.setIfInBounds_toArray, List.set_cons_zero, List.set_cons_succ]
    refine wpAnyH_ready (rs := [4]) (by kernel_rfl) (by simp) ?_
    refine AllReadyH.cons rfl (fun K' hK => ?_) AllReadyH.nil
    simp only [List.getElem_toArray, List.getElem_cons_zero, List.getElem_cons_succ]
    go_simp
    refine Calls.mono (HGS.out _ (HD.out _ hg2)) ?_
    rintro e wx ⟨rfl, hg⟩
    go_wp2_with fail
    refine hK.out _ _ (HK.out _ hg) (fun hHeld' => ?_)
    clear hK K' hHeld
    have hHeld := hHeld'
    clear hHeld'
    refine wpAnyH_ready (rs := [6]) (by kernel_rfl) (by simp) ?_
    refine AllReadyH.cons rfl (fun K' hK => ?_) AllReadyH.nil
    simp only [List.getElem_toArray, List.getElem_cons_zero, List.getElem_cons_succ]
    go_simp
    refine Calls.mono (HGT.out _ hg) ?_
    rintro e wx ⟨rfl, hg'⟩
    go_wp2_with fail
    refine hK.out _ _ (HK.out _ hg') (fun hHeld' => ?_)
    clear hK K' hHeld
    have hHeld := hHeld'
    clear hHeld'
    refine wpAnyH_take (i := 7) (v := .int .i64 (la + lb)) rfl (by kernel_rfl) (by kernel_rfl) (by kernel_rfl) (fun _ _ _ h => h) (Or.inl ⟨by rfl, ?_⟩) hHeld ?_
    · intro w hSw; (try dsimp only at hSw); simp only [List.getElem_toArray, List.getElem_cons_zero, List.getElem_cons_succ]; go_simp
    simp only [List.getElem_toArray, List.getElem_cons_zero, List.getElem_cons_succ, Act.put, List.setIfInBounds_toArray, List.set_cons_zero, List.set_cons_succ]
    by_cases hbig : 0 < la + lb
    · skip
      refine wpAnyH_take (i := 8) (v := .bool true) rfl (by kernel_rfl) (by kernel_rfl) (by kernel_rfl) (fun _ _ _ h => h) (Or.inl ⟨by rfl, ?_⟩) hHeld ?_
      · intro w hSw; (try dsimp only at hSw); simp only [List.getElem_toArray, List.getElem_cons_zero, List.getElem_cons_succ]; go_simp
      simp only [List.getElem_toArray, List.getElem_cons_zero, List.getElem_cons_succ, Act.put, List.setIfInBounds_toArray, List.set_cons_zero, List.set_cons_succ]
      refine wpAnyH_take (i := 9) (v := .bool true) rfl (by kernel_rfl) (by kernel_rfl) (by kernel_rfl) (fun _ _ _ h => h) (Or.inl ⟨by rfl, ?_⟩) hHeld ?_
      · intro w hSw; (try dsimp only at hSw); simp only [List.getElem_toArray, List.getElem_cons_zero, List.getElem_cons_succ]; go_simp
      simp only [List.getElem_toArray, List.getElem_cons_zero, List.getElem_cons_succ, Act.put, List.setIfInBounds_toArray, List.set_cons_zero, List.set_cons_succ]
      refine wpAnyH_done (by kernel_rfl) ?_ _
      go_wp2_with fail
      go_meet
      case rel => exact ⟨by rw [decide_eq_true (p := 0 < la + lb) (by omega)], hg'⟩
    · skip
      refine wpAnyH_take (i := 8) (v := .bool false) rfl (by kernel_rfl) (by kernel_rfl) (by kernel_rfl) (fun _ _ _ h => h) (Or.inl ⟨by rfl, ?_⟩) hHeld ?_
      · intro w hSw; (try dsimp only at hSw); simp only [List.getElem_toArray, List.getElem_cons_zero, List.getElem_cons_succ]; go_simp
      simp only [List.getElem_toArray, List.getElem_cons_zero, List.getElem_cons_succ, Act.put, List.setIfInBounds_toArray, List.set_cons_zero, List.set_cons_succ]
      refine wpAnyH_take (i := 9) (v := .bool false) rfl (by kernel_rfl) (by kernel_rfl) (by kernel_rfl) (fun _ _ _ h => h) (Or.inl ⟨by rfl, ?_⟩) hHeld ?_
      · intro w hSw; (try dsimp only at hSw); simp only [List.getElem_toArray, List.getElem_cons_zero, List.getElem_cons_succ]; go_simp
      simp only [List.getElem_toArray, List.getElem_cons_zero, List.getElem_cons_succ, Act.put, List.setIfInBounds_toArray, List.set_cons_zero, List.set_cons_succ]
      refine wpAnyH_done (by kernel_rfl) ?_ _
      go_wp2_with fail
      go_meet
      case rel => exact ⟨by rw [decide_eq_false (p := 0 < la + lb) (by omega)], hg'⟩
  case rest =>
    obtain ⟨rfl, hg⟩ := hcut
    by_cases hend : 0 < la + lb
    · rw [decide_eq_true hend]
      go_wp2_with fail
      go_ret
      exact ⟨rfl, HR.out _ hg⟩
    rw [decide_eq_false hend]
    have HX : Hid _ := HO.out (by omega) _ hg
    obtain ⟨d0, d1, d2', d3, hrest⟩ := HK.out _ hg
    clear hrest HGS HGT HO hend wk hlo HK HD HR hg2 w2 hg
    go_wp2_with fail
    refine Calls.mono HX.out ?_
    clear HX d0 d1 d2' d3 wc
    rintro e w3 ⟨xa, xc, rfl, ⟨b0, b1, b2, b3⟩, hob⟩
    have HOB : Hid _ := hob
    clear hob
    go_wp2_with fail
    refine Calls.mono HOB.out ?_
    clear HOB b0 b1 b2 b3
    rintro e w4 ⟨yb, yc, rfl, ⟨x0, x1, x2', x3⟩, hdf⟩
    have HDF : Hid (DbDiff k d x xa un xc k2 d2 x2 yb vn yc w3.heap.size w4.heap.size R (w4.alloc (.cells #[.string k2, .string d2, .bool x2, .slice yb vn yc] 24))) := hdf
    clear hdf
    go_wp2_with fail
    refine Calls.mono HDF.out ?_
    clear HDF x0 x1 x2' x3
    rintro e w5 (⟨ty, q, rfl, hR⟩ | ⟨va, n, vc, H, K, T, sb, rfl, hH5, ht, hsb, hap⟩)
    · have HRR : Hid _ := hR
      clear hR
      go_wp2_with fail
      go_ret
      exact ⟨rfl, HRR.out⟩
    have HT : Hid (DbTail k d x xa un xc k2 d2 x2 yb vn yc w3.heap.size w4.heap.size R H va n K T w5) := ht
    have HAP : Hid _ := hap
    have HH5 : Hid (H w5) := hH5
    clear ht hap hH5
    obtain ⟨x0, x1, x2', x3, y0, y1, y2, y3⟩ := HT.out.cells _ HH5.out
    clear y0 y1 y2 y3
    go_wp2_with fail
    refine Calls.mono HAP.out ?_
    clear HAP x0 x1 x2' x3
    rintro e w6 ⟨k3, d3, x3, a3, n3, c3, rfl, hb6, hdd⟩
    have HDD : Hid _ := hdd
    have HH6 : Hid (H (w6.alloc (.cells #[.string k3, .string d3, .bool x3, .slice a3 n3 c3] 24))) := HT.out.on _ _ HH5.out (hb6.alloc hb6.size _)
    have hlow6 := HT.out.low _ HH5.out
    have hz6 := hb6.size
    clear hdd hb6
    obtain ⟨x0, x1, x2', x3, y0, y1, y2, y3⟩ := HT.out.cells _ HH6.out
    clear x0 x1 x2' x3
    go_wp2_with fail
    refine Calls.mono HDD.out ?_
    clear HDD y0 y1 y2 y3
    rintro e w7 ⟨oa, oc, rfl, hb7, hsm⟩
    have HH7 : Hid (H w7) := HT.out.on _ _ HH6.out hb7
    have HSM : Hid _ := hsm
    obtain ⟨z0, z1, z2, z3⟩ := (row4b ((hb7.block w6.heap.size (by simp)).trans (row_alloc' w6 #[.string k3, .string d3, .bool x3, .slice a3 n3 c3] 24))).1
    obtain ⟨x0, x1, x2', x3, y0, y1, y2, y3⟩ := HT.out.cells _ HH7.out
    clear hsm hb7 x0 x1 x2' x3
    go_wp2_with fail
    refine Calls.mono HSM.out ?_
    clear HSM z0 z1 z2 z3 y0 y1 y2 y3 HH5 HH6
    rintro e w8 ⟨rfl, hH8, hs2⟩
    have HS2 : Hid _ := hs2 _ hH8
    obtain ⟨x0, x1, x2', x3, y0, y1, y2, y3⟩ := HT.out.cells _ hH8
    have hfew := HT.out.few
    clear hs2 HH7 hH8
    obtain rfl : sb = ((n : Int) == 0) := by
      rw [← hsb]
      by_cases h : n = 0
      · rw [decide_eq_true h, h]; rfl
      · rw [decide_eq_false h]
        exact (beq_eq_false_iff_ne.2 (by omega)).symm
    clear hsb
    go_wp2_with fail
    refine Calls.mono HS2.out ?_
    clear HS2 x0 x1 x2' x3 y0 y1 y2 y3
    rintro e w9 ⟨rfl, hH9⟩
    have HH9 : Hid (H w9) := hH9
    clear hH9
    go_wp2_with fail
    go_loopw [13] (fun i wr => ∃ j : Nat, j ≤ n ∧ i = .int .i64 j ∧ Hid (H wr)) (fun i _ => n - (intOf i).toNat)
    case atStart => exact ⟨0, Nat.zero_le _, rfl, HH9.out⟩
    case round =>
      obtain ⟨j, hj, rfl, HHR⟩ := hrel
      by_cases hlt : j < n
      rotate_left
      · go_wp2_with fail
        go_ret
        exact ⟨rfl, HT.out.ends _ HHR.out⟩
      obtain ⟨b, off, hva, _, _⟩ := HT.out.chg wr HHR.out j hlt
      subst hva
      have HCH : Hid (∀ w', H w' → w'.cell? ⟨b, off + j * 6, none⟩ = some (.string (K j)) ∧ w'.cell? ⟨b, off + j * 6 + 1, none⟩ = some (.string (T j))) := fun w' h => by
        obtain ⟨b', off', e, h1, h2⟩ := HT.out.chg w' h j hlt
        simp only [Option.some.injEq, Addr.mk.injEq, and_true] at e
        obtain ⟨rfl, rfl⟩ := e
        exact ⟨h1, h2⟩
      have HGE : Hid _ := fun w' (h : H w') => HT.out.gets w' h j hlt
      have hlow := HT.out.low _ HHR.out
      have hj0 : (0 : Int) ≤ (j : Int) := by omega
      have hj1 : (j : Int) < (n : Int) := by omega
      have HON : Hid (∀ w' w'', H w' → Below w'.heap.size w' w'' → H w'') := fun _ _ h h2 => HT.out.on _ _ h h2
      go_upto_region 16 with fail
      have HSa : Hid (∀ w', H w' → ((fun w' => (w'.cell? ⟨w3.heap.size, 0, none⟩ = some (.string k) ∧ w'.cell? ⟨w3.heap.size, 1, none⟩ = some (.string d) ∧ w'.cell? ⟨w3.heap.size, 2, none⟩ = some (.bool x) ∧ w'.cell? ⟨w3.heap.size, 3, none⟩ = some (.slice xa un xc)) ∧ w'.cell? ⟨b, off + j * 6 + 1, none⟩ = some (.string (T j))) w' : Prop)) := fun w' h => ⟨(by have c := HT.out.cells w' h; exact ⟨c.1, c.2.1, c.2.2.1, c.2.2.2.1⟩), (HCH.out w' h).2⟩
      go_cut [14, 15] (fun p e1 wx => ∃ pb k4 d4 x4 a4 n4 c4, p = .pointer (some ⟨pb, 0, none⟩) ∧ (wx.cell? ⟨pb, 0, none⟩ = some (.string k4) ∧ wx.cell? ⟨pb, 1, none⟩ = some (.string d4) ∧ wx.cell? ⟨pb, 2, none⟩ = some (.bool x4) ∧ wx.cell? ⟨pb, 3, none⟩ = some (.slice a4 n4 c4)) ∧ w5.heap.size ≤ pb ∧ DbOne (K j) (T j) k2 d2 x2 yb vn yc k4 d4 x4 a4 n4 c4 pb H e1 wx)
      case first =>
        refine wp_region_held_drew (S := fun w' => (w'.cell? ⟨w3.heap.size, 0, none⟩ = some (.string k) ∧ w'.cell? ⟨w3.heap.size, 1, none⟩ = some (.string d) ∧ w'.cell? ⟨w3.heap.size, 2, none⟩ = some (.bool x) ∧ w'.cell? ⟨w3.heap.size, 3, none⟩ = some (.slice xa un xc)) ∧ w'.cell? ⟨b, off + j * 6 + 1, none⟩ = some (.string (T j))) (by kernel_rfl) (HSa.out _ (HON.out _ _ HHR.out (Below.refl _ _).drew)) (fun hHeld => ?_)
        refine wpAnyH_take (i := 0) (v := .agg #[.string k, .string d, .bool x, .slice xa un xc]) rfl (by kernel_rfl) (by kernel_rfl) (by kernel_rfl) (fun _ _ _ h => h) (Or.inl ⟨by rfl, ?_⟩) hHeld ?_
        · intro w hSw; (try dsimp only at hSw); simp only [List.getElem_toArray, List.getElem_cons_zero]; go_simp
        simp only [List.getElem_toArray, List.getElem_cons_zero, Act.put, List.setIfInBounds_toArray, List.set_cons_zero, List.set_cons_succ]
        refine wpAnyH_take (i := 1) (v := .slice (some ⟨b, off, none⟩) n vc) rfl (by kernel_rfl) (by kernel_rfl) (by kernel_rfl) (fun _ _ _ h => h) (Or.inl ⟨by rfl, ?_⟩) hHeld ?_
        · intro w hSw; (try dsimp only at hSw); simp only [List.getElem_toArray, List.getElem_cons_zero, List.getElem_cons_succ]; go_simp
        simp only [List.getElem_toArray, List.getElem_cons_zero, List.getElem_cons_succ, Act.put, List.setIfInBounds_toArray, List.set_cons_zero, List.set_cons_succ]
        refine wpAnyH_take (i := 2) (v := .int .i64 (j : Int)) rfl (by kernel_rfl) (by kernel_rfl) (by kernel_rfl) (fun _ _ _ h => h) (Or.inl ⟨by rfl, ?_⟩) hHeld ?_
        · intro w hSw; (try dsimp only at hSw); simp only [List.getElem_toArray, List.getElem_cons_zero, List.getElem_cons_succ]; go_simp
        simp only [List.getElem_toArray, List.getElem_cons_zero, List.getElem_cons_succ, Act.put, List.setIfInBounds_toArray, List.set_cons_zero, List.set_cons_succ]
        refine wpAnyH_take (i := 3) (v := .pointer (some ⟨b, off + j * 6, none⟩)) rfl (by kernel_rfl) (by kernel_rfl) (by kernel_rfl) (fun _ _ _ h => h) (Or.inl ⟨by rfl, ?_⟩) hHeld ?_
        · intro w hSw; (try dsimp only at hSw); simp only [List.getElem_toArray, List.getElem_cons_zero, List.getElem_cons_succ]; go_simp
        simp only [List.getElem_toArray, List.getElem_cons_zero, List.getElem_cons_succ, Act.put, List.setIfInBounds_toArray, List.set_cons_zero, List.set_cons_succ]
        refine wpAnyH_take (i := 4) (v := .pointer (some ⟨b, off + j * 6 + 1, none⟩)) rfl (by kernel_rfl) (by kernel_rfl) (by kernel_rfl) (fun _ _ _ h => h) (Or.inl ⟨by rfl, ?_⟩) hHeld ?_
        · intro w hSw; (try dsimp only at hSw); simp only [List.getElem_toArray, List.getElem_cons_zero, List.getElem_cons_succ]; go_simp
        simp only [List.getElem_toArray, List.getElem_cons_zero, List.getElem_cons_succ, Act.put, List.setIfInBounds_toArray, List.set_cons_zero, List.set_cons_succ]
        refine wpAnyH_take (i := 5) (v := .string (T j)) rfl (by kernel_rfl) (by kernel_rfl) (by kernel_rfl) (fun _ _ _ h => h) (Or.inl ⟨by rfl, ?_⟩) hHeld ?_
        · intro w hSw; (try dsimp only at hSw); simp only [List.getElem_toArray, List.getElem_cons_zero, List.getElem_cons_succ]; go_simp
        simp only [List.getElem_toArray, List.getElem_cons_zero, List.getElem_cons_succ, Act.put, List.setIfInBounds_toArray, List.set_cons_zero, List.set_cons_succ]
        refine wpAnyH_ready (rs := [6, 10]) (by kernel_rfl) (by simp) ?_
        refine AllReadyH.cons rfl (fun K' hK => ?_) (AllReadyH.cons rfl (fun K' hK => ?_) AllReadyH.nil)
        · skip
          simp only [List.getElem_toArray, List.getElem_cons_zero, List.getElem_cons_succ]
          go_simp
          refine Calls.mono (HGE.out _ (HON.out _ _ HHR.out (Below.refl _ _).drew)) ?_
          rintro e wg ⟨k4, d4, x4, a4, n4, c4, e1, rfl, hbg, haf⟩
          have HAF : Hid _ := haf
          have HHG : Hid (H wg) := HON.out _ _ (HON.out _ _ HHR.out (Below.refl _ _).drew) hbg
          have hzg := hbg.size
          have hlg := HT.out.low _ HHG.out
          clear hbg
          clear haf
          go_wp2_with fail
          refine hK.out _ _ (HSa.out _ HHG.out) (fun hHeld' => ?_)
          clear hK K' hHeld
          have hHeld := hHeld'
          clear hHeld'
          refine wpAnyH_take (i := 7) (v := .tuple #[.agg #[.string k4, .string d4, .bool x4, .slice a4 n4 c4], e1]) rfl (by kernel_rfl) (by kernel_rfl) (by kernel_rfl) (fun _ _ _ h => h) (Or.inl ⟨by rfl, ?_⟩) hHeld ?_
          · intro w hSw; (try dsimp only at hSw); simp only [List.getElem_toArray, List.getElem_cons_zero, List.getElem_cons_succ]; go_simp
          simp only [List.getElem_toArray, List.getElem_cons_zero, List.getElem_cons_succ, Act.put, List.setIfInBounds_toArray, List.set_cons_zero, List.set_cons_succ]
          refine wpAnyH_take (i := 8) (v := .agg #[.string k4, .string d4, .bool x4, .slice a4 n4 c4]) rfl (by kernel_rfl) (by kernel_rfl) (by kernel_rfl) (fun _ _ _ h => h) (Or.inl ⟨by rfl, ?_⟩) hHeld ?_
          · intro w hSw; (try dsimp only at hSw); simp only [List.getElem_toArray, List.getElem_cons_zero, List.getElem_cons_succ]; go_simp
          simp only [List.getElem_toArray, List.getElem_cons_zero, List.getElem_cons_succ, Act.put, List.setIfInBounds_toArray, List.set_cons_zero, List.set_cons_succ]
          refine wpAnyH_take (i := 9) (v := e1) rfl (by kernel_rfl) (by kernel_rfl) (by kernel_rfl) (fun _ _ _ h => h) (Or.inl ⟨by rfl, ?_⟩) hHeld ?_
          · intro w hSw; (try dsimp only at hSw); simp only [List.getElem_toArray, List.getElem_cons_zero, List.getElem_cons_succ]; go_simp
          simp only [List.getElem_toArray, List.getElem_cons_zero, List.getElem_cons_succ, Act.put, List.setIfInBounds_toArray, List.set_cons_zero, List.set_cons_succ]
          refine wpAnyH_ready (rs := [10]) (by kernel_rfl) (by simp) ?_
          refine AllReadyH.cons rfl (fun K' hK => ?_) AllReadyH.nil
          simp only [List.getElem_toArray, List.getElem_cons_zero, List.getElem_cons_succ]
          go_simp
          go_wp2_with fail
          have HH8 : Hid (H (wg.alloc (.cells #[.string { data := #[] }, .string { data := #[] }, .bool false, .slice none 0 0] 24))) := HON.out _ _ HHG.out ((Below.refl _ _).alloc (Nat.le_refl _) _)
          refine hK.out _ _ (HSa.out _ HH8.out) (fun hHeld' => ?_)
          clear hK K' hHeld
          have hHeld := hHeld'
          clear hHeld'
          have hr9 := row_alloc' wg #[.string k4, .string d4, .bool x4, .slice a4 n4 c4] 24
          have HH9 : Hid (H (wg.alloc (.cells #[.string k4, .string d4, .bool x4, .slice a4 n4 c4] 24))) := HON.out _ _ HHG.out ((Below.refl _ _).alloc (Nat.le_refl _) _)
          have HC9 : Hid _ := (row4b hr9).1
          have HA9 : Hid _ := HAF.out (wg.heap.size) (wg.alloc (.cells #[.string k4, .string d4, .bool x4, .slice a4 n4 c4] 24)) (ButUp.of_below ((Below.refl _ _).alloc (Nat.le_refl _) _)) (hlg) (.inr (Nat.le_refl _)) HC9.out
          have HLB : Hid (w5.heap.size ≤ wg.heap.size) := hlg
          clear hr9
          refine wpAnyH_ready (rs := [11]) (by kernel_rfl) (by simp) ?_
          refine AllReadyH.cons rfl (fun K' hK => ?_) AllReadyH.nil
          simp only [List.getElem_toArray, List.getElem_cons_zero, List.getElem_cons_succ]
          go_simp
          go_wp2_with fail
          refine hK.out _ _ (HSa.out _ HH9.out) (fun hHeld' => ?_)
          clear hK K' hHeld
          have hHeld := hHeld'
          clear hHeld'
          refine wpAnyH_take (i := 12) (v := e1) rfl (by kernel_rfl) (by kernel_rfl) (by kernel_rfl) (fun _ _ _ h => h) (Or.inl ⟨by rfl, ?_⟩) hHeld ?_
          · intro w hSw; (try dsimp only at hSw); simp only [List.getElem_toArray, List.getElem_cons_zero, List.getElem_cons_succ]; go_simp
          simp only [List.getElem_toArray, List.getElem_cons_zero, List.getElem_cons_succ, Act.put, List.setIfInBounds_toArray, List.set_cons_zero, List.set_cons_succ]
          refine wpAnyH_done (by kernel_rfl) ?_ _
          go_wp2_with fail
          go_meet
          case rel => exact ⟨wg.heap.size, k4, d4, x4, a4, n4, c4, rfl, HC9.out, HLB.out, HA9.out⟩
        · skip
          simp only [List.getElem_toArray, List.getElem_cons_zero, List.getElem_cons_succ]
          go_simp
          go_wp2_with fail
          have HBZ : Hid (Below wr.heap.size wr (wr.alloc (.cells #[.string { data := #[] }, .string { data := #[] }, .bool false, .slice none 0 0] 24)).drew) := ((Below.refl _ _).alloc (Nat.le_refl _) _).drew
          have HH8 : Hid (H (wr.alloc (.cells #[.string { data := #[] }, .string { data := #[] }, .bool false, .slice none 0 0] 24)).drew) := HON.out _ _ HHR.out HBZ.out
          refine hK.out _ _ (HSa.out _ HH8.out) (fun hHeld' => ?_)
          clear hK K' hHeld
          have hHeld := hHeld'
          clear hHeld'
          refine wpAnyH_ready (rs := [6]) (by kernel_rfl) (by simp) ?_
          refine AllReadyH.cons rfl (fun K' hK => ?_) AllReadyH.nil
          simp only [List.getElem_toArray, List.getElem_cons_zero, List.getElem_cons_succ]
          go_simp
          refine Calls.mono (HGE.out _ (HH8.out)) ?_
          rintro e wg ⟨k4, d4, x4, a4, n4, c4, e1, rfl, hbg, haf⟩
          have HAF : Hid _ := haf
          have HHG : Hid (H wg) := HON.out _ _ (HH8.out) hbg
          have hzg := hbg.size
          have hlg := HT.out.low _ HHG.out
          have hzz : wr.heap.size + 1 ≤ wg.heap.size := by
            have h : (wr.alloc (.cells #[.string { data := #[] }, .string { data := #[] }, .bool false, .slice none 0 0] 24)).heap.size ≤ wg.heap.size := hzg
            simpa using h
          have hrow9 : wg.heap[wr.heap.size]? = some (.cells #[.string { data := #[] }, .string { data := #[] }, .bool false, .slice none 0 0] 24 (0, 0)) := (hbg.block wr.heap.size (show wr.heap.size < (wr.alloc (.cells #[.string { data := #[] }, .string { data := #[] }, .bool false, .slice none 0 0] 24)).heap.size by simp)).trans (row_alloc' wr _ _)
          clear hbg
          clear haf
          go_wp2_with fail
          refine hK.out _ _ (HSa.out _ HHG.out) (fun hHeld' => ?_)
          clear hK K' hHeld
          have hHeld := hHeld'
          clear hHeld'
          refine wpAnyH_take (i := 7) (v := .tuple #[.agg #[.string k4, .string d4, .bool x4, .slice a4 n4 c4], e1]) rfl (by kernel_rfl) (by kernel_rfl) (by kernel_rfl) (fun _ _ _ h => h) (Or.inl ⟨by rfl, ?_⟩) hHeld ?_
          · intro w hSw; (try dsimp only at hSw); simp only [List.getElem_toArray, List.getElem_cons_zero, List.getElem_cons_succ]; go_simp
          simp only [List.getElem_toArray, List.getElem_cons_zero, List.getElem_cons_succ, Act.put, List.setIfInBounds_toArray, List.set_cons_zero, List.set_cons_succ]
          refine wpAnyH_take (i := 8) (v := .agg #[.string k4, .string d4, .bool x4, .slice a4 n4 c4]) rfl (by kernel_rfl) (by kernel_rfl) (by kernel_rfl) (fun _ _ _ h => h) (Or.inl ⟨by rfl, ?_⟩) hHeld ?_
          · intro w hSw; (try dsimp only at hSw); simp only [List.getElem_toArray, List.getElem_cons_zero, List.getElem_cons_succ]; go_simp
          simp only [List.getElem_toArray, List.getElem_cons_zero, List.getElem_cons_succ, Act.put, List.setIfInBounds_toArray, List.set_cons_zero, List.set_cons_succ]
          refine wpAnyH_take (i := 9) (v := e1) rfl (by kernel_rfl) (by kernel_rfl) (by kernel_rfl) (fun _ _ _ h => h) (Or.inl ⟨by rfl, ?_⟩) hHeld ?_
          · intro w hSw; (try dsimp only at hSw); simp only [List.getElem_toArray, List.getElem_cons_zero, List.getElem_cons_succ]; go_simp
          simp only [List.getElem_toArray, List.getElem_cons_zero, List.getElem_cons_succ, Act.put, List.setIfInBounds_toArray, List.set_cons_zero, List.set_cons_succ]
          obtain ⟨⟨q0, q1, q2, q3⟩, g0, g1, g2, g3⟩ := row4b hrow9
          have hS9 := ((((But1.refl wr.heap.size wg).set 0 (.string k4)).set 1 (.string d4)).set 2 (.bool x4)).set 3 (.slice a4 n4 c4)
          have hr9 := set4b_row hrow9 (.string k4) (.string d4) (.bool x4) (.slice a4 n4 c4)
          have HLB : Hid (w5.heap.size ≤ wr.heap.size) := HT.out.low _ HHR.out
          have HH9 : Hid (H ((((wg.setCell ⟨wr.heap.size, 0, none⟩ (.string k4)).setCell ⟨wr.heap.size, 1, none⟩ (.string d4)).setCell ⟨wr.heap.size, 2, none⟩ (.bool x4)).setCell ⟨wr.heap.size, 3, none⟩ (.slice a4 n4 c4))) := HT.out.but _ _ _ HHG.out (ButUp.of_but hS9) HLB.out
          have HC9 : Hid _ := (row4b hr9).1
          have HA9 : Hid _ := HAF.out (wr.heap.size) ((((wg.setCell ⟨wr.heap.size, 0, none⟩ (.string k4)).setCell ⟨wr.heap.size, 1, none⟩ (.string d4)).setCell ⟨wr.heap.size, 2, none⟩ (.bool x4)).setCell ⟨wr.heap.size, 3, none⟩ (.slice a4 n4 c4)) (ButUp.of_but hS9) (HLB.out) (.inl (show wr.heap.size < (wr.alloc (.cells #[.string { data := #[] }, .string { data := #[] }, .bool false, .slice none 0 0] 24)).heap.size by simp)) HC9.out
          clear hr9 hS9 hrow9
          refine wpAnyH_ready (rs := [11]) (by kernel_rfl) (by simp) ?_
          refine AllReadyH.cons rfl (fun K' hK => ?_) AllReadyH.nil
          simp only [List.getElem_toArray, List.getElem_cons_zero, List.getElem_cons_succ]
          go_simp
          go_wp2_with fail
          refine hK.out _ _ (HSa.out _ HH9.out) (fun hHeld' => ?_)
          clear hK K' hHeld
          have hHeld := hHeld'
          clear hHeld'
          refine wpAnyH_take (i := 12) (v := e1) rfl (by kernel_rfl) (by kernel_rfl) (by kernel_rfl) (fun _ _ _ h => h) (Or.inl ⟨by rfl, ?_⟩) hHeld ?_
          · intro w hSw; (try dsimp only at hSw); simp only [List.getElem_toArray, List.getElem_cons_zero, List.getElem_cons_succ]; go_simp
          simp only [List.getElem_toArray, List.getElem_cons_zero, List.getElem_cons_succ, Act.put, List.setIfInBounds_toArray, List.set_cons_zero, List.set_cons_succ]
          refine wpAnyH_done (by kernel_rfl) ?_ _
          go_wp2_with fail
          go_meet
          case rel => exact ⟨wr.heap.size, k4, d4, x4, a4, n4, c4, rfl, HC9.out, HLB.out, HA9.out⟩
      case rest =>
        obtain ⟨pb, k4, d4, x4, a4, n4, c4, rfl, hcp, hlp, hone⟩ := hcut
        rename World => wp
        obtain ⟨hH1, h1n⟩ := hone
        have HH1 : Hid (H wp) := hH1
        have HON1 : Hid _ := h1n
        clear hH1 h1n hcp
        go_upto_region 17 with fail
        have HSb : Hid (∀ w', H w' → ((fun w' => (w'.cell? ⟨w4.heap.size, 0, none⟩ = some (.string k2) ∧ w'.cell? ⟨w4.heap.size, 1, none⟩ = some (.string d2) ∧ w'.cell? ⟨w4.heap.size, 2, none⟩ = some (.bool x2) ∧ w'.cell? ⟨w4.heap.size, 3, none⟩ = some (.slice yb vn yc)) ∧ w'.cell? ⟨b, off + j * 6 + 1, none⟩ = some (.string (T j))) w' : Prop)) := fun w' h => ⟨(by have c := HT.out.cells w' h; exact ⟨c.2.2.2.2.1, c.2.2.2.2.2.1, c.2.2.2.2.2.2.1, c.2.2.2.2.2.2.2⟩), (HCH.out w' h).2⟩
        go_cut [16, 17] (fun q e2 wx => ∃ qb k5 d5 x5 a5 n5 c5, q = .pointer (some ⟨qb, 0, none⟩) ∧ (wx.cell? ⟨qb, 0, none⟩ = some (.string k5) ∧ wx.cell? ⟨qb, 1, none⟩ = some (.string d5) ∧ wx.cell? ⟨qb, 2, none⟩ = some (.bool x5) ∧ wx.cell? ⟨qb, 3, none⟩ = some (.slice a5 n5 c5)) ∧ DbBoth (K j) k4 d4 x4 a4 n4 c4 k5 d5 x5 a5 n5 c5 pb H u15 e2 wx)
        case first =>
          refine wp_region_held_drew (S := fun w' => (w'.cell? ⟨w4.heap.size, 0, none⟩ = some (.string k2) ∧ w'.cell? ⟨w4.heap.size, 1, none⟩ = some (.string d2) ∧ w'.cell? ⟨w4.heap.size, 2, none⟩ = some (.bool x2) ∧ w'.cell? ⟨w4.heap.size, 3, none⟩ = some (.slice yb vn yc)) ∧ w'.cell? ⟨b, off + j * 6 + 1, none⟩ = some (.string (T j))) (by kernel_rfl) (HSb.out _ (HON.out _ _ HH1.out (Below.refl _ _).drew)) (fun hHeld => ?_)
          refine wpAnyH_take (i := 0) (v := .agg #[.string k2, .string d2, .bool x2, .slice yb vn yc]) rfl (by kernel_rfl) (by kernel_rfl) (by kernel_rfl) (fun _ _ _ h => h) (Or.inl ⟨by rfl, ?_⟩) hHeld ?_
          · intro w hSw; (try dsimp only at hSw); simp only [List.getElem_toArray, List.getElem_cons_zero]; go_simp
          simp only [List.getElem_toArray, List.getElem_cons_zero, Act.put, List.setIfInBounds_toArray, List.set_cons_zero, List.set_cons_succ]
          refine wpAnyH_take (i := 1) (v := .slice (some ⟨b, off, none⟩) n vc) rfl (by kernel_rfl) (by kernel_rfl) (by kernel_rfl) (fun _ _ _ h => h) (Or.inl ⟨by rfl, ?_⟩) hHeld ?_
          · intro w hSw; (try dsimp only at hSw); simp only [List.getElem_toArray, List.getElem_cons_zero, List.getElem_cons_succ]; go_simp
          simp only [List.getElem_toArray, List.getElem_cons_zero, List.getElem_cons_succ, Act.put, List.setIfInBounds_toArray, List.set_cons_zero, List.set_cons_succ]
          refine wpAnyH_take (i := 2) (v := .int .i64 (j : Int)) rfl (by kernel_rfl) (by kernel_rfl) (by kernel_rfl) (fun _ _ _ h => h) (Or.inl ⟨by rfl, ?_⟩) hHeld ?_
          · intro w hSw; (try dsimp only at hSw); simp only [List.getElem_toArray, List.getElem_cons_zero, List.getElem_cons_succ]; go_simp
          simp only [List.getElem_toArray, List.getElem_cons_zero, List.getElem_cons_succ, Act.put, List.setIfInBounds_toArray, List.set_cons_zero, List.set_cons_succ]
          refine wpAnyH_take (i := 3) (v := .pointer (some ⟨b, off + j * 6, none⟩)) rfl (by kernel_rfl) (by kernel_rfl) (by kernel_rfl) (fun _ _ _ h => h) (Or.inl ⟨by rfl, ?_⟩) hHeld ?_
          · intro w hSw; (try dsimp only at hSw); simp only [List.getElem_toArray, List.getElem_cons_zero, List.getElem_cons_succ]; go_simp
          simp only [List.getElem_toArray, List.getElem_cons_zero, List.getElem_cons_succ, Act.put, List.setIfInBounds_toArray, List.set_cons_zero, List.set_cons_succ]
          refine wpAnyH_take (i := 4) (v := .pointer (some ⟨b, off + j * 6 + 1, none⟩)) rfl (by kernel_rfl) (by kernel_rfl) (by kernel_rfl) (fun _ _ _ h => h) (Or.inl ⟨by rfl, ?_⟩) hHeld ?_
          · intro w hSw; (try dsimp only at hSw); simp only [List.getElem_toArray, List.getElem_cons_zero, List.getElem_cons_succ]; go_simp
          simp only [List.getElem_toArray, List.getElem_cons_zero, List.getElem_cons_succ, Act.put, List.setIfInBounds_toArray, List.set_cons_zero, List.set_cons_succ]
          refine wpAnyH_take (i := 5) (v := .string (T j)) rfl (by kernel_rfl) (by kernel_rfl) (by kernel_rfl) (fun _ _ _ h => h) (Or.inl ⟨by rfl, ?_⟩) hHeld ?_
          · intro w hSw; (try dsimp only at hSw); simp only [List.getElem_toArray, List.getElem_cons_zero, List.getElem_cons_succ]; go_simp
          simp only [List.getElem_toArray, List.getElem_cons_zero, List.getElem_cons_succ, Act.put, List.setIfInBounds_toArray, List.set_cons_zero, List.set_cons_succ]
          refine wpAnyH_ready (rs := [6, 10]) (by kernel_rfl) (by simp) ?_
          refine AllReadyH.cons rfl (fun K' hK => ?_) (AllReadyH.cons rfl (fun K' hK => ?_) AllReadyH.nil)
          · skip
            simp only [List.getElem_toArray, List.getElem_cons_zero, List.getElem_cons_succ]
            go_simp
            refine Calls.mono (HON1.out _ ((Below.refl _ _).drew)) ?_
            rintro e wg ⟨k5, d5, x5, a5, n5, c5, e2, rfl, hbg, haf⟩
            have HAF : Hid _ := haf
            have HHG : Hid (H wg) := HON.out _ _ (HON.out _ _ HH1.out (Below.refl _ _).drew) hbg
            have hzg := hbg.size
            have hlg := HT.out.low _ HHG.out
            clear hbg
            clear haf
            go_wp2_with fail
            refine hK.out _ _ (HSb.out _ HHG.out) (fun hHeld' => ?_)
            clear hK K' hHeld
            have hHeld := hHeld'
            clear hHeld'
            refine wpAnyH_take (i := 7) (v := .tuple #[.agg #[.string k5, .string d5, .bool x5, .slice a5 n5 c5], e2]) rfl (by kernel_rfl) (by kernel_rfl) (by kernel_rfl) (fun _ _ _ h => h) (Or.inl ⟨by rfl, ?_⟩) hHeld ?_
            · intro w hSw; (try dsimp only at hSw); simp only [List.getElem_toArray, List.getElem_cons_zero, List.getElem_cons_succ]; go_simp
            simp only [List.getElem_toArray, List.getElem_cons_zero, List.getElem_cons_succ, Act.put, List.setIfInBounds_toArray, List.set_cons_zero, List.set_cons_succ]
            refine wpAnyH_take (i := 8) (v := .agg #[.string k5, .string d5, .bool x5, .slice a5 n5 c5]) rfl (by kernel_rfl) (by kernel_rfl) (by kernel_rfl) (fun _ _ _ h => h) (Or.inl ⟨by rfl, ?_⟩) hHeld ?_
            · intro w hSw; (try dsimp only at hSw); simp only [List.getElem_toArray, List.getElem_cons_zero, List.getElem_cons_succ]; go_simp
            simp only [List.getElem_toArray, List.getElem_cons_zero, List.getElem_cons_succ, Act.put, List.setIfInBounds_toArray, List.set_cons_zero, List.set_cons_succ]
            refine wpAnyH_take (i := 9) (v := e2) rfl (by kernel_rfl) (by kernel_rfl) (by kernel_rfl) (fun _ _ _ h => h) (Or.inl ⟨by rfl, ?_⟩) hHeld ?_
            · intro w hSw; (try dsimp only at hSw); simp only [List.getElem_toArray, List.getElem_cons_zero, List.getElem_cons_succ]; go_simp
            simp only [List.getElem_toArray, List.getElem_cons_zero, List.getElem_cons_succ, Act.put, List.setIfInBounds_toArray, List.set_cons_zero, List.set_cons_succ]
            refine wpAnyH_ready (rs := [10]) (by kernel_rfl) (by simp) ?_
            refine AllReadyH.cons rfl (fun K' hK => ?_) AllReadyH.nil
            simp only [List.getElem_toArray, List.getElem_cons_zero, List.getElem_cons_succ]
            go_simp
            go_wp2_with fail
            have HH8 : Hid (H (wg.alloc (.cells #[.string { data := #[] }, .string { data := #[] }, .bool false, .slice none 0 0] 24))) := HON.out _ _ HHG.out ((Below.refl _ _).alloc (Nat.le_refl _) _)
            refine hK.out _ _ (HSb.out _ HH8.out) (fun hHeld' => ?_)
            clear hK K' hHeld
            have hHeld := hHeld'
            clear hHeld'
            have hr9 := row_alloc' wg #[.string k5, .string d5, .bool x5, .slice a5 n5 c5] 24
            have HH9 : Hid (H (wg.alloc (.cells #[.string k5, .string d5, .bool x5, .slice a5 n5 c5] 24))) := HON.out _ _ HHG.out ((Below.refl _ _).alloc (Nat.le_refl _) _)
            have HC9 : Hid _ := (row4b hr9).1
            have HA9 : Hid _ := HAF.out (wg.heap.size) (wg.alloc (.cells #[.string k5, .string d5, .bool x5, .slice a5 n5 c5] 24)) (ButUp.of_below ((Below.refl _ _).alloc (Nat.le_refl _) _)) (Nat.le_trans (show wp.heap.size ≤ _ from Nat.le_refl _) hzg) (.inr (Nat.le_refl _))
            have HLB : Hid (w5.heap.size ≤ wg.heap.size) := hlg
            clear hr9
            refine wpAnyH_ready (rs := [11]) (by kernel_rfl) (by simp) ?_
            refine AllReadyH.cons rfl (fun K' hK => ?_) AllReadyH.nil
            simp only [List.getElem_toArray, List.getElem_cons_zero, List.getElem_cons_succ]
            go_simp
            go_wp2_with fail
            refine hK.out _ _ (HSb.out _ HH9.out) (fun hHeld' => ?_)
            clear hK K' hHeld
            have hHeld := hHeld'
            clear hHeld'
            refine wpAnyH_take (i := 12) (v := e2) rfl (by kernel_rfl) (by kernel_rfl) (by kernel_rfl) (fun _ _ _ h => h) (Or.inl ⟨by rfl, ?_⟩) hHeld ?_
            · intro w hSw; (try dsimp only at hSw); simp only [List.getElem_toArray, List.getElem_cons_zero, List.getElem_cons_succ]; go_simp
            simp only [List.getElem_toArray, List.getElem_cons_zero, List.getElem_cons_succ, Act.put, List.setIfInBounds_toArray, List.set_cons_zero, List.set_cons_succ]
            refine wpAnyH_done (by kernel_rfl) ?_ _
            go_wp2_with fail
            go_meet
            case rel => exact ⟨wg.heap.size, k5, d5, x5, a5, n5, c5, rfl, HC9.out, HA9.out⟩
          · skip
            simp only [List.getElem_toArray, List.getElem_cons_zero, List.getElem_cons_succ]
            go_simp
            go_wp2_with fail
            have HBZ : Hid (Below wp.heap.size wp (wp.alloc (.cells #[.string { data := #[] }, .string { data := #[] }, .bool false, .slice none 0 0] 24)).drew) := ((Below.refl _ _).alloc (Nat.le_refl _) _).drew
            have HH8 : Hid (H (wp.alloc (.cells #[.string { data := #[] }, .string { data := #[] }, .bool false, .slice none 0 0] 24)).drew) := HON.out _ _ HH1.out HBZ.out
            refine hK.out _ _ (HSb.out _ HH8.out) (fun hHeld' => ?_)
            clear hK K' hHeld
            have hHeld := hHeld'
            clear hHeld'
            refine wpAnyH_ready (rs := [6]) (by kernel_rfl) (by simp) ?_
            refine AllReadyH.cons rfl (fun K' hK => ?_) AllReadyH.nil
            simp only [List.getElem_toArray, List.getElem_cons_zero, List.getElem_cons_succ]
            go_simp
            refine Calls.mono (HON1.out _ (HBZ.out)) ?_
            rintro e wg ⟨k5, d5, x5, a5, n5, c5, e2, rfl, hbg, haf⟩
            have HAF : Hid _ := haf
            have HHG : Hid (H wg) := HON.out _ _ (HH8.out) hbg
            have hzg := hbg.size
            have hlg := HT.out.low _ HHG.out
            have hzz : wp.heap.size + 1 ≤ wg.heap.size := by
              have h : (wp.alloc (.cells #[.string { data := #[] }, .string { data := #[] }, .bool false, .slice none 0 0] 24)).heap.size ≤ wg.heap.size := hzg
              simpa using h
            have hrow9 : wg.heap[wp.heap.size]? = some (.cells #[.string { data := #[] }, .string { data := #[] }, .bool false, .slice none 0 0] 24 (0, 0)) := (hbg.block wp.heap.size (show wp.heap.size < (wp.alloc (.cells #[.string { data := #[] }, .string { data := #[] }, .bool false, .slice none 0 0] 24)).heap.size by simp)).trans (row_alloc' wp _ _)
            clear hbg
            clear haf
            go_wp2_with fail
            refine hK.out _ _ (HSb.out _ HHG.out) (fun hHeld' => ?_)
            clear hK K' hHeld
            have hHeld := hHeld'
            clear hHeld'
            refine wpAnyH_take (i := 7) (v := .tuple #[.agg #[.string k5, .string d5, .bool x5, .slice a5 n5 c5], e2]) rfl (by kernel_rfl) (by kernel_rfl) (by kernel_rfl) (fun _ _ _ h => h) (Or.inl ⟨by rfl, ?_⟩) hHeld ?_
            · intro w hSw; (try dsimp only at hSw); simp only [List.getElem_toArray, List.getElem_cons_zero, List.getElem_cons_succ]; go_simp
            simp only [List.getElem_toArray, List.getElem_cons_zero, List.getElem_cons_succ, Act.put, List.setIfInBounds_toArray, List.set_cons_zero, List.set_cons_succ]
            refine wpAnyH_take (i := 8) (v := .agg #[.string k5, .string d5, .bool x5, .slice a5 n5 c5]) rfl (by kernel_rfl) (by kernel_rfl) (by kernel_rfl) (fun _ _ _ h => h) (Or.inl ⟨by rfl, ?_⟩) hHeld ?_
            · intro w hSw; (try dsimp only at hSw); simp only [List.getElem_toArray, List.getElem_cons_zero, List.getElem_cons_succ]; go_simp
            simp only [List.getElem_toArray, List.getElem_cons_zero, List.getElem_cons_succ, Act.put, List.setIfInBounds_toArray, List.set_cons_zero, List.set_cons_succ]
            refine wpAnyH_take (i := 9) (v := e2) rfl (by kernel_rfl) (by kernel_rfl) (by kernel_rfl) (fun _ _ _ h => h) (Or.inl ⟨by rfl, ?_⟩) hHeld ?_
            · intro w hSw; (try dsimp only at hSw); simp only [List.getElem_toArray, List.getElem_cons_zero, List.getElem_cons_succ]; go_simp
            simp only [List.getElem_toArray, List.getElem_cons_zero, List.getElem_cons_succ, Act.put, List.setIfInBounds_toArray, List.set_cons_zero, List.set_cons_succ]
            obtain ⟨⟨q0, q1, q2, q3⟩, g0, g1, g2, g3⟩ := row4b hrow9
            have hS9 := ((((But1.refl wp.heap.size wg).set 0 (.string k5)).set 1 (.string d5)).set 2 (.bool x5)).set 3 (.slice a5 n5 c5)
            have hr9 := set4b_row hrow9 (.string k5) (.string d5) (.bool x5) (.slice a5 n5 c5)
            have HLB : Hid (w5.heap.size ≤ wp.heap.size) := HT.out.low _ HH1.out
            have HH9 : Hid (H ((((wg.setCell ⟨wp.heap.size, 0, none⟩ (.string k5)).setCell ⟨wp.heap.size, 1, none⟩ (.string d5)).setCell ⟨wp.heap.size, 2, none⟩ (.bool x5)).setCell ⟨wp.heap.size, 3, none⟩ (.slice a5 n5 c5))) := HT.out.but _ _ _ HHG.out (ButUp.of_but hS9) HLB.out
            have HC9 : Hid _ := (row4b hr9).1
            have HA9 : Hid _ := HAF.out (wp.heap.size) ((((wg.setCell ⟨wp.heap.size, 0, none⟩ (.string k5)).setCell ⟨wp.heap.size, 1, none⟩ (.string d5)).setCell ⟨wp.heap.size, 2, none⟩ (.bool x5)).setCell ⟨wp.heap.size, 3, none⟩ (.slice a5 n5 c5)) (ButUp.of_but hS9) (Nat.le_refl _) (.inl (show wp.heap.size < (wp.alloc (.cells #[.string { data := #[] }, .string { data := #[] }, .bool false, .slice none 0 0] 24)).heap.size by simp))
            clear hr9 hS9 hrow9
            refine wpAnyH_ready (rs := [11]) (by kernel_rfl) (by simp) ?_
            refine AllReadyH.cons rfl (fun K' hK => ?_) AllReadyH.nil
            simp only [List.getElem_toArray, List.getElem_cons_zero, List.getElem_cons_succ]
            go_simp
            go_wp2_with fail
            refine hK.out _ _ (HSb.out _ HH9.out) (fun hHeld' => ?_)
            clear hK K' hHeld
            have hHeld := hHeld'
            clear hHeld'
            refine wpAnyH_take (i := 12) (v := e2) rfl (by kernel_rfl) (by kernel_rfl) (by kernel_rfl) (fun _ _ _ h => h) (Or.inl ⟨by rfl, ?_⟩) hHeld ?_
            · intro w hSw; (try dsimp only at hSw); simp only [List.getElem_toArray, List.getElem_cons_zero, List.getElem_cons_succ]; go_simp
            simp only [List.getElem_toArray, List.getElem_cons_zero, List.getElem_cons_succ, Act.put, List.setIfInBounds_toArray, List.set_cons_zero, List.set_cons_succ]
            refine wpAnyH_done (by kernel_rfl) ?_ _
            go_wp2_with fail
            go_meet
            case rel => exact ⟨wp.heap.size, k5, d5, x5, a5, n5, c5, rfl, HC9.out, HA9.out⟩
        case rest =>
          obtain ⟨qb, k5, d5, x5, a5, n5, c5, rfl, ⟨s0, s1, s2, s3⟩, hH2, ⟨p0, p1, p2, p3⟩, hcase⟩ := hcut
          rename World => wq
          have HH2 : Hid (H wq) := hH2
          have HHD : Hid (H wq.drew) := HON.out _ _ hH2 (Below.refl _ _).drew
          clear hH2
          rcases hcase with ⟨ka, kd, ⟨ty, tq, rfl⟩, rfl⟩ | ⟨ka, kd, rfl, ty, tq, rfl⟩ | ⟨ka, kd, rfl, rfl, hsame⟩
          · clear s0 s1 s2 s3 p0 p1 p2 p3
            go_upto_region 18 with fail
            refine wp_region_held_drew (S := fun w' => w'.cell? ⟨b, off + j * 6, none⟩ = some (.string (K j))) (by kernel_rfl) ((HCH.out _ HH2.out).1) (fun hHeld => ?_)
            refine wpAnyH_take (i := 0) (v := .iface ty tq) rfl (by kernel_rfl) (by kernel_rfl) (by kernel_rfl) (fun _ _ _ h => h) (Or.inl ⟨by rfl, ?_⟩) hHeld ?_
            · intro w hSw; (try dsimp only at hSw); simp only [List.getElem_toArray, List.getElem_cons_zero]; go_simp
            simp only [List.getElem_toArray, List.getElem_cons_zero, Act.put, List.setIfInBounds_toArray, List.set_cons_zero, List.set_cons_succ]
            refine wpAnyH_take (i := 1) (v := .bool false) rfl (by kernel_rfl) (by kernel_rfl) (by kernel_rfl) (fun _ _ _ h => h) (Or.inl ⟨by rfl, ?_⟩) hHeld ?_
            · intro w hSw; (try dsimp only at hSw); simp only [List.getElem_toArray, List.getElem_cons_zero, List.getElem_cons_succ]; go_simp
            simp only [List.getElem_toArray, List.getElem_cons_zero, List.getElem_cons_succ, Act.put, List.setIfInBounds_toArray, List.set_cons_zero, List.set_cons_succ]
            refine wpAnyH_take (i := 2) (v := .slice (some ⟨b, off, none⟩) n vc) rfl (by kernel_rfl) (by kernel_rfl) (by kernel_rfl) (fun _ _ _ h => h) (Or.inl ⟨by rfl, ?_⟩) hHeld ?_
            · intro w hSw; (try dsimp only at hSw); simp only [List.getElem_toArray, List.getElem_cons_zero, List.getElem_cons_succ]; go_simp
            simp only [List.getElem_toArray, List.getElem_cons_zero, List.getElem_cons_succ, Act.put, List.setIfInBounds_toArray, List.set_cons_zero, List.set_cons_succ]
            refine wpAnyH_take (i := 3) (v := .int .i64 (j : Int)) rfl (by kernel_rfl) (by kernel_rfl) (by kernel_rfl) (fun _ _ _ h => h) (Or.inl ⟨by rfl, ?_⟩) hHeld ?_
            · intro w hSw; (try dsimp only at hSw); simp only [List.getElem_toArray, List.getElem_cons_zero, List.getElem_cons_succ]; go_simp
            simp only [List.getElem_toArray, List.getElem_cons_zero, List.getElem_cons_succ, Act.put, List.setIfInBounds_toArray, List.set_cons_zero, List.set_cons_succ]
            refine wpAnyH_take (i := 4) (v := .pointer (some ⟨b, off + j * 6, none⟩)) rfl (by kernel_rfl) (by kernel_rfl) (by kernel_rfl) (fun _ _ _ h => h) (Or.inl ⟨by rfl, ?_⟩) hHeld ?_
            · intro w hSw; (try dsimp only at hSw); simp only [List.getElem_toArray, List.getElem_cons_zero, List.getElem_cons_succ]; go_simp
            simp only [List.getElem_toArray, List.getElem_cons_zero, List.getElem_cons_succ, Act.put, List.setIfInBounds_toArray, List.set_cons_zero, List.set_cons_succ]
            refine wpAnyH_take (i := 5) (v := .pointer (some ⟨b, off + j * 6, none⟩)) rfl (by kernel_rfl) (by kernel_rfl) (by kernel_rfl) (fun _ _ _ h => h) (Or.inl ⟨by rfl, ?_⟩) hHeld ?_
            · intro w hSw; (try dsimp only at hSw); simp only [List.getElem_toArray, List.getElem_cons_zero, List.getElem_cons_succ]; go_simp
            simp only [List.getElem_toArray, List.getElem_cons_zero, List.getElem_cons_succ, Act.put, List.setIfInBounds_toArray, List.set_cons_zero, List.set_cons_succ]
            refine wpAnyH_take (i := 6) (v := .string (K j)) rfl (by kernel_rfl) (by kernel_rfl) (by kernel_rfl) (fun _ _ _ h => h) (Or.inl ⟨by rfl, ?_⟩) hHeld ?_
            · intro w hSw; (try dsimp only at hSw); simp only [List.getElem_toArray, List.getElem_cons_zero, List.getElem_cons_succ]; go_simp
            simp only [List.getElem_toArray, List.getElem_cons_zero, List.getElem_cons_succ, Act.put, List.setIfInBounds_toArray, List.set_cons_zero, List.set_cons_succ]
            refine wpAnyH_take (i := 7) (v := .bool true) rfl (by kernel_rfl) (by kernel_rfl) (by kernel_rfl) (fun _ _ _ h => h) (Or.inl ⟨by rfl, ?_⟩) hHeld ?_
            · intro w hSw; (try dsimp only at hSw); simp only [List.getElem_toArray, List.getElem_cons_zero, List.getElem_cons_succ]; go_simp
            simp only [List.getElem_toArray, List.getElem_cons_zero, List.getElem_cons_succ, Act.put, List.setIfInBounds_toArray, List.set_cons_zero, List.set_cons_succ]
            refine wpAnyH_take (i := 8) (v := .bool false) rfl (by kernel_rfl) (by kernel_rfl) (by kernel_rfl) (fun _ _ _ h => h) (Or.inl ⟨by rfl, ?_⟩) hHeld ?_
            · intro w hSw; (try dsimp only at hSw); simp only [List.getElem_toArray, List.getElem_cons_zero, List.getElem_cons_succ]; go_simp
            simp only [List.getElem_toArray, List.getElem_cons_zero, List.getElem_cons_succ, Act.put, List.setIfInBounds_toArray, List.set_cons_zero, List.set_cons_succ]
            refine wpAnyH_take (i := 9) (v := .bool false) rfl (by kernel_rfl) (by kernel_rfl) (by kernel_rfl) (fun _ _ _ h => h) (Or.inl ⟨by rfl, ?_⟩) hHeld ?_
            · intro w hSw; (try dsimp only at hSw); simp only [List.getElem_toArray, List.getElem_cons_zero, List.getElem_cons_succ]; go_simp
            simp only [List.getElem_toArray, List.getElem_cons_zero, List.getElem_cons_succ, Act.put, List.setIfInBounds_toArray, List.set_cons_zero, List.set_cons_succ]
            refine wpAnyH_take (i := 10) (v := .nilIface) rfl (by kernel_rfl) (by kernel_rfl) (by kernel_rfl) (fun _ _ _ h => h) (Or.inl ⟨by rfl, ?_⟩) hHeld ?_
            · intro w hSw; (try dsimp only at hSw); simp only [List.getElem_toArray, List.getElem_cons_zero, List.getElem_cons_succ]; go_simp
            simp only [List.getElem_toArray, List.getElem_cons_zero, List.getElem_cons_succ, Act.put, List.setIfInBounds_toArray, List.set_cons_zero, List.set_cons_succ]
            refine wpAnyH_take (i := 11) (v := .bool true) rfl (by kernel_rfl) (by kernel_rfl) (by kernel_rfl) (fun _ _ _ h => h) (Or.inl ⟨by rfl, ?_⟩) hHeld ?_
            · intro w hSw; (try dsimp only at hSw); simp only [List.getElem_toArray, List.getElem_cons_zero, List.getElem_cons_succ]; go_simp
            simp only [List.getElem_toArray, List.getElem_cons_zero, List.getElem_cons_succ, Act.put, List.setIfInBounds_toArray, List.set_cons_zero, List.set_cons_succ]
            refine wpAnyH_take (i := 12) (v := .slice (some ⟨b, off, none⟩) n vc) rfl (by kernel_rfl) (by kernel_rfl) (by kernel_rfl) (fun _ _ _ h => h) (Or.inl ⟨by rfl, ?_⟩) hHeld ?_
            · intro w hSw; (try dsimp only at hSw); simp only [List.getElem_toArray, List.getElem_cons_zero, List.getElem_cons_succ]; go_simp
            simp only [List.getElem_toArray, List.getElem_cons_zero, List.getElem_cons_succ, Act.put, List.setIfInBounds_toArray, List.set_cons_zero, List.set_cons_succ]
            refine wpAnyH_take (i := 13) (v := .int .i64 (j : Int)) rfl (by kernel_rfl) (by kernel_rfl) (by kernel_rfl) (fun _ _ _ h => h) (Or.inl ⟨by rfl, ?_⟩) hHeld ?_
            · intro w hSw; (try dsimp only at hSw); simp only [List.getElem_toArray, List.getElem_cons_zero, List.getElem_cons_succ]; go_simp
            simp only [List.getElem_toArray, List.getElem_cons_zero, List.getElem_cons_succ, Act.put, List.setIfInBounds_toArray, List.set_cons_zero, List.set_cons_succ]
            refine wpAnyH_take (i := 14) (v := .pointer (some ⟨b, off + j * 6, none⟩)) rfl (by kernel_rfl) (by kernel_rfl) (by kernel_rfl) (fun _ _ _ h => h) (Or.inl ⟨by rfl, ?_⟩) hHeld ?_
            · intro w hSw; (try dsimp only at hSw); simp only [List.getElem_toArray, List.getElem_cons_zero, List.getElem_cons_succ]; go_simp
            simp only [List.getElem_toArray, List.getElem_cons_zero, List.getElem_cons_succ, Act.put, List.setIfInBounds_toArray, List.set_cons_zero, List.set_cons_succ]
            refine wpAnyH_take (i := 15) (v := .pointer (some ⟨b, off + j * 6, none⟩)) rfl (by kernel_rfl) (by kernel_rfl) (by kernel_rfl) (fun _ _ _ h => h) (Or.inl ⟨by rfl, ?_⟩) hHeld ?_
            · intro w hSw; (try dsimp only at hSw); simp only [List.getElem_toArray, List.getElem_cons_zero, List.getElem_cons_succ]; go_simp
            simp only [List.getElem_toArray, List.getElem_cons_zero, List.getElem_cons_succ, Act.put, List.setIfInBounds_toArray, List.set_cons_zero, List.set_cons_succ]
            refine wpAnyH_take (i := 16) (v := .string (K j)) rfl (by kernel_rfl) (by kernel_rfl) (by kernel_rfl) (fun _ _ _ h => h) (Or.inl ⟨by rfl, ?_⟩) hHeld ?_
            · intro w hSw; (try dsimp only at hSw); simp only [List.getElem_toArray, List.getElem_cons_zero, List.getElem_cons_succ]; go_simp
            simp only [List.getElem_toArray, List.getElem_cons_zero, List.getElem_cons_succ, Act.put, List.setIfInBounds_toArray, List.set_cons_zero, List.set_cons_succ]
            refine wpAnyH_take (i := 17) (v := .bool false) rfl (by kernel_rfl) (by kernel_rfl) (by kernel_rfl) (fun _ _ _ h => h) (Or.inl ⟨by rfl, ?_⟩) hHeld ?_
            · intro w hSw; (try dsimp only at hSw); simp only [List.getElem_toArray, List.getElem_cons_zero, List.getElem_cons_succ]; go_simp
            simp only [List.getElem_toArray, List.getElem_cons_zero, List.getElem_cons_succ, Act.put, List.setIfInBounds_toArray, List.set_cons_zero, List.set_cons_succ]
            refine wpAnyH_take (i := 18) (v := .bool false) rfl (by kernel_rfl) (by kernel_rfl) (by kernel_rfl) (fun _ _ _ h => h) (Or.inl ⟨by rfl, ?_⟩) hHeld ?_
            · intro w hSw; (try dsimp only at hSw); simp only [List.getElem_toArray, List.getElem_cons_zero, List.getElem_cons_succ]; go_simp
            simp only [List.getElem_toArray, List.getElem_cons_zero, List.getElem_cons_succ, Act.put, List.setIfInBounds_toArray, List.set_cons_zero, List.set_cons_succ]
            refine wpAnyH_take (i := 19) (v := .bool false) rfl (by kernel_rfl) (by kernel_rfl) (by kernel_rfl) (fun _ _ _ h => h) (Or.inl ⟨by rfl, ?_⟩) hHeld ?_
            · intro w hSw; (try dsimp only at hSw); simp only [List.getElem_toArray, List.getElem_cons_zero, List.getElem_cons_succ]; go_simp
            simp only [List.getElem_toArray, List.getElem_cons_zero, List.getElem_cons_succ, Act.put, List.setIfInBounds_toArray, List.set_cons_zero, List.set_cons_succ]
            refine wpAnyH_done (by kernel_rfl) ?_ _
            have HHE : Hid _ := HHD.out
            clear HHD
            go_wp2_with fail
            go_roundw
            case rel => exact ⟨j + 1, by omega, by go_num, HHE.out⟩
            case measure => simp [intOf]; omega
          · clear s0 s1 s2 s3 p0 p1 p2 p3
            go_upto_region 18 with fail
            refine wp_region_held_drew (S := fun w' => w'.cell? ⟨b, off + j * 6, none⟩ = some (.string (K j))) (by kernel_rfl) ((HCH.out _ HH2.out).1) (fun hHeld => ?_)
            refine wpAnyH_take (i := 0) (v := .nilIface) rfl (by kernel_rfl) (by kernel_rfl) (by kernel_rfl) (fun _ _ _ h => h) (Or.inl ⟨by rfl, ?_⟩) hHeld ?_
            · intro w hSw; (try dsimp only at hSw); simp only [List.getElem_toArray, List.getElem_cons_zero]; go_simp
            simp only [List.getElem_toArray, List.getElem_cons_zero, Act.put, List.setIfInBounds_toArray, List.set_cons_zero, List.set_cons_succ]
            refine wpAnyH_take (i := 1) (v := .bool true) rfl (by kernel_rfl) (by kernel_rfl) (by kernel_rfl) (fun _ _ _ h => h) (Or.inl ⟨by rfl, ?_⟩) hHeld ?_
            · intro w hSw; (try dsimp only at hSw); simp only [List.getElem_toArray, List.getElem_cons_zero, List.getElem_cons_succ]; go_simp
            simp only [List.getElem_toArray, List.getElem_cons_zero, List.getElem_cons_succ, Act.put, List.setIfInBounds_toArray, List.set_cons_zero, List.set_cons_succ]
            refine wpAnyH_take (i := 2) (v := .slice (some ⟨b, off, none⟩) n vc) rfl (by kernel_rfl) (by kernel_rfl) (by kernel_rfl) (fun _ _ _ h => h) (Or.inl ⟨by rfl, ?_⟩) hHeld ?_
            · intro w hSw; (try dsimp only at hSw); simp only [List.getElem_toArray, List.getElem_cons_zero, List.getElem_cons_succ]; go_simp
            simp only [List.getElem_toArray, List.getElem_cons_zero, List.getElem_cons_succ, Act.put, List.setIfInBounds_toArray, List.set_cons_zero, List.set_cons_succ]
            refine wpAnyH_take (i := 3) (v := .int .i64 (j : Int)) rfl (by kernel_rfl) (by kernel_rfl) (by kernel_rfl) (fun _ _ _ h => h) (Or.inl ⟨by rfl, ?_⟩) hHeld ?_
            · intro w hSw; (try dsimp only at hSw); simp only [List.getElem_toArray, List.getElem_cons_zero, List.getElem_cons_succ]; go_simp
            simp only [List.getElem_toArray, List.getElem_cons_zero, List.getElem_cons_succ, Act.put, List.setIfInBounds_toArray, List.set_cons_zero, List.set_cons_succ]
            refine wpAnyH_take (i := 4) (v := .pointer (some ⟨b, off + j * 6, none⟩)) rfl (by kernel_rfl) (by kernel_rfl) (by kernel_rfl) (fun _ _ _ h => h) (Or.inl ⟨by rfl, ?_⟩) hHeld ?_
            · intro w hSw; (try dsimp only at hSw); simp only [List.getElem_toArray, List.getElem_cons_zero, List.getElem_cons_succ]; go_simp
            simp only [List.getElem_toArray, List.getElem_cons_zero, List.getElem_cons_succ, Act.put, List.setIfInBounds_toArray, List.set_cons_zero, List.set_cons_succ]
            refine wpAnyH_take (i := 5) (v := .pointer (some ⟨b, off + j * 6, none⟩)) rfl (by kernel_rfl) (by kernel_rfl) (by kernel_rfl) (fun _ _ _ h => h) (Or.inl ⟨by rfl, ?_⟩) hHeld ?_
            · intro w hSw; (try dsimp only at hSw); simp only [List.getElem_toArray, List.getElem_cons_zero, List.getElem_cons_succ]; go_simp
            simp only [List.getElem_toArray, List.getElem_cons_zero, List.getElem_cons_succ, Act.put, List.setIfInBounds_toArray, List.set_cons_zero, List.set_cons_succ]
            refine wpAnyH_take (i := 6) (v := .string (K j)) rfl (by kernel_rfl) (by kernel_rfl) (by kernel_rfl) (fun _ _ _ h => h) (Or.inl ⟨by rfl, ?_⟩) hHeld ?_
            · intro w hSw; (try dsimp only at hSw); simp only [List.getElem_toArray, List.getElem_cons_zero, List.getElem_cons_succ]; go_simp
            simp only [List.getElem_toArray, List.getElem_cons_zero, List.getElem_cons_succ, Act.put, List.setIfInBounds_toArray, List.set_cons_zero, List.set_cons_succ]
            refine wpAnyH_take (i := 7) (v := .bool false) rfl (by kernel_rfl) (by kernel_rfl) (by kernel_rfl) (fun _ _ _ h => h) (Or.inl ⟨by rfl, ?_⟩) hHeld ?_
            · intro w hSw; (try dsimp only at hSw); simp only [List.getElem_toArray, List.getElem_cons_zero, List.getElem_cons_succ]; go_simp
            simp only [List.getElem_toArray, List.getElem_cons_zero, List.getElem_cons_succ, Act.put, List.setIfInBounds_toArray, List.set_cons_zero, List.set_cons_succ]
            refine wpAnyH_take (i := 8) (v := .bool false) rfl (by kernel_rfl) (by kernel_rfl) (by kernel_rfl) (fun _ _ _ h => h) (Or.inl ⟨by rfl, ?_⟩) hHeld ?_
            · intro w hSw; (try dsimp only at hSw); simp only [List.getElem_toArray, List.getElem_cons_zero, List.getElem_cons_succ]; go_simp
            simp only [List.getElem_toArray, List.getElem_cons_zero, List.getElem_cons_succ, Act.put, List.setIfInBounds_toArray, List.set_cons_zero, List.set_cons_succ]
            refine wpAnyH_take (i := 9) (v := .bool false) rfl (by kernel_rfl) (by kernel_rfl) (by kernel_rfl) (fun _ _ _ h => h) (Or.inl ⟨by rfl, ?_⟩) hHeld ?_
            · intro w hSw; (try dsimp only at hSw); simp only [List.getElem_toArray, List.getElem_cons_zero, List.getElem_cons_succ]; go_simp
            simp only [List.getElem_toArray, List.getElem_cons_zero, List.getElem_cons_succ, Act.put, List.setIfInBounds_toArray, List.set_cons_zero, List.set_cons_succ]
            refine wpAnyH_take (i := 10) (v := .iface ty tq) rfl (by kernel_rfl) (by kernel_rfl) (by kernel_rfl) (fun _ _ _ h => h) (Or.inl ⟨by rfl, ?_⟩) hHeld ?_
            · intro w hSw; (try dsimp only at hSw); simp only [List.getElem_toArray, List.getElem_cons_zero, List.getElem_cons_succ]; go_simp
            simp only [List.getElem_toArray, List.getElem_cons_zero, List.getElem_cons_succ, Act.put, List.setIfInBounds_toArray, List.set_cons_zero, List.set_cons_succ]
            refine wpAnyH_take (i := 11) (v := .bool false) rfl (by kernel_rfl) (by kernel_rfl) (by kernel_rfl) (fun _ _ _ h => h) (Or.inl ⟨by rfl, ?_⟩) hHeld ?_
            · intro w hSw; (try dsimp only at hSw); simp only [List.getElem_toArray, List.getElem_cons_zero, List.getElem_cons_succ]; go_simp
            simp only [List.getElem_toArray, List.getElem_cons_zero, List.getElem_cons_succ, Act.put, List.setIfInBounds_toArray, List.set_cons_zero, List.set_cons_succ]
            refine wpAnyH_take (i := 12) (v := .slice (some ⟨b, off, none⟩) n vc) rfl (by kernel_rfl) (by kernel_rfl) (by kernel_rfl) (fun _ _ _ h => h) (Or.inl ⟨by rfl, ?_⟩) hHeld ?_
            · intro w hSw; (try dsimp only at hSw); simp only [List.getElem_toArray, List.getElem_cons_zero, List.getElem_cons_succ]; go_simp
            simp only [List.getElem_toArray, List.getElem_cons_zero, List.getElem_cons_succ, Act.put, List.setIfInBounds_toArray, List.set_cons_zero, List.set_cons_succ]
            refine wpAnyH_take (i := 13) (v := .int .i64 (j : Int)) rfl (by kernel_rfl) (by kernel_rfl) (by kernel_rfl) (fun _ _ _ h => h) (Or.inl ⟨by rfl, ?_⟩) hHeld ?_
            · intro w hSw; (try dsimp only at hSw); simp only [List.getElem_toArray, List.getElem_cons_zero, List.getElem_cons_succ]; go_simp
            simp only [List.getElem_toArray, List.getElem_cons_zero, List.getElem_cons_succ, Act.put, List.setIfInBounds_toArray, List.set_cons_zero, List.set_cons_succ]
            refine wpAnyH_take (i := 14) (v := .pointer (some ⟨b, off + j * 6, none⟩)) rfl (by kernel_rfl) (by kernel_rfl) (by kernel_rfl) (fun _ _ _ h => h) (Or.inl ⟨by rfl, ?_⟩) hHeld ?_
            · intro w hSw; (try dsimp only at hSw); simp only [List.getElem_toArray, List.getElem_cons_zero, List.getElem_cons_succ]; go_simp
            simp only [List.getElem_toArray, List.getElem_cons_zero, List.getElem_cons_succ, Act.put, List.setIfInBounds_toArray, List.set_cons_zero, List.set_cons_succ]
            refine wpAnyH_take (i := 15) (v := .pointer (some ⟨b, off + j * 6, none⟩)) rfl (by kernel_rfl) (by kernel_rfl) (by kernel_rfl) (fun _ _ _ h => h) (Or.inl ⟨by rfl, ?_⟩) hHeld ?_
            · intro w hSw; (try dsimp only at hSw); simp only [List.getElem_toArray, List.getElem_cons_zero, List.getElem_cons_succ]; go_simp
            simp only [List.getElem_toArray, List.getElem_cons_zero, List.getElem_cons_succ, Act.put, List.setIfInBounds_toArray, List.set_cons_zero, List.set_cons_succ]
            refine wpAnyH_take (i := 16) (v := .string (K j)) rfl (by kernel_rfl) (by kernel_rfl) (by kernel_rfl) (fun _ _ _ h => h) (Or.inl ⟨by rfl, ?_⟩) hHeld ?_
            · intro w hSw; (try dsimp only at hSw); simp only [List.getElem_toArray, List.getElem_cons_zero, List.getElem_cons_succ]; go_simp
            simp only [List.getElem_toArray, List.getElem_cons_zero, List.getElem_cons_succ, Act.put, List.setIfInBounds_toArray, List.set_cons_zero, List.set_cons_succ]
            refine wpAnyH_take (i := 17) (v := .bool true) rfl (by kernel_rfl) (by kernel_rfl) (by kernel_rfl) (fun _ _ _ h => h) (Or.inl ⟨by rfl, ?_⟩) hHeld ?_
            · intro w hSw; (try dsimp only at hSw); simp only [List.getElem_toArray, List.getElem_cons_zero, List.getElem_cons_succ]; go_simp
            simp only [List.getElem_toArray, List.getElem_cons_zero, List.getElem_cons_succ, Act.put, List.setIfInBounds_toArray, List.set_cons_zero, List.set_cons_succ]
            refine wpAnyH_take (i := 18) (v := .bool false) rfl (by kernel_rfl) (by kernel_rfl) (by kernel_rfl) (fun _ _ _ h => h) (Or.inl ⟨by rfl, ?_⟩) hHeld ?_
            · intro w hSw; (try dsimp only at hSw); simp only [List.getElem_toArray, List.getElem_cons_zero, List.getElem_cons_succ]; go_simp
            simp only [List.getElem_toArray, List.getElem_cons_zero, List.getElem_cons_succ, Act.put, List.setIfInBounds_toArray, List.set_cons_zero, List.set_cons_succ]
            refine wpAnyH_take (i := 19) (v := .bool false) rfl (by kernel_rfl) (by kernel_rfl) (by kernel_rfl) (fun _ _ _ h => h) (Or.inl ⟨by rfl, ?_⟩) hHeld ?_
            · intro w hSw; (try dsimp only at hSw); simp only [List.getElem_toArray, List.getElem_cons_zero, List.getElem_cons_succ]; go_simp
            simp only [List.getElem_toArray, List.getElem_cons_zero, List.getElem_cons_succ, Act.put, List.setIfInBounds_toArray, List.set_cons_zero, List.set_cons_succ]
            refine wpAnyH_done (by kernel_rfl) ?_ _
            have HHE : Hid _ := HHD.out
            clear HHD
            go_wp2_with fail
            go_roundw
            case rel => exact ⟨j + 1, by omega, by go_num, HHE.out⟩
            case measure => simp [intOf]; omega
          · have HSQ : Hid _ := hsame _ (Below.refl _ _).drew
            clear hsame
            go_upto_region 18 with fail
            refine wp_region_held_drew (S := fun w' => w'.cell? ⟨b, off + j * 6, none⟩ = some (.string (K j))) (by kernel_rfl) ((HCH.out _ HH2.out).1) (fun hHeld => ?_)
            refine wpAnyH_take (i := 0) (v := .nilIface) rfl (by kernel_rfl) (by kernel_rfl) (by kernel_rfl) (fun _ _ _ h => h) (Or.inl ⟨by rfl, ?_⟩) hHeld ?_
            · intro w hSw; (try dsimp only at hSw); simp only [List.getElem_toArray, List.getElem_cons_zero]; go_simp
            simp only [List.getElem_toArray, List.getElem_cons_zero, Act.put, List.setIfInBounds_toArray, List.set_cons_zero, List.set_cons_succ]
            refine wpAnyH_take (i := 1) (v := .bool true) rfl (by kernel_rfl) (by kernel_rfl) (by kernel_rfl) (fun _ _ _ h => h) (Or.inl ⟨by rfl, ?_⟩) hHeld ?_
            · intro w hSw; (try dsimp only at hSw); simp only [List.getElem_toArray, List.getElem_cons_zero, List.getElem_cons_succ]; go_simp
            simp only [List.getElem_toArray, List.getElem_cons_zero, List.getElem_cons_succ, Act.put, List.setIfInBounds_toArray, List.set_cons_zero, List.set_cons_succ]
            refine wpAnyH_take (i := 2) (v := .slice (some ⟨b, off, none⟩) n vc) rfl (by kernel_rfl) (by kernel_rfl) (by kernel_rfl) (fun _ _ _ h => h) (Or.inl ⟨by rfl, ?_⟩) hHeld ?_
            · intro w hSw; (try dsimp only at hSw); simp only [List.getElem_toArray, List.getElem_cons_zero, List.getElem_cons_succ]; go_simp
            simp only [List.getElem_toArray, List.getElem_cons_zero, List.getElem_cons_succ, Act.put, List.setIfInBounds_toArray, List.set_cons_zero, List.set_cons_succ]
            refine wpAnyH_take (i := 3) (v := .int .i64 (j : Int)) rfl (by kernel_rfl) (by kernel_rfl) (by kernel_rfl) (fun _ _ _ h => h) (Or.inl ⟨by rfl, ?_⟩) hHeld ?_
            · intro w hSw; (try dsimp only at hSw); simp only [List.getElem_toArray, List.getElem_cons_zero, List.getElem_cons_succ]; go_simp
            simp only [List.getElem_toArray, List.getElem_cons_zero, List.getElem_cons_succ, Act.put, List.setIfInBounds_toArray, List.set_cons_zero, List.set_cons_succ]
            refine wpAnyH_take (i := 4) (v := .pointer (some ⟨b, off + j * 6, none⟩)) rfl (by kernel_rfl) (by kernel_rfl) (by kernel_rfl) (fun _ _ _ h => h) (Or.inl ⟨by rfl, ?_⟩) hHeld ?_
            · intro w hSw; (try dsimp only at hSw); simp only [List.getElem_toArray, List.getElem_cons_zero, List.getElem_cons_succ]; go_simp
            simp only [List.getElem_toArray, List.getElem_cons_zero, List.getElem_cons_succ, Act.put, List.setIfInBounds_toArray, List.set_cons_zero, List.set_cons_succ]
            refine wpAnyH_take (i := 5) (v := .pointer (some ⟨b, off + j * 6, none⟩)) rfl (by kernel_rfl) (by kernel_rfl) (by kernel_rfl) (fun _ _ _ h => h) (Or.inl ⟨by rfl, ?_⟩) hHeld ?_
            · intro w hSw; (try dsimp only at hSw); simp only [List.getElem_toArray, List.getElem_cons_zero, List.getElem_cons_succ]; go_simp
            simp only [List.getElem_toArray, List.getElem_cons_zero, List.getElem_cons_succ, Act.put, List.setIfInBounds_toArray, List.set_cons_zero, List.set_cons_succ]
            refine wpAnyH_take (i := 6) (v := .string (K j)) rfl (by kernel_rfl) (by kernel_rfl) (by kernel_rfl) (fun _ _ _ h => h) (Or.inl ⟨by rfl, ?_⟩) hHeld ?_
            · intro w hSw; (try dsimp only at hSw); simp only [List.getElem_toArray, List.getElem_cons_zero, List.getElem_cons_succ]; go_simp
            simp only [List.getElem_toArray, List.getElem_cons_zero, List.getElem_cons_succ, Act.put, List.setIfInBounds_toArray, List.set_cons_zero, List.set_cons_succ]
            refine wpAnyH_take (i := 7) (v := .bool false) rfl (by kernel_rfl) (by kernel_rfl) (by kernel_rfl) (fun _ _ _ h => h) (Or.inl ⟨by rfl, ?_⟩) hHeld ?_
            · intro w hSw; (try dsimp only at hSw); simp only [List.getElem_toArray, List.getElem_cons_zero, List.getElem_cons_succ]; go_simp
            simp only [List.getElem_toArray, List.getElem_cons_zero, List.getElem_cons_succ, Act.put, List.setIfInBounds_toArray, List.set_cons_zero, List.set_cons_succ]
            refine wpAnyH_take (i := 8) (v := .bool false) rfl (by kernel_rfl) (by kernel_rfl) (by kernel_rfl) (fun _ _ _ h => h) (Or.inl ⟨by rfl, ?_⟩) hHeld ?_
            · intro w hSw; (try dsimp only at hSw); simp only [List.getElem_toArray, List.getElem_cons_zero, List.getElem_cons_succ]; go_simp
            simp only [List.getElem_toArray, List.getElem_cons_zero, List.getElem_cons_succ, Act.put, List.setIfInBounds_toArray, List.set_cons_zero, List.set_cons_succ]
            refine wpAnyH_take (i := 9) (v := .bool false) rfl (by kernel_rfl) (by kernel_rfl) (by kernel_rfl) (fun _ _ _ h => h) (Or.inl ⟨by rfl, ?_⟩) hHeld ?_
            · intro w hSw; (try dsimp only at hSw); simp only [List.getElem_toArray, List.getElem_cons_zero, List.getElem_cons_succ]; go_simp
            simp only [List.getElem_toArray, List.getElem_cons_zero, List.getElem_cons_succ, Act.put, List.setIfInBounds_toArray, List.set_cons_zero, List.set_cons_succ]
            refine wpAnyH_take (i := 10) (v := .nilIface) rfl (by kernel_rfl) (by kernel_rfl) (by kernel_rfl) (fun _ _ _ h => h) (Or.inl ⟨by rfl, ?_⟩) hHeld ?_
            · intro w hSw; (try dsimp only at hSw); simp only [List.getElem_toArray, List.getElem_cons_zero, List.getElem_cons_succ]; go_simp
            simp only [List.getElem_toArray, List.getElem_cons_zero, List.getElem_cons_succ, Act.put, List.setIfInBounds_toArray, List.set_cons_zero, List.set_cons_succ]
            refine wpAnyH_take (i := 11) (v := .bool true) rfl (by kernel_rfl) (by kernel_rfl) (by kernel_rfl) (fun _ _ _ h => h) (Or.inl ⟨by rfl, ?_⟩) hHeld ?_
            · intro w hSw; (try dsimp only at hSw); simp only [List.getElem_toArray, List.getElem_cons_zero, List.getElem_cons_succ]; go_simp
            simp only [List.getElem_toArray, List.getElem_cons_zero, List.getElem_cons_succ, Act.put, List.setIfInBounds_toArray, List.set_cons_zero, List.set_cons_succ]
            refine wpAnyH_take (i := 12) (v := .slice (some ⟨b, off, none⟩) n vc) rfl (by kernel_rfl) (by kernel_rfl) (by kernel_rfl) (fun _ _ _ h => h) (Or.inl ⟨by rfl, ?_⟩) hHeld ?_
            · intro w hSw; (try dsimp only at hSw); simp only [List.getElem_toArray, List.getElem_cons_zero, List.getElem_cons_succ]; go_simp
            simp only [List.getElem_toArray, List.getElem_cons_zero, List.getElem_cons_succ, Act.put, List.setIfInBounds_toArray, List.set_cons_zero, List.set_cons_succ]
            refine wpAnyH_take (i := 13) (v := .int .i64 (j : Int)) rfl (by kernel_rfl) (by kernel_rfl) (by kernel_rfl) (fun _ _ _ h => h) (Or.inl ⟨by rfl, ?_⟩) hHeld ?_
            · intro w hSw; (try dsimp only at hSw); simp only [List.getElem_toArray, List.getElem_cons_zero, List.getElem_cons_succ]; go_simp
            simp only [List.getElem_toArray, List.getElem_cons_zero, List.getElem_cons_succ, Act.put, List.setIfInBounds_toArray, List.set_cons_zero, List.set_cons_succ]
            refine wpAnyH_take (i := 14) (v := .pointer (some ⟨b, off + j * 6, none⟩)) rfl (by kernel_rfl) (by kernel_rfl) (by kernel_rfl) (fun _ _ _ h => h) (Or.inl ⟨by rfl, ?_⟩) hHeld ?_
            · intro w hSw; (try dsimp only at hSw); simp only [List.getElem_toArray, List.getElem_cons_zero, List.getElem_cons_succ]; go_simp
            simp only [List.getElem_toArray, List.getElem_cons_zero, List.getElem_cons_succ, Act.put, List.setIfInBounds_toArray, List.set_cons_zero, List.set_cons_succ]
            refine wpAnyH_take (i := 15) (v := .pointer (some ⟨b, off + j * 6, none⟩)) rfl (by kernel_rfl) (by kernel_rfl) (by kernel_rfl) (fun _ _ _ h => h) (Or.inl ⟨by rfl, ?_⟩) hHeld ?_
            · intro w hSw; (try dsimp only at hSw); simp only [List.getElem_toArray, List.getElem_cons_zero, List.getElem_cons_succ]; go_simp
            simp only [List.getElem_toArray, List.getElem_cons_zero, List.getElem_cons_succ, Act.put, List.setIfInBounds_toArray, List.set_cons_zero, List.set_cons_succ]
            refine wpAnyH_take (i := 16) (v := .string (K j)) rfl (by kernel_rfl) (by kernel_rfl) (by kernel_rfl) (fun _ _ _ h => h) (Or.inl ⟨by rfl, ?_⟩) hHeld ?_
            · intro w hSw; (try dsimp only at hSw); simp only [List.getElem_toArray, List.getElem_cons_zero, List.getElem_cons_succ]; go_simp
            simp only [List.getElem_toArray, List.getElem_cons_zero, List.getElem_cons_succ, Act.put, List.setIfInBounds_toArray, List.set_cons_zero, List.set_cons_succ]
            refine wpAnyH_take (i := 17) (v := .bool false) rfl (by kernel_rfl) (by kernel_rfl) (by kernel_rfl) (fun _ _ _ h => h) (Or.inl ⟨by rfl, ?_⟩) hHeld ?_
            · intro w hSw; (try dsimp only at hSw); simp only [List.getElem_toArray, List.getElem_cons_zero, List.getElem_cons_succ]; go_simp
            simp only [List.getElem_toArray, List.getElem_cons_zero, List.getElem_cons_succ, Act.put, List.setIfInBounds_toArray, List.set_cons_zero, List.set_cons_succ]
            refine wpAnyH_take (i := 18) (v := .bool false) rfl (by kernel_rfl) (by kernel_rfl) (by kernel_rfl) (fun _ _ _ h => h) (Or.inl ⟨by rfl, ?_⟩) hHeld ?_
            · intro w hSw; (try dsimp only at hSw); simp only [List.getElem_toArray, List.getElem_cons_zero, List.getElem_cons_succ]; go_simp
            simp only [List.getElem_toArray, List.getElem_cons_zero, List.getElem_cons_succ, Act.put, List.setIfInBounds_toArray, List.set_cons_zero, List.set_cons_succ]
            refine wpAnyH_take (i := 19) (v := .bool false) rfl (by kernel_rfl) (by kernel_rfl) (by kernel_rfl) (fun _ _ _ h => h) (Or.inl ⟨by rfl, ?_⟩) hHeld ?_
            · intro w hSw; (try dsimp only at hSw); simp only [List.getElem_toArray, List.getElem_cons_zero, List.getElem_cons_succ]; go_simp
            simp only [List.getElem_toArray, List.getElem_cons_zero, List.getElem_cons_succ, Act.put, List.setIfInBounds_toArray, List.set_cons_zero, List.set_cons_succ]
            refine wpAnyH_done (by kernel_rfl) ?_ _
            go_wp2_with fail
            refine Calls.mono HSQ.out ?_
            clear HSQ s0 s1 s2 s3 p0 p1 p2 p3
            rintro e wl ⟨rfl, hHl⟩
            have HHE : Hid (H wl) := hHl
            clear hHl
            go_wp2_with fail
            go_roundw
            case rel => exact ⟨j + 1, by omega, by go_num, HHE.out⟩
            case measure => simp [intOf]; omega
end Go.Proofs.YtilkjafggfdjeabDoor
