/-
  The walk of the law 'PackBack', told apart from what its callees do.
  Conditions: those that stand ahead of the theorem: a contract for each call.
-/
import Derived.Test.YtilkjafggfdjeaaDoorPackH
import Derived.Deep.RegionHeld3
import Derived.Deep.DrawnRows
import Derived.Deep.DeepCutAuto
import Derived.Deep.DeepFit
namespace Go.Proofs.YtilkjafggfdjeaaDoor
open Go.RowKit
attribute [local go_sem ↓] Go.wp_at_zero Go.wp_at_succ

/-- What the law asks of its calls behind the two copies, which lie in the blocks b and c. -/
structure BackTail (k d k2 d2 q : ByteArray) (x x2 : Bool) (xa ya : Option Addr) (un vn xc yc : Nat) (b c N : Nat) (R H : World → Prop) (e1 e2 : Option Addr) (sx sy : ByteArray) (sb : Bool) : Prop where
  alloc : ∀ w' o, H w' → H (w'.alloc o)
  set : ∀ w' n i v, H w' → N ≤ n → H (w'.setCell ⟨n, i, none⟩ v)
  size : ∀ w', H w' → N ≤ w'.heap.size
  cells : ∀ w', H w' → w'.cell? ⟨b, 0, none⟩ = some (.string k) ∧ w'.cell? ⟨b, 1, none⟩ = some (.string d) ∧ w'.cell? ⟨b, 2, none⟩ = some (.bool x) ∧ w'.cell? ⟨b, 3, none⟩ = some (.slice xa un xc) ∧
      w'.cell? ⟨c, 0, none⟩ = some (.string k2) ∧ w'.cell? ⟨c, 1, none⟩ = some (.string d2) ∧ w'.cell? ⟨c, 2, none⟩ = some (.bool x2) ∧ w'.cell? ⟨c, 3, none⟩ = some (.slice ya vn yc)
  check1 : ∀ w', H w' → Calls Tryd.prog 15 #[.agg #[.string k, .string d, .bool x, .slice xa un xc]] w' fun e w'' => e = .returned (match e1 with | none => .nilIface | some p => .iface 176 (.pointer (some p))) ∧ H w''
  check2 : ∀ w', H w' → Calls Tryd.prog 15 #[.agg #[.string k2, .string d2, .bool x2, .slice ya vn yc]] w' fun e w'' => e = .returned (match e2 with | none => .nilIface | some p => .iface 176 (.pointer (some p))) ∧ H w''
  text1 : e1 = none → e2 = none → ∀ w', H w' → Calls Tryd.prog 28 #[.agg #[.string k, .string d, .bool x, .slice xa un xc]] w' fun e w'' => e = .returned (.string sx) ∧ H w''
  text2 : e1 = none → e2 = none → ∀ w', H w' → Calls Tryd.prog 28 #[.agg #[.string k2, .string d2, .bool x2, .slice ya vn yc]] w' fun e w'' => e = .returned (.string sy) ∧ H w''
  read : e1 = none → e2 = none → ∀ w', H w' → Calls Tryd.prog 30 #[.string sx] w' fun e w'' => H w'' ∧ Below w'.heap.size w' w'' ∧ ((20000 < sx.size ∧ ∃ p, e = .returned (.tuple #[.agg #[.string { data := #[] }, .string { data := #[] }, .bool false, .slice none 0 0], .iface 176 (.pointer (some p))])) ∨
    ∃ k3 d3 x3 na nn nc, e = .returned (.tuple #[.agg #[.string k3, .string d3, .bool x3, .slice na nn nc], .nilIface]) ∧ ∀ w3, H w3 → w''.heap.size ≤ w3.heap.size → (∀ j, w'.heap.size ≤ j → j < w''.heap.size → w3.heap[j]? = w''.heap[j]?) → Calls Tryd.prog 17 #[.agg #[.string k3, .string d3, .bool x3, .slice na nn nc], .agg #[.string k, .string d, .bool x, .slice xa un xc]] w3 fun e w4 => e = .returned (.bool true) ∧ H w4 ∧ Below w3.heap.size w3 w4)
  add : ∀ w', (Op.stringOp .add sx q).run Tryd.prog w' = .ok (.string (sx ++ q)) w'
  first : e1 = none → e2 = none → ∀ w', H w' → Calls Tryd.prog 32 #[.string (sx ++ q)] w' fun e w'' => H w'' ∧ Below w'.heap.size w' w'' ∧ ((20000 < sx.size + q.size ∧ ∃ p, e = .returned (.tuple #[.agg #[.string { data := #[] }, .string { data := #[] }, .bool false, .slice none 0 0], .string { data := #[] }, .iface 176 (.pointer (some p))])) ∨
    ∃ k3 d3 x3 na nn nc, e = .returned (.tuple #[.agg #[.string k3, .string d3, .bool x3, .slice na nn nc], .string q, .nilIface]) ∧ ∀ w3, H w3 → w''.heap.size ≤ w3.heap.size → (∀ j, w'.heap.size ≤ j → j < w''.heap.size → w3.heap[j]? = w''.heap[j]?) → Calls Tryd.prog 17 #[.agg #[.string k3, .string d3, .bool x3, .slice na nn nc], .agg #[.string k, .string d, .bool x, .slice xa un xc]] w3 fun e w4 => e = .returned (.bool true) ∧ H w4 ∧ Below w3.heap.size w3 w4)
  same : ∀ w', H w' → Calls Tryd.prog 17 #[.agg #[.string k, .string d, .bool x, .slice xa un xc], .agg #[.string k2, .string d2, .bool x2, .slice ya vn yc]] w' fun e w'' => e = .returned (.bool sb) ∧ H w''
  sizes : sx.size ≤ 140737488355328 ∧ sy.size ≤ 140737488355328 ∧ q.size ≤ 100
  begins : e1 = none → e2 = none → (if sx.size ≤ sy.size then ((sy.extract 0 sx.size).toList == sx.toList) else false) = sb
  ends : ∀ w', H w' → R w'
/-- What it asks of the copies. -/
def BackOwns (k d k2 d2 q : ByteArray) (x x2 : Bool) (ua ub : Option Addr) (un uc vn vc : Nat) (b0 : Nat) (R G : World → Prop) : Prop :=
  ∀ w', G w' → Calls Tryd.prog 11 #[.agg #[.string k, .string d, .bool x, .slice ua un uc]] w' fun e w1 => ∃ xa xc, e = .returned (.agg #[.string k, .string d, .bool x, .slice xa un xc]) ∧
    ((w1.alloc (.cells #[.string k, .string d, .bool x, .slice xa un xc] 24)).cell? ⟨b0 + 1, 0, none⟩ = some (.string k2) ∧ (w1.alloc (.cells #[.string k, .string d, .bool x, .slice xa un xc] 24)).cell? ⟨b0 + 1, 1, none⟩ = some (.string d2) ∧ (w1.alloc (.cells #[.string k, .string d, .bool x, .slice xa un xc] 24)).cell? ⟨b0 + 1, 2, none⟩ = some (.bool x2) ∧ (w1.alloc (.cells #[.string k, .string d, .bool x, .slice xa un xc] 24)).cell? ⟨b0 + 1, 3, none⟩ = some (.slice ub vn vc)) ∧
    Calls Tryd.prog 11 #[.agg #[.string k2, .string d2, .bool x2, .slice ub vn vc]] (w1.alloc (.cells #[.string k, .string d, .bool x, .slice xa un xc] 24)) fun e w2 => ∃ ya yc, e = .returned (.agg #[.string k2, .string d2, .bool x2, .slice ya vn yc]) ∧
      ∃ H e1 e2 sx sy sb, H (w2.alloc (.cells #[.string k2, .string d2, .bool x2, .slice ya vn yc] 24)) ∧ BackTail k d k2 d2 q x x2 xa ya un vn xc yc w1.heap.size w2.heap.size (w2.heap.size + 1) R H e1 e2 sx sy sb

set_option maxRecDepth 100000 in
set_option maxHeartbeats 4000000 in
theorem back_skel (k d k2 d2 q : ByteArray) (x x2 : Bool) (ua ub : Option Addr) (un uc vn vc : Nat) (w : World) (la lb : Int) (hla : la = 0 ∨ la = 1) (hlb : lb = 0 ∨ lb = 1) (hq : q.size ≤ maxLen)
    (R G : World → Prop) (HR : Hid (∀ w', G w' → R w'))
    (HT : Hid (Calls Tryd.prog 27 #[] ((w.alloc (.cells #[.string k, .string d, .bool x, .slice ua un uc] 24)).alloc (.cells #[.string k2, .string d2, .bool x2, .slice ub vn vc] 24)) fun e w' => e = .returned (.bool true) ∧ G w'))
    (HD : Hid (∀ w', G w' → G w'.drew))
    (HK : Hid (∀ w', G w' → w'.cell? ⟨w.heap.size, 0, none⟩ = some (.string k) ∧ w'.cell? ⟨w.heap.size, 1, none⟩ = some (.string d) ∧ w'.cell? ⟨w.heap.size, 2, none⟩ = some (.bool x) ∧ w'.cell? ⟨w.heap.size, 3, none⟩ = some (.slice ua un uc) ∧
      w'.cell? ⟨w.heap.size + 1, 0, none⟩ = some (.string k2) ∧ w'.cell? ⟨w.heap.size + 1, 1, none⟩ = some (.string d2) ∧ w'.cell? ⟨w.heap.size + 1, 2, none⟩ = some (.bool x2) ∧ w'.cell? ⟨w.heap.size + 1, 3, none⟩ = some (.slice ub vn vc)))
    (HGS : Hid (∀ w', G w' → Calls Tryd.prog 10 #[.agg #[.string k, .string d, .bool x, .slice ua un uc], .int .i64 100] w' fun e w'' => e = .returned (.int .i64 la) ∧ G w''))
    (HGT : Hid (∀ w', G w' → Calls Tryd.prog 10 #[.agg #[.string k2, .string d2, .bool x2, .slice ub vn vc], .int .i64 100] w' fun e w'' => e = .returned (.int .i64 lb) ∧ G w''))
    (HO : Hid (la + lb = 0 → q.size ≤ 100 → BackOwns k d k2 d2 q x x2 ua ub un uc vn vc w.heap.size R G)) :
    Calls Tryd.prog 7 #[.agg #[.string k, .string d, .bool x, .slice ua un uc], .agg #[.string k2, .string d2, .bool x2, .slice ub vn vc], .string q] w fun e w' => e = .returned (.bool true) ∧ R w' := by
  unfold maxLen at hq
  go_enter Tryd.func7, Tryd.ntmps7
  go_wp2_with fail
  refine Calls.mono HT.out ?_
  rintro e w2 ⟨rfl, hg2⟩
  have wk : IntKind.i64.wrap (la + lb) = la + lb := by
    rcases hla with rfl | rfl <;> rcases hlb with rfl | rfl <;> decide
  have hlo : 0 ≤ la + lb := by omega
  clear hla hlb
  go_upto_region 2 with fail
  go_cut [31] (fun c wx => c = .bool (decide (0 < la + lb) || decide (100 < q.size)) ∧ G wx)
  case first =>
    refine wp_region_held_drew (S := fun w' => w'.cell? ⟨w.heap.size, 0, none⟩ = some (.string k) ∧ w'.cell? ⟨w.heap.size, 1, none⟩ = some (.string d) ∧ w'.cell? ⟨w.heap.size, 2, none⟩ = some (.bool x) ∧ w'.cell? ⟨w.heap.size, 3, none⟩ = some (.slice ua un uc) ∧
          w'.cell? ⟨w.heap.size + 1, 0, none⟩ = some (.string k2) ∧ w'.cell? ⟨w.heap.size + 1, 1, none⟩ = some (.string d2) ∧ w'.cell? ⟨w.heap.size + 1, 2, none⟩ = some (.bool x2) ∧ w'.cell? ⟨w.heap.size + 1, 3, none⟩ = some (.slice ub vn vc)) (by kernel_rfl) (HK.out _ (HD.out _ hg2)) (fun hHeld => ?_)
    refine wpAnyH_take (i := 0) (v := .bool true) rfl (by kernel_rfl) (by kernel_rfl) (by kernel_rfl) (fun _ _ _ h => h) (Or.inl ⟨by rfl, ?_⟩) hHeld ?_
    · intro w hSw; (try dsimp only at hSw); simp only [List.getElem_toArray, List.getElem_cons_zero]; go_simp
    simp only [List.getElem_toArray, List.getElem_cons_zero, Act.put, List.setIfInBounds_toArray, List.set_cons_zero, List.set_cons_succ]
    refine wpAnyH_take (i := 1) (v := .bool false) rfl (by kernel_rfl) (by kernel_rfl) (by kernel_rfl) (fun _ _ _ h => h) (Or.inl ⟨by rfl, ?_⟩) hHeld ?_
    · intro w hSw; (try dsimp only at hSw); simp only [List.getElem_toArray, List.getElem_cons_zero, List.getElem_cons_succ]; go_simp
    simp only [List.getElem_toArray, List.getElem_cons_zero, List.getElem_cons_succ, Act.put, List.setIfInBounds_toArray, List.set_cons_zero, List.set_cons_succ]
    refine wpAnyH_take (i := 2) (v := .bool false) rfl (by kernel_rfl) (by kernel_rfl) (by kernel_rfl) (fun _ _ _ h => h) (Or.inl ⟨by rfl, ?_⟩) hHeld ?_
    · intro w hSw; (try dsimp only at hSw); simp only [List.getElem_toArray, List.getElem_cons_zero, List.getElem_cons_succ]; go_simp
    simp only [List.getElem_toArray, List.getElem_cons_zero, List.getElem_cons_succ, Act.put, List.setIfInBounds_toArray, List.set_cons_zero, List.set_cons_succ]
    refine wpAnyH_take (i := 3) (v := .agg #[.string k, .string d, .bool x, .slice ua un uc]) rfl (by kernel_rfl) (by kernel_rfl) (by kernel_rfl) (fun _ _ _ h => h) (Or.inl ⟨by rfl, ?_⟩) hHeld ?_
    · intro w hSw; (try dsimp only at hSw); simp only [List.getElem_toArray, List.getElem_cons_zero, List.getElem_cons_succ]; go_simp
    simp only [List.getElem_toArray, List.getElem_cons_zero, List.getElem_cons_succ, Act.put, List.setIfInBounds_toArray, List.set_cons_zero, List.set_cons_succ]
    refine wpAnyH_take (i := 5) (v := .agg #[.string k2, .string d2, .bool x2, .slice ub vn vc]) rfl (by kernel_rfl) (by kernel_rfl) (by kernel_rfl) (fun _ _ _ h => h) (Or.inl ⟨by rfl, ?_⟩) hHeld ?_
    · intro w hSw; (try dsimp only at hSw); simp only [List.getElem_toArray, List.getElem_cons_zero, List.getElem_cons_succ]; go_simp
    simp only [List.getElem_toArray, List.getElem_cons_zero, List.getElem_cons_succ, Act.put, List.setIfInBounds_toArray, List.set_cons_zero, List.set_cons_succ]
    refine wpAnyH_ready (rs := [4]) (by kernel_rfl) (by simp) ?_
    refine AllReadyH.cons rfl (fun K' hK => ?_) AllReadyH.nil
    simp only [List.getElem_toArray, List.getElem_cons_zero, List.getElem_cons_succ]
    go_simp
    refine Calls.mono (HGS.out _ (HD.out _ hg2)) ?_
    rintro e wx ⟨rfl, hg⟩
    go_wp2_with fail
    refine hK.out _ _ (HK.out _ hg) (fun hHeld' => ?_)
    clear hK K' hHeld
    have hHeld := hHeld'
    clear hHeld'
    refine wpAnyH_ready (rs := [6]) (by kernel_rfl) (by simp) ?_
    refine AllReadyH.cons rfl (fun K' hK => ?_) AllReadyH.nil
    simp only [List.getElem_toArray, List.getElem_cons_zero, List.getElem_cons_succ]
    go_simp
    refine Calls.mono (HGT.out _ hg) ?_
    rintro e wx ⟨rfl, hg'⟩
    go_wp2_with fail
    refine hK.out _ _ (HK.out _ hg') (fun hHeld' => ?_)
    clear hK K' hHeld
    have hHeld := hHeld'
    clear hHeld'
    refine wpAnyH_take (i := 7) (v := .int .i64 (la + lb)) rfl (by kernel_rfl) (by kernel_rfl) (by kernel_rfl) (fun _ _ _ h => h) (Or.inl ⟨by rfl, ?_⟩) hHeld ?_
    · intro w hSw; (try dsimp only at hSw); simp only [List.getElem_toArray, List.getElem_cons_zero, List.getElem_cons_succ]; go_simp
    simp only [List.getElem_toArray, List.getElem_cons_zero, List.getElem_cons_succ, Act.put, List.setIfInBounds_toArray, List.set_cons_zero, List.set_cons_succ]
    by_cases hbig : 0 < la + lb
    · skip
      refine wpAnyH_take (i := 8) (v := .bool true) rfl (by kernel_rfl) (by kernel_rfl) (by kernel_rfl) (fun _ _ _ h => h) (Or.inl ⟨by rfl, ?_⟩) hHeld ?_
      · intro w hSw; (try dsimp only at hSw); simp only [List.getElem_toArray, List.getElem_cons_zero, List.getElem_cons_succ]; go_simp
      simp only [List.getElem_toArray, List.getElem_cons_zero, List.getElem_cons_succ, Act.put, List.setIfInBounds_toArray, List.set_cons_zero, List.set_cons_succ]
      refine wpAnyH_take (i := 9) (v := .bool true) rfl (by kernel_rfl) (by kernel_rfl) (by kernel_rfl) (fun _ _ _ h => h) (Or.inl ⟨by rfl, ?_⟩) hHeld ?_
      · intro w hSw; (try dsimp only at hSw); simp only [List.getElem_toArray, List.getElem_cons_zero, List.getElem_cons_succ]; go_simp
      simp only [List.getElem_toArray, List.getElem_cons_zero, List.getElem_cons_succ, Act.put, List.setIfInBounds_toArray, List.set_cons_zero, List.set_cons_succ]
      refine wpAnyH_take (i := 10) (v := .bool true) rfl (by kernel_rfl) (by kernel_rfl) (by kernel_rfl) (fun _ _ _ h => h) (Or.inl ⟨by rfl, ?_⟩) hHeld ?_
      · intro w hSw; (try dsimp only at hSw); simp only [List.getElem_toArray, List.getElem_cons_zero, List.getElem_cons_succ]; go_simp
      simp only [List.getElem_toArray, List.getElem_cons_zero, List.getElem_cons_succ, Act.put, List.setIfInBounds_toArray, List.set_cons_zero, List.set_cons_succ]
      refine wpAnyH_take (i := 11) (v := undef) rfl (by kernel_rfl) (by kernel_rfl) (by kernel_rfl) (fun _ _ _ h => h) (Or.inr ⟨by rfl, rfl⟩) hHeld ?_
      simp only [List.getElem_toArray, List.getElem_cons_zero, List.getElem_cons_succ, Act.put, List.setIfInBounds_toArray, List.set_cons_zero, List.set_cons_succ]
      refine wpAnyH_take (i := 12) (v := undef) rfl (by kernel_rfl) (by kernel_rfl) (by kernel_rfl) (fun _ _ _ h => h) (Or.inr ⟨by rfl, rfl⟩) hHeld ?_
      simp only [List.getElem_toArray, List.getElem_cons_zero, List.getElem_cons_succ, Act.put, List.setIfInBounds_toArray, List.set_cons_zero, List.set_cons_succ]
      refine wpAnyH_take (i := 13) (v := undef) rfl (by kernel_rfl) (by kernel_rfl) (by kernel_rfl) (fun _ _ _ h => h) (Or.inr ⟨by rfl, rfl⟩) hHeld ?_
      simp only [List.getElem_toArray, List.getElem_cons_zero, List.getElem_cons_succ, Act.put, List.setIfInBounds_toArray, List.set_cons_zero, List.set_cons_succ]
      refine wpAnyH_take (i := 14) (v := .bool true) rfl (by kernel_rfl) (by kernel_rfl) (by kernel_rfl) (fun _ _ _ h => h) (Or.inl ⟨by rfl, ?_⟩) hHeld ?_
      · intro w hSw; (try dsimp only at hSw); simp only [List.getElem_toArray, List.getElem_cons_zero, List.getElem_cons_succ]; go_simp
      simp only [List.getElem_toArray, List.getElem_cons_zero, List.getElem_cons_succ, Act.put, List.setIfInBounds_toArray, List.set_cons_zero, List.set_cons_succ]
      refine wpAnyH_done (by kernel_rfl) ?_ _
      go_wp2_with fail
      go_meet
      case rel => exact ⟨by rw [decide_eq_true hbig]; rfl, hg'⟩
    by_cases h40 : 100 < q.size
    · have h40' : (100 : Int) < (q.size : Int) := by omega
      refine wpAnyH_take (i := 8) (v := .bool false) rfl (by kernel_rfl) (by kernel_rfl) (by kernel_rfl) (fun _ _ _ h => h) (Or.inl ⟨by rfl, ?_⟩) hHeld ?_
      · intro w hSw; (try dsimp only at hSw); simp only [List.getElem_toArray, List.getElem_cons_zero, List.getElem_cons_succ]; go_simp
      simp only [List.getElem_toArray, List.getElem_cons_zero, List.getElem_cons_succ, Act.put, List.setIfInBounds_toArray, List.set_cons_zero, List.set_cons_succ]
      refine wpAnyH_take (i := 9) (v := .bool false) rfl (by kernel_rfl) (by kernel_rfl) (by kernel_rfl) (fun _ _ _ h => h) (Or.inl ⟨by rfl, ?_⟩) hHeld ?_
      · intro w hSw; (try dsimp only at hSw); simp only [List.getElem_toArray, List.getElem_cons_zero, List.getElem_cons_succ]; go_simp
      simp only [List.getElem_toArray, List.getElem_cons_zero, List.getElem_cons_succ, Act.put, List.setIfInBounds_toArray, List.set_cons_zero, List.set_cons_succ]
      refine wpAnyH_take (i := 10) (v := .bool false) rfl (by kernel_rfl) (by kernel_rfl) (by kernel_rfl) (fun _ _ _ h => h) (Or.inl ⟨by rfl, ?_⟩) hHeld ?_
      · intro w hSw; (try dsimp only at hSw); simp only [List.getElem_toArray, List.getElem_cons_zero, List.getElem_cons_succ]; go_simp
      simp only [List.getElem_toArray, List.getElem_cons_zero, List.getElem_cons_succ, Act.put, List.setIfInBounds_toArray, List.set_cons_zero, List.set_cons_succ]
      refine wpAnyH_take (i := 11) (v := .string q) rfl (by kernel_rfl) (by kernel_rfl) (by kernel_rfl) (fun _ _ _ h => h) (Or.inl ⟨by rfl, ?_⟩) hHeld ?_
      · intro w hSw; (try dsimp only at hSw); simp only [List.getElem_toArray, List.getElem_cons_zero, List.getElem_cons_succ]; go_simp
      simp only [List.getElem_toArray, List.getElem_cons_zero, List.getElem_cons_succ, Act.put, List.setIfInBounds_toArray, List.set_cons_zero, List.set_cons_succ]
      refine wpAnyH_take (i := 12) (v := .int .i64 (q.size : Int)) rfl (by kernel_rfl) (by kernel_rfl) (by kernel_rfl) (fun _ _ _ h => h) (Or.inl ⟨by rfl, ?_⟩) hHeld ?_
      · intro w hSw; (try dsimp only at hSw); simp only [List.getElem_toArray, List.getElem_cons_zero, List.getElem_cons_succ]; go_simp
      simp only [List.getElem_toArray, List.getElem_cons_zero, List.getElem_cons_succ, Act.put, List.setIfInBounds_toArray, List.set_cons_zero, List.set_cons_succ]
      refine wpAnyH_take (i := 13) (v := .bool true) rfl (by kernel_rfl) (by kernel_rfl) (by kernel_rfl) (fun _ _ _ h => h) (Or.inl ⟨by rfl, ?_⟩) hHeld ?_
      · intro w hSw; (try dsimp only at hSw); simp only [List.getElem_toArray, List.getElem_cons_zero, List.getElem_cons_succ]; go_simp
      simp only [List.getElem_toArray, List.getElem_cons_zero, List.getElem_cons_succ, Act.put, List.setIfInBounds_toArray, List.set_cons_zero, List.set_cons_succ]
      refine wpAnyH_take (i := 14) (v := .bool true) rfl (by kernel_rfl) (by kernel_rfl) (by kernel_rfl) (fun _ _ _ h => h) (Or.inl ⟨by rfl, ?_⟩) hHeld ?_
      · intro w hSw; (try dsimp only at hSw); simp only [List.getElem_toArray, List.getElem_cons_zero, List.getElem_cons_succ]; go_simp
      simp only [List.getElem_toArray, List.getElem_cons_zero, List.getElem_cons_succ, Act.put, List.setIfInBounds_toArray, List.set_cons_zero, List.set_cons_succ]
      refine wpAnyH_done (by kernel_rfl) ?_ _
      go_wp2_with fail
      go_meet
      case rel => exact ⟨by rw [decide_eq_false (p := 0 < la + lb) (by omega), decide_eq_true (p := 100 < q.size) (by omega)]; rfl, hg'⟩
    · have h40' : ¬ (100 : Int) < (q.size : Int) := by omega
      refine wpAnyH_take (i := 8) (v := .bool false) rfl (by kernel_rfl) (by kernel_rfl) (by kernel_rfl) (fun _ _ _ h => h) (Or.inl ⟨by rfl, ?_⟩) hHeld ?_
      · intro w hSw; (try dsimp only at hSw); simp only [List.getElem_toArray, List.getElem_cons_zero, List.getElem_cons_succ]; go_simp
      simp only [List.getElem_toArray, List.getElem_cons_zero, List.getElem_cons_succ, Act.put, List.setIfInBounds_toArray, List.set_cons_zero, List.set_cons_succ]
      refine wpAnyH_take (i := 9) (v := .bool false) rfl (by kernel_rfl) (by kernel_rfl) (by kernel_rfl) (fun _ _ _ h => h) (Or.inl ⟨by rfl, ?_⟩) hHeld ?_
      · intro w hSw; (try dsimp only at hSw); simp only [List.getElem_toArray, List.getElem_cons_zero, List.getElem_cons_succ]; go_simp
      simp only [List.getElem_toArray, List.getElem_cons_zero, List.getElem_cons_succ, Act.put, List.setIfInBounds_toArray, List.set_cons_zero, List.set_cons_succ]
      refine wpAnyH_take (i := 10) (v := .bool false) rfl (by kernel_rfl) (by kernel_rfl) (by kernel_rfl) (fun _ _ _ h => h) (Or.inl ⟨by rfl, ?_⟩) hHeld ?_
      · intro w hSw; (try dsimp only at hSw); simp only [List.getElem_toArray, List.getElem_cons_zero, List.getElem_cons_succ]; go_simp
      simp only [List.getElem_toArray, List.getElem_cons_zero, List.getElem_cons_succ, Act.put, List.setIfInBounds_toArray, List.set_cons_zero, List.set_cons_succ]
      refine wpAnyH_take (i := 11) (v := .string q) rfl (by kernel_rfl) (by kernel_rfl) (by kernel_rfl) (fun _ _ _ h => h) (Or.inl ⟨by rfl, ?_⟩) hHeld ?_
      · intro w hSw; (try dsimp only at hSw); simp only [List.getElem_toArray, List.getElem_cons_zero, List.getElem_cons_succ]; go_simp
      simp only [List.getElem_toArray, List.getElem_cons_zero, List.getElem_cons_succ, Act.put, List.setIfInBounds_toArray, List.set_cons_zero, List.set_cons_succ]
      refine wpAnyH_take (i := 12) (v := .int .i64 (q.size : Int)) rfl (by kernel_rfl) (by kernel_rfl) (by kernel_rfl) (fun _ _ _ h => h) (Or.inl ⟨by rfl, ?_⟩) hHeld ?_
      · intro w hSw; (try dsimp only at hSw); simp only [List.getElem_toArray, List.getElem_cons_zero, List.getElem_cons_succ]; go_simp
      simp only [List.getElem_toArray, List.getElem_cons_zero, List.getElem_cons_succ, Act.put, List.setIfInBounds_toArray, List.set_cons_zero, List.set_cons_succ]
      refine wpAnyH_take (i := 13) (v := .bool false) rfl (by kernel_rfl) (by kernel_rfl) (by kernel_rfl) (fun _ _ _ h => h) (Or.inl ⟨by rfl, ?_⟩) hHeld ?_
      · intro w hSw; (try dsimp only at hSw); simp only [List.getElem_toArray, List.getElem_cons_zero, List.getElem_cons_succ]; go_simp
      simp only [List.getElem_toArray, List.getElem_cons_zero, List.getElem_cons_succ, Act.put, List.setIfInBounds_toArray, List.set_cons_zero, List.set_cons_succ]
      refine wpAnyH_take (i := 14) (v := .bool false) rfl (by kernel_rfl) (by kernel_rfl) (by kernel_rfl) (fun _ _ _ h => h) (Or.inl ⟨by rfl, ?_⟩) hHeld ?_
      · intro w hSw; (try dsimp only at hSw); simp only [List.getElem_toArray, List.getElem_cons_zero, List.getElem_cons_succ]; go_simp
      simp only [List.getElem_toArray, List.getElem_cons_zero, List.getElem_cons_succ, Act.put, List.setIfInBounds_toArray, List.set_cons_zero, List.set_cons_succ]
      refine wpAnyH_done (by kernel_rfl) ?_ _
      go_wp2_with fail
      go_meet
      case rel => exact ⟨by rw [decide_eq_false (p := 0 < la + lb) (by omega), decide_eq_false (p := 100 < q.size) (by omega)]; rfl, hg'⟩
  case rest =>
    obtain ⟨rfl, hg⟩ := hcut
    by_cases hend : 0 < la + lb ∨ 100 < q.size
    · have hend' : (decide (0 < la + lb) || decide (100 < q.size)) = true := by simpa using hend
      rw [hend']
      go_wp2_with fail
      go_ret
      exact ⟨rfl, HR.out _ hg⟩
    have hend' : (decide (0 < la + lb) || decide (100 < q.size)) = false := by simpa using hend
    rw [hend']
    have HO' : Hid (BackOwns k d k2 d2 q x x2 ua ub un uc vn vc w.heap.size R G) := HO.out (by omega) (by omega)
    obtain ⟨d0, d1, d2', d3, hrest⟩ := HK.out _ hg
    clear hrest
    clear HGS HGT HO hend hend' wk hlo HT HK HD HR hg2 w2
    go_wp2_with fail
    refine Calls.mono (HO'.out _ hg) ?_
    rintro e w3 ⟨xa, xc, rfl, ⟨e0, e1, e2, e3⟩, hB⟩
    have HB : Hid _ := hB
    clear hB d0 d1 d2' d3 HO' hg wc
    go_wp2_with fail
    refine Calls.mono HB.out ?_
    rintro e w4 ⟨ya, yc, rfl, H, p1, p2, sx, sy, sb, hg, t⟩
    have T : Hid _ := t
    clear t HB e0 e1 e2 e3
    obtain ⟨y0, y1, y2, y3, z0, z1, z2, z3⟩ := T.out.cells _ hg
    go_wp2_with fail
    refine Calls.mono (T.out.check1 _ hg) ?_
    clear y0 y1 y2 y3 z0 z1 z2 z3 hg
    rintro e w5 ⟨rfl, hg⟩
    cases p1 with
    | some p =>
      simp only
      go_wp2_with fail
      go_ret
      exact ⟨rfl, T.out.ends _ hg⟩
    | none =>
    simp only
    obtain ⟨y0, y1, y2, y3, z0, z1, z2, z3⟩ := T.out.cells _ hg
    go_wp2_with fail
    refine Calls.mono (T.out.check2 _ hg) ?_
    clear y0 y1 y2 y3 z0 z1 z2 z3 hg
    rintro e w6 ⟨rfl, hg⟩
    cases p2 with
    | some p =>
      simp only
      go_wp2_with fail
      go_ret
      exact ⟨rfl, T.out.ends _ hg⟩
    | none =>
    simp only
    obtain ⟨y0, y1, y2, y3, z0, z1, z2, z3⟩ := T.out.cells _ hg
    go_wp2_with fail
    refine Calls.mono (T.out.text1 rfl rfl _ hg) ?_
    clear y0 y1 y2 y3 z0 z1 z2 z3 hg
    rintro e w7 ⟨rfl, hg⟩
    obtain ⟨y0, y1, y2, y3, z0, z1, z2, z3⟩ := T.out.cells _ hg
    go_wp2_with fail
    refine Calls.mono (T.out.text2 rfl rfl _ hg) ?_
    clear y0 y1 y2 y3 z0 z1 z2 z3 hg
    rintro e w8 ⟨rfl, hg⟩
    have hsz := T.out.sizes
    go_wp2_with fail
    refine Calls.mono (T.out.read rfl rfl _ hg) ?_
    rintro e w9 ⟨hg9, hb9, ⟨hlong, p, rfl⟩ | ⟨k3, d3, x3, na, nn, nc, rfl, hs9⟩⟩
    · have hlong' : (20000 : Int) < (sx.size : Int) := by omega
      have HE : Hid _ := T.out.ends _ (T.out.alloc _ (.cells #[.string { data := #[] }, .string { data := #[] }, .bool false, .slice none 0 0] 24) hg9)
      clear hb9 hg hg9
      go_wp2_with fail
      go_ret
      exact ⟨rfl, HE.out⟩
    have hga := T.out.alloc _ (.cells #[.string k3, .string d3, .bool x3, .slice na nn nc] 24) hg9
    have HS9 : Hid _ := hs9 _ hga (by simp) (fun j _ hj => Below.heap_alloc _ _ _ hj)
    obtain ⟨y0, y1, y2, y3, z0, z1, z2, z3⟩ := T.out.cells _ hga
    have hN9 := T.out.size _ hg9
    have HROW : Hid _ := row_alloc' w9 #[.string k3, .string d3, .bool x3, .slice na nn nc] 24
    clear hs9 hb9 hg z0 z1 z2 z3 hga hg9
    go_wp2_with fail
    refine Calls.mono HS9.out ?_
    clear y0 y1 y2 y3
    rintro e w10 ⟨rfl, hg, hb10⟩
    have hrow10 := (hb10.block w9.heap.size (by simp)).trans HROW.out
    have hz10 := hb10.size
    simp only [World.size_alloc] at hz10
    clear HS9 HROW hb10
    have hadd := T.out.add
    go_wp2_with fail
    refine Calls.mono (T.out.first rfl rfl _ hg) ?_
    rintro e w11 ⟨hg11, hb11, ⟨hlong, p, rfl⟩ | ⟨k4, d4, x4, ma, mn, mc, rfl, hs11⟩⟩
    · have hlong' : (20000 : Int) < (sx.size : Int) + (q.size : Int) := by omega
      have hwr : IntKind.i64.wrap ((sx.size : Int) + (q.size : Int)) = (sx.size : Int) + (q.size : Int) := by simp (disch := omega) only [IntWalk.i64_in]
      have hrow11 := (hb11.block w9.heap.size (by omega)).trans hrow10
      obtain ⟨⟨q0, q1, q2, q3⟩, f0, f1, f2, f3⟩ := row4 hrow11
      have HE : Hid _ := T.out.ends _ (T.out.set _ w9.heap.size 3 (.slice none 0 0) (T.out.set _ w9.heap.size 2 (.bool false) (T.out.set _ w9.heap.size 1 (.string { data := #[] }) (T.out.set _ w9.heap.size 0 (.string { data := #[] }) hg11 hN9) hN9) hN9) hN9)
      clear hrow11 hrow10 hb11 hg hg11
      go_wp2_with fail
      go_ret
      exact ⟨rfl, HE.out⟩
    have hrow11 := (hb11.block w9.heap.size (by omega)).trans hrow10
    obtain ⟨⟨q0, q1, q2, q3⟩, f0, f1, f2, f3⟩ := row4 hrow11
    have hgs := T.out.set _ w9.heap.size 3 (.slice ma mn mc) (T.out.set _ w9.heap.size 2 (.bool x4) (T.out.set _ w9.heap.size 1 (.string d4) (T.out.set _ w9.heap.size 0 (.string k4) hg11 hN9) hN9) hN9) hN9
    have hSB := ((((SameBut.refl w9.heap.size w11).set 0 (.string k4)).set 1 (.string d4)).set 2 (.bool x4)).set 3 (.slice ma mn mc)
    have HS11 : Hid _ := hs11 _ hgs (by rw [hSB.size]; exact Nat.le_refl _) (fun j hj1 _ => hSB.block j (by omega))
    obtain ⟨y0, y1, y2, y3, z0, z1, z2, z3⟩ := T.out.cells _ hgs
    clear hs11 hb11 hrow10 hrow11 hg hg11 hSB z0 z1 z2 z3 hgs
    go_wp2_with fail
    refine Calls.mono HS11.out ?_
    clear y0 y1 y2 y3 q0 q1 q2 q3 f0 f1 f2 f3
    rintro e w12 ⟨rfl, hg, _⟩
    obtain ⟨y0, y1, y2, y3, z0, z1, z2, z3⟩ := T.out.cells _ hg
    have HBG : Hid _ := T.out.begins rfl rfl
    have HSM : Hid _ := T.out.same _ hg
    clear HS11 hg
    by_cases hle : sx.size ≤ sy.size
    · have hle' : (sx.size : Int) ≤ (sy.size : Int) := by omega
      have HBB : Hid (((sy.extract 0 sx.size).toList == sx.toList) = sb) := by have := HBG.out; rw [if_pos hle] at this; exact this
      clear HBG
      go_wp2_with fail
      refine Calls.mono HSM.out ?_
      rintro e w13 ⟨rfl, hg⟩
      have HE : Hid _ := T.out.ends _ hg
      clear hg
      go_wp2_with fail
      go_ret
      exact ⟨ret_bool (by rw [HBB.out]; simp), HE.out⟩
    · have hle' : ¬ (sx.size : Int) ≤ (sy.size : Int) := by omega
      have HBB : Hid (false = sb) := by have := HBG.out; rw [if_neg hle] at this; exact this
      clear HBG
      go_wp2_with fail
      refine Calls.mono HSM.out ?_
      rintro e w13 ⟨rfl, hg⟩
      have HE : Hid _ := T.out.ends _ hg
      clear hg
      go_wp2_with fail
      go_ret
      exact ⟨ret_bool (by rw [← HBB.out]; simp), HE.out⟩
end Go.Proofs.YtilkjafggfdjeaaDoor
