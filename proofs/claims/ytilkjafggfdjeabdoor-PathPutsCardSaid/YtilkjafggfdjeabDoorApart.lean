/-
  The contract of the document's IsApart, and what it says of two paths' names.
  Conditions: the texts are not too long.
-/
import Derived.Test.YtilkjafggfdjeabDoorPathT
import Derived.Test.YtilkjafggfdjeabDoorPutP
namespace Go.Proofs.YtilkjafggfdjeabDoor
open Go.RowKit
attribute [local go_sem ↓] Go.wp_at_zero Go.wp_at_succ

/-- A path with a stroke behind it. -/
def apB (s : ByteArray) : ByteArray := if (s.toList == [47]) = true then s else s ++ strokeB
def begB (x y : ByteArray) : Bool := (y.extract 0 x.size).toList == x.toList
def apartB (s t : ByteArray) : Bool := if (apB s).size ≤ (apB t).size then !(begB (apB s) (apB t)) else !(begB (apB t) (apB s))
theorem apB_size (s : ByteArray) : (apB s).size ≤ s.size + 1 := by
  unfold apB
  split
  · omega
  · rw [ByteArray.size_append]; exact Nat.le_refl _

set_option maxRecDepth 100000 in
set_option maxHeartbeats 1000000 in
theorem apart_any (s t : ByteArray) (w : World) (hs : s.size ≤ 1000) (ht : t.size ≤ 1000) : Calls Tryd.prog 13 #[.string s, .string t] w fun e w' => e = .returned (.bool (apartB s t)) ∧ w' = w := by
  have add : ∀ q : ByteArray, q.size ≤ 1000 → ∀ w', (Op.stringOp .add q { data := #[47] }).run Tryd.prog w' = .ok (.string (q ++ { data := #[47] })) w' := fun q hq w' => run_string_add_sum w' _ _ (show q.size + 1 ≤ _ by omega)
  have a1 := add s hs
  have a2 := add t ht
  have z1 := apB_size s
  have z2 := apB_size t
  obtain ⟨r, hr⟩ : ∃ r, r = apartB s t := ⟨_, rfl⟩
  rw [← hr]
  have HP : Hid (r = apartB s t) := hr
  unfold apartB begB at HP
  clear hr
  clear add
  cases c1 : s.toList == [47] <;> cases c2 : t.toList == [47]
  · have e1 : apB s = s ++ { data := #[47] } := by unfold apB; rw [c1]; rfl
    have e2 : apB t = t ++ { data := #[47] } := by unfold apB; rw [c2]; rfl
    rw [e1, e2] at HP
    rw [e1] at z1
    rw [e2] at z2
    clear e1 e2
    generalize s ++ { data := #[47] } = x at *
    generalize t ++ { data := #[47] } = y at *
    by_cases hle : x.size ≤ y.size
    · rw [if_pos hle] at HP
      have hle' : (x.size : Int) ≤ (y.size : Int) := by omega
      go_enter Tryd.func13, Tryd.ntmps13
      go_wp2_with fail
      go_ret
      exact ⟨by rw [HP.out]; rfl, rfl⟩
    · rw [if_neg hle] at HP
      have hle' : (y.size : Int) < (x.size : Int) := by omega
      go_enter Tryd.func13, Tryd.ntmps13
      go_wp2_with fail
      go_ret
      exact ⟨by rw [HP.out]; rfl, rfl⟩
  · have e1 : apB s = s ++ { data := #[47] } := by unfold apB; rw [c1]; rfl
    have e2 : apB t = t := by unfold apB; rw [c2]; rfl
    rw [e1, e2] at HP
    rw [e1] at z1
    rw [e2] at z2
    clear e1 e2
    generalize s ++ { data := #[47] } = x at *
    by_cases hle : x.size ≤ t.size
    · rw [if_pos hle] at HP
      have hle' : (x.size : Int) ≤ (t.size : Int) := by omega
      go_enter Tryd.func13, Tryd.ntmps13
      go_wp2_with fail
      go_ret
      exact ⟨by rw [HP.out]; rfl, rfl⟩
    · rw [if_neg hle] at HP
      have hle' : (t.size : Int) < (x.size : Int) := by omega
      go_enter Tryd.func13, Tryd.ntmps13
      go_wp2_with fail
      go_ret
      exact ⟨by rw [HP.out]; rfl, rfl⟩
  · have e1 : apB s = s := by unfold apB; rw [c1]; rfl
    have e2 : apB t = t ++ { data := #[47] } := by unfold apB; rw [c2]; rfl
    rw [e1, e2] at HP
    rw [e1] at z1
    rw [e2] at z2
    clear e1 e2
    generalize t ++ { data := #[47] } = y at *
    by_cases hle : s.size ≤ y.size
    · rw [if_pos hle] at HP
      have hle' : (s.size : Int) ≤ (y.size : Int) := by omega
      go_enter Tryd.func13, Tryd.ntmps13
      go_wp2_with fail
      go_ret
      exact ⟨by rw [HP.out]; rfl, rfl⟩
    · rw [if_neg hle] at HP
      have hle' : (y.size : Int) < (s.size : Int) := by omega
      go_enter Tryd.func13, Tryd.ntmps13
      go_wp2_with fail
      go_ret
      exact ⟨by rw [HP.out]; rfl, rfl⟩
  · have e1 : apB s = s := by unfold apB; rw [c1]; rfl
    have e2 : apB t = t := by unfold apB; rw [c2]; rfl
    rw [e1, e2] at HP
    rw [e1] at z1
    rw [e2] at z2
    clear e1 e2
    by_cases hle : s.size ≤ t.size
    · rw [if_pos hle] at HP
      have hle' : (s.size : Int) ≤ (t.size : Int) := by omega
      go_enter Tryd.func13, Tryd.ntmps13
      go_wp2_with fail
      go_ret
      exact ⟨by rw [HP.out]; rfl, rfl⟩
    · rw [if_neg hle] at HP
      have hle' : (t.size : Int) < (s.size : Int) := by omega
      go_enter Tryd.func13, Tryd.ntmps13
      go_wp2_with fail
      go_ret
      exact ⟨by rw [HP.out]; rfl, rfl⟩
/-! ### What it says of names -/
theorem apB_split {s : ByteArray} {l : List ByteArray} (h : splitR s = some l) : (apB s).data.toList = joinL l ++ [47] := by
  rcases split_join h with ⟨rfl, rfl⟩ | ⟨h1, h2⟩
  · have e : apB strokeB = strokeB := by unfold apB; rw [if_pos (by rw [ba_toList]; rfl)]
    rw [e]
    rfl
  · have e : apB s = s ++ strokeB := by unfold apB; rw [stroke_ne h1]; rfl
    rw [e, ByteArray.data_append, Array.toList_append, ← h2, joinB_list]
    rfl
theorem joinL_append (l m : List ByteArray) : joinL (l ++ m) = joinL l ++ joinL m := by simp [joinL]
theorem join_stroke (r : List ByteArray) : ∃ q, joinL r ++ [47] = 47 :: q := by
  cases r with
  | nil => exact ⟨[], rfl⟩
  | cons x r => exact ⟨_, rfl⟩
theorem apB_prefix {s t : ByteArray} {l m : List ByteArray} (hs : splitR s = some l) (ht : splitR t = some m) (h : l <+: m) : ∃ q, (apB t).data.toList = (apB s).data.toList ++ q := by
  obtain ⟨r, rfl⟩ := h
  obtain ⟨q, hq⟩ := join_stroke r
  refine ⟨q, ?_⟩
  rw [apB_split hs, apB_split ht, joinL_append, List.append_assoc, hq, List.append_assoc]
  rfl
theorem begB_of {x y : ByteArray} {q : List UInt8} (h : y.data.toList = x.data.toList ++ q) : x.size ≤ y.size ∧ begB x y = true := by
  have hx : x.data.toList.length = x.size := rfl
  have hy : y.data.toList.length = y.size := rfl
  have hl : x.size ≤ y.size := by
    rw [← hx, ← hy, h, List.length_append]
    omega
  refine ⟨hl, ?_⟩
  unfold begB
  have e : (y.extract 0 x.size).toList = x.toList := by
    rw [ba_toList, ba_toList, ByteArray.data_extract, Array.toList_extract, h]
    show ((x.data.toList ++ q).drop 0).take (x.size - 0) = _
    rw [List.drop_zero, Nat.sub_zero, ← hx, List.take_left]
  rw [e]
  simp
theorem apart_names {s t : ByteArray} {l m : List ByteArray} (hs : splitR s = some l) (ht : splitR t = some m) (h : apartB s t = true) : ApartL l m := by
  refine ⟨fun hp => ?_, fun hp => ?_⟩
  · obtain ⟨q, hq⟩ := apB_prefix hs ht hp
    obtain ⟨h1, h2⟩ := begB_of hq
    unfold apartB at h
    rw [if_pos h1, h2] at h
    cases h
  · obtain ⟨q, hq⟩ := apB_prefix ht hs hp
    obtain ⟨h1, h2⟩ := begB_of hq
    unfold apartB at h
    by_cases hle : (apB s).size ≤ (apB t).size
    · have e0 : q = [] := by
        have hl := congrArg List.length hq
        rw [List.length_append] at hl
        have hx : (apB s).data.toList.length = (apB s).size := rfl
        have hy : (apB t).data.toList.length = (apB t).size := rfl
        exact List.eq_nil_of_length_eq_zero (by omega)
      rw [e0, List.append_nil] at hq
      have e1 : apB s = apB t := ba_ext' hq
      rw [if_pos hle, e1] at h
      have h3 := (begB_of (x := apB t) (y := apB t) (q := []) (by simp)).2
      rw [h3] at h
      cases h
    · rw [if_neg hle, h2] at h
      cases h
end Go.Proofs.YtilkjafggfdjeabDoor
