/-
  The contract of the laws' closed fact needed, and of the document's With.
  Conditions: the sentinels hold what the program's text lays; the texts lie in memory.
-/
import Derived.Test.YtlaenhohjcjilaaDoorRj
namespace Go.Proofs.YtlaenhohjcjilaaDoor
open Go.RowKit Go.Maps
attribute [local go_sem ↓] Go.wp_at_zero Go.wp_at_succ

def bA : ByteArray := ⟨#[97]⟩
def bB : ByteArray := ⟨#[98]⟩
def pk0 : List Pk := [⟨bA, []⟩, ⟨bB, [bA]⟩]
theorem bA_list : bA.toList = [97] := by rw [ba_toList2]; rfl
theorem bB_list : bB.toList = [98] := by rw [ba_toList2]; rfl
theorem knw0 : knw pk0 [bB] = none := by
  refine knw_ok ⟨by decide, fun j hj => ?_⟩ (by simp [pk0])
  have hj2 : j = 0 ∨ j = 1 := by have : pk0.length = 2 := rfl; omega
  have n1 : nameB bA = true := by unfold nameB; rw [bA_list]; rfl
  have n2 : nameB bB = true := by unfold nameB; rw [bB_list]; rfl
  have hab : bB ≠ bA := fun e => by have := congrArg ByteArray.toList e; rw [bA_list, bB_list] at this; cases this
  rcases hj2 with rfl | rfl
  · show pkErr [] ⟨bA, []⟩ = none
    unfold pkErr
    rw [if_neg (by rw [n1]; simp), if_neg (by simp [memB]), if_neg (by simp), if_neg (by rw [riseTo_one _ _ (by simp)]; simp), if_neg (by simp)]
  · show pkErr [bA] ⟨bB, [bA]⟩ = none
    unfold pkErr
    have h1 : memB bB [bA] = false := memB_not.2 (by simp [hab])
    have h2 : memB bA [bA] = true := memB_iff.2 (by simp)
    rw [if_neg (by rw [n2]; simp), if_neg (by rw [h1]; simp), if_neg (by simp), if_neg (by rw [riseTo_one _ _ (by simp)]; simp), if_neg (by simp [lacks, h2])]
theorem need0 (x : ByteArray) : x ∈ needR pk0 [bB] ↔ x = bA ∨ x = bB := by
  have h2 : memB bB [bB] = true := memB_iff.2 (by simp)
  have h3 : memB bA [bB, bA] = true := memB_iff.2 (by simp)
  have e : needR pk0 [bB] = [bB, bA] := by
    show nd (nd [bB] ⟨bB, [bA]⟩) ⟨bA, []⟩ = _
    unfold nd
    simp only [h2, if_true, List.cons_append, List.nil_append, h3, List.append_nil]
  rw [e]
  simp only [List.mem_cons, List.not_mem_nil, or_false]
  exact ⟨Or.symm, Or.symm⟩
theorem cl0 {r : List ByteArray} (h : IsCl pk0 [bB] r) : r = [bA, bB] := by
  refine rising_ext h.rise ?_ fun x => ?_
  · unfold Rising
    refine List.pairwise_cons.2 ⟨fun y hy => ?_, List.pairwise_singleton _ _⟩
    rw [List.mem_singleton.1 hy]
    show Op.bytesLess _ _ = true
    rw [bA_list, bB_list]; rfl
  · rw [h.mem, need0]; simp
set_option maxRecDepth 100000 in
set_option maxHeartbeats 1000000 in
theorem needed_any (a : Nat → Addr) (w : World) (T : Sents a w) : Calls Tryd.prog 6 #[] w fun e w' => e = .returned (.bool true) ∧ Below w.heap.size w w' := by
  obtain ⟨w2, hw2⟩ : ∃ w2, w2 = (w.alloc (.cells #[.string bA] 9)).alloc (.cells #[.string bA, .slice none 0 0, .string ⟨#[]⟩, .string ⟨#[]⟩, .bool false, .slice none 0 0, .string bB, .slice (some ⟨w.heap.size, 0, none⟩) 1 1, .string ⟨#[]⟩, .string ⟨#[]⟩, .bool false, .slice none 0 0] 49) := ⟨_, rfl⟩
  obtain ⟨w3, hw3⟩ : ∃ w3, w3 = w2.alloc (.cells #[.string bB] 9) := ⟨_, rfl⟩
  have b2 : Below w.heap.size w w2 := by rw [hw2]; exact ((Below.refl _ _).alloc (Nat.le_refl _) _).alloc (by simp) _
  have b3 : Below w2.heap.size w2 w3 := by rw [hw3]; exact (Below.refl _ _).alloc (Nat.le_refl _) _
  have z2 : w2.heap.size = w.heap.size + 1 + 1 := by rw [hw2]; simp
  have q0 : w2.heap[w.heap.size]? = some (.cells #[.string bA] 9 (0, 0)) := by rw [hw2, Below.heap_alloc _ _ _ (by simp)]; exact heap_alloc_last _ _
  have q1 : w2.heap[w.heap.size + 1]? = some (.cells #[.string bA, .slice none 0 0, .string ⟨#[]⟩, .string ⟨#[]⟩, .bool false, .slice none 0 0, .string bB, .slice (some ⟨w.heap.size, 0, none⟩) 1 1, .string ⟨#[]⟩, .string ⟨#[]⟩, .bool false, .slice none 0 0] 49 (0, 0)) := by
    have h := heap_alloc_last (w.alloc (.cells #[.string bA] 9)) (.cells #[.string bA, .slice none 0 0, .string ⟨#[]⟩, .string ⟨#[]⟩, .bool false, .slice none 0 0, .string bB, .slice (some ⟨w.heap.size, 0, none⟩) 1 1, .string ⟨#[]⟩, .string ⟨#[]⟩, .bool false, .slice none 0 0] 49)
    rw [World.size_alloc, ← hw2] at h
    exact h
  have q2 : w3.heap[w2.heap.size]? = some (.cells #[.string bB] 9 (0, 0)) := by rw [hw3]; exact heap_alloc_last _ _
  have hP2 : PksIn w2 (.slice (some ⟨w.heap.size + 1, 0, none⟩) 2 2) pk0 := by
    refine ⟨[⟨⟨bA, []⟩, none, 0, ⟨#[]⟩, ⟨#[]⟩, false, none, 0, 0, ⟨none, 0, rfl, fun i x h => by simp at h⟩, by decide, by simp, by simp⟩, ⟨⟨bB, [bA]⟩, some ⟨w.heap.size, 0, none⟩, 1, ⟨#[]⟩, ⟨#[]⟩, false, none, 0, 0, one_text q0 1, by decide, by simp, fun r hr => by rw [List.mem_singleton.1 hr]; decide⟩], rfl, _, _, rfl, fun i x hx => ⟨_, _, rfl, ?_⟩⟩
    match i, hx with
    | 0, hx =>
      obtain rfl := Option.some.inj hx
      exact ⟨by rw [cell_of_row _ _ _ _ _ _ q1]; rfl, by rw [cell_of_row _ _ _ _ _ _ q1]; rfl, by rw [cell_of_row _ _ _ _ _ _ q1]; rfl, by rw [cell_of_row _ _ _ _ _ _ q1]; rfl, by rw [cell_of_row _ _ _ _ _ _ q1]; rfl, by rw [cell_of_row _ _ _ _ _ _ q1]; rfl⟩
    | 1, hx =>
      obtain rfl := Option.some.inj hx
      exact ⟨by rw [cell_of_row _ _ _ _ _ _ q1]; rfl, by rw [cell_of_row _ _ _ _ _ _ q1]; rfl, by rw [cell_of_row _ _ _ _ _ _ q1]; rfl, by rw [cell_of_row _ _ _ _ _ _ q1]; rfl, by rw [cell_of_row _ _ _ _ _ _ q1]; rfl, by rw [cell_of_row _ _ _ _ _ _ q1]; rfl⟩
    | i + 2, hx => cases hx
  have HB3 : Hid (Below w.heap.size w w3) := b2.trans (b3.mono b2.size)
  have HP3 : Hid (PksIn w3 (.slice (some ⟨w.heap.size + 1, 0, none⟩) 2 2) pk0) := hP2.below b3
  have HT : Hid (∀ W, Below w.heap.size w W → Sents a W) := fun W hb => T.below hb
  have HCL : Hid _ := closure_any a (.slice (some ⟨w.heap.size + 1, 0, none⟩) 2 2) (.slice (some ⟨w2.heap.size, 0, none⟩) 1 1) pk0 [bB] w3 (T.below HB3.out) HP3.out (by decide) (one_text q2 1) (fun x hx => by rw [List.mem_singleton.1 hx]; decide) (by simp)
  rw [z2] at HCL
  have HW3 : Hid (w3 = ((w.alloc (.cells #[.string bA] 9)).alloc (.cells #[.string bA, .slice none 0 0, .string ⟨#[]⟩, .string ⟨#[]⟩, .bool false, .slice none 0 0, .string bB, .slice (some ⟨w.heap.size, 0, none⟩) 1 1, .string ⟨#[]⟩, .string ⟨#[]⟩, .bool false, .slice none 0 0] 49)).alloc (.cells #[.string bB] 9)) := by rw [hw3, hw2]; rfl
  clear T hw2 hw3 b2 b3 q0 q1 q2 z2 hP2
  have hw3 := HW3.out
  simp only [bA, bB] at hw3
  have HW3' : Hid _ := hw3
  clear hw3 HW3
  go_enter Tryd.func6, Tryd.ntmps6
  go_wp2_with fail
  rw [← HW3'.out]
  refine Calls.mono HCL.out ?_
  clear HCL HW3'
  rintro e w4 ⟨hb4, ⟨f, ev, hk, _⟩ | ⟨hk, r, va, vc, rfl, hcl, hO⟩⟩
  · rw [knw0] at hk; cases hk
  obtain rfl := cl0 hcl
  have HW0 : Hid (chk pk0 = none) := (knw_none hk).1.chk
  have HB4 : Hid (Below w.heap.size w w4) := HB3.out.trans (hb4.mono HB3.out.size)
  have HCH : Hid _ := check_any a (.slice (some ⟨w.heap.size + 1, 0, none⟩) 2 2) pk0 w4 (HT.out w4 HB4.out) (HP3.out.below hb4) (by decide)
  have HTX : Hid (Texts w4 (.slice va [bA, bB].length vc) [bA, bB]) := hO.texts
  clear hk hcl hO hb4
  go_wp2_with fail
  refine Calls.mono HCH.out ?_
  clear HCH
  rintro e w5 ⟨ev, rfl, hf, hb5⟩
  rw [HW0.out] at hf
  obtain rfl : ev = .nilIface := hf
  have HB5 : Hid (Below w4.heap.size w4 w5) := hb5
  clear hb5
  go_wp2_with fail
  refine Calls.mono (coded_nil 0 w5) ?_
  rintro e w6 ⟨rfl, rfl⟩
  have hd : decide ((0 : Int) = 0) = true := by decide
  rw [hd]
  obtain ⟨W7, hW7⟩ : ∃ W7, W7 = w6.alloc (.cells #[.string ⟨#[97]⟩, .string ⟨#[98]⟩] 9) := ⟨_, rfl⟩
  have hb7 : Below w6.heap.size w6 W7 := by rw [hW7]; exact (Below.refl _ _).alloc (Nat.le_refl _) _
  have q7 : W7.heap[w6.heap.size]? = some (.cells #[.string ⟨#[97]⟩, .string ⟨#[98]⟩] 9 (0, 0)) := by rw [hW7]; exact heap_alloc_last _ _
  have hT7 : Texts W7 (.slice (some ⟨w6.heap.size, 0, none⟩) 2 2) [bA, bB] := ⟨_, _, rfl, fun i x hx => ⟨_, _, rfl, by
    match i, hx with
    | 0, hx => obtain rfl := Option.some.inj hx; rw [cell_of_row _ _ _ _ _ _ q7]; rfl
    | 1, hx => obtain rfl := Option.some.inj hx; rw [cell_of_row _ _ _ _ _ _ q7]; rfl
    | i + 2, hx => cases hx⟩⟩
  have HST : Hid _ := sameTexts_any (.slice va [bA, bB].length vc) (.slice (some ⟨w6.heap.size, 0, none⟩) 2 2) [bA, bB] [bA, bB] W7 ((HTX.out.below HB5.out).below hb7) hT7 (by simp)
  have HW7 : Hid (W7 = w6.alloc (.cells #[.string ⟨#[97]⟩, .string ⟨#[98]⟩] 9)) := hW7
  have HB7 : Hid (Below w.heap.size w W7) := (HB4.out.trans (HB5.out.mono HB4.out.size)).trans (hb7.mono (Nat.le_trans HB4.out.size HB5.out.size))
  clear hW7 hb7 q7 hT7 hd
  go_wp2_with fail
  rw [← HW7.out]
  refine Calls.mono HST.out ?_
  rintro e w8 ⟨rfl, hb8⟩
  rw [textsEq_refl]
  have HB8 : Hid (Below w.heap.size w w8) := HB7.out.trans (hb8.mono HB7.out.size)
  clear hb8 HST
  go_wp2_with fail
  go_ret
  exact ⟨rfl, HB8.out⟩
end Go.Proofs.YtlaenhohjcjilaaDoor
