/-
  The law ScanTurns.
  Conditions: the sentinels ErrName and ErrBound lie in their variables.
-/
import Derived.Test.YtiemoipafeinoaaDoorNc
import Derived.Test.YtiemoipafeinoaaDoorNd
import Derived.Test.YtiemoipafeinoaaDoorTxL
namespace Go.Proofs.YtiemoipafeinoaaDoor
open Go.RowKit Go.Maps
attribute [local go_sem ↓] Go.wp_at_zero Go.wp_at_succ

theorem name_letters {s : ByteArray} (h : nameB s = true) : ∀ c ∈ s.data.toList, isL c = true := fun c hc => by
  unfold nameB at h
  rw [Bool.and_eq_true, List.all_eq_true] at h
  exact h.2 c hc
theorem two_text {w : World} {b : Nat} {x y : ByteArray} {t : TypeId} (h : w.heap[b]? = some (.cells #[.string x, .string y] t (0, 0))) (c : Nat) : Texts w (.slice (some ⟨b, 0, none⟩) 2 c) [x, y] := ⟨_, _, rfl, fun i z hz => ⟨_, _, rfl, by
  match i, hz with
  | 0, hz => obtain rfl := Option.some.inj hz; rw [cell_of_row _ _ _ _ _ _ h]; rfl
  | 1, hz => obtain rfl := Option.some.inj hz; rw [cell_of_row _ _ _ _ _ _ h]; rfl
  | i + 2, hz => cases hz⟩⟩
/-- Find with one name, and with two, in slices that are made for the call. -/
theorem find_one (x f : ByteArray) (W : World) (hx : x.size ≤ 100000) (hf : f.size ≤ 100000) :
    Calls Tryd.prog 9 #[.string x, .slice (some ⟨W.heap.size, 0, none⟩) 1 1] (W.alloc (.cells #[.string f] 9)) fun e w' => (∃ va n vc, e = .returned (.slice va n vc) ∧ n ≤ 1000000 ∧ Hid (0 < n ↔ f ∈ mn x.data.toList)) ∧ Below W.heap.size W w' := by
  have b1 : Below W.heap.size W (W.alloc (.cells #[.string f] 9)) := (Below.refl _ _).alloc (Nat.le_refl _) _
  refine (find_any x _ [f] _ (one_text (heap_alloc_last W _) 1) (fun y hy => by rw [List.mem_singleton.1 hy]; omega) (by simp) (by omega)).mono ?_
  rintro e w' ⟨⟨r, va, vc, rfl, ⟨hr, hm⟩, ho⟩, hb⟩
  refine ⟨⟨va, r.length, vc, rfl, ?_, ?_⟩, b1.trans (hb.mono (by simp))⟩
  · have := nodup_len (l := r) (m := [f]) (hr.imp fun h e => bl_ne h e) (fun y hy => ((hm y).1 hy).1)
    simp at this; omega
  · show _ ↔ _
    rw [List.length_pos_iff_exists_mem]
    constructor
    · rintro ⟨y, hy⟩
      have := (hm y).1 hy
      rw [← List.mem_singleton.1 this.1]; exact this.2
    · intro h
      exact ⟨f, (hm f).2 ⟨by simp, h⟩⟩
theorem find_two (x f t : ByteArray) (W : World) (hx : x.size ≤ 100000) (hf : f.size ≤ 100000) (ht : t.size ≤ 100000) :
    Calls Tryd.prog 9 #[.string x, .slice (some ⟨W.heap.size, 0, none⟩) 2 2] (W.alloc (.cells #[.string f, .string t] 9)) fun e w' => (∃ r va vc, e = .returned (.slice va r.length vc) ∧ r.length ≤ 1000 ∧ Hid (IsFd [f, t] (mn x.data.toList) r ∧ Texts w' (.slice va r.length vc) r)) ∧ Below W.heap.size W w' := by
  have b1 : Below W.heap.size W (W.alloc (.cells #[.string f, .string t] 9)) := (Below.refl _ _).alloc (Nat.le_refl _) _
  refine (find_any x _ [f, t] _ (two_text (heap_alloc_last W _) 2) (fun y hy => by simp at hy; rcases hy with rfl | rfl <;> omega) (by simp) (by omega)).mono ?_
  rintro e w' ⟨⟨r, va, vc, rfl, hr, ho⟩, hb⟩
  refine ⟨⟨r, va, vc, rfl, ?_, hr, ho.texts⟩, b1.trans (hb.mono (by simp))⟩
  have := nodup_len (l := r) (m := [f, t]) (hr.1.imp fun h e => bl_ne h e) (fun y hy => ((hr.2 y).1 hy).1)
  simp at this; omega
/-! ### The closed fact -/
def s0 : List UInt8 := [115, 101, 101, 32, 35, 97, 46, 98, 44, 32, 35, 97]
theorem ms0 : ms s0 = [[97, 46, 98], [97]] := by decide
theorem tl0 : tl [97] [122, 122] s0 = [115, 101, 101, 32, 35, 97, 46, 98, 44, 32, 35, 122, 122] := by
  simp [s0, tl, wd, List.takeWhile, isL, nb]
theorem nameA : nameB ⟨#[97]⟩ = true := by unfold nameB; rw [ba_toList2]; decide
theorem nameZ : nameB ⟨#[122, 122]⟩ = true := by unfold nameB; rw [ba_toList2]; decide
theorem fd0 {r : List ByteArray} (h : IsFd [⟨#[97]⟩, ⟨#[98]⟩] (mn s0) r) : r = [⟨#[97]⟩] := h.one ⟨List.pairwise_singleton _ _, fun x => by
  rw [mem_mn, ms0]
  constructor
  · intro hx
    rw [List.mem_singleton.1 hx]
    exact ⟨by simp, nameA, by simp⟩
  · rintro ⟨hx, _, hm⟩
    simp only [List.mem_cons, List.not_mem_nil, or_false] at hx
    rcases hx with rfl | rfl
    · simp
    · simp at hm⟩
theorem textsEq_one (x : ByteArray) : textsEq [x] [x] = true := by simp [textsEq, eqTo]
/-- The two sentinels lie in their variables. -/
def SnT (w : World) : Prop := ∃ aN aB, w.cell? ⟨0, 0, none⟩ = some (.iface 140 (.pointer (some aN))) ∧ w.cell? ⟨1, 0, none⟩ = some (.iface 140 (.pointer (some aB)))
theorem SnT.below {w w' : World} (h : SnT w) (hb : Below w.heap.size w w') : SnT w' := by
  obtain ⟨aN, aB, h1, h2⟩ := h
  exact ⟨aN, aB, by rw [hb.cell (p := ⟨0, 0, none⟩) (lt_of_cell h1)]; exact h1, by rw [hb.cell (p := ⟨1, 0, none⟩) (lt_of_cell h2)]; exact h2⟩
set_option maxRecDepth 100000 in
set_option maxHeartbeats 1000000 in
theorem scanned_any (w : World) (h : SnT w) : Calls Tryd.prog 5 #[] w fun e w' => e = .returned (.bool true) ∧ Below w.heap.size w w' := by
  obtain ⟨aN, aB, h1, h2⟩ := h
  have HT : Hid _ := turn_any ⟨#[115, 101, 101, 32, 35, 97, 46, 98, 44, 32, 35, 97]⟩ ⟨#[97]⟩ ⟨#[122, 122]⟩ _ _ w (by decide) (by decide) (by decide) h1 h2
  clear h1 h2
  go_enter Tryd.func5, Tryd.ntmps5
  go_wp2_with fail
  refine Calls.mono HT.out ?_
  rintro e w1 ⟨hp, b1⟩
  have HB1 : Hid (Below w.heap.size w w1) := b1
  have he : e = .returned (.tuple #[.string ⟨#[115, 101, 101, 32, 35, 97, 46, 98, 44, 32, 35, 122, 122]⟩, .nilIface]) := by
    rcases hp with ⟨h | h, _⟩ | ⟨_, _, ⟨h, _⟩ | ⟨_, h⟩⟩
    · rw [nameA] at h; cases h
    · rw [nameZ] at h; cases h
    · rw [show tl (ByteArray.mk #[97]).data.toList (ByteArray.mk #[122, 122]).data.toList (ByteArray.mk #[115, 101, 101, 32, 35, 97, 46, 98, 44, 32, 35, 97]).data.toList = _ from tl0] at h
      simp at h
    · rw [show tl (ByteArray.mk #[97]).data.toList (ByteArray.mk #[122, 122]).data.toList (ByteArray.mk #[115, 101, 101, 32, 35, 97, 46, 98, 44, 32, 35, 97]).data.toList = _ from tl0] at h
      exact h
  subst he
  clear hp b1 HT
  have HF : Hid _ := find_two ⟨#[115, 101, 101, 32, 35, 97, 46, 98, 44, 32, 35, 97]⟩ ⟨#[97]⟩ ⟨#[98]⟩ w1 (by decide) (by decide) (by decide)
  go_wp2_with fail
  refine Calls.mono HF.out ?_
  rintro e w2 ⟨⟨r, va, vc, rfl, _, Hr⟩, b2⟩
  obtain rfl := fd0 Hr.out.1
  have hT := Hr.out.2
  obtain ⟨W7, hW7⟩ : ∃ W7, W7 = w2.alloc (.cells #[.string ⟨#[97]⟩] 9) := ⟨_, rfl⟩
  have hb7 : Below w2.heap.size w2 W7 := by rw [hW7]; exact (Below.refl _ _).alloc (Nat.le_refl _) _
  have q7 : W7.heap[w2.heap.size]? = some (.cells #[.string ⟨#[97]⟩] 9 (0, 0)) := by rw [hW7]; exact heap_alloc_last _ _
  have HST : Hid _ := sameTexts_any (.slice va 1 vc) (.slice (some ⟨w2.heap.size, 0, none⟩) 1 1) [⟨#[97]⟩] [⟨#[97]⟩] W7 (hT.below hb7) (one_text q7 1) (by simp)
  rw [textsEq_one] at HST
  have HW7 : Hid (W7 = w2.alloc (.cells #[.string ⟨#[97]⟩] 9)) := hW7
  have HB7 : Hid (Below w.heap.size w W7) := HB1.out.trans ((b2.trans (hb7.mono b2.size)).mono HB1.out.size)
  clear hW7 hb7 q7 hT b2 Hr HF
  go_wp2_with fail
  rw [← HW7.out]
  refine Calls.mono HST.out ?_
  rintro e w8 ⟨rfl, hb8⟩
  have HB8 : Hid (Below w.heap.size w w8) := by first | exact HB7.out.trans (hb8.mono HB7.out.size) | (obtain ⟨n, rfl⟩ := hb8; exact below_drewN HB7.out _)
  clear hb8
  go_wp2_with fail
  go_ret
  exact ⟨rfl, HB8.out⟩
/-! ### The law -/
section
variable {s f t : ByteArray}
theorem turned_none (ht : nameB t = true) (hne : f ≠ t) : f ∉ mn (tl f.data.toList t.data.toList s.data.toList) := fun h => by
  rw [mem_mn, ms_tl (name_letters ht) _ _ (Nat.le_refl _), List.mem_map] at h
  obtain ⟨_, w, _, e⟩ := h
  split at e
  · exact hne (ba_eq (by rw [ba_toList2, ba_toList2, e]))
  · rename_i h2; exact h2 e
theorem turned_has (ht : nameB t = true) (h : f ∈ mn s.data.toList) : t ∈ mn (tl f.data.toList t.data.toList s.data.toList) := by
  rw [mem_mn] at h ⊢
  rw [ms_tl (name_letters ht) _ _ (Nat.le_refl _), List.mem_map]
  exact ⟨ht, _, h.2, by rw [if_pos rfl]⟩
theorem turned_same (hf : nameB f = true) (h : f ∉ mn s.data.toList) : bOf (tl f.data.toList t.data.toList s.data.toList) = s := by
  rw [tl_same _ (fun h2 => h (mem_mn.2 ⟨hf, h2⟩)), bOf_back]
theorem turned_back (ht : nameB t = true) (h : t ∉ mn s.data.toList ∨ f = t) : tl t.data.toList f.data.toList (tl f.data.toList t.data.toList s.data.toList) = s.data.toList :=
  tl_back (name_letters ht) _ _ (Nat.le_refl _) (h.imp (fun h h2 => h (mem_mn.2 ⟨ht, h2⟩)) (fun e => by rw [e]))
end
theorem more_list (s m : ByteArray) : (s ++ ⟨#[32]⟩ ++ m).data.toList = s.data.toList ++ 32 :: m.data.toList := by simp
theorem found_more {s m f t : ByteArray} {l r : List ByteArray} (h1 : IsFd [f, t] (mn s.data.toList) l) (h2 : IsFd [f, t] (mn (s ++ ⟨#[32]⟩ ++ m).data.toList) r) {x : ByteArray} (hx : x ∈ l) : memB x r = true := by
  rw [memB_iff, h2.2, more_list, mn_more (by decide) (by decide)]
  have := (h1.2 x).1 hx
  exact ⟨this.1, List.mem_append_left _ this.2⟩
set_option maxRecDepth 100000 in
set_option maxHeartbeats 4000000 in
theorem scanTurns_any (s f t m : ByteArray) (w : World) (hT : SnT w) (hs : s.size ≤ maxLen) (hf : f.size ≤ maxLen) (ht : t.size ≤ maxLen) (hm : m.size ≤ maxLen) :
    Calls Tryd.prog 4 #[.string s, .string f, .string t, .string m] w fun e w' => e = .returned (.bool true) ∧ Below w.heap.size w w' := by
  unfold maxLen at hs hf ht hm
  have HS : Hid _ := scanned_any w hT
  have HT : Hid (SnT w) := hT
  clear hT
  by_cases hbig : 150 < s.size ∨ 30 < f.size ∨ 30 < t.size ∨ 100 < m.size
  · go_enter Tryd.func4, Tryd.ntmps4
    go_wp2_with fail
    refine Calls.mono HS.out ?_
    rintro e w1 ⟨rfl, b1⟩
    have HB1 : Hid (Below w.heap.size w w1) := b1
    clear b1
    rcases Nat.lt_or_ge 150 s.size with k1 | k1
    · have k1' : (150 : Int) < (s.size : Int) := by omega
      go_wp2_with fail
      go_ret
      exact ⟨rfl, HB1.out⟩
    have k1' : (s.size : Int) ≤ 150 := by omega
    rcases Nat.lt_or_ge 30 f.size with k2 | k2
    · have k2' : (30 : Int) < (f.size : Int) := by omega
      go_wp2_with fail
      go_ret
      exact ⟨rfl, HB1.out⟩
    have k2' : (f.size : Int) ≤ 30 := by omega
    rcases Nat.lt_or_ge 30 t.size with k3 | k3
    · have k3' : (30 : Int) < (t.size : Int) := by omega
      go_wp2_with fail
      go_ret
      exact ⟨rfl, HB1.out⟩
    have k3' : (t.size : Int) ≤ 30 := by omega
    have k4' : (100 : Int) < (m.size : Int) := by omega
    go_wp2_with fail
    go_ret
    exact ⟨rfl, HB1.out⟩
  have k1' : (s.size : Int) ≤ 150 := by omega
  have k2' : (f.size : Int) ≤ 30 := by omega
  have k3' : (t.size : Int) ≤ 30 := by omega
  have k4' : (m.size : Int) ≤ 100 := by omega
  go_enter Tryd.func4, Tryd.ntmps4
  go_wp2_with fail
  refine Calls.mono HS.out ?_
  rintro e w1 ⟨rfl, b1⟩
  have HB1 : Hid (Below w.heap.size w w1) := b1
  obtain ⟨aN, aB, e1, e2⟩ := HT.out.below b1
  have HTU : Hid _ := turn_any s f t _ _ w1 (by omega) (by omega) (by omega) e1 e2
  clear b1 e1 e2 HS
  go_wp2_with fail
  refine Calls.mono HTU.out ?_
  clear HTU
  rintro e w2 ⟨hp, b2⟩
  have HB2 : Hid (Below w.heap.size w w2) := HB1.out.trans (b2.mono HB1.out.size)
  clear b2
  have hnil : ((ByteArray.mk #[]).toList == (ByteArray.mk #[]).toList) = true := by simp
  rcases hp with ⟨_, rfl⟩ | ⟨hnf, hnt, ⟨_, rfl⟩ | ⟨hle, rfl⟩⟩
  · go_wp2_with fail
    go_ret
    exact ⟨rfl, HB2.out⟩
  · go_wp2_with fail
    go_ret
    exact ⟨rfl, HB2.out⟩
  obtain ⟨x, hx⟩ : ∃ x, x = bOf (tl f.data.toList t.data.toList s.data.toList) := ⟨_, rfl⟩
  have hxd : x.data.toList = tl f.data.toList t.data.toList s.data.toList := by rw [hx]; rfl
  have hxs : x.size ≤ 2000 := by
    have e : x.size = x.data.toList.length := rfl
    rw [e, hxd]; exact hle
  have F1 : Hid (f ≠ t → f ∉ mn x.data.toList) := fun h => by rw [hxd]; exact turned_none hnt h
  have F2 : Hid (f ∈ mn s.data.toList → t ∈ mn x.data.toList) := fun h => by rw [hxd]; exact turned_has hnt h
  have F3 : Hid (f ∉ mn s.data.toList → x = s) := fun h => by rw [hx]; exact turned_same hnf h
  have F4 : Hid ((t ∉ mn s.data.toList ∨ f = t) → ∀ eN eB e, TurnPost eN eB x t f e → e = .returned (.tuple #[.string s, .nilIface])) := fun h eN eB e hp => by
    have hb : tl t.data.toList f.data.toList x.data.toList = s.data.toList := by rw [hxd]; exact turned_back hnt h
    rcases hp with ⟨h1 | h1, _⟩ | ⟨_, _, ⟨h1, _⟩ | ⟨_, h1⟩⟩
    · rw [hnt] at h1; cases h1
    · rw [hnf] at h1; cases h1
    · rw [hb] at h1
      have e2 : s.data.toList.length = s.size := rfl
      omega
    · rw [hb, bOf_back] at h1; exact h1
  rw [← hx]
  have HFS : Hid _ := find_one s f w2 (by omega) (by omega)
  clear hx hxd hle hnf hnt hnil
  go_wp2_with fail
  refine Calls.mono HFS.out ?_
  clear HFS
  rintro e w3 ⟨⟨va3, n3, vc3, rfl, hn3, Hn3⟩, b3⟩
  have HB3 : Hid (Below w.heap.size w w3) := HB2.out.trans (b3.mono HB2.out.size)
  have HFT : Hid _ := find_one s t w3 (by omega) (by omega)
  clear b3
  go_wp2_with fail
  refine Calls.mono HFT.out ?_
  clear HFT
  rintro e w4 ⟨⟨va4, n4, vc4, rfl, hn4, Hn4⟩, b4⟩
  have HB4 : Hid (Below w.heap.size w w4) := HB3.out.trans (b4.mono HB3.out.size)
  clear b4
  go_upto_region 9 with fail
  go_cut [76] from 19 (fun c wx => c = .bool false ∧ Below w.heap.size w wx)
  case first =>
    by_cases e : f = t
    · have he : (f.toList == t.toList) = true := ba_beq.2 e
      clear e
      go_wp2_with fail
      go_meet
      case rel => exact ⟨rfl, HB4.out⟩
    · have he : (f.toList == t.toList) = false := ba_bne.2 e
      have HF : Hid _ := find_one x f w4 (by omega) (by omega)
      have HNO : Hid (f ∉ mn x.data.toList) := F1.out e
      clear e
      go_wp2_with fail
      refine Calls.mono HF.out ?_
      rintro e w5 ⟨⟨va5, n5, vc5, rfl, hn5, Hn5⟩, b5⟩
      have HB5 : Hid (Below w.heap.size w w5) := HB4.out.trans (b5.mono HB4.out.size)
      obtain rfl : n5 = 0 := by
        rcases Nat.eq_zero_or_pos n5 with h | h
        · exact h
        · exact absurd (Hn5.out.1 h) HNO.out
      clear b5
      go_wp2_with fail
      go_meet
      case rel => exact ⟨rfl, HB5.out⟩
  case rest =>
    obtain ⟨rfl, hbc⟩ := hcut
    have HBC : Hid (Below w.heap.size w wc) := hbc
    clear hbc
    go_upto_region 11 with fail
    go_cut [12, 94] from 19 (fun _ c wx => c = .bool false ∧ Below w.heap.size w wx)
    case first =>
      by_cases hh : f ∈ mn s.data.toList
      · have h3 : (0 : Int) < (n3 : Int) := by have := Hn3.out.2 hh; omega
        have HF : Hid _ := find_one x t wc (by omega) (by omega)
        have HYE : Hid (t ∈ mn x.data.toList) := F2.out hh
        clear hh
        go_wp2_with fail
        refine Calls.mono HF.out ?_
        rintro e w5 ⟨⟨va5, n5, vc5, rfl, hn5, Hn5⟩, b5⟩
        have HB5 : Hid (Below w.heap.size w w5) := HBC.out.trans (b5.mono HBC.out.size)
        have h5 : ¬ (n5 : Int) = 0 := by have := Hn5.out.2 HYE.out; omega
        clear b5
        go_wp2_with fail
        go_meet
        case rel => exact ⟨congrArg Value.bool (beq_eq_false_iff_ne.2 (by have := Hn5.out.2 HYE.out; omega)), HB5.out⟩
      · obtain rfl : n3 = 0 := by
          rcases Nat.eq_zero_or_pos n3 with h | h
          · exact h
          · exact absurd (Hn3.out.1 h) hh
        obtain rfl := F3.out hh
        have he : (x.toList == x.toList) = true := by simp
        clear hh
        go_wp2_with fail
        go_meet
        case rel => exact ⟨rfl, HBC.out⟩
    case rest =>
      obtain ⟨rfl, hbd⟩ := hcut
      have HBD : Hid (Below w.heap.size w wc) := hbd
      clear hbd
      go_upto_region 13 with fail
      go_cut [13, 101] from 19 (fun _ c wx => (∃ b : Bool, c = .bool b ∧ Hid (b = true → t ∉ mn s.data.toList ∨ f = t)) ∧ Below w.heap.size w wx)
      case first =>
        by_cases hh : t ∈ mn s.data.toList
        · have h4 : (0 : Int) < (n4 : Int) := by have := Hn4.out.2 hh; omega
          by_cases e : f = t
          · have he : (f.toList == t.toList) = true := ba_beq.2 e
            have HRE : Hid (true = true → t ∉ mn s.data.toList ∨ f = t) := fun _ => .inr e
            clear e hh
            go_wp2_with fail
            go_meet
            case rel => exact ⟨⟨true, rfl, fun _ => HRE.out trivial⟩, HBD.out⟩
          · have he : (f.toList == t.toList) = false := ba_bne.2 e
            clear e hh
            go_wp2_with fail
            go_meet
            case rel => exact ⟨⟨false, rfl, fun h => by cases h⟩, HBD.out⟩
        · obtain rfl : n4 = 0 := by
            rcases Nat.eq_zero_or_pos n4 with h | h
            · exact h
            · exact absurd (Hn4.out.1 h) hh
          have HRE : Hid (true = true → t ∉ mn s.data.toList ∨ f = t) := fun _ => .inl hh
          clear hh
          go_wp2_with fail
          go_meet
          case rel => exact ⟨⟨true, rfl, fun _ => HRE.out trivial⟩, HBD.out⟩
      case rest =>
        obtain ⟨⟨b, rfl, HBE⟩, hbe⟩ := hcut
        have HB5 : Hid (Below w.heap.size w wc) := hbe
        clear hbe
        go_upto_if 101 with fail
        go_cut [] from 19 (fun wx => Below w.heap.size w wx)
        case first =>
          cases b with
          | false =>
            go_wp2_with fail
            go_meet
            case rel => exact HB5.out
          | true =>
            obtain ⟨aN, aB, e1, e2⟩ := HT.out.below HB5.out
            have HTU : Hid _ := turn_any x t f _ _ wc (by omega) (by omega) (by omega) e1 e2
            clear e1 e2
            go_wp2_with fail
            refine Calls.mono HTU.out ?_
            clear HTU
            rintro e w6 ⟨hp, b6⟩
            have HB6 : Hid (Below w.heap.size w w6) := HB5.out.trans (b6.mono HB5.out.size)
            obtain rfl := F4.out (HBE.out trivial) _ _ _ hp
            have he : (s.toList == s.toList) = true := by simp
            clear hp b6
            go_wp2_with fail
            go_meet
            case rel => exact HB6.out
        case rest =>
          have HB6 : Hid (Below w.heap.size w wc) := hcut
          clear hcut
          have HF : Hid _ := find_two s f t wc (by omega) (by omega) (by omega)
          go_wp2_with fail
          refine Calls.mono HF.out ?_
          clear HF
          rintro e w7 ⟨⟨l, va7, vc7, rfl, hl7, Hl⟩, b7⟩
          have HB7 : Hid (Below w.heap.size w w7) := HB6.out.trans (b7.mono HB6.out.size)
          have hms : (s ++ ⟨#[32]⟩ ++ m).size ≤ 1000 := by
            have e : (s ++ ⟨#[32]⟩ ++ m).size = (s ++ ⟨#[32]⟩ ++ m).data.toList.length := rfl
            rw [e, more_list, List.length_append, List.length_cons]
            have e1 : s.data.toList.length = s.size := rfl
            have e2 : m.data.toList.length = m.size := rfl
            omega
          have HF : Hid _ := find_two (s ++ ⟨#[32]⟩ ++ m) f t w7 (by omega) (by omega) (by omega)
          clear b7
          go_wp2_with fail
          refine Calls.mono HF.out ?_
          clear HF
          rintro e w8 ⟨⟨r, va8, vc8, rfl, hr8, Hr⟩, b8⟩
          have HB8 : Hid (Below w.heap.size w w8) := HB7.out.trans (b8.mono HB7.out.size)
          have HLT : Hid (Texts w8 (.slice va7 l.length vc7) l) := Hl.out.2.below b8
          have HIN : Hid (∀ y, y ∈ l → memB y r = true) := fun y hy => found_more Hl.out.1 Hr.out.1 hy
          have HIT : Hid (∀ y, Calls Tryd.prog 17 #[.string y, .slice va8 r.length vc8] w8 fun e w' => e = .returned (.bool (memB y r)) ∧ w' = w8) := fun y => inTexts_any y _ r w8 Hr.out.2 (by omega)
          clear b8 Hl Hr hms F1 F2 F3 F4
          go_wp2_with fail
          go_loop [18] (fun i => ∃ k : Nat, k ≤ l.length ∧ i = .int .i64 k) (fun i => l.length - (intOf i).toNat)
          case atStart => exact ⟨0, Nat.zero_le _, rfl⟩
          case round =>
            obtain ⟨k, hk, rfl⟩ := hrel
            by_cases hlt : k < l.length
            · obtain ⟨y, hy⟩ : ∃ y, l[k]? = some y := ⟨l[k], List.getElem?_eq_getElem hlt⟩
              obtain ⟨ad', cap', e, hc⟩ := HLT.out
              simp only [Value.slice.injEq] at e
              obtain ⟨rfl, _, rfl⟩ := e
              obtain ⟨b1, o1, rfl, c1⟩ := hc k y hy
              have HY : Hid (memB y r = true) := HIN.out y (List.mem_of_getElem? hy)
              clear hc hy
              go_wp2_with fail
              refine Calls.mono (HIT.out y) ?_
              rintro e w9 ⟨rfl, rfl⟩
              rw [HY.out]
              go_wp2_with fail
              go_round
              case rel => exact ⟨k + 1, by omega, by go_num⟩
              case measure => simp [intOf]; omega
            · have e : k = l.length := by omega
              subst e
              go_wp2_with fail
              go_ret
              exact ⟨rfl, HB8.out⟩
end Go.Proofs.YtiemoipafeinoaaDoor
