/-
  The contracts of the laws' longTexts, and of the document's InTexts and With.
  Conditions: the texts lie in memory.
-/
import Derived.Test.YtlaenhohjcjilaaDoorTxA
import Derived.Test.YtlaenhohjcjilaaDoorAppS
import Derived.Test.YtlaenhohjcjilaaDoorLeafs
import Derived.Deep.RegionHeld3
import Derived.Deep.AppendLies
import Derived.Deep.Cut
namespace Go.Proofs.YtlaenhohjcjilaaDoor
open Go.RowKit Go.Maps
attribute [local go_sem ↓] Go.wp_at_zero Go.wp_at_succ

/-- What is long, or small. -/
def LgPost (P : Prop) (e : Ending) : Prop := ∃ b : Bool, e = .returned (.bool b) ∧ (b = false → P)
theorem LgPost.yes {P : Prop} {e : Ending} (h : e = .returned (.bool true)) : LgPost P e := ⟨true, h, fun h => by cases h⟩
theorem LgPost.no {P : Prop} {e : Ending} (h : e = .returned (.bool false)) (hp : P) : LgPost P e := ⟨false, h, fun _ => hp⟩
set_option maxRecDepth 100000 in
theorem longTexts_any (v : Value) (l : List ByteArray) (most : Nat) (w : World) (h : Texts w v l) (hl : l.length ≤ 9223372036854775807) (hz : ∀ x ∈ l, x.size ≤ 9223372036854775807) :
    Calls Tryd.prog 8 #[v, .int .i64 (most : Int)] w fun e w' => LgPost (l.length ≤ 20 ∧ ∀ x ∈ l, x.size ≤ most) e ∧ w' = w := by
  obtain ⟨ad, cap, rfl, hc⟩ := h
  have HC : Hid (∀ i x, l[i]? = some x → ∃ b off, ad = some ⟨b, off, none⟩ ∧ w.cell? ⟨b, off + i, none⟩ = some (.string x)) := hc
  have HZ : Hid (∀ x ∈ l, x.size ≤ 9223372036854775807) := hz
  clear hc hz
  by_cases h20 : 20 < l.length
  · have h20' : (20 : Int) < (l.length : Int) := by omega
    go_enter Tryd.func8, Tryd.ntmps8
    go_wp2_with fail
    go_ret
    exact ⟨LgPost.yes rfl, rfl⟩
  have h20' : (l.length : Int) ≤ 20 := by omega
  go_enter Tryd.func8, Tryd.ntmps8
  go_wp2_with fail
  go_loop [5] (fun i => ∃ k : Nat, k ≤ l.length ∧ i = .int .i64 k ∧ Hid (∀ x ∈ l.take k, x.size ≤ most)) (fun i => l.length - (intOf i).toNat)
  case atStart => exact ⟨0, Nat.zero_le _, rfl, fun p hp => by simp at hp⟩
  case round =>
    obtain ⟨k, hk, rfl, HI⟩ := hrel
    by_cases hlt : k < l.length
    · obtain ⟨x, hx⟩ : ∃ x, l[k]? = some x := ⟨l[k], List.getElem?_eq_getElem hlt⟩
      obtain ⟨b1, o1, rfl, c1⟩ := HC.out k x hx
      have hx30 := HZ.out x (List.mem_of_getElem? hx)
      have hkk := List.getElem?_eq_some_iff.1 hx
      have HTK : Hid (l.take (k + 1) = l.take k ++ [x]) := show _ = _ by rw [List.take_succ_eq_append_getElem hkk.1, hkk.2]
      clear hx hkk
      by_cases hb : most < x.size
      · have hb' : (most : Int) < (x.size : Int) := by omega
        go_wp2_with fail
        go_ret
        exact ⟨LgPost.yes rfl, rfl⟩
      · have hb' : (x.size : Int) ≤ (most : Int) := by omega
        go_wp2_with fail
        go_round
        case rel =>
          refine ⟨k + 1, by omega, by go_num, fun r hr => ?_⟩
          rw [HTK.out, List.mem_append, List.mem_singleton] at hr
          rcases hr with hr | rfl
          · exact HI.out r hr
          · omega
        case measure => simp [intOf]; omega
    · have e : k = l.length := by omega
      have HE : Hid (∀ x ∈ l, x.size ≤ most) := by have := HI.out; rw [e, List.take_length] at this; exact this
      clear e
      go_wp2_with fail
      go_ret
      exact ⟨LgPost.no rfl ⟨by omega, HE.out⟩, rfl⟩
set_option maxRecDepth 100000 in
theorem inTexts_any (s : ByteArray) (v : Value) (l : List ByteArray) (w : World) (hv : Texts w v l) (hl : l.length ≤ 100000) :
    Calls Tryd.prog 20 #[.string s, v] w fun e w' => e = .returned (.bool (memB s l)) ∧ w' = w := by
  obtain ⟨ad, cap, rfl, hc⟩ := hv
  have HC : Hid (∀ i x, l[i]? = some x → ∃ b off, ad = some ⟨b, off, none⟩ ∧ w.cell? ⟨b, off + i, none⟩ = some (.string x)) := hc
  clear hc
  go_enter Tryd.func20, Tryd.ntmps20
  go_wp2_with fail
  go_loop [5] (fun i => ∃ k : Nat, k ≤ l.length ∧ i = .int .i64 k ∧ Hid (memB s (l.take k) = false)) (fun i => l.length - (intOf i).toNat)
  case atStart => exact ⟨0, Nat.zero_le _, rfl, rfl⟩
  case round =>
    obtain ⟨k, hk, rfl, HI⟩ := hrel
    by_cases hlt : k < l.length
    · obtain ⟨x, hx⟩ : ∃ x, l[k]? = some x := ⟨l[k], List.getElem?_eq_getElem hlt⟩
      obtain ⟨b1, o1, rfl, c1⟩ := HC.out k x hx
      have hkk := List.getElem?_eq_some_iff.1 hx
      have HT : Hid (memB s (l.take (k + 1)) = (x.toList == s.toList)) := show _ = _ by rw [List.take_succ_eq_append_getElem hkk.1, hkk.2, memB_snoc, HI.out]; rfl
      have HX : Hid (x ∈ l) := List.mem_of_getElem? hx
      clear hkk hx
      cases hg : (x.toList == s.toList) with
      | true =>
        have HA : Hid (memB s l = true) := memB_iff.2 (by rw [← ba_beq.1 hg]; exact HX.out)
        go_wp2_with fail
        go_ret
        exact ⟨ret_bool HA.out.symm, rfl⟩
      | false =>
        have HU : Hid (memB s (l.take (k + 1)) = false) := by show _ = _; rw [HT.out]; exact hg
        go_wp2_with fail
        go_round
        case rel => exact ⟨k + 1, by omega, by go_num, HU⟩
        case measure => simp [intOf]; omega
    · have e : k = l.length := by omega
      have HE : Hid (memB s l = false) := by have := HI.out; rw [e, List.take_length] at this; exact this
      clear e
      go_wp2_with fail
      go_ret
      exact ⟨ret_bool HE.out.symm, rfl⟩

theorem textsEq_refl (l : List ByteArray) : textsEq l l = true := by
  unfold textsEq eqTo
  simp
/-- Texts with room. -/
def TxR (w : World) (v : Value) (l : List ByteArray) : Prop := Texts w v l ∧ ∃ va vc, v = .slice va l.length vc ∧ l.length ≤ vc ∧ vc ≤ maxLen ∧ ((va = none ∧ vc = 0) ∨ ∃ b off, va = some ⟨b, off, none⟩)
theorem TxR.below {w w' : World} {v : Value} {l : List ByteArray} (h : TxR w v l) (hb : Below w.heap.size w w') : TxR w' v l := ⟨h.1.below hb, h.2⟩
theorem OwnS.txr {w : World} {base : Nat} {v : Value} {L : List ByteArray} (h : OwnS w base v L) : TxR w v L := by
  refine ⟨h.texts, ?_⟩
  rcases h.2 with ⟨e, e0⟩ | ⟨g, cap, cur, e, _, _, e1, e2, _⟩
  · exact ⟨none, 0, by rw [e, e0], by omega, by unfold maxLen; omega, .inl ⟨rfl, rfl⟩⟩
  · exact ⟨_, cap, e, e1, e2, .inr ⟨_, _, rfl⟩⟩
theorem texts_end {w : World} {l : List ByteArray} {k : Nat} (h : l.length ≤ k) (ad : Option Addr) (c : Nat) : Texts w (.slice ad (l.length - k) c) (l.drop k) := by
  rw [List.drop_of_length_le h]
  exact ⟨ad, c, by rw [Nat.sub_eq_zero_of_le h]; rfl, fun i x h => by simp at h⟩
theorem texts_cut {w : World} {va : Option Addr} {vc : Nat} {l : List ByteArray} (h : Texts w (.slice va l.length vc) l) (k c : Nat) (hk : k ≤ l.length) : Texts w (.slice va k c) (l.take k) := by
  obtain ⟨ad, cap, e, hc⟩ := h
  simp only [Value.slice.injEq] at e
  obtain ⟨rfl, _, rfl⟩ := e
  refine ⟨va, c, by rw [List.length_take, Nat.min_eq_left hk], fun i x hx => hc i x ?_⟩
  have := (List.getElem?_eq_some_iff.1 hx).1
  rw [List.length_take] at this
  rw [List.getElem?_take_of_lt (by omega)] at hx
  exact hx
theorem texts_off {w : World} {b off vc : Nat} {l : List ByteArray} (h : Texts w (.slice (some ⟨b, off, none⟩) l.length vc) l) (k c : Nat) : Texts w (.slice (some ⟨b, off + k, none⟩) (l.length - k) c) (l.drop k) := by
  obtain ⟨ad, cap, e, hc⟩ := h
  simp only [Value.slice.injEq] at e
  obtain ⟨rfl, _, rfl⟩ := e
  refine ⟨_, c, by rw [List.length_drop], fun i x hx => ⟨b, off + k, rfl, ?_⟩⟩
  rw [List.getElem?_drop] at hx
  obtain ⟨b', off', e, h⟩ := hc (k + i) x hx
  simp only [Option.some.injEq, Addr.mk.injEq, and_true] at e
  obtain ⟨rfl, rfl⟩ := e
  rw [Nat.add_assoc]; exact h
theorem texts_none (w : World) (ad : Option Addr) (c : Nat) : Texts w (.slice ad 0 c) [] := ⟨ad, c, rfl, fun i x h => by simp at h⟩
set_option maxRecDepth 100000 in
set_option maxHeartbeats 1000000 in
theorem with_nil (s : ByteArray) (w : World) :
    Calls Tryd.prog 21 #[.slice none 0 0, .string s] w fun e w' => (∃ va vc, e = .returned (.slice va (withR [] s).length vc) ∧ TxR w' (.slice va (withR [] s).length vc) (withR [] s)) ∧ Below w.heap.size w w' := by
  have HN : Hid (∀ W : World, Texts W (.slice none 0 0) []) := fun W => texts_none W none 0
  have HE : Hid (withR [] s = [s]) := rfl
  go_enter Tryd.func21, Tryd.ntmps21
  go_wp2_with fail
  refine wp_loop_rounds 1 ?_
  rw [rounds_succ]
  go_upto_region 9 with fail
  obtain ⟨w2, hw2⟩ : ∃ w2, w2 = w.alloc (.cells #[.string s] 9) := ⟨_, rfl⟩
  have b2 : Below w.heap.size w w2 := by rw [hw2]; exact (Below.refl _ _).alloc (Nat.le_refl _) _
  have q2 : w2.heap[w.heap.size]? = some (.cells #[.string s] 9 (0, 0)) := by rw [hw2]; exact heap_alloc_last _ _
  have HT2 : Hid (Texts w2 (.slice (some ⟨w.heap.size, 0, none⟩) 1 1) [s]) := one_text q2 1
  have HB2 : Hid (Below w.heap.size w w2) := b2
  have HW2 : Hid (w2 = w.alloc (.cells #[.string s] 9)) := hw2
  have HBS : Hid (w.heap.size ≤ w2.heap.size) := HB2.out.size
  clear b2 q2 hw2
  go_upto_region 10 with (at_builtin; go_must (rw [← HW2.out]; refine wpList_appS _ (by rfl) _ _ (by rfl) w.heap.size (.slice none 0 0) (.slice (some ⟨w.heap.size, 0, none⟩) 1 1) [] [s] (by rfl) (by rfl) (OwnS.nil _ _) HT2.out (by simp) HBS.out ?_; intro va2 vc2 w3 h3 g3; (have H3 : Hid (OwnS w3 w.heap.size (.slice va2 1 vc2) [s]) := h3); (have G3 : Hid (Below w.heap.size w w3) := HB2.out.grown g3 HBS.out (fun j e => by cases e)); clear h3 g3; rw [show ([] : List ByteArray).length + [s].length = 1 from rfl]))
  have HBS3 : Hid (w.heap.size ≤ w3.heap.size) := G3.out.size
  go_wp2_with (at_builtin; go_must (refine wpList_appS _ (by rfl) _ _ (by rfl) w.heap.size (.slice va2 1 vc2) (.slice none 0 0) [s] [] (by rfl) (by rfl) H3.out (HN.out _) (by simp) HBS3.out ?_; intro va3 vc3 w5 h5 g5; (have H5 : Hid (OwnS w5 w.heap.size (.slice va3 1 vc3) [s]) := h5); (have G5 : Hid (Below w.heap.size w w5) := G3.out.grown g5 HBS3.out (fun j e => (H3.out.block e).1)); clear h5 g5; rw [show [s].length + ([] : List ByteArray).length = 1 from rfl]))
  go_ret
  exact ⟨⟨va3, vc3, rfl, H5.out.txr⟩, G5.out⟩
set_option maxRecDepth 100000 in
set_option maxHeartbeats 1000000 in
theorem with_any (s : ByteArray) (v : Value) (l : List ByteArray) (w : World) (hv : TxR w v l) (hl : l.length ≤ 10000) :
    Calls Tryd.prog 21 #[v, .string s] w fun e w' => (∃ va vc, e = .returned (.slice va (withR l s).length vc) ∧ TxR w' (.slice va (withR l s).length vc) (withR l s)) ∧ Below w.heap.size w w' := by
  obtain ⟨hv, va, vc, rfl, hvc, hvm, ⟨rfl, rfl⟩ | ⟨b, off, rfl⟩⟩ := hv
  · obtain rfl : l = [] := List.eq_nil_of_length_eq_zero (by omega)
    exact with_nil s w
  have HV : Hid (Texts w (.slice (some ⟨b, off, none⟩) l.length vc) l) := hv
  have HC : Hid (∀ i x, l[i]? = some x → w.cell? ⟨b, off + i, none⟩ = some (.string x)) := by
    obtain ⟨ad, cap, e, hc⟩ := hv
    simp only [Value.slice.injEq] at e
    obtain ⟨rfl, _, rfl⟩ := e
    intro i x hx
    obtain ⟨b', off', e, h⟩ := hc i x hx
    simp only [Option.some.injEq, Addr.mk.injEq, and_true] at e
    obtain ⟨rfl, rfl⟩ := e
    exact h
  clear hv
  go_enter Tryd.func21, Tryd.ntmps21
  go_wp2_with fail
  go_loop [5] (fun i => ∃ k : Nat, k ≤ l.length ∧ i = .int .i64 k ∧ Hid (∀ j x, j < k → l[j]? = some x → bl x s = true)) (fun i => l.length - (intOf i).toNat)
  case atStart => exact ⟨0, Nat.zero_le _, rfl, fun j x h => by omega⟩
  case round =>
    obtain ⟨k, hk, rfl, HI⟩ := hrel
    have HTK : Hid (Texts w (.slice (some ⟨b, off, none⟩) k vc) (l.take k)) := texts_cut HV.out k vc hk
    have HL1 : Hid (∀ va1 vc1 w1, OwnS w1 w.heap.size (.slice va1 (([] : List ByteArray).length + (l.take k).length) vc1) ([] ++ l.take k) → OwnS w1 w.heap.size (.slice va1 k vc1) (l.take k)) := fun va1 vc1 w1 h => by
      rw [List.length_take, Nat.min_eq_left hk, List.length_nil, Nat.zero_add, List.nil_append] at h
      exact h
    have HK0 : Hid (([] : List ByteArray).length + (l.take k).length = k) := show _ = _ by rw [List.length_take, Nat.min_eq_left hk, List.length_nil, Nat.zero_add]
    have hk0 : (0 : Int) ≤ (k : Int) := by omega
    have hkc : (k : Int) ≤ (vc : Int) := by omega
    have hkl : (k : Int) ≤ (l.length : Int) := by omega
    by_cases hlt : k < l.length
    · obtain ⟨x, hx⟩ : ∃ x, l[k]? = some x := ⟨l[k], List.getElem?_eq_getElem hlt⟩
      have c1 := HC.out k x hx
      have HX : Hid (l[k]? = some x) := hx
      clear hx
      cases hb : bl x s with
      | true =>
        have h1 : Op.bytesLess x.toList s.toList = true := hb
        go_wp2_with fail
        go_round
        case rel =>
          refine ⟨k + 1, by omega, by go_num, fun j y hj hy => ?_⟩
          rcases Nat.lt_or_ge j k with h | h
          · exact HI.out j y h hy
          · obtain rfl : j = k := by omega
            rw [HX.out] at hy
            obtain rfl := Option.some.inj hy
            exact hb
        case measure => simp [intOf]; omega
      | false =>
      have h1 : Op.bytesLess x.toList s.toList = false := hb
      have HAT : Hid ((l.takeWhile fun x => bl x s).length = k) := tw_at HI.out hk (fun y hy => by rw [HX.out] at hy; obtain rfl := Option.some.inj hy; exact hb)
      cases he : (x.toList == s.toList) with
      | true =>
        have HE : Hid (withR l s = l) := show _ = _ by unfold withR; rw [HAT.out, HX.out, if_pos (by simp [he])]
        clear hb
        go_wp2_with fail
        go_ret
        exact ⟨⟨some ⟨b, off, none⟩, vc, by rw [HE.out]; rfl, by rw [HE.out]; exact ⟨HV.out, _, _, rfl, hvc, hvm, .inr ⟨_, _, rfl⟩⟩⟩, Below.refl _ _⟩
      | false =>
        have HE : Hid (withR l s = l.take k ++ s :: l.drop k) := show _ = _ by unfold withR; rw [HAT.out, HX.out, if_neg (by simp [he])]
        clear hb
        have HTK' : Hid (Texts w (.slice (some ⟨b, off, none⟩) k vc) (l.take k)) := HTK.out
        go_upto_region 9 with (at_builtin; go_must (refine wpList_appS _ (by rfl) _ _ (by rfl) w.heap.size (.slice none 0 0) (.slice (some ⟨b, off, none⟩) k vc) [] (l.take k) (by rfl) (by rfl) (OwnS.nil _ _) HTK'.out (by simp; omega) (Nat.le_refl _) ?_; intro va1 vc1 w1 h1 g1; (have H1 : Hid (OwnS w1 w.heap.size (.slice va1 k vc1) (l.take k)) := HL1.out va1 vc1 w1 h1); (have G1 : Hid (Below w.heap.size w w1) := (Below.refl _ w).grown g1 (Nat.le_refl _) (fun k e => by cases e)); clear h1 g1; rw [HK0.out]))
        obtain ⟨w2, hw2⟩ : ∃ w2, w2 = w1.alloc (.cells #[.string s] 9) := ⟨_, rfl⟩
        have b2 : Below w1.heap.size w1 w2 := by rw [hw2]; exact (Below.refl _ _).alloc (Nat.le_refl _) _
        have q2 : w2.heap[w1.heap.size]? = some (.cells #[.string s] 9 (0, 0)) := by rw [hw2]; exact heap_alloc_last _ _
        have HT2 : Hid (Texts w2 (.slice (some ⟨w1.heap.size, 0, none⟩) 1 1) [s]) := one_text q2 1
        have HO2 : Hid (OwnS w2 w.heap.size (.slice va1 k vc1) (l.take k)) := H1.out.below b2
        have HB2 : Hid (Below w.heap.size w w2) := G1.out.trans (b2.mono G1.out.size)
        have HW2 : Hid (w2 = w1.alloc (.cells #[.string s] 9)) := hw2
        have HL2 : Hid (∀ va2 vc2 w3, OwnS w3 w.heap.size (.slice va2 ((l.take k).length + [s].length) vc2) (l.take k ++ [s]) → OwnS w3 w.heap.size (.slice va2 (k + 1) vc2) (l.take k ++ [s])) := fun va2 vc2 w3 h => by
          rw [List.length_take, Nat.min_eq_left hk] at h
          exact h
        have HK2 : Hid ((l.take k).length + [s].length = k + 1) := show _ = _ by rw [List.length_take, Nat.min_eq_left hk]; rfl
        have HBS : Hid (w.heap.size ≤ w2.heap.size) := HB2.out.size
        have HLN : Hid ((l.take k).length + [s].length ≤ 100000) := by show _ ≤ _; rw [HK2.out]; omega
        clear b2 q2 hw2
        go_upto_region 10 with (at_builtin; go_must (rw [← HW2.out]; refine wpList_appS _ (by rfl) _ _ (by rfl) w.heap.size (.slice va1 k vc1) (.slice (some ⟨w1.heap.size, 0, none⟩) 1 1) (l.take k) [s] (by rfl) (by rfl) HO2.out HT2.out HLN.out HBS.out ?_; intro va2 vc2 w3 h3 g3; (have H3 : Hid (OwnS w3 w.heap.size (.slice va2 (k + 1) vc2) (l.take k ++ [s])) := HL2.out va2 vc2 w3 h3); (have G3 : Hid (Below w.heap.size w w3) := HB2.out.grown g3 HBS.out (fun j e => (HO2.out.block e).1)); clear h3 g3; rw [HK2.out]))
        have HBS3 : Hid (w.heap.size ≤ w3.heap.size) := G3.out.size
        have HT4 : Hid (Texts w3 (.slice (some ⟨b, off + k, none⟩) (l.length - k) (vc - k)) (l.drop k)) := texts_off (HV.out.below G3.out) k (vc - k)
        have HLN4 : Hid ((l.take k ++ [s]).length + (l.drop k).length ≤ 100000) := by show _ ≤ _; rw [List.length_append, HK2.out, List.length_drop]; omega
        have HK4 : Hid ((l.take k ++ [s]).length + (l.drop k).length = (withR l s).length) := show _ = _ by rw [HE.out, ← List.length_append, List.append_assoc]; rfl
        have HO3 : Hid (OwnS w3 w.heap.size (.slice va2 (k + 1) vc2) (l.take k ++ [s])) := H3.out
        go_wp2_with (at_builtin; go_must (refine wpList_appS _ (by rfl) _ _ (by rfl) w.heap.size (.slice va2 (k + 1) vc2) (.slice (some ⟨b, off + k, none⟩) (l.length - k) (vc - k)) (l.take k ++ [s]) (l.drop k) (by rfl) (by rfl) HO3.out HT4.out HLN4.out HBS3.out ?_; intro va3 vc3 w5 h5 g5; (have H5 : Hid (OwnS w5 w.heap.size (.slice va3 (withR l s).length vc3) (withR l s)) := by (rw [HK4.out, List.append_assoc] at h5; rw [show withR l s = l.take k ++ ([s] ++ l.drop k) from HE.out] at h5 ⊢; exact h5)); (have G5 : Hid (Below w.heap.size w w5) := G3.out.grown g5 HBS3.out (fun j e => (HO3.out.block e).1)); clear h5 g5; rw [HK4.out]))
        go_ret
        exact ⟨⟨va3, vc3, rfl, H5.out.txr⟩, G5.out⟩
    · have hge : ¬ (k : Int) < (l.length : Int) := by omega
      have HAT : Hid ((l.takeWhile fun x => bl x s).length = k) := tw_at HI.out hk (fun y hy => by have := (List.getElem?_eq_some_iff.1 hy).1; omega)
      have HE : Hid (withR l s = l.take k ++ s :: l.drop k) := show _ = _ by unfold withR; rw [HAT.out, List.getElem?_eq_none (by omega), if_neg (by simp)]
      by_cases hcc : k = vc
      · have hcc' : ¬ (k : Int) < (vc : Int) := by omega
        have HCC : Hid (k = vc) := hcc
        clear hcc
        have HTK' : Hid (Texts w (.slice (some ⟨b, off, none⟩) k vc) (l.take k)) := HTK.out
        go_upto_region 9 with (at_builtin; go_must (refine wpList_appS _ (by rfl) _ _ (by rfl) w.heap.size (.slice none 0 0) (.slice (some ⟨b, off, none⟩) k vc) [] (l.take k) (by rfl) (by rfl) (OwnS.nil _ _) HTK'.out (by simp; omega) (Nat.le_refl _) ?_; intro va1 vc1 w1 h1 g1; (have H1 : Hid (OwnS w1 w.heap.size (.slice va1 k vc1) (l.take k)) := HL1.out va1 vc1 w1 h1); (have G1 : Hid (Below w.heap.size w w1) := (Below.refl _ w).grown g1 (Nat.le_refl _) (fun k e => by cases e)); clear h1 g1; rw [HK0.out]))
        obtain ⟨w2, hw2⟩ : ∃ w2, w2 = w1.alloc (.cells #[.string s] 9) := ⟨_, rfl⟩
        have b2 : Below w1.heap.size w1 w2 := by rw [hw2]; exact (Below.refl _ _).alloc (Nat.le_refl _) _
        have q2 : w2.heap[w1.heap.size]? = some (.cells #[.string s] 9 (0, 0)) := by rw [hw2]; exact heap_alloc_last _ _
        have HT2 : Hid (Texts w2 (.slice (some ⟨w1.heap.size, 0, none⟩) 1 1) [s]) := one_text q2 1
        have HO2 : Hid (OwnS w2 w.heap.size (.slice va1 k vc1) (l.take k)) := H1.out.below b2
        have HB2 : Hid (Below w.heap.size w w2) := G1.out.trans (b2.mono G1.out.size)
        have HW2 : Hid (w2 = w1.alloc (.cells #[.string s] 9)) := hw2
        have HL2 : Hid (∀ va2 vc2 w3, OwnS w3 w.heap.size (.slice va2 ((l.take k).length + [s].length) vc2) (l.take k ++ [s]) → OwnS w3 w.heap.size (.slice va2 (k + 1) vc2) (l.take k ++ [s])) := fun va2 vc2 w3 h => by
          rw [List.length_take, Nat.min_eq_left hk] at h
          exact h
        have HK2 : Hid ((l.take k).length + [s].length = k + 1) := show _ = _ by rw [List.length_take, Nat.min_eq_left hk]; rfl
        have HBS : Hid (w.heap.size ≤ w2.heap.size) := HB2.out.size
        have HLN : Hid ((l.take k).length + [s].length ≤ 100000) := by show _ ≤ _; rw [HK2.out]; omega
        clear b2 q2 hw2
        go_upto_region 10 with (at_builtin; go_must (rw [← HW2.out]; refine wpList_appS _ (by rfl) _ _ (by rfl) w.heap.size (.slice va1 k vc1) (.slice (some ⟨w1.heap.size, 0, none⟩) 1 1) (l.take k) [s] (by rfl) (by rfl) HO2.out HT2.out HLN.out HBS.out ?_; intro va2 vc2 w3 h3 g3; (have H3 : Hid (OwnS w3 w.heap.size (.slice va2 (k + 1) vc2) (l.take k ++ [s])) := HL2.out va2 vc2 w3 h3); (have G3 : Hid (Below w.heap.size w w3) := HB2.out.grown g3 HBS.out (fun j e => (HO2.out.block e).1)); clear h3 g3; rw [HK2.out]))
        have HBS3 : Hid (w.heap.size ≤ w3.heap.size) := G3.out.size
        have HT4 : Hid (Texts w3 (.slice (some ⟨b, off, none⟩) (l.length - k) (vc - k)) (l.drop k)) := texts_end (by omega) _ _
        have HLN4 : Hid ((l.take k ++ [s]).length + (l.drop k).length ≤ 100000) := by show _ ≤ _; rw [List.length_append, HK2.out, List.length_drop]; omega
        have HK4 : Hid ((l.take k ++ [s]).length + (l.drop k).length = (withR l s).length) := show _ = _ by rw [HE.out, ← List.length_append, List.append_assoc]; rfl
        have HO3 : Hid (OwnS w3 w.heap.size (.slice va2 (k + 1) vc2) (l.take k ++ [s])) := H3.out
        go_wp2_with (at_builtin; go_must (refine wpList_appS _ (by rfl) _ _ (by rfl) w.heap.size (.slice va2 (k + 1) vc2) (.slice (some ⟨b, off, none⟩) (l.length - k) (vc - k)) (l.take k ++ [s]) (l.drop k) (by rfl) (by rfl) HO3.out HT4.out HLN4.out HBS3.out ?_; intro va3 vc3 w5 h5 g5; (have H5 : Hid (OwnS w5 w.heap.size (.slice va3 (withR l s).length vc3) (withR l s)) := by (rw [HK4.out, List.append_assoc] at h5; rw [show withR l s = l.take k ++ ([s] ++ l.drop k) from HE.out] at h5 ⊢; exact h5)); (have G5 : Hid (Below w.heap.size w w5) := G3.out.grown g5 HBS3.out (fun j e => (HO3.out.block e).1)); clear h5 g5; rw [HK4.out]))
        go_ret
        exact ⟨⟨va3, vc3, rfl, H5.out.txr⟩, G5.out⟩
      · have hcc' : (k : Int) < (vc : Int) := by omega
        have HTK' : Hid (Texts w (.slice (some ⟨b, off, none⟩) k vc) (l.take k)) := HTK.out
        go_upto_region 9 with (at_builtin; go_must (refine wpList_appS _ (by rfl) _ _ (by rfl) w.heap.size (.slice none 0 0) (.slice (some ⟨b, off, none⟩) k vc) [] (l.take k) (by rfl) (by rfl) (OwnS.nil _ _) HTK'.out (by simp; omega) (Nat.le_refl _) ?_; intro va1 vc1 w1 h1 g1; (have H1 : Hid (OwnS w1 w.heap.size (.slice va1 k vc1) (l.take k)) := HL1.out va1 vc1 w1 h1); (have G1 : Hid (Below w.heap.size w w1) := (Below.refl _ w).grown g1 (Nat.le_refl _) (fun k e => by cases e)); clear h1 g1; rw [HK0.out]))
        obtain ⟨w2, hw2⟩ : ∃ w2, w2 = w1.alloc (.cells #[.string s] 9) := ⟨_, rfl⟩
        have b2 : Below w1.heap.size w1 w2 := by rw [hw2]; exact (Below.refl _ _).alloc (Nat.le_refl _) _
        have q2 : w2.heap[w1.heap.size]? = some (.cells #[.string s] 9 (0, 0)) := by rw [hw2]; exact heap_alloc_last _ _
        have HT2 : Hid (Texts w2 (.slice (some ⟨w1.heap.size, 0, none⟩) 1 1) [s]) := one_text q2 1
        have HO2 : Hid (OwnS w2 w.heap.size (.slice va1 k vc1) (l.take k)) := H1.out.below b2
        have HB2 : Hid (Below w.heap.size w w2) := G1.out.trans (b2.mono G1.out.size)
        have HW2 : Hid (w2 = w1.alloc (.cells #[.string s] 9)) := hw2
        have HL2 : Hid (∀ va2 vc2 w3, OwnS w3 w.heap.size (.slice va2 ((l.take k).length + [s].length) vc2) (l.take k ++ [s]) → OwnS w3 w.heap.size (.slice va2 (k + 1) vc2) (l.take k ++ [s])) := fun va2 vc2 w3 h => by
          rw [List.length_take, Nat.min_eq_left hk] at h
          exact h
        have HK2 : Hid ((l.take k).length + [s].length = k + 1) := show _ = _ by rw [List.length_take, Nat.min_eq_left hk]; rfl
        have HBS : Hid (w.heap.size ≤ w2.heap.size) := HB2.out.size
        have HLN : Hid ((l.take k).length + [s].length ≤ 100000) := by show _ ≤ _; rw [HK2.out]; omega
        clear b2 q2 hw2
        go_upto_region 10 with (at_builtin; go_must (rw [← HW2.out]; refine wpList_appS _ (by rfl) _ _ (by rfl) w.heap.size (.slice va1 k vc1) (.slice (some ⟨w1.heap.size, 0, none⟩) 1 1) (l.take k) [s] (by rfl) (by rfl) HO2.out HT2.out HLN.out HBS.out ?_; intro va2 vc2 w3 h3 g3; (have H3 : Hid (OwnS w3 w.heap.size (.slice va2 (k + 1) vc2) (l.take k ++ [s])) := HL2.out va2 vc2 w3 h3); (have G3 : Hid (Below w.heap.size w w3) := HB2.out.grown g3 HBS.out (fun j e => (HO2.out.block e).1)); clear h3 g3; rw [HK2.out]))
        have HBS3 : Hid (w.heap.size ≤ w3.heap.size) := G3.out.size
        have HT4 : Hid (Texts w3 (.slice (some ⟨b, off + k, none⟩) (l.length - k) (vc - k)) (l.drop k)) := texts_end (by omega) _ _
        have HLN4 : Hid ((l.take k ++ [s]).length + (l.drop k).length ≤ 100000) := by show _ ≤ _; rw [List.length_append, HK2.out, List.length_drop]; omega
        have HK4 : Hid ((l.take k ++ [s]).length + (l.drop k).length = (withR l s).length) := show _ = _ by rw [HE.out, ← List.length_append, List.append_assoc]; rfl
        have HO3 : Hid (OwnS w3 w.heap.size (.slice va2 (k + 1) vc2) (l.take k ++ [s])) := H3.out
        go_wp2_with (at_builtin; go_must (refine wpList_appS _ (by rfl) _ _ (by rfl) w.heap.size (.slice va2 (k + 1) vc2) (.slice (some ⟨b, off + k, none⟩) (l.length - k) (vc - k)) (l.take k ++ [s]) (l.drop k) (by rfl) (by rfl) HO3.out HT4.out HLN4.out HBS3.out ?_; intro va3 vc3 w5 h5 g5; (have H5 : Hid (OwnS w5 w.heap.size (.slice va3 (withR l s).length vc3) (withR l s)) := by (rw [HK4.out, List.append_assoc] at h5; rw [show withR l s = l.take k ++ ([s] ++ l.drop k) from HE.out] at h5 ⊢; exact h5)); (have G5 : Hid (Below w.heap.size w w5) := G3.out.grown g5 HBS3.out (fun j e => (HO3.out.block e).1)); clear h5 g5; rw [HK4.out]))
        go_ret
        exact ⟨⟨va3, vc3, rfl, H5.out.txr⟩, G5.out⟩
end Go.Proofs.YtlaenhohjcjilaaDoor
