/-
  The law TapeJoins.
  Conditions: the sentinels and the library's variables lie as their text lays them.
-/
import Derived.Test.YthelggcaggobaaaDoorVg
namespace Go.Proofs.YthelggcaggobaaaDoor
open Go.RowKit
attribute [local go_sem ↓] Go.wp_at_zero Go.wp_at_succ

theorem ap_join {dn : List ByteArray} {s : ByteArray} (hs : s.size ≤ 200) (h : (recs dn).length ≤ 100000) : apR ⟨recs dn, false, false, 0⟩ s = (none, ⟨recs (dn ++ [s]), false, false, 0⟩) := by
  have hr := recT_len s (by omega)
  unfold apR
  rw [if_neg (by omega), if_neg (by simp only; omega)]
  unfold wrR
  rw [if_neg (by simp), if_neg (by simp), recs_snoc]
  rfl
theorem join_read {ts : List ByteArray} (h : ∀ s ∈ ts, s.size ≤ 20000) (r : List UInt8) : (readA (recs ts ++ r)).1 = ts ++ (readA r).1 ∧ readN (recs ts ++ r) = (recs ts).length + readN r := by
  have hl := readA_len r
  unfold readN
  rw [readA_recs ts r h, List.length_append]
  exact ⟨rfl, by simp only; omega⟩
theorem join_all {ts : List ByteArray} (h : ∀ s ∈ ts, s.size ≤ 20000) : (readA (recs ts)).1 = ts ∧ readN (recs ts) = (recs ts).length := by
  unfold readN
  rw [readA_whole h]
  simp
set_option maxRecDepth 100000 in
set_option maxHeartbeats 4000000 in
theorem tapeJoins_any {a : Nat → Addr} (v : Value) (l : List ByteArray) (b : ByteArray) (w : World) (hL : Lv w.heap.size w) (hS : Sn4 a w.heap.size w) (hv : Texts w v l) (hl : l.length ≤ 9223372036854775807) (hb : b.size ≤ 9223372036854775807) (hz : ∀ x ∈ l, x.size ≤ 9223372036854775807) :
    Calls Tryd.prog 4 #[v, .string b] w fun e w' => e = .returned (.bool true) ∧ Below w.heap.size w w' := by
  have HT : Hid _ := taped_any w hL hS
  obtain ⟨ad, cap, rfl, _⟩ := id hv
  have HV : Hid (Texts w (.slice ad l.length cap) l) := hv
  have HL : Hid (Lv w.heap.size w) := hL
  have HS : Hid (Sn4 a w.heap.size w) := hS
  have HZ : Hid (∀ x ∈ l, x.size ≤ 9223372036854775807) := hz
  clear hv hL hS hz
  go_enter Tryd.func4, Tryd.ntmps4
  go_wp2_with fail
  refine Calls.mono HT.out ?_
  rintro e w0 ⟨rfl, hb0⟩
  have HB0 : Hid (Below w.heap.size w w0) := hb0
  clear hb0 HT
  by_cases h20 : 20 < l.length
  · have h20' : (20 : Int) < (l.length : Int) := by omega
    go_wp2_with fail
    go_ret
    exact ⟨rfl, HB0.out⟩
  have h20' : (l.length : Int) ≤ 20 := by omega
  by_cases h500 : 500 < b.size
  · have h500' : (500 : Int) < (b.size : Int) := by omega
    go_wp2_with fail
    go_ret
    exact ⟨rfl, HB0.out⟩
  have h500' : (b.size : Int) ≤ 500 := by omega
  have HN : Hid _ := t_new (w0 := w0) (a := a) ⟨#[]⟩ (by decide) ((HL.out.below HB0.out).up HB0.out.size) ((HS.out.below HB0.out).up HB0.out.size)
  have HV0 : Hid (Texts w0 (.slice ad l.length cap) l) := HV.out.below HB0.out
  clear h500 h20 HL HS HV
  go_wp2_with fail
  refine Calls.mono HN.out ?_
  rintro e w1 ⟨rfl, h1⟩
  obtain ⟨d, hd⟩ : ∃ d, d = w0.heap.size + 1 := ⟨_, rfl⟩
  rw [← hd] at h1 ⊢
  have HI2 : Hid (Tin w0 a w0.heap.size d ⟨[], false, false, 0⟩ w1) := h1
  clear HN h1 hd
  go_wp2_with fail
  go_loopw [8] (fun i wr => ∃ (k : Nat), k ≤ l.length ∧ i = .int .i64 k ∧ Hid ((∀ x ∈ l.take k, x.size ≤ 200) ∧ Tin w0 a w0.heap.size d ⟨recs (l.take k), false, false, 0⟩ wr)) (fun i _ => l.length - (intOf i).toNat)
  case atStart => exact ⟨0, Nat.zero_le _, rfl, by simp, HI2.out⟩
  case round =>
    obtain ⟨k, hk, rfl, HI⟩ := hrel
    have hk0 : (0 : Int) ≤ (k : Int) := by omega
    have HT : Hid (Tin w0 a w0.heap.size d ⟨recs (l.take k), false, false, 0⟩ wr) := HI.out.2
    have HRL : Hid ((recs (l.take k)).length ≤ 10000) := by
      have h := recs_len (l.take k) 200 HI.out.1 (by omega)
      rw [List.length_take] at h
      show _ ≤ _
      have : min k l.length * (200 + 9) ≤ 20 * 209 := Nat.mul_le_mul (by omega) (by omega)
      omega
    by_cases hlt : k < l.length
    · have hlt' : (k : Int) < (l.length : Int) := by omega
      obtain ⟨x, hx⟩ : ∃ x, l[k]? = some x := ⟨l[k], List.getElem?_eq_getElem hlt⟩
      obtain ⟨bb, off, rfl, HCX⟩ : ∃ bb off, ad = some ⟨bb, off, none⟩ ∧ Hid (∀ W t', Tin w0 a w0.heap.size d t' W → W.cell? ⟨bb, off + k, none⟩ = some (.string x)) := by
        obtain ⟨ad', c', e, hc⟩ := HV0.out
        simp only [Value.slice.injEq] at e
        obtain ⟨rfl, _, rfl⟩ := e
        obtain ⟨bb, off, rfl, hcell⟩ := hc k x hx
        refine ⟨bb, off, rfl, fun W t' hW => ?_⟩
        rw [hW.fr.cell (p := ⟨bb, off + k, none⟩) (World.block_lt_of_cell? w0 _ hcell)]
        exact hcell
      have hxs := HZ.out x (List.mem_of_getElem? hx)
      have c1 := HCX.out wr _ HT.out
      have hkk := List.getElem?_eq_some_iff.1 hx
      have HTK : Hid (l.take (k + 1) = l.take k ++ [x]) := show _ = _ by rw [List.take_succ_eq_append_getElem hkk.1, hkk.2]
      clear hx hkk
      by_cases h200 : 200 < x.size
      · have h200' : (200 : Int) < (x.size : Int) := by omega
        have HF : Hid (Below w0.heap.size w0 wr) := HT.out.fr
        go_wp2_with fail
        go_ret
        exact ⟨rfl, HB0.out.trans (HF.out.mono HB0.out.size)⟩
      have h200' : (x.size : Int) ≤ 200 := by omega
      have HAP : Hid (Calls Tryd.prog 9 #[.pointer (some ⟨d, 0, none⟩), .string x] wr fun e W' => e = .returned .nilIface ∧ Tin w0 a w0.heap.size d ⟨recs (l.take (k + 1)), false, false, 0⟩ W') := (t_append HT.out x hxs (by have := HRL.out; simp only; omega)).mono fun e W' ⟨he, hp⟩ => by
        rw [ap_join (by omega) (by have := HRL.out; omega)] at he hp
        rw [HTK.out]
        exact ⟨he, hp.1⟩
      have HS2 : Hid (∀ y ∈ l.take (k + 1), y.size ≤ 200) := fun y hy => by
        rw [HTK.out, List.mem_append, List.mem_singleton] at hy
        rcases hy with hy | rfl
        · exact HI.out.1 y hy
        · omega
      clear HT HRL HI
      go_wp2_with fail
      refine Calls.mono HAP.out ?_
      rintro e w3 ⟨rfl, hp⟩
      have HP : Hid _ := hp
      clear hp HAP
      go_wp2_with fail
      go_roundw
      case rel => exact ⟨k + 1, by omega, by go_num, HS2.out, HP.out⟩
      case measure => simp [intOf]; omega
    · have hlt' : ¬ (k : Int) < (l.length : Int) := by omega
      have e : l.take k = l := List.take_of_length_le (by omega)
      rw [e] at HT HI HRL
      have HSM : Hid (∀ s ∈ l, s.size ≤ 20000) := fun s hs => by have := HI.out.1 s hs; omega
      have HJ : Hid _ := join_all HSM.out
      have HJ2 : Hid _ := join_read HSM.out b.data.toList
      obtain ⟨Y, HY⟩ : ∃ Y : ByteArray, Hid (bs (recs l) = Y) := ⟨_, rfl⟩
      have HYL : Hid (Y.data.toList = recs l) := show _ = _ by rw [← HY.out, bs_list]
      have hYs : Y.size ≤ 10000 := by rw [← HY.out, bs_size]; exact HRL.out
      have HYN : Hid ((recs l).length = Y.size) := show _ = _ by rw [← HY.out, bs_size]
      have hbn := readN_le b.data.toList
      have hbl : b.data.toList.length = b.size := by simp
      have hbt := (readA_texts b.size b.data.toList (by omega)).1
      rw [hbl] at hbn hbt
      have HBY : Hid (∀ W, Tin w0 a w0.heap.size d ⟨recs l, false, false, 0⟩ W → Calls Tryd.prog 14 #[.pointer (some ⟨d, 0, none⟩)] W fun e W' => e = .returned (.string Y) ∧ W' = W) := fun W hW => by rw [← HY.out]; exact t_bytes hW
      have HRY : Hid (Calls Tryd.prog 13 #[.string Y] wr fun e W' => ∃ va vc, e = .returned (.tuple #[.slice va l.length vc, .int .i64 (Y.size : Int)]) ∧ OwnS W' w0.heap.size (.slice va l.length vc) l ∧ Tin w0 a w0.heap.size d ⟨recs l, false, false, 0⟩ W') := (t_read HT.out Y (by omega)).mono fun e W' ⟨va, vc, he, ho, hp⟩ => by
        unfold RdP at ho
        rw [HYL.out, HJ.out.1] at ho
        rw [HYL.out, HJ.out.1, HJ.out.2, HYN.out] at he
        exact ⟨va, vc, he, ho.base HT.out.le, hp.1⟩
      have HB1 : Hid _ := HBY.out wr HT.out
      clear HI e HRL HY HT
      obtain ⟨m, HM⟩ : ∃ m, Hid (readN b.data.toList = m) := ⟨_, rfl⟩
      rw [HM.out] at hbn HJ2
      go_wp2_with fail
      refine Calls.mono HB1.out ?_
      rintro e w3 ⟨rfl, rfl⟩
      clear HB1
      go_wp2_with fail
      refine Calls.mono HRY.out ?_
      rintro e w4 ⟨va, vc, rfl, ho4, ht4⟩
      have HRB : Hid (Calls Tryd.prog 13 #[.string b] w4 fun e W' => ∃ vb vd, e = .returned (.tuple #[.slice vb (readA b.data.toList).1.length vd, .int .i64 (m : Int)]) ∧ (Texts W' (.slice vb (readA b.data.toList).1.length vd) (readA b.data.toList).1 ∧ Texts W' (.slice va l.length vc) l) ∧ Tin w0 a w0.heap.size d ⟨recs l, false, false, 0⟩ W') := (t_read ht4 b (by omega)).mono fun e W' ⟨vb, vd, he, ho, hp⟩ => ⟨vb, vd, by rw [he, HM.out], ⟨OwnS.texts ho, (hp.2 _ _ _ ho4).texts⟩, hp.1⟩
      clear HRY ho4 ht4
      generalize (readA b.data.toList).1 = yL at *
      go_wp2_with fail
      refine Calls.mono HRB.out ?_
      rintro e w5 ⟨vb, vd, rfl, ⟨hy5, hx5⟩, ht5⟩
      have HB5 : Hid _ := HBY.out w5 ht5
      have hYb : (Y ++ b).data.toList = recs l ++ b.data.toList := by rw [← HYL.out]; simp
      have HRZ : Hid (Calls Tryd.prog 13 #[.string (Y ++ b)] w5 fun e W' => ∃ vz ve, e = .returned (.tuple #[.slice vz (l.length + yL.length) ve, .int .i64 ((Y.size : Int) + (m : Int))]) ∧ (Texts W' (.slice vz (l.length + yL.length) ve) (l ++ yL) ∧ Texts W' (.slice vb yL.length vd) yL ∧ Texts W' (.slice va l.length vc) l) ∧ Tin w0 a w0.heap.size d ⟨recs l, false, false, 0⟩ W') := (read_tape (Y ++ b) _ w5 ht5.lv ht5.le (by rw [ByteArray.size_append]; omega)).mono fun e W' ⟨⟨vz, ve, he, ho⟩, hb5⟩ => by
        rw [hYb, HJ2.out.1, List.length_append] at ho
        rw [hYb, HJ2.out.1, HJ2.out.2, HYN.out, List.length_append, Int.natCast_add] at he
        exact ⟨vz, ve, he, ⟨by rw [← List.length_append] at ho ⊢; exact OwnS.texts ho, hy5.below hb5, hx5.below hb5⟩, ht5.below hb5⟩
      clear HRB hy5 hx5 ht5 hYb
      go_wp2_with fail
      refine Calls.mono HB5.out ?_
      rintro e w6 ⟨rfl, rfl⟩
      clear HB5
      go_wp2_with fail
      refine Calls.mono HRZ.out ?_
      rintro e w7 ⟨vz, ve, rfl, hz7, ht7⟩
      have HX7 : Hid _ := hz7
      have HT7 : Hid _ := ht7
      have HN0 : Hid ((([] : List ByteArray).length + l.length ≤ 100000) ∧ l.length + yL.length ≤ 100000) := ⟨by simp; omega, by omega⟩
      clear HRZ hz7 ht7
      go_upto_region 19 with (at_builtin; go_must (refine wpList_appS _ (by rfl) _ _ (by rfl) w7.heap.size (.slice none 0 0) (.slice va l.length vc) [] l (by rfl) (by rfl) (OwnS.nil _ _) HX7.out.2.2 HN0.out.1 (Nat.le_refl _) ?_; intro va1 vc1 w8 h8 g8; (have H8 : Hid (OwnS w8 w7.heap.size (.slice va1 l.length vc1) l) := (by rw [List.nil_append, List.length_nil, Nat.zero_add] at h8; exact h8)); (have G8 : Hid (Below w7.heap.size w7 w8) := (Below.refl _ w7).grown g8 (Nat.le_refl _) (fun k e => by cases e)); clear h8 g8; rw [List.length_nil, Nat.zero_add]))
      have HY8 : Hid (Texts w8 (.slice vb yL.length vd) yL) := HX7.out.2.1.below G8.out
      have HS8 : Hid (w7.heap.size ≤ w8.heap.size) := G8.out.size
      go_upto_region 20 with (at_builtin; go_must (refine wpList_appS _ (by rfl) _ _ (by rfl) w7.heap.size (.slice va1 l.length vc1) (.slice vb yL.length vd) l yL (by rfl) (by rfl) H8.out HY8.out HN0.out.2 HS8.out ?_; intro va2 vc2 w9 h9 g9; (have H9 : Hid (OwnS w9 w7.heap.size (.slice va2 (l.length + yL.length) vc2) (l ++ yL)) := h9); (have G9 : Hid (Below w7.heap.size w7 w9) := G8.out.grown g9 HS8.out (fun k e => (H8.out.block e).1)); clear h9 g9))
      have HT9 : Hid (Tin w0 a w0.heap.size d ⟨recs l, false, false, 0⟩ w9) := HT7.out.below G9.out
      have HS1 : Hid _ := sameTexts_any (.slice va l.length vc) (.slice ad l.length cap) l l w9 (HX7.out.2.2.below G9.out) (HT9.out.texts HV0.out) (by omega)
      rw [textsEq_refl2] at HS1
      have HZ9 : Hid (Texts w9 (.slice vz (l.length + yL.length) ve) (l ++ yL) ∧ Texts w9 (.slice va2 (l.length + yL.length) vc2) (l ++ yL)) := ⟨HX7.out.1.below G9.out, by have h := H9.out.texts; exact h⟩
      clear HX7 HT7 G8 G9 H8 H9 HY8 HS8
      go_wp2_with fail
      refine Calls.mono HS1.out ?_
      rintro e w10 ⟨rfl, hb10⟩
      have HT10 : Hid _ := HT9.out.below hb10
      have HB10 : Hid _ := HBY.out w10 HT10.out
      have HS2 : Hid _ := sameTexts_any (.slice vz (l.length + yL.length) ve) (.slice va2 (l.length + yL.length) vc2) (l ++ yL) (l ++ yL) w10 (HZ9.out.1.below hb10) (HZ9.out.2.below hb10) (by rw [List.length_append]; omega)
      rw [textsEq_refl2] at HS2
      clear HS1 hb10 HZ9 HT9
      go_wp2_with fail
      refine Calls.mono HB10.out ?_
      rintro e w11 ⟨rfl, rfl⟩
      clear HB10
      go_wp2_with fail
      refine Calls.mono HS2.out ?_
      rintro e w12 ⟨rfl, hb12⟩
      have HF : Hid (Below w0.heap.size w0 w12) := (HT10.out.below hb12).fr
      clear hb12 HS2
      go_wp2_with fail
      go_ret
      exact ⟨by first | rfl | simp, HB0.out.trans (HF.out.mono HB0.out.size)⟩
end Go.Proofs.YthelggcaggobaaaDoor
