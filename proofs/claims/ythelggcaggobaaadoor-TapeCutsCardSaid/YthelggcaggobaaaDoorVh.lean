/-
  The law TapeCuts.
  Conditions: the sentinels and the library's variables lie as their text lays them.
-/
import Derived.Test.YthelggcaggobaaaDoorVg
namespace Go.Proofs.YthelggcaggobaaaDoor
open Go.RowKit
attribute [local go_sem ↓] Go.wp_at_zero Go.wp_at_succ

/-! ### What holds between appends, as plain mathematics -/
structure CutI (k : Nat) (dn : List ByteArray) (t : Tp) : Prop where
  st : (t.off = false ∧ t.l = recs dn) ∨ (t.off = true ∧ ∃ s p q, recT s = p ++ q ∧ q ≠ [] ∧ t.l = recs dn ++ p)
  sm : ∀ x ∈ dn, x.size ≤ 20000
  ln : t.l.length ≤ k * 209
  lf : 0 ≤ t.left
  dk : dn.length ≤ k
theorem CutI.start {n : Int} (h : 0 ≤ n) : CutI 0 [] ⟨[], false, true, n⟩ := ⟨.inl ⟨rfl, rfl⟩, by simp, by simp, h, by simp⟩
/-- An append, and whether it was told without an error. -/
theorem CutI.next {k : Nat} {dn : List ByteArray} {t : Tp} (h : CutI k dn t) (hk : k ≤ 100) {s : ByteArray} (hs : s.size ≤ 200) : ((apR t s).1 = none ∧ CutI (k + 1) (dn ++ [s]) (apR t s).2) ∨ ((∃ n, (apR t s).1 = some n) ∧ CutI (k + 1) dn (apR t s).2) := by
  have hr := recT_len s (by omega)
  have hln := h.ln
  have e1 : apR t s = wrR t (recT s) := by unfold apR; rw [if_neg (by omega), if_neg (by omega)]
  rw [e1]
  unfold wrR
  by_cases ho : t.off = true
  · rw [if_pos ho]
    exact .inr ⟨⟨12, rfl⟩, h.st, h.sm, by show t.l.length ≤ _; omega, h.lf, by have := h.dk; omega⟩
  · rw [if_neg ho]
    have hl : t.l = recs dn := by
      rcases h.st with ⟨_, e⟩ | ⟨e, _⟩
      · exact e
      · exact absurd e ho
    have ho' : t.off = false := by simpa using ho
    by_cases hc : t.cut = true ∧ t.left < ((recT s).length : Int)
    · rw [if_pos hc]
      have hlf := h.lf
      refine .inr ⟨⟨12, rfl⟩, .inr ⟨rfl, s, (recT s).take t.left.toNat, (recT s).drop t.left.toNat, (List.take_append_drop _ _).symm, ?_, by rw [← hl]⟩, h.sm, ?_, Int.le_refl 0, by have := h.dk; omega⟩
      · intro e
        have := congrArg List.length e
        rw [List.length_drop, List.length_nil] at this
        omega
      · show (t.l ++ (recT s).take t.left.toNat).length ≤ _
        rw [List.length_append, List.length_take]
        omega
    · rw [if_neg hc]
      have hlf := h.lf
      refine .inl ⟨rfl, .inl ⟨ho', ?_⟩, ?_, ?_, ?_, by rw [List.length_append]; have := h.dk; simp; omega⟩
      · show t.l ++ recT s = _
        rw [recs_snoc, hl]
      · intro x hx
        rcases List.mem_append.1 hx with hx | hx
        · exact h.sm x hx
        · rw [List.mem_singleton.1 hx]; omega
      · show (t.l ++ recT s).length ≤ _
        rw [List.length_append]
        omega
      · show 0 ≤ (if t.cut = true then t.left - ((recT s).length : Int) else t.left)
        split
        · rename_i hcc
          have : ¬ t.left < ((recT s).length : Int) := fun hx => hc ⟨hcc, hx⟩
          omega
        · exact hlf
theorem CutI.read {k : Nat} {dn : List ByteArray} {t : Tp} (h : CutI k dn t) : (readA t.l).1 = dn ∧ recvR t = ⟨recs dn, false, false, 0⟩ := by
  rcases h.st with ⟨_, e⟩ | ⟨_, s, p, q, e1, hq, e⟩
  · have hr := readA_whole h.sm
    rw [← e] at hr
    refine ⟨by rw [hr], ?_⟩
    unfold recvR readN
    rw [hr, e]
    simp
  · have hr := readA_cut h.sm e1 hq
    rw [← e] at hr
    refine ⟨by rw [hr], ?_⟩
    unfold recvR readN
    rw [hr]
    simp only
    have e2 : t.l.length - p.length = (recs dn).length := by rw [e, List.length_append]; omega
    rw [e2, e, List.take_left]
def omB : ByteArray := ⟨#[111, 110, 101, 32, 109, 111, 114, 101]⟩
theorem om_size : omB.size = 8 := rfl
theorem ap_om {dn : List ByteArray} (h : (recs dn).length ≤ 100000) : apR ⟨recs dn, false, false, 0⟩ omB = (none, ⟨recs (dn ++ [omB]), false, false, 0⟩) := by
  have hr := recT_len omB (by rw [om_size]; omega)
  rw [om_size] at hr
  unfold apR
  rw [if_neg (by rw [om_size]; omega), if_neg (by simp only; omega)]
  unfold wrR
  rw [if_neg (by simp), if_neg (by simp), recs_snoc]
  rfl
theorem read_all {ts : List ByteArray} (h : ∀ s ∈ ts, s.size ≤ 20000) : (readA (recs ts)).1 = ts ∧ readN (recs ts) = (recs ts).length := by
  unfold readN
  rw [readA_whole h]
  simp
set_option maxRecDepth 100000 in
set_option maxHeartbeats 4000000 in
theorem tapeCuts_any {a : Nat → Addr} (v : Value) (l : List ByteArray) (n : Int) (w : World) (hL : Lv w.heap.size w) (hS : Sn4 a w.heap.size w) (hv : Texts w v l) (hl : l.length ≤ 9223372036854775807) (hn : n ≤ 9223372036854775807) (hz : ∀ x ∈ l, x.size ≤ 9223372036854775807) :
    Calls Tryd.prog 3 #[v, .int .i64 n] w fun e w' => e = .returned (.bool true) ∧ Below w.heap.size w w' := by
  have HT : Hid _ := taped_any w hL hS
  obtain ⟨ad, cap, rfl, _⟩ := id hv
  have HV : Hid (Texts w (.slice ad l.length cap) l) := hv
  have HL : Hid (Lv w.heap.size w) := hL
  have HS : Hid (Sn4 a w.heap.size w) := hS
  have HZ : Hid (∀ x ∈ l, x.size ≤ 9223372036854775807) := hz
  clear hv hL hS hz
  go_enter Tryd.func3, Tryd.ntmps3
  go_wp2_with fail
  refine Calls.mono HT.out ?_
  rintro e w0 ⟨rfl, hb0⟩
  have HB0 : Hid (Below w.heap.size w w0) := hb0
  clear hb0 HT
  by_cases h30 : 30 < l.length
  · have h30' : (30 : Int) < (l.length : Int) := by omega
    go_wp2_with fail
    go_ret
    exact ⟨rfl, HB0.out⟩
  have h30' : (l.length : Int) ≤ 30 := by omega
  by_cases hn0 : n < 0
  · go_wp2_with fail
    go_ret
    exact ⟨rfl, HB0.out⟩
  have hn0' : 0 ≤ n := by omega
  have HN : Hid _ := t_new (w0 := w0) (a := a) ⟨#[]⟩ (by decide) ((HL.out.below HB0.out).up HB0.out.size) ((HS.out.below HB0.out).up HB0.out.size)
  have HV0 : Hid (Texts w0 (.slice ad l.length cap) l) := HV.out.below HB0.out
  clear hn0 h30 HL HS HV
  go_wp2_with fail
  refine Calls.mono HN.out ?_
  rintro e w1 ⟨rfl, h1⟩
  obtain ⟨d, hd⟩ : ∃ d, d = w0.heap.size + 1 := ⟨_, rfl⟩
  rw [← hd] at h1 ⊢
  have HC : Hid (Calls Tryd.prog 8 #[.pointer (some ⟨d, 0, none⟩), .int .i64 n] w1 fun e W' => e = .returned .nilIface ∧ Tin w0 a w0.heap.size d ⟨[], false, true, n⟩ W') := (t_cut h1 n hn).mono fun e W' ⟨he, hp⟩ => by
    have e1 : cutR ⟨(ByteArray.mk #[]).data.toList, false, false, 0⟩ n = (none, ⟨[], false, true, n⟩) := by unfold cutR; rw [if_neg (by omega), if_neg (by decide)]
    rw [e1] at he hp
    exact ⟨he, hp.1⟩
  clear HN h1 hd
  go_wp2_with fail
  refine Calls.mono HC.out ?_
  rintro e w2 ⟨rfl, h2⟩
  have HI2 : Hid (Tin w0 a w0.heap.size d ⟨[], false, true, n⟩ w2) := h2
  clear HC h2
  go_wp2_with fail
  go_loopw [8, 9] (fun o i wr => ∃ (k : Nat) (dn : List ByteArray) (t : Tp) (va : Option Addr) (vc : Nat), k ≤ l.length ∧ i = .int .i64 k ∧ o = .slice va dn.length vc ∧ Hid (CutI k dn t) ∧ Hid (Tin w0 a w0.heap.size d t wr) ∧ Hid (OwnS wr w0.heap.size (.slice va dn.length vc) dn)) (fun _ i _ => l.length - (intOf i).toNat)
  case atStart => exact ⟨0, [], ⟨[], false, true, n⟩, none, 0, Nat.zero_le _, rfl, rfl, CutI.start hn0', HI2.out, OwnS.nil _ _⟩
  case round =>
    obtain ⟨k, dn, t, va, vc, hk, rfl, rfl, HI, HT, HO⟩ := hrel
    have hdk := HI.out.dk
    have hk0 : (0 : Int) ≤ (k : Int) := by omega
    by_cases hlt : k < l.length
    · have hlt' : (k : Int) < (l.length : Int) := by omega
      obtain ⟨x, hx⟩ : ∃ x, l[k]? = some x := ⟨l[k], List.getElem?_eq_getElem hlt⟩
      obtain ⟨b, off, rfl, HCX⟩ : ∃ b off, ad = some ⟨b, off, none⟩ ∧ Hid (∀ W t', Tin w0 a w0.heap.size d t' W → W.cell? ⟨b, off + k, none⟩ = some (.string x)) := by
        obtain ⟨ad', c', e, hc⟩ := HV0.out
        simp only [Value.slice.injEq] at e
        obtain ⟨rfl, _, rfl⟩ := e
        obtain ⟨b, off, rfl, hcell⟩ := hc k x hx
        refine ⟨b, off, rfl, fun W t' hW => ?_⟩
        rw [hW.fr.cell (p := ⟨b, off + k, none⟩) (World.block_lt_of_cell? w0 _ hcell)]
        exact hcell
      have hxs := HZ.out x (List.mem_of_getElem? hx)
      have c1 := HCX.out wr t HT.out
      clear hx
      by_cases h200 : 200 < x.size
      · have h200' : (200 : Int) < (x.size : Int) := by omega
        have HF : Hid (Below w0.heap.size w0 wr) := HT.out.fr
        go_wp2_with fail
        go_ret
        exact ⟨rfl, HB0.out.trans (HF.out.mono HB0.out.size)⟩
      have h200' : (x.size : Int) ≤ 200 := by omega
      have HAP : Hid _ := t_append HT.out x hxs (by have := HI.out.ln; omega)
      rcases HI.out.next (by omega) (s := x) (by omega) with ⟨he, hi2⟩ | ⟨⟨m, he⟩, hi2⟩
      · rw [he] at HAP
        have HI2 : Hid (CutI (k + 1) (dn ++ [x]) (apR t x).2) := hi2
        clear he hi2
        go_wp2_with fail
        refine Calls.mono HAP.out ?_
        rintro e w3 ⟨rfl, hp⟩
        have HT3 : Hid (Tin w0 a w0.heap.size d (apR t x).2 w3) := hp.1
        have HO3 : Hid (OwnS w3 w0.heap.size (.slice va dn.length vc) dn) := hp.2 _ _ _ HO.out
        have c3 := HCX.out w3 _ HT3.out
        have HS3 : Hid (w0.heap.size ≤ w3.heap.size) := HT3.out.fr.size
        have hlx : dn.length + 1 ≤ 100000 := by omega
        have HKP : Hid (∀ w4, w3.grownBy w4 (Value.slice va dn.length vc).ownBlock → Tin w0 a w0.heap.size d (apR t x).2 w4) := fun w4 hg => HT3.out.grown HO3.out (Nat.le_refl _) hg
        clear hp HAP HT HO
        unfold errV
        go_wp2_with (at_builtin; go_must (refine wpList_app1 w3 (by rfl) _ _ (by rfl) w0.heap.size (.slice va dn.length vc) dn x (by rfl) (by rfl) HO3.out hlx HS3.out ?_; intro va2 vc2 w4 h4 g4; (have H4 : Hid (OwnS w4 w0.heap.size (.slice va2 (dn.length + 1) vc2) (dn ++ [x])) := h4); (have G4 : Hid (Tin w0 a w0.heap.size d (apR t x).2 w4) := HKP.out w4 g4); clear h4 g4))
        go_roundw
        case rel => exact ⟨k + 1, dn ++ [x], (apR t x).2, va2, vc2, by omega, by go_num, by rw [List.length_append]; rfl, HI2, G4, by show OwnS _ _ _ _; rw [List.length_append]; exact H4.out⟩
        case measure => simp [intOf]; omega
      · rw [he] at HAP
        have HI2 : Hid (CutI (k + 1) dn (apR t x).2) := hi2
        clear he hi2
        go_wp2_with fail
        refine Calls.mono HAP.out ?_
        rintro e w3 ⟨rfl, hp⟩
        have HT3 : Hid (Tin w0 a w0.heap.size d (apR t x).2 w3) := hp.1
        have HO3 : Hid (OwnS w3 w0.heap.size (.slice va dn.length vc) dn) := hp.2 _ _ _ HO.out
        clear hp HAP HT HO
        unfold errV
        go_wp2_with fail
        go_roundw
        case rel => exact ⟨k + 1, dn, (apR t x).2, va, vc, by omega, by go_num, rfl, HI2, HT3, HO3⟩
        case measure => simp [intOf]; omega
    · have hlt' : ¬ (k : Int) < (l.length : Int) := by omega
      obtain ⟨hra, hrv⟩ := HI.out.read
      have HSM : Hid (∀ y ∈ dn, y.size ≤ 20000) := HI.out.sm
      have hrl := recs_len dn 200
      have HRC : Hid (Calls Tryd.prog 10 #[.pointer (some ⟨d, 0, none⟩)] wr fun e W' => ∃ va2 vc2, e = .returned (.tuple #[.slice va2 dn.length vc2, .nilIface]) ∧ Texts W' (.slice va2 dn.length vc2) dn ∧ Texts W' (.slice va dn.length vc) dn ∧ Tin w0 a w0.heap.size d ⟨recs dn, false, false, 0⟩ W') := (t_recover HT.out (by have := HI.out.ln; omega)).mono fun e W' ⟨va2, vc2, he, ho, hp⟩ => by
        unfold RdP at ho
        rw [hra] at he ho
        rw [hrv] at hp
        exact ⟨va2, vc2, he, ho.texts, (hp.2 _ _ _ HO.out).texts, hp.1⟩
      have hll : (recs dn).length ≤ 100000 := by
        have hln := HI.out.ln
        rcases HI.out.st with ⟨_, e⟩ | ⟨_, s, p, q, _, _, e⟩
        · rw [← e]; omega
        · rw [e, List.length_append] at hln; omega
      clear hrl hra hrv HI HO HT
      go_wp2_with fail
      refine Calls.mono HRC.out ?_
      rintro e w3 ⟨va2, vc2, rfl, ht1, ht2, ht3⟩
      have HST : Hid _ := sameTexts_any (.slice va2 dn.length vc2) (.slice va dn.length vc) dn dn w3 ht1 ht2 (by omega)
      rw [textsEq_refl2] at HST
      have HT3 : Hid (Tin w0 a w0.heap.size d ⟨recs dn, false, false, 0⟩ w3) := ht3
      clear ht1 ht2 ht3 HRC
      go_wp2_with fail
      refine Calls.mono HST.out ?_
      rintro e w4 ⟨rfl, hb4⟩
      have HT4 : Hid (Tin w0 a w0.heap.size d ⟨recs dn, false, false, 0⟩ w4) := HT3.out.below hb4
      have HPW : Hid _ := t_power HT4.out
      clear HST hb4 HT3
      simp only [Bool.not_false] at HPW
      go_wp2_with fail
      refine Calls.mono HPW.out ?_
      rintro e w5 ⟨rfl, rfl⟩
      have HAP : Hid (Calls Tryd.prog 9 #[.pointer (some ⟨d, 0, none⟩), .string ⟨#[111, 110, 101, 32, 109, 111, 114, 101]⟩] w5 fun e W' => e = .returned .nilIface ∧ Tin w0 a w0.heap.size d ⟨recs (dn ++ [omB]), false, false, 0⟩ W') := (t_append HT4.out omB (by rw [om_size]; omega) (by simp only; omega)).mono fun e W' ⟨he, hp⟩ => by
        rw [ap_om hll] at he hp
        exact ⟨he, hp.1⟩
      clear HPW
      go_wp2_with fail
      refine Calls.mono HAP.out ?_
      rintro e w6 ⟨rfl, h6⟩
      have hra2 := read_all (ts := dn ++ [omB]) (fun y hy => by
        rcases List.mem_append.1 hy with hy | hy
        · exact HSM.out y hy
        · rw [List.mem_singleton.1 hy, om_size]; omega)
      have hlen2 : (recs (dn ++ [omB])).length ≤ 200000 := by
        have hr := recT_len omB (by rw [om_size]; omega)
        rw [om_size] at hr
        rw [recs_snoc, List.length_append]
        omega
      have HBY : Hid (Calls Tryd.prog 14 #[.pointer (some ⟨d, 0, none⟩)] w6 fun e W' => e = .returned (.string (bs (recs (dn ++ [omB])))) ∧ W' = w6) := t_bytes h6
      have HT6 : Hid (Tin w0 a w0.heap.size d ⟨recs (dn ++ [omB]), false, false, 0⟩ w6) := h6
      obtain ⟨Y, HY⟩ : ∃ Y : ByteArray, Hid (bs (recs (dn ++ [omB])) = Y) := ⟨_, rfl⟩
      have hYs : Y.size = (recs (dn ++ [omB])).length := by rw [← HY.out, bs_size]
      rw [HY.out] at HBY
      have HRD : Hid (Calls Tryd.prog 13 #[.string Y] w6 fun e W' => ∃ b3 vc3, e = .returned (.tuple #[.slice (some ⟨b3, 0, none⟩) (dn.length + 1) vc3, .int .i64 (Y.size : Int)]) ∧ W'.cell? ⟨b3, dn.length, none⟩ = some (.string omB) ∧ Tin w0 a w0.heap.size d ⟨recs (dn ++ [omB]), false, false, 0⟩ W') := (t_read h6 Y (by omega)).mono fun e W' ⟨va3, vc3, he, ho, hp⟩ => by
        unfold RdP at ho
        have e1 : Y.data.toList = recs (dn ++ [omB]) := by rw [← HY.out, bs_list]
        rw [e1, hra2.1] at ho
        rw [e1, hra2.1, hra2.2] at he
        rw [List.length_append] at he ho
        obtain ⟨ad3, c3, e3, hc⟩ := ho.texts
        simp only [Value.slice.injEq] at e3
        obtain ⟨rfl, _, rfl⟩ := e3
        obtain ⟨b3, off3, rfl, hcell⟩ := hc dn.length omB (by rw [List.getElem?_append_right (Nat.le_refl _)]; simp)
        rcases ho.2 with ⟨h, _⟩ | ⟨g, cp, cur, h, _⟩
        · cases h
        · simp only [Value.slice.injEq, Option.some.injEq, Addr.mk.injEq, and_true] at h
          obtain ⟨⟨rfl, rfl⟩, _, rfl⟩ := h
          exact ⟨b3, vc3, by rw [he, hYs]; rfl, by rw [Nat.zero_add] at hcell; exact hcell, hp.1⟩
      clear HAP h6 hra2 hlen2 HY HT4
      go_wp2_with fail
      refine Calls.mono HBY.out ?_
      rintro e w7 ⟨rfl, rfl⟩
      clear HBY
      go_wp2_with fail
      refine Calls.mono HRD.out ?_
      rintro e w8 ⟨b3, vc3, rfl, hcell, h8⟩
      have HBY : Hid (Calls Tryd.prog 14 #[.pointer (some ⟨d, 0, none⟩)] w8 fun e W' => e = .returned (.string (bs (recs (dn ++ [omB])))) ∧ W' = w8) := t_bytes h8
      obtain ⟨Z, HZ⟩ : ∃ Z : ByteArray, Hid (bs (recs (dn ++ [omB])) = Z) := ⟨_, rfl⟩
      have hZs : Z.size = Y.size := by rw [← HZ.out, bs_size, hYs]
      rw [HZ.out] at HBY
      have HF : Hid (Below w0.heap.size w0 w8) := h8.fr
      have hcell' : w8.cell? ⟨b3, dn.length, none⟩ = some (.string ⟨#[111, 110, 101, 32, 109, 111, 114, 101]⟩) := hcell
      have hZe : ((Y.size : Int) == (Z.size : Int)) = true := by rw [hZs]; simp
      have hZs' : (Z.size : Int) = (Y.size : Int) := by rw [hZs]
      clear HRD hcell h8 hYs HT6 HZ hZs
      go_wp2_with fail
      refine Calls.mono HBY.out ?_
      rintro e w9 ⟨rfl, rfl⟩
      clear HBY
      go_wp2_with fail
      go_ret
      exact ⟨by first | rfl | simp, HB0.out.trans (HF.out.mono HB0.out.size)⟩
end Go.Proofs.YthelggcaggobaaaDoor
