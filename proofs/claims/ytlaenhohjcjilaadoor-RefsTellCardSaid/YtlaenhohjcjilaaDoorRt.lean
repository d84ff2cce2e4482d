/-
  The law 'RefsTell' returns true.
  Conditions: the sentinels hold what the program's text lays; the packs and the names lie in memory.
-/
import Derived.Test.YtlaenhohjcjilaaDoorRo
namespace Go.Proofs.YtlaenhohjcjilaaDoor
open Go.RowKit Go.Maps
attribute [local go_sem ↓] Go.wp_at_zero Go.wp_at_succ

/-- What the program's functions answer, in one form. -/
def RefU (a : Nat → Addr) (o : Option (Option Nat × Nat)) (w : World) (P : List ByteArray → Prop) (e : Ending) (w' : World) : Prop := Below w.heap.size w w' ∧ ∃ r va vc ev, e = .returned (.tuple #[.slice va r.length vc, ev]) ∧ FltV a w' o ev ∧ Texts w' (.slice va r.length vc) r ∧ (o ≠ none → r = []) ∧ (o = none → P r)
theorem refU_of {a : Nat → Addr} {o : Option (Option Nat × Nat)} {w w' : World} {P : List ByteArray → Prop} {e : Ending} (h : RefPost a o w P e w') : RefU a o w P e w' := by
  obtain ⟨hb, ⟨f, ev, rfl, rfl, hf⟩ | ⟨rfl, r, va, vc, rfl, hP, hO⟩⟩ := h
  · exact ⟨hb, [], none, 0, ev, rfl, hf, texts_none _ _ _, fun _ => rfl, fun h => by cases h⟩
  · exact ⟨hb, r, va, vc, .nilIface, rfl, rfl, hO.texts, fun h => absurd rfl h, fun _ => hP⟩
/-- A fault's box is set: texts and errors stay. -/
theorem texts_set {w : World} {v : Value} {l : List ByteArray} {k : Nat} {p q : Int} (h : Texts w v l) (hq : w.heap[k]? = some (.cells #[.int .i64 p, .int .i64 q] 33 (0, 0))) (x y : Value) : Texts ((w.setCell ⟨k, 0, none⟩ x).setCell ⟨k, 1, none⟩ y) v l := by
  obtain ⟨ad, cap, e, hc⟩ := h
  refine ⟨ad, cap, e, fun i s hs => ?_⟩
  obtain ⟨b, off, e1, c⟩ := hc i s hs
  refine ⟨b, off, e1, ?_⟩
  have hne : b ≠ k := fun e2 => by
    subst e2
    rw [cell_of_row _ _ _ _ _ _ hq] at c
    rcases Nat.lt_or_ge (off + i) 2 with h | h
    · have h3 : off + i = 0 ∨ off + i = 1 := by omega
      rcases h3 with h3 | h3 <;> rw [h3] at c <;> cases c
    · rw [Array.getElem?_eq_none (by simpa using h)] at c; cases c
  rw [World.cell?_of_block (a := ⟨b, off + i, none⟩) ((Below.heap_setCell _ _ _ _ hne).trans (Below.heap_setCell _ _ _ _ hne))]
  exact c
theorem flt_set {a : Nat → Addr} {w : World} {o : Option (Option Nat × Nat)} {v : Value} {k : Nat} {p q : Int} (h : FltV a w o v) (hq : w.heap[k]? = some (.cells #[.int .i64 p, .int .i64 q] 33 (0, 0))) (x y : Value) : FltV a ((w.setCell ⟨k, 0, none⟩ x).setCell ⟨k, 1, none⟩ y) o v := by
  rcases o with _ | ⟨_ | i, e⟩
  · exact h
  · exact h
  · obtain ⟨pb, e1, h0, h1⟩ := h
    have hne : pb ≠ k := fun e2 => by
      subst e2
      rw [cell_of_row _ _ _ _ _ _ hq] at h1
      cases h1
    have hk := (Below.heap_setCell (w.setCell ⟨k, 0, none⟩ x) ⟨k, 1, none⟩ y pb hne).trans (Below.heap_setCell w ⟨k, 0, none⟩ x pb hne)
    exact ⟨pb, e1, (World.cell?_of_block (a := ⟨pb, 0, none⟩) hk).trans h0, (World.cell?_of_block (a := ⟨pb, 1, none⟩) hk).trans h1⟩
theorem same_of {o : Option (Option Nat × Nat)} {r1 r2 : List ByteArray} (h1 : o ≠ none → r1 = []) (h2 : o ≠ none → r2 = []) (h : o = none → r1 = r2) : textsEq r1 r2 = true := by
  have e : r1 = r2 := by
    cases o with
    | none => exact h rfl
    | some f => rw [h1 (by simp), h2 (by simp)]
  rw [e]; exact textsEq_refl _
theorem cl_same {l : List Pk} {names r1 r2 : List ByteArray} (h1 : IsCl l names r1) (h2 : Rising r2 ∧ ∀ x, x ∈ r2 ↔ x ∈ needR l names) : r1 = r2 := rising_ext h1.rise h2.1 fun x => by rw [h1.mem, h2.2]
theorem us_same {l : List Pk} {name : ByteArray} {r1 r2 : List ByteArray} (hk : knw l [name] = none) (h1 : r1.Perm (lf l (usesB name)) ∧ r1.Pairwise fun a b => bl b a = false) (h2 : Rising r2 ∧ ∀ x, x ∈ r2 ↔ x ∈ lf l (usesB name)) : r1 = r2 := by
  obtain ⟨W, _⟩ := knw_none hk
  exact rising_ext (rising_of_sorted h1.2 (h1.1.nodup_iff.2 (lf_nodup W.ord.nodup _))) h2.1 fun x => by rw [h1.1.mem_iff, h2.2]
theorem dd_same {r1 r2 L : List ByteArray} (h1 : r1 = L) (h2 : r2 = L) : r1 = r2 := h1.trans h2.symm
theorem below_set2 {B : Nat} {w W : World} (h : Below B w W) {k : Nat} (hk : B ≤ k) (x y : Value) : Below B w ((W.setCell ⟨k, 0, none⟩ x).setCell ⟨k, 1, none⟩ y) := (h.setCell (p := ⟨k, 0, none⟩) hk x).setCell (p := ⟨k, 1, none⟩) hk y
theorem row_set2 {w : World} {k : Nat} {p q : Int} (hq : w.heap[k]? = some (.cells #[.int .i64 p, .int .i64 q] 33 (0, 0))) (x y : Value) : ((w.setCell ⟨k, 0, none⟩ x).setCell ⟨k, 1, none⟩ y).heap[k]? = some (.cells #[x, y] 33 (0, 0)) := by
  simp [World.setCell, Array.getElem?_modify, hq]

set_option maxRecDepth 100000 in
set_option maxHeartbeats 8000000 in
theorem refsTell_any (a : Nat → Addr) (v nv : Value) (name : ByteArray) (l : List Pk) (names : List ByteArray) (w : World) (T : Sents a w) (hv : PkArg w v l) (hn : Texts w nv names) (hnl : names.length ≤ 9223372036854775807) (hz : ∀ x ∈ names, x.size ≤ 9223372036854775807) (hnm : name.size ≤ maxLen) :
    Calls Tryd.prog 3 #[v, nv, .string name] w fun e w' => e = .returned (.bool true) ∧ Below w.heap.size w w' := by
  unfold maxLen at hnm
  have HNE : Hid _ := needed_any a w T
  have HT : Hid (∀ W, Below w.heap.size w W → Sents a W) := fun W hb => T.below hb
  have HV : Hid (∀ W, Below w.heap.size w W → PkArg W v l) := fun W hb => hv.below hb
  obtain ⟨ad, cap, rfl⟩ := hv.form
  obtain ⟨na, nc, rfl, _⟩ := id hn
  have HN : Hid (∀ W, Below w.heap.size w W → Texts W (.slice na names.length nc) names) := fun W hb => hn.below hb
  have HZ : Hid (∀ x ∈ names, x.size ≤ 9223372036854775807) := hz
  have HNL : Hid (names.length ≤ 9223372036854775807) := hnl
  clear T hv hn hz hnl
  go_enter Tryd.func3, Tryd.ntmps3
  go_wp2_with fail
  refine Calls.mono HNE.out ?_
  clear HNE
  rintro e w1 ⟨rfl, hb1⟩
  have HB1 : Hid (Below w.heap.size w w1) := hb1
  clear hb1
  go_wp2_with fail
  refine Calls.mono (longP_any _ (HV.out w1 HB1.out)) ?_
  rintro e w2 ⟨⟨b, rfl, hs⟩, rfl⟩
  have HS : Hid (b = false → l.length ≤ 45 ∧ SmP l l.length) := hs
  clear hs
  cases b with
  | true =>
    go_wp2_with fail
    go_ret
    exact ⟨rfl, HB1.out⟩
  | false =>
  go_wp2_with fail
  refine Calls.mono (longTexts_any (.slice na names.length nc) names 30 w2 (HN.out w2 HB1.out) HNL.out HZ.out) ?_
  rintro e w3 ⟨⟨b, rfl, hs⟩, rfl⟩
  have HS2 : Hid (b = false → names.length ≤ 20 ∧ ∀ x ∈ names, x.size ≤ 30) := hs
  clear hs
  cases b with
  | true =>
    go_wp2_with fail
    go_ret
    exact ⟨rfl, HB1.out⟩
  | false =>
  by_cases h30 : 30 < name.size
  · have h30' : (30 : Int) < (name.size : Int) := by omega
    go_wp2_with fail
    go_ret
    exact ⟨rfl, HB1.out⟩
  have h30' : (name.size : Int) ≤ 30 := by omega
  have HSM : Hid (SmP l l.length) := (HS.out (by simp)).2
  have hl45 : l.length ≤ 45 := (HS.out (by simp)).1
  have hn20 : names.length ≤ 20 := (HS2.out (by simp)).1
  have HNS : Hid (∀ x ∈ names, x.size ≤ 1000) := fun x hx => by have := (HS2.out (by simp)).2 x hx; omega
  have hnm2 : name.size ≤ 1000 := by omega
  have HVS : Hid (∀ W, Below w.heap.size w W → PksIn W (.slice ad l.length cap) l) := fun W hb => (HV.out W hb).small HSM.out
  clear HS HS2 HZ HNL h30 hnm
  have HOP : Hid _ := ownPacks_any _ l w3 (HVS.out w3 HB1.out) (by omega)
  go_wp2_with fail
  refine Calls.mono HOP.out ?_
  clear HOP h30'
  rintro e w4 ⟨⟨pa, pc, rfl, hp4⟩, hb4⟩
  have HB4 : Hid (Below w.heap.size w w4) := HB1.out.trans (hb4.mono HB1.out.size)
  have HP : Hid (∀ W, Below w4.heap.size w4 W → PksIn W (.slice pa l.length pc) l) := fun W hb => hp4.below hb
  have HCH : Hid _ := check_any a (.slice pa l.length pc) l w4 (HT.out w4 HB4.out) hp4 (by omega)
  clear hp4 hb4
  go_wp2_with fail
  refine Calls.mono HCH.out ?_
  clear HCH
  rintro e w5 ⟨ev, rfl, hf, hb5⟩
  have HF5 : Hid (FltV a w5 (chk l) ev) := hf
  have HB45 : Hid (Below w4.heap.size w4 w5) := hb5
  have HB5 : Hid (Below w.heap.size w w5) := HB4.out.trans (HB45.out.mono HB4.out.size)
  have HPF : Hid _ := packsFault_any (.slice ad l.length cap) l w5 (HVS.out w5 HB5.out) (by omega)
  clear hf hb5
  go_wp2_with fail
  refine Calls.mono HPF.out ?_
  clear HPF
  rintro e w6 ⟨rfl, hb6⟩
  have HB6 : Hid (Below w.heap.size w w6) := HB5.out.trans (hb6.mono HB5.out.size)
  have HB46 : Hid (Below w4.heap.size w4 w6) := HB45.out.trans (hb6.mono HB45.out.size)
  have HFA : Hid _ := faulted_flt a (chk l) ev w6 (HT.out w6 HB6.out) (HF5.out.below hb6) chk_lts
  clear hb6
  generalize flC (chk l) = fc at HFA ⊢
  generalize flA (chk l) = fa at HFA ⊢
  go_wp2_with fail
  refine Calls.mono HFA.out ?_
  clear HFA
  rintro e w7 ⟨rfl, hb7⟩
  have HB7 : Hid (Below w.heap.size w w7) := HB6.out.trans (hb7.mono HB6.out.size)
  have HB47 : Hid (Below w4.heap.size w4 w7) := HB46.out.trans (hb7.mono HB46.out.size)
  have HTX : Hid (Texts w7 (.slice na names.length nc) names) := HN.out w7 HB7.out
  clear hb7
  go_upto_region 9 with (at_builtin; go_must (refine wpList_appS _ (by rfl) _ _ (by rfl) w7.heap.size (.slice none 0 0) (.slice na names.length nc) [] names (by rfl) (by rfl) (OwnS.nil _ _) HTX.out (by simp; omega) (Nat.le_refl _) ?_; intro oa oc w8 h8 g8; (have H8 : Hid (OwnS w8 w7.heap.size (.slice oa names.length oc) names) := by (rw [List.length_nil, Nat.zero_add, List.nil_append] at h8; exact h8)); (have G8 : Hid (Below w7.heap.size w7 w8) := (Below.refl _ w7).grown g8 (Nat.le_refl _) (fun k e => by cases e)); clear h8 g8; rw [List.length_nil, Nat.zero_add]))
  have HB8 : Hid (Below w.heap.size w w8) := HB7.out.trans (G8.out.mono HB7.out.size)
  have HB48 : Hid (Below w4.heap.size w4 w8) := HB47.out.trans (G8.out.mono HB47.out.size)
  have HO : Hid (∀ W, Below w8.heap.size w8 W → Texts W (.slice oa names.length oc) names) := fun W hb => H8.out.texts.below hb
  have hw4 := HB4.out.size
  have hw8 := HB48.out.size
  have H88 : Hid (Below w8.heap.size w8 w8) := Below.refl _ _
  clear HTX HF5
  have HBw8 : Hid (Below w.heap.size w w8) := HB8.out
  have HB4w8 : Hid (Below w4.heap.size w4 w8) := HB48.out
  have HB8w8 : Hid (Below w8.heap.size w8 w8) := H88.out
  have HPR1 : Hid (Calls Tryd.prog 13 #[(.slice pa l.length pc), (.slice oa names.length oc)] w8 (RefU a (knw l names) w8 (IsCl l names))) := Calls.mono (closure_any a (.slice pa l.length pc) (.slice oa names.length oc) l names w8 (HT.out _ HBw8.out) (HP.out _ HB4w8.out) (by omega) (HO.out _ HB8w8.out) HNS.out (by omega)) fun _ _ h => refU_of h
  go_wp2_with fail
  refine Calls.mono HPR1.out ?_
  clear HPR1
  rintro e w1a ⟨hbA, r1, ra1, rc1, ev1, rfl, hfA, htA, hnA, hPA⟩
  have HBw1a : Hid (Below w.heap.size w w1a) := HBw8.out.trans (hbA.mono HBw8.out.size)
  have HB4w1a : Hid (Below w4.heap.size w4 w1a) := HB4w8.out.trans (hbA.mono HB4w8.out.size)
  have HB8w1a : Hid (Below w8.heap.size w8 w1a) := HB8w8.out.trans (hbA.mono HB8w8.out.size)
  have HFA1 : Hid (FltV a w1a (knw l names) ev1) := hfA
  have HTA1 : Hid (Texts w1a (.slice ra1 r1.length rc1) r1) := htA
  have HNA1 : Hid (knw l names ≠ none → r1 = []) := hnA
  have HPA1 : Hid (knw l names = none → (IsCl l names) r1) := hPA
  have HDO1 : Hid _ := closureOf_any (.slice ad l.length cap) (.slice na names.length nc) l names w1a (HVS.out _ HBw1a.out) hl45 (HN.out _ HBw1a.out) hn20
  clear hbA hfA htA hnA hPA
  go_wp2_with fail
  refine Calls.mono HDO1.out ?_
  clear HDO1
  rintro e w1b ⟨hbB, s1, sa1, sc1, rfl, htB, hsl, hnB, hPB⟩
  have HBw1b : Hid (Below w.heap.size w w1b) := HBw1a.out.trans (hbB.mono HBw1a.out.size)
  have HB4w1b : Hid (Below w4.heap.size w4 w1b) := HB4w1a.out.trans (hbB.mono HB4w1a.out.size)
  have HB8w1b : Hid (Below w8.heap.size w8 w1b) := HB8w1a.out.trans (hbB.mono HB8w1a.out.size)
  have HTB1 : Hid (Texts w1b (.slice sa1 s1.length sc1) s1) := htB.1
  have HTA21 : Hid (Texts w1b (.slice ra1 r1.length rc1) r1) := HTA1.out.below hbB
  have HFA21 : Hid (FltV a w1b (knw l names) ev1) := HFA1.out.below hbB
  have HSA1 : Hid (textsEq r1 s1 = true) := same_of HNA1.out hnB (fun h => cl_same (HPA1.out h) (hPB h))
  have hrl1 : r1.length ≤ 1000000000 := by have := HSA1.out; unfold textsEq at this; rw [Bool.and_eq_true] at this; have h := of_decide_eq_true this.1; omega
  have HLT1 : Hid (∀ x e, knw l names = some (x, e) → e < 13) := knw_lts
  obtain ⟨c1, HC1⟩ : ∃ c, Hid (c = flC (knw l names)) := ⟨_, (rfl : flC (knw l names) = _)⟩
  obtain ⟨d1, HD1⟩ : ∃ d, Hid (d = flA (knw l names)) := ⟨_, (rfl : flA (knw l names) = _)⟩
  rw [← HC1.out, ← HD1.out]
  clear hbB htB hnB hPB HNA1 HPA1 hsl HTA1 HFA1
  obtain ⟨w1c, hC⟩ : ∃ C, C = w1b.alloc (.cells #[.int .i64 c1, .int .i64 d1] 33) := ⟨_, rfl⟩
  have hbC : Below w1b.heap.size w1b w1c := by rw [hC]; exact (Below.refl _ _).alloc (Nat.le_refl _) _
  have HBw1c : Hid (Below w.heap.size w w1c) := HBw1b.out.trans (hbC.mono HBw1b.out.size)
  have HB4w1c : Hid (Below w4.heap.size w4 w1c) := HB4w1b.out.trans (hbC.mono HB4w1b.out.size)
  have HB8w1c : Hid (Below w8.heap.size w8 w1c) := HB8w1b.out.trans (hbC.mono HB8w1b.out.size)
  have HTBC1 : Hid (Texts w1c (.slice sa1 s1.length sc1) s1) := HTB1.out.below hbC
  have HTAC1 : Hid (Texts w1c (.slice ra1 r1.length rc1) r1) := HTA21.out.below hbC
  have HFC1 : Hid (FltV a w1c (knw l names) ev1) := HFA21.out.below hbC
  obtain ⟨fb, HFB⟩ : ∃ fb, Hid (fb = w1b.heap.size) := ⟨_, (rfl : w1b.heap.size = _)⟩
  have hf8 : w8.heap.size ≤ fb := by rw [HFB.out]; exact HB8w1b.out.size
  have hboxC : w1c.heap[fb]? = some (.cells #[.int .i64 c1, .int .i64 d1] 33 (0, 0)) := by rw [hC, HFB.out]; exact heap_alloc_last _ _
  have HWC : Hid (w1c = w1b.alloc (.cells #[.int .i64 c1, .int .i64 d1] 33)) := hC
  clear hC hbC
  obtain ⟨⟨z0, z1⟩, _⟩ := row2 hboxC
  have HBC1 : Hid (w1c.heap[fb]? = some (.cells #[.int .i64 c1, .int .i64 d1] 33 (0, 0))) := hboxC
  have HFU1 : Hid _ := faulted_flt a (knw l names) ev1 w1c (HT.out _ HBw1c.out) HFC1.out HLT1.out
  rw [← HC1.out, ← HD1.out] at HFU1
  clear hboxC
  go_upto_region 11 with fail
  rw [← HWC.out, ← HFB.out]
  go_wp2_with fail
  refine Calls.mono HFU1.out ?_
  clear HFU1
  rintro e w1d ⟨rfl, hbE⟩
  have HBw1d : Hid (Below w.heap.size w w1d) := HBw1c.out.trans (hbE.mono HBw1c.out.size)
  have HB4w1d : Hid (Below w4.heap.size w4 w1d) := HB4w1c.out.trans (hbE.mono HB4w1c.out.size)
  have HB8w1d : Hid (Below w8.heap.size w8 w1d) := HB8w1c.out.trans (hbE.mono HB8w1c.out.size)
  have HST1 : Hid _ := sameTexts_any (.slice ra1 r1.length rc1) (.slice sa1 s1.length sc1) r1 s1 w1d (HTAC1.out.below hbE) (HTBC1.out.below hbE) hrl1
  rw [HSA1.out] at HST1
  have hboxE := (hbE.block fb (lt_of_row HBC1.out)).trans HBC1.out
  have HBE1 : Hid (w1d.heap[fb]? = some (.cells #[.int .i64 c1, .int .i64 d1] 33 (0, 0))) := hboxE
  clear hbE hboxE z0 z1
  go_wp2_with fail
  refine Calls.mono HST1.out ?_
  clear HST1
  rintro e w1e ⟨rfl, hbF⟩
  have HBw1e : Hid (Below w.heap.size w w1e) := HBw1d.out.trans (hbF.mono HBw1d.out.size)
  have HB4w1e : Hid (Below w4.heap.size w4 w1e) := HB4w1d.out.trans (hbF.mono HB4w1d.out.size)
  have HB8w1e : Hid (Below w8.heap.size w8 w1e) := HB8w1d.out.trans (hbF.mono HB8w1d.out.size)
  have HBOX : Hid (w1e.heap[fb]? = some (.cells #[.int .i64 c1, .int .i64 d1] 33 (0, 0))) := (hbF.block fb (lt_of_row HBE1.out)).trans HBE1.out
  obtain ⟨bc, Hbc1⟩ : ∃ b, Hid (b = c1) := ⟨_, (rfl : c1 = _)⟩
  obtain ⟨ba, Hba1⟩ : ∃ b, Hid (b = d1) := ⟨_, (rfl : d1 = _)⟩
  rw [← Hbc1.out, ← Hba1.out] at HBOX
  clear hbF
  have HPR2 : Hid (Calls Tryd.prog 16 #[(.slice pa l.length pc), .string name] w1e (RefU a (knw l [name]) w1e (fun r => r.Perm (lf l (usesB name)) ∧ r.Pairwise fun a b => bl b a = false))) := Calls.mono (users_any a (.slice pa l.length pc) l w1e name (HT.out _ HBw1e.out) (HP.out _ HB4w1e.out) (by omega) hnm2) fun _ _ h => refU_of h
  go_wp2_with fail
  refine Calls.mono HPR2.out ?_
  clear HPR2
  rintro e w2a ⟨hbA, r2, ra2, rc2, ev2, rfl, hfA, htA, hnA, hPA⟩
  have HBw2a : Hid (Below w.heap.size w w2a) := HBw1e.out.trans (hbA.mono HBw1e.out.size)
  have HB4w2a : Hid (Below w4.heap.size w4 w2a) := HB4w1e.out.trans (hbA.mono HB4w1e.out.size)
  have HB8w2a : Hid (Below w8.heap.size w8 w2a) := HB8w1e.out.trans (hbA.mono HB8w1e.out.size)
  have HFA2 : Hid (FltV a w2a (knw l [name]) ev2) := hfA
  have HTA2 : Hid (Texts w2a (.slice ra2 r2.length rc2) r2) := htA
  have HNA2 : Hid (knw l [name] ≠ none → r2 = []) := hnA
  have HPA2 : Hid (knw l [name] = none → (fun r => r.Perm (lf l (usesB name)) ∧ r.Pairwise fun a b => bl b a = false) r2) := hPA
  have HDO2 : Hid _ := usersOf_any (.slice ad l.length cap) l name w2a (HVS.out _ HBw2a.out) hl45
  have hbox := (hbA.block fb (lt_of_row HBOX.out)).trans HBOX.out
  have HBOXA : Hid (w2a.heap[fb]? = some (.cells #[.int .i64 bc, .int .i64 ba] 33 (0, 0))) := hbox
  clear hbox HBOX
  clear hbA hfA htA hnA hPA
  go_wp2_with fail
  refine Calls.mono HDO2.out ?_
  clear HDO2
  rintro e w2b ⟨hbB, s2, sa2, sc2, rfl, htB, hsl, hnB, hPB⟩
  have HBw2b : Hid (Below w.heap.size w w2b) := HBw2a.out.trans (hbB.mono HBw2a.out.size)
  have HB4w2b : Hid (Below w4.heap.size w4 w2b) := HB4w2a.out.trans (hbB.mono HB4w2a.out.size)
  have HB8w2b : Hid (Below w8.heap.size w8 w2b) := HB8w2a.out.trans (hbB.mono HB8w2a.out.size)
  have HTB2 : Hid (Texts w2b (.slice sa2 s2.length sc2) s2) := htB.1
  have HTA22 : Hid (Texts w2b (.slice ra2 r2.length rc2) r2) := HTA2.out.below hbB
  have HFA22 : Hid (FltV a w2b (knw l [name]) ev2) := HFA2.out.below hbB
  have HSA2 : Hid (textsEq r2 s2 = true) := same_of HNA2.out hnB (fun h => us_same h (HPA2.out h) (hPB h))
  have hrl2 : r2.length ≤ 1000000000 := by have := HSA2.out; unfold textsEq at this; rw [Bool.and_eq_true] at this; have h := of_decide_eq_true this.1; omega
  have HLT2 : Hid (∀ x e, knw l [name] = some (x, e) → e < 13) := knw_lts
  have hbox := (hbB.block fb (lt_of_row HBOXA.out)).trans HBOXA.out
  have HBOXB : Hid (w2b.heap[fb]? = some (.cells #[.int .i64 bc, .int .i64 ba] 33 (0, 0))) := hbox
  clear HBOXA
  obtain ⟨c2, HC2⟩ : ∃ c, Hid (c = flC (knw l [name])) := ⟨_, (rfl : flC (knw l [name]) = _)⟩
  obtain ⟨d2, HD2⟩ : ∃ d, Hid (d = flA (knw l [name])) := ⟨_, (rfl : flA (knw l [name]) = _)⟩
  rw [← HC2.out, ← HD2.out]
  clear hbB htB hnB hPB HNA2 HPA2 hsl HTA2 HFA2
  obtain ⟨⟨y0, y1⟩, g0, g1⟩ := row2 hbox
  obtain ⟨w2c, hC⟩ : ∃ C, C = (w2b.setCell ⟨fb, 0, none⟩ (.int .i64 c2)).setCell ⟨fb, 1, none⟩ (.int .i64 d2) := ⟨_, rfl⟩
  have HBw2c : Hid (Below w.heap.size w w2c) := by rw [hC]; exact below_set2 HBw2b.out (by omega) _ _
  have HB4w2c : Hid (Below w4.heap.size w4 w2c) := by rw [hC]; exact below_set2 HB4w2b.out (by omega) _ _
  have HB8w2c : Hid (Below w8.heap.size w8 w2c) := by rw [hC]; exact below_set2 HB8w2b.out hf8 _ _
  have HTBC2 : Hid (Texts w2c (.slice sa2 s2.length sc2) s2) := by rw [hC]; exact texts_set HTB2.out hbox _ _
  have HTAC2 : Hid (Texts w2c (.slice ra2 r2.length rc2) r2) := by rw [hC]; exact texts_set HTA22.out hbox _ _
  have HFC2 : Hid (FltV a w2c (knw l [name]) ev2) := by rw [hC]; exact flt_set HFA22.out hbox _ _
  have hboxC : w2c.heap[fb]? = some (.cells #[.int .i64 c2, .int .i64 d2] 33 (0, 0)) := by rw [hC]; exact row_set2 hbox _ _
  have HWC : Hid (w2c = (w2b.setCell ⟨fb, 0, none⟩ (.int .i64 c2)).setCell ⟨fb, 1, none⟩ (.int .i64 d2)) := hC
  clear hC hbox HBOXB
  obtain ⟨⟨z0, z1⟩, _⟩ := row2 hboxC
  have HBC2 : Hid (w2c.heap[fb]? = some (.cells #[.int .i64 c2, .int .i64 d2] 33 (0, 0))) := hboxC
  have HFU2 : Hid _ := faulted_flt a (knw l [name]) ev2 w2c (HT.out _ HBw2c.out) HFC2.out HLT2.out
  rw [← HC2.out, ← HD2.out] at HFU2
  clear hboxC
  go_upto_region 15 with fail
  rw [← HWC.out]
  clear y0 y1 g0 g1
  go_wp2_with fail
  refine Calls.mono HFU2.out ?_
  clear HFU2
  rintro e w2d ⟨rfl, hbE⟩
  have HBw2d : Hid (Below w.heap.size w w2d) := HBw2c.out.trans (hbE.mono HBw2c.out.size)
  have HB4w2d : Hid (Below w4.heap.size w4 w2d) := HB4w2c.out.trans (hbE.mono HB4w2c.out.size)
  have HB8w2d : Hid (Below w8.heap.size w8 w2d) := HB8w2c.out.trans (hbE.mono HB8w2c.out.size)
  have HST2 : Hid _ := sameTexts_any (.slice ra2 r2.length rc2) (.slice sa2 s2.length sc2) r2 s2 w2d (HTAC2.out.below hbE) (HTBC2.out.below hbE) hrl2
  rw [HSA2.out] at HST2
  have hboxE := (hbE.block fb (lt_of_row HBC2.out)).trans HBC2.out
  have HBE2 : Hid (w2d.heap[fb]? = some (.cells #[.int .i64 c2, .int .i64 d2] 33 (0, 0))) := hboxE
  clear hbE hboxE z0 z1
  go_wp2_with fail
  refine Calls.mono HST2.out ?_
  clear HST2
  rintro e w2e ⟨rfl, hbF⟩
  have HBw2e : Hid (Below w.heap.size w w2e) := HBw2d.out.trans (hbF.mono HBw2d.out.size)
  have HB4w2e : Hid (Below w4.heap.size w4 w2e) := HB4w2d.out.trans (hbF.mono HB4w2d.out.size)
  have HB8w2e : Hid (Below w8.heap.size w8 w2e) := HB8w2d.out.trans (hbF.mono HB8w2d.out.size)
  have HBOX : Hid (w2e.heap[fb]? = some (.cells #[.int .i64 c2, .int .i64 d2] 33 (0, 0))) := (hbF.block fb (lt_of_row HBE2.out)).trans HBE2.out
  obtain ⟨bc, Hbc2⟩ : ∃ b, Hid (b = c2) := ⟨_, (rfl : c2 = _)⟩
  obtain ⟨ba, Hba2⟩ : ∃ b, Hid (b = d2) := ⟨_, (rfl : d2 = _)⟩
  rw [← Hbc2.out, ← Hba2.out] at HBOX
  clear hbF
  have HPR3 : Hid (Calls Tryd.prog 18 #[(.slice pa l.length pc), (.slice oa names.length oc)] w2e (RefU a (knw l names) w2e (fun r => r = lf l fun p => !inS (needR l names) p))) := Calls.mono (dead_any a (.slice pa l.length pc) (.slice oa names.length oc) l names w2e (HT.out _ HBw2e.out) (HP.out _ HB4w2e.out) (by omega) (HO.out _ HB8w2e.out) HNS.out (by omega)) fun _ _ h => refU_of h
  go_wp2_with fail
  refine Calls.mono HPR3.out ?_
  clear HPR3
  rintro e w3a ⟨hbA, r3, ra3, rc3, ev3, rfl, hfA, htA, hnA, hPA⟩
  have HBw3a : Hid (Below w.heap.size w w3a) := HBw2e.out.trans (hbA.mono HBw2e.out.size)
  have HB4w3a : Hid (Below w4.heap.size w4 w3a) := HB4w2e.out.trans (hbA.mono HB4w2e.out.size)
  have HB8w3a : Hid (Below w8.heap.size w8 w3a) := HB8w2e.out.trans (hbA.mono HB8w2e.out.size)
  have HFA3 : Hid (FltV a w3a (knw l names) ev3) := hfA
  have HTA3 : Hid (Texts w3a (.slice ra3 r3.length rc3) r3) := htA
  have HNA3 : Hid (knw l names ≠ none → r3 = []) := hnA
  have HPA3 : Hid (knw l names = none → (fun r => r = lf l fun p => !inS (needR l names) p) r3) := hPA
  have HDO3 : Hid _ := deadOf_any (.slice ad l.length cap) (.slice na names.length nc) l names w3a (HVS.out _ HBw3a.out) hl45 (HN.out _ HBw3a.out) hn20
  have hbox := (hbA.block fb (lt_of_row HBOX.out)).trans HBOX.out
  have HBOXA : Hid (w3a.heap[fb]? = some (.cells #[.int .i64 bc, .int .i64 ba] 33 (0, 0))) := hbox
  clear hbox HBOX
  clear hbA hfA htA hnA hPA
  go_wp2_with fail
  refine Calls.mono HDO3.out ?_
  clear HDO3
  rintro e w3b ⟨hbB, s3, sa3, sc3, rfl, htB, hsl, hnB, hPB⟩
  have HBw3b : Hid (Below w.heap.size w w3b) := HBw3a.out.trans (hbB.mono HBw3a.out.size)
  have HB4w3b : Hid (Below w4.heap.size w4 w3b) := HB4w3a.out.trans (hbB.mono HB4w3a.out.size)
  have HB8w3b : Hid (Below w8.heap.size w8 w3b) := HB8w3a.out.trans (hbB.mono HB8w3a.out.size)
  have HTB3 : Hid (Texts w3b (.slice sa3 s3.length sc3) s3) := htB.1
  have HTA23 : Hid (Texts w3b (.slice ra3 r3.length rc3) r3) := HTA3.out.below hbB
  have HFA23 : Hid (FltV a w3b (knw l names) ev3) := HFA3.out.below hbB
  have HSA3 : Hid (textsEq r3 s3 = true) := same_of HNA3.out hnB (fun h => dd_same (HPA3.out h) (hPB h))
  have hrl3 : r3.length ≤ 1000000000 := by have := HSA3.out; unfold textsEq at this; rw [Bool.and_eq_true] at this; have h := of_decide_eq_true this.1; omega
  have HLT3 : Hid (∀ x e, knw l names = some (x, e) → e < 13) := knw_lts
  have hbox := (hbB.block fb (lt_of_row HBOXA.out)).trans HBOXA.out
  have HBOXB : Hid (w3b.heap[fb]? = some (.cells #[.int .i64 bc, .int .i64 ba] 33 (0, 0))) := hbox
  clear HBOXA
  obtain ⟨c3, HC3⟩ : ∃ c, Hid (c = flC (knw l names)) := ⟨_, (rfl : flC (knw l names) = _)⟩
  obtain ⟨d3, HD3⟩ : ∃ d, Hid (d = flA (knw l names)) := ⟨_, (rfl : flA (knw l names) = _)⟩
  rw [← HC3.out, ← HD3.out]
  clear hbB htB hnB hPB HNA3 HPA3 hsl HTA3 HFA3
  obtain ⟨⟨y0, y1⟩, g0, g1⟩ := row2 hbox
  obtain ⟨w3c, hC⟩ : ∃ C, C = (w3b.setCell ⟨fb, 0, none⟩ (.int .i64 c3)).setCell ⟨fb, 1, none⟩ (.int .i64 d3) := ⟨_, rfl⟩
  have HBw3c : Hid (Below w.heap.size w w3c) := by rw [hC]; exact below_set2 HBw3b.out (by omega) _ _
  have HB4w3c : Hid (Below w4.heap.size w4 w3c) := by rw [hC]; exact below_set2 HB4w3b.out (by omega) _ _
  have HB8w3c : Hid (Below w8.heap.size w8 w3c) := by rw [hC]; exact below_set2 HB8w3b.out hf8 _ _
  have HTBC3 : Hid (Texts w3c (.slice sa3 s3.length sc3) s3) := by rw [hC]; exact texts_set HTB3.out hbox _ _
  have HTAC3 : Hid (Texts w3c (.slice ra3 r3.length rc3) r3) := by rw [hC]; exact texts_set HTA23.out hbox _ _
  have HFC3 : Hid (FltV a w3c (knw l names) ev3) := by rw [hC]; exact flt_set HFA23.out hbox _ _
  have hboxC : w3c.heap[fb]? = some (.cells #[.int .i64 c3, .int .i64 d3] 33 (0, 0)) := by rw [hC]; exact row_set2 hbox _ _
  have HWC : Hid (w3c = (w3b.setCell ⟨fb, 0, none⟩ (.int .i64 c3)).setCell ⟨fb, 1, none⟩ (.int .i64 d3)) := hC
  clear hC hbox HBOXB
  obtain ⟨⟨z0, z1⟩, _⟩ := row2 hboxC
  have HBC3 : Hid (w3c.heap[fb]? = some (.cells #[.int .i64 c3, .int .i64 d3] 33 (0, 0))) := hboxC
  have HFU3 : Hid _ := faulted_flt a (knw l names) ev3 w3c (HT.out _ HBw3c.out) HFC3.out HLT3.out
  rw [← HC3.out, ← HD3.out] at HFU3
  clear hboxC
  go_upto_region 19 with fail
  rw [← HWC.out]
  clear y0 y1 g0 g1
  go_wp2_with fail
  refine Calls.mono HFU3.out ?_
  clear HFU3
  rintro e w3d ⟨rfl, hbE⟩
  have HBw3d : Hid (Below w.heap.size w w3d) := HBw3c.out.trans (hbE.mono HBw3c.out.size)
  have HB4w3d : Hid (Below w4.heap.size w4 w3d) := HB4w3c.out.trans (hbE.mono HB4w3c.out.size)
  have HB8w3d : Hid (Below w8.heap.size w8 w3d) := HB8w3c.out.trans (hbE.mono HB8w3c.out.size)
  have HST3 : Hid _ := sameTexts_any (.slice ra3 r3.length rc3) (.slice sa3 s3.length sc3) r3 s3 w3d (HTAC3.out.below hbE) (HTBC3.out.below hbE) hrl3
  rw [HSA3.out] at HST3
  have hboxE := (hbE.block fb (lt_of_row HBC3.out)).trans HBC3.out
  have HBE3 : Hid (w3d.heap[fb]? = some (.cells #[.int .i64 c3, .int .i64 d3] 33 (0, 0))) := hboxE
  clear hbE hboxE z0 z1
  go_wp2_with fail
  refine Calls.mono HST3.out ?_
  clear HST3
  rintro e w3e ⟨rfl, hbF⟩
  have HBw3e : Hid (Below w.heap.size w w3e) := HBw3d.out.trans (hbF.mono HBw3d.out.size)
  have HB4w3e : Hid (Below w4.heap.size w4 w3e) := HB4w3d.out.trans (hbF.mono HB4w3d.out.size)
  have HB8w3e : Hid (Below w8.heap.size w8 w3e) := HB8w3d.out.trans (hbF.mono HB8w3d.out.size)
  clear hbF
  go_wp2_with fail
  go_ret
  exact ⟨rfl, HBw3e.out⟩
end Go.Proofs.YtlaenhohjcjilaaDoor
