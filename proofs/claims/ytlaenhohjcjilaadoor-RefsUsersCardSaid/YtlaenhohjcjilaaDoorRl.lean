/-
  The law 'RefsClosed' returns true.
  Conditions: the sentinels hold what the program's text lays; the packs and the names lie in memory.
-/
import Derived.Test.YtlaenhohjcjilaaDoorRk
namespace Go.Proofs.YtlaenhohjcjilaaDoor
open Go.RowKit Go.Maps
attribute [local go_sem ↓] Go.wp_at_zero Go.wp_at_succ

/-- Packs that were handed in. -/
def PkArg (w : World) (v : Value) (l : List Pk) : Prop := ∃ vs : List (PkG w), vs.map PkG.pk = l ∧ PksG w v vs
theorem PkArg.below {w w' : World} {v : Value} {l : List Pk} (h : PkArg w v l) (hb : Below w.heap.size w w') : PkArg w' v l := by
  obtain ⟨vs, e, ad, cap, rfl, hl, hc⟩ := h
  refine ⟨vs.map fun x => ⟨x.pk, x.ua, x.uc, x.kd, x.dt, x.ex, x.ka, x.kn, x.kc, x.tx.below hb⟩, by rw [List.map_map, ← e]; rfl, ad, cap, by rw [List.length_map], by rw [List.length_map]; exact hl, fun i x hx => ?_⟩
  rw [List.getElem?_map] at hx
  cases hy : vs[i]? with
  | none => rw [hy] at hx; cases hx
  | some y =>
    rw [hy] at hx
    obtain rfl := Option.some.inj hx
    obtain ⟨s1, s2, s3, s4, b, off, e1, c0, c1, c2, c3, c4, c5⟩ := hc i y hy
    have hl := lt_of_cell c0
    have k : ∀ j, w'.cell? ⟨b, j, none⟩ = w.cell? ⟨b, j, none⟩ := fun j => hb.cell (p := ⟨b, j, none⟩) hl
    exact ⟨s1, s2, s3, s4, b, off, e1, (k _).trans c0, (k _).trans c1, (k _).trans c2, (k _).trans c3, (k _).trans c4, (k _).trans c5⟩
theorem PkArg.form {w : World} {v : Value} {l : List Pk} (h : PkArg w v l) : ∃ ad cap, v = .slice ad l.length cap := by
  obtain ⟨vs, e, ad, cap, rfl, _⟩ := h
  exact ⟨ad, cap, by rw [← e, List.length_map]⟩
theorem PkArg.small {w : World} {v : Value} {l : List Pk} (h : PkArg w v l) (hs : SmP l l.length) : PksIn w v l := by
  obtain ⟨vs, rfl, hp⟩ := h
  rw [List.length_map] at hs
  exact hp.small hs
theorem longP_any {w : World} {l : List Pk} (v : Value) (h : PkArg w v l) : Calls Tryd.prog 7 #[v] w fun e w' => LgPost (l.length ≤ 45 ∧ SmP l l.length) e ∧ w' = w := by
  obtain ⟨vs, rfl, hp⟩ := h
  rw [List.length_map]
  exact longPacks_any v vs hp
theorem SmP.of {l : List Pk} (h : SmP l l.length) : ∀ p ∈ l, p.name.size ≤ 30 ∧ p.refs.length ≤ 25 ∧ ∀ r ∈ p.refs, r.size ≤ 30 := fun p hp => h p (by rw [List.take_length]; exact hp)
theorem names_small {l : List Pk} (h : SmP l l.length) {r : List ByteArray} (hr : ∀ x ∈ r, x ∈ l.map Pk.name) : ∀ x ∈ r, x.size ≤ 1000 := fun x hx => by
  obtain ⟨p, hp, rfl⟩ := List.mem_map.1 (hr x hx)
  have := (h.of p hp).1
  omega
theorem cl_names {l : List Pk} {names r : List ByteArray} (hk : knw l names = none) (h : IsCl l names r) : ∀ x ∈ r, x ∈ l.map Pk.name := fun x hx => by
  obtain ⟨W, hn⟩ := knw_none hk
  exact need_names W.ord hn x ((h.mem x).1 hx)
theorem lf_names {l : List Pk} {f : Pk → Bool} : ∀ x ∈ lf l f, x ∈ l.map Pk.name := fun x hx => by
  obtain ⟨p, hp, _, rfl⟩ := mem_lf.1 hx
  exact List.mem_map_of_mem hp
theorem lf_len (l : List Pk) (f : Pk → Bool) : (lf l f).length ≤ l.length := by
  have := lfTo_len l f l.length
  rw [lfTo_all] at this
  exact this
theorem closed_sum {l : List Pk} {names r : List ByteArray} (h : IsCl l names r) : r.length + (lf l fun p => !inS (needR l names) p).length = l.length := by
  rw [h.len]
  exact lf_both l _
theorem closed_dead {l : List Pk} {names r : List ByteArray} (h : IsCl l names r) {d : ByteArray} (hd : d ∈ lf l fun p => !inS (needR l names) p) : memB d r = false := by
  obtain ⟨p, _, hp, rfl⟩ := mem_lf.1 hd
  rw [inS_not] at hp
  exact memB_not.2 fun hm => hp ((h.mem _).1 hm)
theorem closed_user {l : List Pk} {names u : List ByteArray} (hk : knw l names = none) {i : Nat} {d x : ByteArray} (hd : (lf l fun p => !inS (needR l names) p)[i]? = some d) (hu : u.Perm (lf l (usesB d))) (hx : x ∈ u) : memB x ((lf l fun p => !inS (needR l names) p).take i) = true := by
  obtain ⟨W, hn⟩ := knw_none hk
  exact memB_iff.2 (users_dead W (fun p hp => need_closed W.ord p hp) hd (hu.mem_iff.1 hx))

set_option maxRecDepth 100000 in
set_option maxHeartbeats 4000000 in
theorem refsClosed_any (a : Nat → Addr) (v nv : Value) (l : List Pk) (names : List ByteArray) (w : World) (T : Sents a w) (hv : PkArg w v l) (hn : Texts w nv names) (hnl : names.length ≤ 9223372036854775807) (hz : ∀ x ∈ names, x.size ≤ 9223372036854775807) :
    Calls Tryd.prog 4 #[v, nv] w fun e w' => e = .returned (.bool true) ∧ Below w.heap.size w w' := by
  have HNE : Hid _ := needed_any a w T
  have HT : Hid (∀ W, Below w.heap.size w W → Sents a W) := fun W hb => T.below hb
  have HV : Hid (∀ W, Below w.heap.size w W → PkArg W v l) := fun W hb => hv.below hb
  obtain ⟨ad, cap, rfl⟩ := hv.form
  obtain ⟨na, nc, rfl, _⟩ := id hn
  have HN : Hid (∀ W, Below w.heap.size w W → Texts W (.slice na names.length nc) names) := fun W hb => hn.below hb
  have HZ : Hid (∀ x ∈ names, x.size ≤ 9223372036854775807) := hz
  have HNL : Hid (names.length ≤ 9223372036854775807) := hnl
  clear T hv hn hz hnl
  go_enter Tryd.func4, Tryd.ntmps4
  go_wp2_with fail
  refine Calls.mono HNE.out ?_
  clear HNE
  rintro e w1 ⟨rfl, hb1⟩
  have HB1 : Hid (Below w.heap.size w w1) := hb1
  clear hb1
  go_wp2_with fail
  refine Calls.mono (longP_any _ (HV.out w1 HB1.out)) ?_
  rintro e w2 ⟨⟨b, rfl, hs⟩, rfl⟩
  have HS : Hid (b = false → l.length ≤ 45 ∧ SmP l l.length) := hs
  clear hs
  cases b with
  | true =>
    go_wp2_with fail
    go_ret
    exact ⟨rfl, HB1.out⟩
  | false =>
  go_wp2_with fail
  refine Calls.mono (longTexts_any (.slice na names.length nc) names 30 w2 (HN.out w2 HB1.out) HNL.out HZ.out) ?_
  rintro e w3 ⟨⟨b, rfl, hs⟩, rfl⟩
  have HS2 : Hid (b = false → names.length ≤ 20 ∧ ∀ x ∈ names, x.size ≤ 30) := hs
  clear hs
  cases b with
  | true =>
    go_wp2_with fail
    go_ret
    exact ⟨rfl, HB1.out⟩
  | false =>
  have HSM : Hid (SmP l l.length) := (HS.out (by simp)).2
  have hl45 : l.length ≤ 45 := (HS.out (by simp)).1
  have hn20 : names.length ≤ 20 := (HS2.out (by simp)).1
  have HNS : Hid (∀ x ∈ names, x.size ≤ 1000) := fun x hx => by have := (HS2.out (by simp)).2 x hx; omega
  clear HS HS2 HZ HNL
  have HOP : Hid _ := ownPacks_any _ l w3 ((HV.out w3 HB1.out).small HSM.out) (by omega)
  go_wp2_with fail
  refine Calls.mono HOP.out ?_
  clear HOP
  rintro e w4 ⟨⟨pa, pc, rfl, hp4⟩, hb4⟩
  have HB4 : Hid (Below w.heap.size w w4) := HB1.out.trans (hb4.mono HB1.out.size)
  have HP : Hid (∀ W, Below w4.heap.size w4 W → PksIn W (.slice pa l.length pc) l) := fun W hb => hp4.below hb
  have HTX : Hid (Texts w4 (.slice na names.length nc) names) := HN.out w4 HB4.out
  clear hp4 hb4
  go_upto_region 7 with (at_builtin; go_must (refine wpList_appS _ (by rfl) _ _ (by rfl) w4.heap.size (.slice none 0 0) (.slice na names.length nc) [] names (by rfl) (by rfl) (OwnS.nil _ _) HTX.out (by simp; omega) (Nat.le_refl _) ?_; intro oa oc w5 h5 g5; (have H5 : Hid (OwnS w5 w4.heap.size (.slice oa names.length oc) names) := by (rw [List.length_nil, Nat.zero_add, List.nil_append] at h5; exact h5)); (have G5 : Hid (Below w4.heap.size w4 w5) := (Below.refl _ w4).grown g5 (Nat.le_refl _) (fun k e => by cases e)); clear h5 g5; rw [List.length_nil, Nat.zero_add]))
  have HB5 : Hid (Below w.heap.size w w5) := HB4.out.trans (G5.out.mono HB4.out.size)
  have HO : Hid (∀ W, Below w5.heap.size w5 W → Texts W (.slice oa names.length oc) names) := fun W hb => H5.out.texts.below hb
  have HCL : Hid _ := closure_any a (.slice pa l.length pc) (.slice oa names.length oc) l names w5 (HT.out w5 HB5.out) (HP.out w5 G5.out) (by omega) H5.out.texts HNS.out (by omega)
  clear HTX
  go_wp2_with fail
  refine Calls.mono HCL.out ?_
  clear HCL
  rintro e w6 ⟨hb6, ⟨f, ev, hk, rfl, hf⟩ | ⟨hk, r, va, vc, rfl, hcl, hO⟩⟩
  · obtain ⟨t, p, rfl⟩ := flt_form hf
    have HB6 : Hid (Below w.heap.size w w6) := HB5.out.trans (hb6.mono HB5.out.size)
    clear hf hk hb6
    go_wp2_with fail
    go_ret
    exact ⟨rfl, HB6.out⟩
  have HK : Hid (knw l names = none) := hk
  have HCL : Hid (IsCl l names r) := hcl
  have HB6 : Hid (Below w5.heap.size w5 w6) := hb6
  have HR : Hid (∀ W, Below w6.heap.size w6 W → Texts W (.slice va r.length vc) r) := fun W hb => hO.texts.below hb
  have HRN : Hid (∀ x ∈ r, x ∈ l.map Pk.name) := cl_names hk hcl
  have hrl : r.length ≤ 45 := by have := closed_sum hcl; omega
  have HSUM : Hid (r.length + (lf l fun p => !inS (needR l names) p).length = l.length) := closed_sum hcl
  have HB46 : Hid (Below w4.heap.size w4 w6) := G5.out.trans (HB6.out.mono G5.out.size)
  have HB06 : Hid (Below w.heap.size w w6) := HB5.out.trans (HB6.out.mono HB5.out.size)
  have HC2 : Hid _ := closure_any a (.slice pa l.length pc) (.slice va r.length vc) l r w6 (HT.out w6 HB06.out) (HP.out w6 HB46.out) (by omega) hO.texts (names_small HSM.out HRN.out) (by omega)
  clear hk hcl hb6 hO
  go_wp2_with fail
  refine Calls.mono HC2.out ?_
  clear HC2
  rintro e w7 ⟨hb7, ⟨f, ev, hk, _⟩ | ⟨hk, r2, va2, vc2, rfl, hcl2, hO2⟩⟩
  · rw [knw_ok (knw_none HK.out).1 HRN.out] at hk; cases hk
  obtain rfl : r2 = r := cl_again (knw_none HK.out).1 HCL.out hcl2
  have HB7 : Hid (Below w6.heap.size w6 w7) := hb7
  have HB47 : Hid (Below w4.heap.size w4 w7) := HB46.out.trans (HB7.out.mono HB46.out.size)
  have HB07 : Hid (Below w.heap.size w w7) := HB06.out.trans (HB7.out.mono HB06.out.size)
  have HR2 : Hid (∀ W, Below w7.heap.size w7 W → Texts W (.slice va2 r2.length vc2) r2) := fun W hb => hO2.texts.below hb
  have HDD : Hid _ := dead_any a (.slice pa l.length pc) (.slice oa names.length oc) l names w7 (HT.out w7 HB07.out) (HP.out w7 HB47.out) (by omega) (HO.out w7 (HB6.out.trans (HB7.out.mono HB6.out.size))) HNS.out (by omega)
  clear hk hcl2 hb7 hO2
  go_wp2_with fail
  refine Calls.mono HDD.out ?_
  clear HDD
  rintro e w8 ⟨hb8, ⟨f, ev, hk, _⟩ | ⟨_, D, da, dc, rfl, hD, hO8⟩⟩
  · rw [HK.out] at hk; cases hk
  have HDE : Hid (D = lf l fun p => !inS (needR l names) p) := hD
  rw [← HDE.out] at HSUM
  have hdl : D.length ≤ 45 := by have := HSUM.out; omega
  have hdc : D.length ≤ dc := by obtain ⟨_, _, e, h, _⟩ := hO8.form; simp only [Value.slice.injEq] at e; obtain ⟨_, _, rfl⟩ := e; exact h
  have hdm : dc ≤ maxLen := by obtain ⟨_, _, e, _, h⟩ := hO8.form; simp only [Value.slice.injEq] at e; obtain ⟨_, _, rfl⟩ := e; exact h
  unfold maxLen at hdm
  have HB8 : Hid (Below w7.heap.size w7 w8) := hb8
  have HB68 : Hid (Below w6.heap.size w6 w8) := HB7.out.trans (HB8.out.mono HB7.out.size)
  have HB48 : Hid (Below w4.heap.size w4 w8) := HB47.out.trans (HB8.out.mono HB47.out.size)
  have HB08 : Hid (Below w.heap.size w w8) := HB07.out.trans (HB8.out.mono HB07.out.size)
  have HDT : Hid (∀ W, Below w8.heap.size w8 W → Texts W (.slice da D.length dc) D) := fun W hb => hO8.texts.below hb
  have HST : Hid _ := sameTexts_any (.slice va2 r2.length vc2) (.slice va r2.length vc) r2 r2 w8 (HR2.out w8 HB8.out) (HR.out w8 HB68.out) (by omega)
  rw [textsEq_refl] at HST
  have hsum : (r2.length : Int) + (D.length : Int) = (l.length : Int) := by have := HSUM.out; omega
  clear hD hb8 hO8
  go_wp2_with fail
  refine Calls.mono HST.out ?_
  clear HST
  rintro e w9 ⟨rfl, hb9⟩
  have HB9 : Hid (Below w8.heap.size w8 w9) := hb9
  clear hb9
  have hsw : IntKind.i64.wrap ((r2.length : Int) + (D.length : Int)) = (l.length : Int) := by rw [hsum]; exact IntWalk.i64_in _ (by omega)
  go_wp2_with fail
  clear hsum hsw
  have HB69 : Hid (Below w6.heap.size w6 w9) := HB68.out.trans (HB9.out.mono HB68.out.size)
  have HB49 : Hid (Below w4.heap.size w4 w9) := HB48.out.trans (HB9.out.mono HB48.out.size)
  have HB09 : Hid (Below w.heap.size w w9) := HB08.out.trans (HB9.out.mono HB08.out.size)
  have HNT : Hid (∀ i x, names[i]? = some x → ∃ b off, na = some ⟨b, off, none⟩ ∧ w9.cell? ⟨b, off + i, none⟩ = some (.string x)) := by
    obtain ⟨ad', cap', e, h⟩ := HN.out w9 HB09.out
    simp only [Value.slice.injEq] at e
    obtain ⟨rfl, _, rfl⟩ := e
    exact h
  go_loop [14] (fun i => ∃ k : Nat, k ≤ names.length ∧ i = .int .i64 k) (fun i => names.length - (intOf i).toNat)
  case atStart => exact ⟨0, Nat.zero_le _, rfl⟩
  case round =>
    obtain ⟨k, hk, rfl⟩ := hrel
    by_cases hlt : k < names.length
    · obtain ⟨x, hx⟩ : ∃ x, names[k]? = some x := ⟨names[k], List.getElem?_eq_getElem hlt⟩
      obtain ⟨b1, o1, rfl, c1⟩ := HNT.out k x hx
      have HIN : Hid (memB x r2 = true) := memB_iff.2 ((HCL.out.mem x).2 (need_sub l (List.mem_of_getElem? hx)))
      have HIT : Hid _ := inTexts_any x (.slice va r2.length vc) r2 w9 (HR.out w9 HB69.out) (by omega)
      rw [HIN.out] at HIT
      clear hx
      go_wp2_with fail
      refine Calls.mono HIT.out ?_
      rintro e wy ⟨rfl, rfl⟩
      go_wp2_with fail
      go_round
      case rel => exact ⟨k + 1, by omega, by go_num⟩
      case measure => simp [intOf]; omega
    · have hge : ¬ (k : Int) < (names.length : Int) := by omega
      go_wp2_with fail
      clear HNT
      go_loopw [15] (fun i wr => ∃ j : Nat, j ≤ D.length ∧ i = .int .i64 j ∧ Hid (Below w9.heap.size w9 wr)) (fun i _ => D.length - (intOf i).toNat)
      case atStart => exact ⟨0, Nat.zero_le _, rfl, Below.refl _ _⟩
      case round =>
        obtain ⟨j, hj, rfl, HJ⟩ := hrel
        by_cases hltj : j < D.length
        · obtain ⟨d, hd⟩ : ∃ d, D[j]? = some d := ⟨D[j], List.getElem?_eq_getElem hltj⟩
          have HB8r : Hid (Below w8.heap.size w8 wr) := HB9.out.trans (HJ.out.mono HB9.out.size)
          have HB6r : Hid (Below w6.heap.size w6 wr) := HB69.out.trans (HJ.out.mono HB69.out.size)
          have HB4r : Hid (Below w4.heap.size w4 wr) := HB49.out.trans (HJ.out.mono HB49.out.size)
          have HB0r : Hid (Below w.heap.size w wr) := HB09.out.trans (HJ.out.mono HB09.out.size)
          obtain ⟨ad', cap', e, hDc⟩ := HDT.out wr HB8r.out
          simp only [Value.slice.injEq] at e
          obtain ⟨rfl, _, rfl⟩ := e
          obtain ⟨b2, o2, rfl, c2⟩ := hDc j d hd
          have HDJ : Hid ((lf l fun p => !inS (needR l names) p)[j]? = some d) := by rw [← HDE.out]; exact hd
          have HIT : Hid _ := inTexts_any d (.slice va r2.length vc) r2 wr (HR.out wr HB6r.out) (by omega)
          rw [closed_dead HCL.out (List.mem_of_getElem? HDJ.out)] at HIT
          have HDN : Hid (d ∈ l.map Pk.name) := lf_names d (List.mem_of_getElem? HDJ.out)
          have HUS : Hid _ := users_any a (.slice pa l.length pc) l wr d (HT.out wr HB0r.out) (HP.out wr HB4r.out) (by omega) (names_small HSM.out (r := [d]) (fun y hy => by rw [List.mem_singleton.1 hy]; exact HDN.out) d (by simp))
          clear hd hDc
          go_wp2_with fail
          refine Calls.mono HIT.out ?_
          rintro e wy ⟨rfl, rfl⟩
          go_wp2_with fail
          refine Calls.mono HUS.out ?_
          clear HUS HIT
          rintro e wu ⟨hbu, ⟨f, ev, hk2, _⟩ | ⟨_, u, ua, uc, rfl, ⟨hup, _⟩, hOu⟩⟩
          · rw [knw_ok (knw_none HK.out).1 (fun y hy => by rw [List.mem_singleton.1 hy]; exact HDN.out)] at hk2; cases hk2
          have HUP : Hid (u.Perm (lf l (usesB d))) := hup
          have hul : u.length ≤ 45 := by have := hup.length_eq; have := lf_len l (usesB d); omega
          have HBu : Hid (Below wy.heap.size wy wu) := hbu
          have HUT : Hid (∀ W, Below wu.heap.size wu W → ∀ i x, u[i]? = some x → ∃ b off, ua = some ⟨b, off, none⟩ ∧ W.cell? ⟨b, off + i, none⟩ = some (.string x)) := fun W hb => by
            obtain ⟨ad', cap', e, h⟩ := hOu.texts.below hb
            simp only [Value.slice.injEq] at e
            obtain ⟨rfl, _, rfl⟩ := e
            exact h
          have HB8u : Hid (Below w8.heap.size w8 wu) := HB8r.out.trans (HBu.out.mono HB8r.out.size)
          clear hup hbu hOu c2
          go_wp2_with fail
          go_loopw [18] (fun i wx => ∃ q : Nat, q ≤ u.length ∧ i = .int .i64 q ∧ Hid (Below wu.heap.size wu wx)) (fun i _ => u.length - (intOf i).toNat)
          case atStart => exact ⟨0, Nat.zero_le _, rfl, Below.refl _ _⟩
          case round =>
            obtain ⟨q, hq, rfl, HQ⟩ := hrel
            rename World => wx
            by_cases hltq : q < u.length
            · obtain ⟨x, hx⟩ : ∃ x, u[q]? = some x := ⟨u[q], List.getElem?_eq_getElem hltq⟩
              have HXd : Hid (Below wu.heap.size wu wx.drew) := HQ.out.drew
              obtain ⟨b3, o3, rfl, c3⟩ := HUT.out wx.drew HXd.out q x hx
              have HIN : Hid (memB x (D.take j) = true) := by rw [HDE.out]; exact closed_user HK.out HDJ.out HUP.out (List.mem_of_getElem? hx)
              have HBD : Hid (Below w8.heap.size w8 wx.drew) := HB8u.out.trans (HXd.out.mono HB8u.out.size)
              have HIT : Hid (Calls Tryd.prog 20 #[.string x, .slice (some ⟨b2, o2, none⟩) j dc] wx.drew fun e w' => e = .returned (.bool true) ∧ w' = wx.drew) := by
                have h := inTexts_any x (.slice (some ⟨b2, o2, none⟩) j dc) (D.take j) wx.drew (texts_cut (HDT.out wx.drew HBD.out) j dc hj) (by rw [List.length_take]; omega)
                rw [HIN.out] at h
                exact h
              have hq0 : (0 : Int) ≤ (q : Int) := by omega
              have hq1 : (q : Int) < (u.length : Int) := by omega
              have hj0 : (0 : Int) ≤ (j : Int) := by omega
              have hjc : (j : Int) ≤ (dc : Int) := by omega
              have HC3 : Hid (wx.drew.cell? ⟨b3, o3 + q, none⟩ = some (.string x)) := c3
              clear hx c3
              go_wp2_with fail
              refine wp_region_held_drew (S := fun w' => w'.cell? ⟨b3, o3 + q, none⟩ = some (.string x)) (by kernel_rfl) (HC3.out) (fun hHeld => ?_)
              refine wpAnyH_take (i := 0) (v := (.slice (some ⟨b3, o3, none⟩) u.length uc)) rfl (by kernel_rfl) (by kernel_rfl) (by kernel_rfl) (fun _ _ _ h => h) (Or.inl ⟨by rfl, ?_⟩) hHeld ?_
              · intro w hSw; (try dsimp only at hSw); simp only [List.getElem_toArray, List.getElem_cons_zero]; go_simp
              simp only [List.getElem_toArray, List.getElem_cons_zero, Act.put, List.setIfInBounds_toArray, List.set_cons_zero, List.set_cons_succ]
              refine wpAnyH_take (i := 1) (v := (.int .i64 (q : Int))) rfl (by kernel_rfl) (by kernel_rfl) (by kernel_rfl) (fun _ _ _ h => h) (Or.inl ⟨by rfl, ?_⟩) hHeld ?_
              · intro w hSw; (try dsimp only at hSw); simp only [List.getElem_toArray, List.getElem_cons_zero, List.getElem_cons_succ]; go_simp
              simp only [List.getElem_toArray, List.getElem_cons_zero, List.getElem_cons_succ, Act.put, List.setIfInBounds_toArray, List.set_cons_zero, List.set_cons_succ]
              refine wpAnyH_take (i := 2) (v := (.pointer (some ⟨b3, o3 + q, none⟩))) rfl (by kernel_rfl) (by kernel_rfl) (by kernel_rfl) (fun _ _ _ h => h) (Or.inl ⟨by rfl, ?_⟩) hHeld ?_
              · intro w hSw; (try dsimp only at hSw); simp only [List.getElem_toArray, List.getElem_cons_zero, List.getElem_cons_succ]; go_simp
              simp only [List.getElem_toArray, List.getElem_cons_zero, List.getElem_cons_succ, Act.put, List.setIfInBounds_toArray, List.set_cons_zero, List.set_cons_succ]
              refine wpAnyH_take (i := 3) (v := (.string x)) rfl (by kernel_rfl) (by kernel_rfl) (by kernel_rfl) (fun _ _ _ h => h) (Or.inl ⟨by rfl, ?_⟩) hHeld ?_
              · intro w hSw; (try dsimp only at hSw); simp only [List.getElem_toArray, List.getElem_cons_zero, List.getElem_cons_succ]; go_simp
              simp only [List.getElem_toArray, List.getElem_cons_zero, List.getElem_cons_succ, Act.put, List.setIfInBounds_toArray, List.set_cons_zero, List.set_cons_succ]
              refine wpAnyH_take (i := 4) (v := (.slice (some ⟨b2, o2, none⟩) D.length dc)) rfl (by kernel_rfl) (by kernel_rfl) (by kernel_rfl) (fun _ _ _ h => h) (Or.inl ⟨by rfl, ?_⟩) hHeld ?_
              · intro w hSw; (try dsimp only at hSw); simp only [List.getElem_toArray, List.getElem_cons_zero, List.getElem_cons_succ]; go_simp
              simp only [List.getElem_toArray, List.getElem_cons_zero, List.getElem_cons_succ, Act.put, List.setIfInBounds_toArray, List.set_cons_zero, List.set_cons_succ]
              refine wpAnyH_take (i := 5) (v := (.int .i64 (j : Int))) rfl (by kernel_rfl) (by kernel_rfl) (by kernel_rfl) (fun _ _ _ h => h) (Or.inl ⟨by rfl, ?_⟩) hHeld ?_
              · intro w hSw; (try dsimp only at hSw); simp only [List.getElem_toArray, List.getElem_cons_zero, List.getElem_cons_succ]; go_simp
              simp only [List.getElem_toArray, List.getElem_cons_zero, List.getElem_cons_succ, Act.put, List.setIfInBounds_toArray, List.set_cons_zero, List.set_cons_succ]
              refine wpAnyH_take (i := 6) (v := (.slice (some ⟨b2, o2, none⟩) j dc)) rfl (by kernel_rfl) (by kernel_rfl) (by kernel_rfl) (fun _ _ _ h => h) (Or.inl ⟨by rfl, ?_⟩) hHeld ?_
              · intro w hSw; (try dsimp only at hSw); simp only [List.getElem_toArray, List.getElem_cons_zero, List.getElem_cons_succ]; go_simp
              simp only [List.getElem_toArray, List.getElem_cons_zero, List.getElem_cons_succ, Act.put, List.setIfInBounds_toArray, List.set_cons_zero, List.set_cons_succ]
              refine wpAnyH_ready (rs := [7]) (by kernel_rfl) (by simp) ?_
              refine AllReadyH.cons rfl (fun K' hK => ?_) AllReadyH.nil
              simp only [List.getElem_toArray, List.getElem_cons_zero, List.getElem_cons_succ]
              go_simp
              refine Calls.mono (HIT.out) ?_
              rintro e wx ⟨rfl, rfl⟩
              go_wp2_with fail
              refine hK.out _ _ (HC3.out) (fun hHeld' => ?_)
              clear hK K' hHeld
              have hHeld := hHeld'
              clear hHeld'
              refine wpAnyH_take (i := 8) (v := (.bool false)) rfl (by kernel_rfl) (by kernel_rfl) (by kernel_rfl) (fun _ _ _ h => h) (Or.inl ⟨by rfl, ?_⟩) hHeld ?_
              · intro w hSw; (try dsimp only at hSw); simp only [List.getElem_toArray, List.getElem_cons_zero, List.getElem_cons_succ]; go_simp
              simp only [List.getElem_toArray, List.getElem_cons_zero, List.getElem_cons_succ, Act.put, List.setIfInBounds_toArray, List.set_cons_zero, List.set_cons_succ]
              refine wpAnyH_done (by kernel_rfl) ?_ _
              go_wp2_with fail
              go_roundw
              case rel => exact ⟨q + 1, by omega, by go_num, HXd⟩
              case measure => simp [intOf]; omega
            · have hge2 : ¬ (q : Int) < (u.length : Int) := by omega
              have HEND : Hid (Below w9.heap.size w9 wx) := HJ.out.trans ((HBu.out.trans (HQ.out.mono HBu.out.size)).mono HJ.out.size)
              go_wp2_with fail
              go_roundw
              case rel => exact ⟨j + 1, by omega, by go_num, HEND⟩
              case measure => simp [intOf]; omega
        · have hge3 : ¬ (j : Int) < (D.length : Int) := by omega
          go_wp2_with fail
          go_ret
          exact ⟨rfl, HB09.out.trans (HJ.out.mono HB09.out.size)⟩
end Go.Proofs.YtlaenhohjcjilaaDoor
