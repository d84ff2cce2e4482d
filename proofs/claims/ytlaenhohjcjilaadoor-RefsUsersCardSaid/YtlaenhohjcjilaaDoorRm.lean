/-
  The law 'RefsUsers' returns true.
  Conditions: the sentinels hold what the program's text lays; the packs lie in memory.
-/
import Derived.Test.YtlaenhohjcjilaaDoorRl
import Derived.Deep.DeepCutAuto
namespace Go.Proofs.YtlaenhohjcjilaaDoor
open Go.RowKit Go.Maps
attribute [local go_sem ↓] Go.wp_at_zero Go.wp_at_succ

/-- A pack's cells, as a walk wants them. -/
theorem pks_at {w : World} {pa : Option Addr} {n pc : Nat} {l : List Pk} (h : PksIn w (.slice pa n pc) l) {i : Nat} {p : Pk} (hp : l[i]? = some p) : ∃ b off ua uc, pa = some ⟨b, off, none⟩ ∧ w.cell? ⟨b, off + i * 6, none⟩ = some (.string p.name) ∧ w.cell? ⟨b, off + i * 6 + 1, none⟩ = some (.slice ua p.refs.length uc) ∧ Texts w (.slice ua p.refs.length uc) p.refs := by
  obtain ⟨vs, rfl, ad, cap, e, hc⟩ := h
  simp only [Value.slice.injEq] at e
  obtain ⟨rfl, _, rfl⟩ := e
  rw [List.getElem?_map] at hp
  cases hx : vs[i]? with
  | none => rw [hx] at hp; cases hp
  | some x =>
    rw [hx] at hp
    obtain rfl := Option.some.inj hp
    obtain ⟨b, off, e, k0, k1, _⟩ := hc i x hx
    exact ⟨b, off, x.ua, x.uc, e, k0, k1, x.tx⟩
theorem dead_at {l : List Pk} {i : Nat} {p : Pk} (hp : l[i]? = some p) : (lf l fun q => !inS (needR l []) q)[l.length - 1 - i]? = some p.name := by
  have hi := (List.getElem?_eq_some_iff.1 hp).1
  rw [dead_none, List.getElem?_reverse (by simp; omega)]
  rw [List.length_map, List.getElem?_map]
  have : l.length - 1 - (l.length - 1 - i) = i := by omega
  rw [this, hp]; rfl
theorem texts_open {w : World} {va : Option Addr} {n vc : Nat} {l : List ByteArray} (h : Texts w (.slice va n vc) l) : n = l.length ∧ ∀ i x, l[i]? = some x → ∃ b off, va = some ⟨b, off, none⟩ ∧ w.cell? ⟨b, off + i, none⟩ = some (.string x) := by
  obtain ⟨ad', cap', e, hDc⟩ := h
  simp only [Value.slice.injEq] at e
  obtain ⟨rfl, rfl, rfl⟩ := e
  exact ⟨rfl, hDc⟩

set_option maxRecDepth 100000 in
set_option maxHeartbeats 8000000 in
theorem refsUsers_any (a : Nat → Addr) (v : Value) (l : List Pk) (w : World) (T : Sents a w) (hv : PkArg w v l) :
    Calls Tryd.prog 5 #[v] w fun e w' => e = .returned (.bool true) ∧ Below w.heap.size w w' := by
  have HNE : Hid _ := needed_any a w T
  have HT : Hid (∀ W, Below w.heap.size w W → Sents a W) := fun W hb => T.below hb
  have HV : Hid (∀ W, Below w.heap.size w W → PkArg W v l) := fun W hb => hv.below hb
  have hvl : l.length ≤ 9223372036854775807 := by obtain ⟨vs, e, _, _, _, h, _⟩ := hv; rw [← e, List.length_map]; exact h
  obtain ⟨ad, cap, rfl⟩ := hv.form
  clear T hv
  go_enter Tryd.func5, Tryd.ntmps5
  go_wp2_with fail
  refine Calls.mono HNE.out ?_
  clear HNE
  rintro e w1 ⟨rfl, hb1⟩
  have HB1 : Hid (Below w.heap.size w w1) := hb1
  clear hb1
  go_wp2_with fail
  refine Calls.mono (longP_any _ (HV.out w1 HB1.out)) ?_
  rintro e w2 ⟨⟨b, rfl, hs⟩, rfl⟩
  have HS : Hid (b = false → l.length ≤ 45 ∧ SmP l l.length) := hs
  clear hs
  cases b with
  | true =>
    go_wp2_with fail
    go_ret
    exact ⟨rfl, HB1.out⟩
  | false =>
  have HSM : Hid (SmP l l.length) := (HS.out (by simp)).2
  clear HS
  by_cases h15 : 15 < l.length
  · have h15' : (15 : Int) < (l.length : Int) := by omega
    go_wp2_with fail
    go_ret
    exact ⟨rfl, HB1.out⟩
  have h15' : (l.length : Int) ≤ 15 := by omega
  have hl15 : l.length ≤ 15 := by omega
  clear h15 hvl
  have HOP : Hid _ := ownPacks_any _ l w2 ((HV.out w2 HB1.out).small HSM.out) (by omega)
  go_wp2_with fail
  refine Calls.mono HOP.out ?_
  clear HOP
  rintro e w4 ⟨⟨pa, pc, rfl, hp4⟩, hb4⟩
  have HB4 : Hid (Below w.heap.size w w4) := HB1.out.trans (hb4.mono HB1.out.size)
  have HP : Hid (∀ W, Below w4.heap.size w4 W → PksIn W (.slice pa l.length pc) l) := fun W hb => hp4.below hb
  have HCH : Hid _ := check_any a (.slice pa l.length pc) l w4 (HT.out w4 HB4.out) hp4 (by omega)
  clear hp4 hb4
  go_wp2_with fail
  refine Calls.mono HCH.out ?_
  clear HCH
  rintro e w5 ⟨ev, rfl, hf, hb5⟩
  have HB45 : Hid (Below w4.heap.size w4 w5) := hb5
  have HB5 : Hid (Below w.heap.size w w5) := HB4.out.trans (HB45.out.mono HB4.out.size)
  have HF : Hid (FltV a w5 (chk l) ev) := hf
  clear hb5 hf
  cases hck : chk l with
  | some f =>
    rw [hck] at HF
    obtain ⟨t, p, rfl⟩ := flt_form HF.out
    clear hck HF
    go_wp2_with fail
    go_ret
    exact ⟨rfl, HB5.out⟩
  | none =>
  have HWL : Hid (Well l) := well_of hck
  rw [hck] at HF
  obtain rfl : ev = .nilIface := HF.out
  have HKN : Hid (∀ x ∈ l.map Pk.name, knw l [x] = none) := fun x hx => knw_ok (well_of hck) (fun y hy => by rw [List.mem_singleton.1 hy]; exact hx)
  clear hck HF
  have HNS : Hid (∀ x ∈ l.map Pk.name, x.size ≤ 1000) := names_small HSM.out (fun x hx => hx)
  have HDD : Hid _ := dead_any a (.slice pa l.length pc) (.slice none 0 0) l [] w5 (HT.out w5 HB5.out) (HP.out w5 HB45.out) (by omega) (texts_none _ _ _) (fun x hx => by cases hx) (by simp)
  go_wp2_with fail
  refine Calls.mono HDD.out ?_
  clear HDD
  rintro e w6 ⟨hb6, ⟨f, ev, hk, _⟩ | ⟨_, D, da, dc, rfl, hD, hO6⟩⟩
  · rw [knw_ok HWL.out (fun x hx => by cases hx)] at hk; cases hk
  have HB46 : Hid (Below w4.heap.size w4 w6) := HB45.out.trans (hb6.mono HB45.out.size)
  have HB6 : Hid (Below w.heap.size w w6) := HB5.out.trans (hb6.mono HB5.out.size)
  have HDL : Hid (D.length = l.length) := show _ = _ by rw [hD, dead_none]; simp
  have HDE : Hid (D = lf l fun p => !inS (needR l []) p) := hD
  rw [HDL.out] at hO6 ⊢
  have HDT : Hid (∀ W, Below w6.heap.size w6 W → Texts W (.slice da l.length dc) D) := fun W hb => hO6.texts.below hb
  have HDA : Hid (∀ i p, l[i]? = some p → D[l.length - 1 - i]? = some p.name) := fun i p hp => by rw [HDE.out]; exact dead_at hp
  clear hD hb6 hO6
  go_wp2_with fail
  go_loopw [7] (fun i wr => ∃ j : Nat, j ≤ l.length ∧ i = .int .i64 j ∧ Hid (Below w6.heap.size w6 wr)) (fun i _ => l.length - (intOf i).toNat)
  case atStart => exact ⟨0, Nat.zero_le _, rfl, Below.refl _ _⟩
  case round =>
    obtain ⟨j, hj, rfl, HJ⟩ := hrel
    have HB4r : Hid (Below w4.heap.size w4 wr) := HB46.out.trans (HJ.out.mono HB46.out.size)
    have HB0r : Hid (Below w.heap.size w wr) := HB6.out.trans (HJ.out.mono HB6.out.size)
    by_cases hlt : j < l.length
    · obtain ⟨p, hp⟩ : ∃ p, l[j]? = some p := ⟨l[j], List.getElem?_eq_getElem hlt⟩
      have HPM : Hid (p.name ∈ l.map Pk.name) := List.mem_map_of_mem (List.mem_of_getElem? hp)
      have HPJ : Hid (l[j]? = some p) := hp
      have hDc := (texts_open (HDT.out wr.drew (HJ.out.drew))).2
      obtain ⟨b2, o2, rfl, c2⟩ := hDc _ _ (HDA.out j p hp)
      obtain ⟨b, off, ua, uc, rfl, k0, k1, kt⟩ := pks_at (HP.out wr.drew HB4r.out.drew) hp
      have hx1 : IntKind.i64.wrap ((l.length : Int) - 1) = (l.length : Int) - 1 := IntWalk.i64_in _ (by omega)
      have hx2 : IntKind.i64.wrap ((l.length : Int) - 1 - (j : Int)) = ((l.length - 1 - j : Nat) : Int) := by
        have e : ((l.length - 1 - j : Nat) : Int) = (l.length : Int) - 1 - (j : Int) := by omega
        rw [e]; exact IntWalk.i64_in _ (by omega)
      have hz0 : (0 : Int) ≤ ((l.length - 1 - j : Nat) : Int) := by omega
      have hz1 : ((l.length - 1 - j : Nat) : Int) < (l.length : Int) := by omega
      have hj0 : (0 : Int) ≤ (j : Int) := by omega
      have hj1 : (j : Int) < (l.length : Int) := by omega
      have HC13 : Hid (wr.drew.cell? ⟨b2, o2 + (l.length - 1 - j), none⟩ = some (.string p.name) ∧ wr.drew.cell? ⟨b, off + j * 6, none⟩ = some (.string p.name)) := ⟨c2, k0⟩
      obtain ⟨z, HZ⟩ : ∃ z, Hid (z = l.length - 1 - j) := ⟨_, (rfl : l.length - 1 - j = _)⟩
      rw [← HZ.out] at hx2 hz0 hz1 HC13
      have hne : (p.name.toList == p.name.toList) = true := by simp
      clear hp hDc c2 k0 k1 kt
      go_wp2_with fail
      refine wp_region_held_drew (S := fun w' => w'.cell? ⟨b2, o2 + z, none⟩ = some (.string p.name) ∧ w'.cell? ⟨b, off + j * 6, none⟩ = some (.string p.name)) (by kernel_rfl) (HC13.out) (fun hHeld => ?_)
      refine wpAnyH_take (i := 0) (v := (.slice (some ⟨b2, o2, none⟩) l.length dc)) rfl (by kernel_rfl) (by kernel_rfl) (by kernel_rfl) (fun _ _ _ h => h) (Or.inl ⟨by rfl, ?_⟩) hHeld ?_
      · intro w hSw; (try dsimp only at hSw); simp only [List.getElem_toArray, List.getElem_cons_zero]; go_simp
      simp only [List.getElem_toArray, List.getElem_cons_zero, Act.put, List.setIfInBounds_toArray, List.set_cons_zero, List.set_cons_succ]
      refine wpAnyH_take (i := 1) (v := (.slice (some ⟨b, off, none⟩) l.length pc)) rfl (by kernel_rfl) (by kernel_rfl) (by kernel_rfl) (fun _ _ _ h => h) (Or.inl ⟨by rfl, ?_⟩) hHeld ?_
      · intro w hSw; (try dsimp only at hSw); simp only [List.getElem_toArray, List.getElem_cons_zero, List.getElem_cons_succ]; go_simp
      simp only [List.getElem_toArray, List.getElem_cons_zero, List.getElem_cons_succ, Act.put, List.setIfInBounds_toArray, List.set_cons_zero, List.set_cons_succ]
      refine wpAnyH_take (i := 2) (v := (.int .i64 (l.length : Int))) rfl (by kernel_rfl) (by kernel_rfl) (by kernel_rfl) (fun _ _ _ h => h) (Or.inl ⟨by rfl, ?_⟩) hHeld ?_
      · intro w hSw; (try dsimp only at hSw); simp only [List.getElem_toArray, List.getElem_cons_zero, List.getElem_cons_succ]; go_simp
      simp only [List.getElem_toArray, List.getElem_cons_zero, List.getElem_cons_succ, Act.put, List.setIfInBounds_toArray, List.set_cons_zero, List.set_cons_succ]
      refine wpAnyH_take (i := 3) (v := (.int .i64 ((l.length : Int) - 1))) rfl (by kernel_rfl) (by kernel_rfl) (by kernel_rfl) (fun _ _ _ h => h) (Or.inl ⟨by rfl, ?_⟩) hHeld ?_
      · intro w hSw; (try dsimp only at hSw); simp only [List.getElem_toArray, List.getElem_cons_zero, List.getElem_cons_succ]; go_simp
      simp only [List.getElem_toArray, List.getElem_cons_zero, List.getElem_cons_succ, Act.put, List.setIfInBounds_toArray, List.set_cons_zero, List.set_cons_succ]
      refine wpAnyH_take (i := 4) (v := (.int .i64 (j : Int))) rfl (by kernel_rfl) (by kernel_rfl) (by kernel_rfl) (fun _ _ _ h => h) (Or.inl ⟨by rfl, ?_⟩) hHeld ?_
      · intro w hSw; (try dsimp only at hSw); simp only [List.getElem_toArray, List.getElem_cons_zero, List.getElem_cons_succ]; go_simp
      simp only [List.getElem_toArray, List.getElem_cons_zero, List.getElem_cons_succ, Act.put, List.setIfInBounds_toArray, List.set_cons_zero, List.set_cons_succ]
      refine wpAnyH_take (i := 5) (v := (.int .i64 (z : Int))) rfl (by kernel_rfl) (by kernel_rfl) (by kernel_rfl) (fun _ _ _ h => h) (Or.inl ⟨by rfl, ?_⟩) hHeld ?_
      · intro w hSw; (try dsimp only at hSw); simp only [List.getElem_toArray, List.getElem_cons_zero, List.getElem_cons_succ]; go_simp
      simp only [List.getElem_toArray, List.getElem_cons_zero, List.getElem_cons_succ, Act.put, List.setIfInBounds_toArray, List.set_cons_zero, List.set_cons_succ]
      refine wpAnyH_take (i := 6) (v := (.pointer (some ⟨b2, o2 + z, none⟩))) rfl (by kernel_rfl) (by kernel_rfl) (by kernel_rfl) (fun _ _ _ h => h) (Or.inl ⟨by rfl, ?_⟩) hHeld ?_
      · intro w hSw; (try dsimp only at hSw); simp only [List.getElem_toArray, List.getElem_cons_zero, List.getElem_cons_succ]; go_simp
      simp only [List.getElem_toArray, List.getElem_cons_zero, List.getElem_cons_succ, Act.put, List.setIfInBounds_toArray, List.set_cons_zero, List.set_cons_succ]
      refine wpAnyH_take (i := 7) (v := (.string p.name)) rfl (by kernel_rfl) (by kernel_rfl) (by kernel_rfl) (fun _ _ _ h => h) (Or.inl ⟨by rfl, ?_⟩) hHeld ?_
      · intro w hSw; (try dsimp only at hSw); simp only [List.getElem_toArray, List.getElem_cons_zero, List.getElem_cons_succ]; go_simp
      simp only [List.getElem_toArray, List.getElem_cons_zero, List.getElem_cons_succ, Act.put, List.setIfInBounds_toArray, List.set_cons_zero, List.set_cons_succ]
      refine wpAnyH_take (i := 8) (v := (.slice (some ⟨b, off, none⟩) l.length pc)) rfl (by kernel_rfl) (by kernel_rfl) (by kernel_rfl) (fun _ _ _ h => h) (Or.inl ⟨by rfl, ?_⟩) hHeld ?_
      · intro w hSw; (try dsimp only at hSw); simp only [List.getElem_toArray, List.getElem_cons_zero, List.getElem_cons_succ]; go_simp
      simp only [List.getElem_toArray, List.getElem_cons_zero, List.getElem_cons_succ, Act.put, List.setIfInBounds_toArray, List.set_cons_zero, List.set_cons_succ]
      refine wpAnyH_take (i := 9) (v := (.int .i64 (j : Int))) rfl (by kernel_rfl) (by kernel_rfl) (by kernel_rfl) (fun _ _ _ h => h) (Or.inl ⟨by rfl, ?_⟩) hHeld ?_
      · intro w hSw; (try dsimp only at hSw); simp only [List.getElem_toArray, List.getElem_cons_zero, List.getElem_cons_succ]; go_simp
      simp only [List.getElem_toArray, List.getElem_cons_zero, List.getElem_cons_succ, Act.put, List.setIfInBounds_toArray, List.set_cons_zero, List.set_cons_succ]
      refine wpAnyH_take (i := 10) (v := (.pointer (some ⟨b, off + j * 6, none⟩))) rfl (by kernel_rfl) (by kernel_rfl) (by kernel_rfl) (fun _ _ _ h => h) (Or.inl ⟨by rfl, ?_⟩) hHeld ?_
      · intro w hSw; (try dsimp only at hSw); simp only [List.getElem_toArray, List.getElem_cons_zero, List.getElem_cons_succ]; go_simp
      simp only [List.getElem_toArray, List.getElem_cons_zero, List.getElem_cons_succ, Act.put, List.setIfInBounds_toArray, List.set_cons_zero, List.set_cons_succ]
      refine wpAnyH_take (i := 11) (v := (.pointer (some ⟨b, off + j * 6, none⟩))) rfl (by kernel_rfl) (by kernel_rfl) (by kernel_rfl) (fun _ _ _ h => h) (Or.inl ⟨by rfl, ?_⟩) hHeld ?_
      · intro w hSw; (try dsimp only at hSw); simp only [List.getElem_toArray, List.getElem_cons_zero, List.getElem_cons_succ]; go_simp
      simp only [List.getElem_toArray, List.getElem_cons_zero, List.getElem_cons_succ, Act.put, List.setIfInBounds_toArray, List.set_cons_zero, List.set_cons_succ]
      refine wpAnyH_take (i := 12) (v := (.string p.name)) rfl (by kernel_rfl) (by kernel_rfl) (by kernel_rfl) (fun _ _ _ h => h) (Or.inl ⟨by rfl, ?_⟩) hHeld ?_
      · intro w hSw; (try dsimp only at hSw); simp only [List.getElem_toArray, List.getElem_cons_zero, List.getElem_cons_succ]; go_simp
      simp only [List.getElem_toArray, List.getElem_cons_zero, List.getElem_cons_succ, Act.put, List.setIfInBounds_toArray, List.set_cons_zero, List.set_cons_succ]
      refine wpAnyH_take (i := 13) (v := (.bool false)) rfl (by kernel_rfl) (by kernel_rfl) (by kernel_rfl) (fun _ _ _ h => h) (Or.inl ⟨by rfl, ?_⟩) hHeld ?_
      · intro w hSw; (try dsimp only at hSw); simp only [List.getElem_toArray, List.getElem_cons_zero, List.getElem_cons_succ]; go_simp
      simp only [List.getElem_toArray, List.getElem_cons_zero, List.getElem_cons_succ, Act.put, List.setIfInBounds_toArray, List.set_cons_zero, List.set_cons_succ]
      refine wpAnyH_done (by kernel_rfl) ?_ _
      have k0 : wr.drew.cell? ⟨b, off + j * 6, none⟩ = some (.string p.name) := HC13.out.2
      have HJd : Hid (Below w6.heap.size w6 wr.drew) := HJ.out.drew
      have HB4d : Hid (Below w4.heap.size w4 wr.drew) := HB4r.out.drew
      have HB0d : Hid (Below w.heap.size w wr.drew) := HB0r.out.drew
      have HUS : Hid _ := users_any a (.slice (some ⟨b, off, none⟩) l.length pc) l wr.drew p.name (HT.out _ HB0d.out) (HP.out _ HB4d.out) (by omega) (HNS.out _ HPM.out)
      obtain ⟨wd, Hwd⟩ : ∃ wd, Hid (wd = wr.drew) := ⟨_, (rfl : wr.drew = _)⟩
      rw [← Hwd.out] at k0 HJd HB4d HB0d HUS ⊢
      clear hx1 hx2 hz0 hz1 HC13 hne HJ HB4r HB0r
      go_wp2_with fail
      refine Calls.mono HUS.out ?_
      clear HUS
      rintro e wu ⟨hbu, ⟨f, ev, hk2, _⟩ | ⟨_, u, va, vc, rfl, ⟨hup, _⟩, hOu⟩⟩
      · rw [HKN.out _ HPM.out] at hk2; cases hk2
      have HUP : Hid (u.Perm (lf l (usesB p.name))) := hup
      have hul : u.length ≤ 15 := by have := hup.length_eq; have := lf_len l (usesB p.name); omega
      have HBu : Hid (Below wd.heap.size wd wu) := hbu
      have HUT : Hid (∀ W, Below wu.heap.size wu W → Texts W (.slice va u.length vc) u) := fun W hb => hOu.texts.below hb
      have HB4u : Hid (Below w4.heap.size w4 wu) := HB4d.out.trans (HBu.out.mono HB4d.out.size)
      have HB0u : Hid (Below w.heap.size w wu) := HB0d.out.trans (HBu.out.mono HB0d.out.size)
      have k0u : wu.cell? ⟨b, off + j * 6, none⟩ = some (.string p.name) := (HBu.out.cell (p := ⟨b, off + j * 6, none⟩) (lt_of_cell k0)).trans k0
      obtain ⟨W1, hW1⟩ : ∃ W1, W1 = wu.alloc (.cells #[.string p.name] 9) := ⟨_, rfl⟩
      have hbW : Below wu.heap.size wu W1 := by rw [hW1]; exact (Below.refl _ _).alloc (Nat.le_refl _) _
      have qW : W1.heap[wu.heap.size]? = some (.cells #[.string p.name] 9 (0, 0)) := by rw [hW1]; exact heap_alloc_last _ _
      have HB4W : Hid (Below w4.heap.size w4 W1) := HB4u.out.trans (hbW.mono HB4u.out.size)
      have HB0W : Hid (Below w.heap.size w W1) := HB0u.out.trans (hbW.mono HB0u.out.size)
      have HBuW : Hid (Below wu.heap.size wu W1) := hbW
      have HCL : Hid _ := closure_any a (.slice (some ⟨b, off, none⟩) l.length pc) (.slice (some ⟨wu.heap.size, 0, none⟩) 1 1) l [p.name] W1 (HT.out _ HB0W.out) (HP.out _ HB4W.out) (by omega) (one_text qW 1) (fun y hy => by rw [List.mem_singleton.1 hy]; exact HNS.out _ HPM.out) (by simp)
      have HW1 : Hid (W1 = wu.alloc (.cells #[.string p.name] 9)) := hW1
      clear hup hbu hOu k0 hW1 hbW qW
      go_wp2_with fail
      rw [← HW1.out]
      refine Calls.mono HCL.out ?_
      clear HCL
      rintro e wm ⟨hbm, ⟨f, ev, hk2, _⟩ | ⟨_, m, ma, mc, rfl, hclm, hOm⟩⟩
      · rw [HKN.out _ HPM.out] at hk2; cases hk2
      have HCM : Hid (IsCl l [p.name] m) := hclm
      have hml : m.length ≤ 15 := by have := closed_sum hclm; omega
      have HBm : Hid (Below W1.heap.size W1 wm) := hbm
      have HMT : Hid (∀ W, Below wm.heap.size wm W → Texts W (.slice ma m.length mc) m) := fun W hb => hOm.texts.below hb
      have HBum : Hid (Below wu.heap.size wu wm) := HBuW.out.trans (HBm.out.mono HBuW.out.size)
      have HB4m : Hid (Below w4.heap.size w4 wm) := HB4W.out.trans (HBm.out.mono HB4W.out.size)
      have HB0m : Hid (Below w.heap.size w wm) := HB0W.out.trans (HBm.out.mono HB0W.out.size)
      have HB6m : Hid (Below w6.heap.size w6 wm) := HJd.out.trans ((HBu.out.trans (HBum.out.mono HBu.out.size)).mono HJd.out.size)
      have k0m : wm.cell? ⟨b, off + j * 6, none⟩ = some (.string p.name) := (HBum.out.cell (p := ⟨b, off + j * 6, none⟩) (lt_of_cell k0u)).trans k0u
      have HIT : Hid _ := inTexts_any p.name (.slice ma m.length mc) m wm hOm.texts (by omega)
      rw [memB_iff.2 ((hclm.mem p.name).2 (need_sub l (by simp)))] at HIT
      clear hclm hbm hOm k0u
      go_wp2_with fail
      refine Calls.mono HIT.out ?_
      clear HIT
      rintro e wy ⟨rfl, rfl⟩
      go_wp2_with fail
      clear k0m
      go_loopw [12] (fun i wx => ∃ k : Nat, k ≤ l.length ∧ i = .int .i64 k ∧ Hid (Below wy.heap.size wy wx)) (fun i _ => l.length - (intOf i).toNat)
      case atStart => exact ⟨0, Nat.zero_le _, rfl, Below.refl _ _⟩
      case round =>
        obtain ⟨k, hk, rfl, HK⟩ := hrel
        rename World => wx
        have HB4x : Hid (Below w4.heap.size w4 wx) := HB4m.out.trans (HK.out.mono HB4m.out.size)
        have HB0x : Hid (Below w.heap.size w wx) := HB0m.out.trans (HK.out.mono HB0m.out.size)
        by_cases hltk : k < l.length
        · obtain ⟨q, hq⟩ : ∃ q, l[k]? = some q := ⟨l[k], List.getElem?_eq_getElem hltk⟩
          have HQM : Hid (q.name ∈ l.map Pk.name) := List.mem_map_of_mem (List.mem_of_getElem? hq)
          have HQL : Hid (q ∈ l) := List.mem_of_getElem? hq
          obtain ⟨b', off', ua, uc, e, k0, k1, kt⟩ := pks_at (HP.out wx.drew HB4x.out.drew) hq
          simp only [Option.some.injEq, Addr.mk.injEq, and_true] at e
          obtain ⟨rfl, rfl⟩ := e
          obtain ⟨b'', off'', _, _, e, m0, _, _⟩ := pks_at (HP.out wx.drew HB4x.out.drew) HPJ.out
          simp only [Option.some.injEq, Addr.mk.injEq, and_true] at e
          obtain ⟨rfl, rfl⟩ := e
          have hk0 : (0 : Int) ≤ (k : Int) := by omega
          have hk1 : (k : Int) < (l.length : Int) := by omega
          have HC22 : Hid (wx.drew.cell? ⟨b, off + j * 6, none⟩ = some (.string p.name) ∧ wx.drew.cell? ⟨b, off + k * 6 + 1, none⟩ = some (.slice ua q.refs.length uc)) := ⟨m0, k1⟩
          have HQ0 : Hid (wx.drew.cell? ⟨b, off + k * 6, none⟩ = some (.string q.name)) := k0
          have HQT : Hid (Texts wx.drew (.slice ua q.refs.length uc) q.refs) := kt
          have hql : q.refs.length ≤ 25 := (HSM.out.of q HQL.out).2.1
          obtain ⟨us, HUSE⟩ : ∃ us : Bool, Hid (us = (!(decide (k = j)) && memB p.name q.refs)) := ⟨_, (rfl : (!(decide (k = j)) && memB p.name q.refs) = _)⟩
          have HUM : Hid (memB q.name u = us) := by
            show _ = _
            rw [HUSE.out, Bool.eq_iff_iff, memB_iff, HUP.out.mem_iff, users_mem HWL.out HPJ.out hq]
            simp [memB_iff]
          have HXU : Hid (us = true → p.name ∈ q.refs) := fun h => by rw [HUSE.out, Bool.and_eq_true] at h; exact memB_iff.1 h.2
          clear hq k0 k1 kt m0
          go_upto_region 22 with fail
          have HC22a : Hid (wx.drew.cell? ⟨b, off + j * 6, none⟩ = some (.string p.name)) := HC22.out.1
          have HIT2 : Hid _ := inTexts_any p.name (.slice ua q.refs.length uc) q.refs wx.drew HQT.out (by omega)
          go_cut [13] (fun cc wz => cc = .bool us ∧ wz = wx.drew)
          case first =>
            by_cases hkj : k = j
            · have h1 : ((k : Int) == (j : Int)) = true := by simp; omega
              have HF : Hid (us = false) := show _ = _ by rw [HUSE.out, hkj]; simp
              have HKJ : Hid (k = j) := hkj
              clear hkj h1
              refine wp_region_held_drew (S := fun w' => w'.cell? ⟨b, off + j * 6, none⟩ = some (.string p.name)) (by kernel_rfl) (HC22a.out) (fun hHeld => ?_)
              refine wpAnyH_take (i := 0) (v := (.int .i64 (k : Int))) rfl (by kernel_rfl) (by kernel_rfl) (by kernel_rfl) (fun _ _ _ h => h) (Or.inl ⟨by rfl, ?_⟩) hHeld ?_
              · intro w hSw; (try dsimp only at hSw); simp only [List.getElem_toArray, List.getElem_cons_zero]; go_simp
              simp only [List.getElem_toArray, List.getElem_cons_zero, Act.put, List.setIfInBounds_toArray, List.set_cons_zero, List.set_cons_succ]
              refine wpAnyH_take (i := 1) (v := (.int .i64 (j : Int))) rfl (by kernel_rfl) (by kernel_rfl) (by kernel_rfl) (fun _ _ _ h => h) (Or.inl ⟨by rfl, ?_⟩) hHeld ?_
              · intro w hSw; (try dsimp only at hSw); simp only [List.getElem_toArray, List.getElem_cons_zero, List.getElem_cons_succ]; go_simp
              simp only [List.getElem_toArray, List.getElem_cons_zero, List.getElem_cons_succ, Act.put, List.setIfInBounds_toArray, List.set_cons_zero, List.set_cons_succ]
              refine wpAnyH_take (i := 2) (v := (.bool false)) rfl (by kernel_rfl) (by kernel_rfl) (by kernel_rfl) (fun _ _ _ h => h) (Or.inl ⟨by rfl, ?_⟩) hHeld ?_
              · intro w hSw; (try dsimp only at hSw); simp only [List.getElem_toArray, List.getElem_cons_zero, List.getElem_cons_succ]; go_simp; have := HKJ.out; omega
              simp only [List.getElem_toArray, List.getElem_cons_zero, List.getElem_cons_succ, Act.put, List.setIfInBounds_toArray, List.set_cons_zero, List.set_cons_succ]
              refine wpAnyH_take (i := 3) (v := (.bool false)) rfl (by kernel_rfl) (by kernel_rfl) (by kernel_rfl) (fun _ _ _ h => h) (Or.inl ⟨by rfl, ?_⟩) hHeld ?_
              · intro w hSw; (try dsimp only at hSw); simp only [List.getElem_toArray, List.getElem_cons_zero, List.getElem_cons_succ]; go_simp
              simp only [List.getElem_toArray, List.getElem_cons_zero, List.getElem_cons_succ, Act.put, List.setIfInBounds_toArray, List.set_cons_zero, List.set_cons_succ]
              refine wpAnyH_take (i := 4) (v := undef) rfl (by kernel_rfl) (by kernel_rfl) (by kernel_rfl) (fun _ _ _ h => h) (Or.inr ⟨by rfl, rfl⟩) hHeld ?_
              simp only [List.getElem_toArray, List.getElem_cons_zero, List.getElem_cons_succ, Act.put, List.setIfInBounds_toArray, List.set_cons_zero, List.set_cons_succ]
              refine wpAnyH_take (i := 5) (v := undef) rfl (by kernel_rfl) (by kernel_rfl) (by kernel_rfl) (fun _ _ _ h => h) (Or.inr ⟨by rfl, rfl⟩) hHeld ?_
              simp only [List.getElem_toArray, List.getElem_cons_zero, List.getElem_cons_succ, Act.put, List.setIfInBounds_toArray, List.set_cons_zero, List.set_cons_succ]
              refine wpAnyH_take (i := 6) (v := undef) rfl (by kernel_rfl) (by kernel_rfl) (by kernel_rfl) (fun _ _ _ h => h) (Or.inr ⟨by rfl, rfl⟩) hHeld ?_
              simp only [List.getElem_toArray, List.getElem_cons_zero, List.getElem_cons_succ, Act.put, List.setIfInBounds_toArray, List.set_cons_zero, List.set_cons_succ]
              refine wpAnyH_take (i := 7) (v := undef) rfl (by kernel_rfl) (by kernel_rfl) (by kernel_rfl) (fun _ _ _ h => h) (Or.inr ⟨by rfl, rfl⟩) hHeld ?_
              simp only [List.getElem_toArray, List.getElem_cons_zero, List.getElem_cons_succ, Act.put, List.setIfInBounds_toArray, List.set_cons_zero, List.set_cons_succ]
              refine wpAnyH_take (i := 8) (v := undef) rfl (by kernel_rfl) (by kernel_rfl) (by kernel_rfl) (fun _ _ _ h => h) (Or.inr ⟨by rfl, rfl⟩) hHeld ?_
              simp only [List.getElem_toArray, List.getElem_cons_zero, List.getElem_cons_succ, Act.put, List.setIfInBounds_toArray, List.set_cons_zero, List.set_cons_succ]
              refine wpAnyH_take (i := 9) (v := undef) rfl (by kernel_rfl) (by kernel_rfl) (by kernel_rfl) (fun _ _ _ h => h) (Or.inr ⟨by rfl, rfl⟩) hHeld ?_
              simp only [List.getElem_toArray, List.getElem_cons_zero, List.getElem_cons_succ, Act.put, List.setIfInBounds_toArray, List.set_cons_zero, List.set_cons_succ]
              refine wpAnyH_take (i := 10) (v := undef) rfl (by kernel_rfl) (by kernel_rfl) (by kernel_rfl) (fun _ _ _ h => h) (Or.inr ⟨by rfl, rfl⟩) hHeld ?_
              simp only [List.getElem_toArray, List.getElem_cons_zero, List.getElem_cons_succ, Act.put, List.setIfInBounds_toArray, List.set_cons_zero, List.set_cons_succ]
              refine wpAnyH_take (i := 11) (v := undef) rfl (by kernel_rfl) (by kernel_rfl) (by kernel_rfl) (fun _ _ _ h => h) (Or.inr ⟨by rfl, rfl⟩) hHeld ?_
              simp only [List.getElem_toArray, List.getElem_cons_zero, List.getElem_cons_succ, Act.put, List.setIfInBounds_toArray, List.set_cons_zero, List.set_cons_succ]
              refine wpAnyH_take (i := 12) (v := undef) rfl (by kernel_rfl) (by kernel_rfl) (by kernel_rfl) (fun _ _ _ h => h) (Or.inr ⟨by rfl, rfl⟩) hHeld ?_
              simp only [List.getElem_toArray, List.getElem_cons_zero, List.getElem_cons_succ, Act.put, List.setIfInBounds_toArray, List.set_cons_zero, List.set_cons_succ]
              refine wpAnyH_take (i := 13) (v := undef) rfl (by kernel_rfl) (by kernel_rfl) (by kernel_rfl) (fun _ _ _ h => h) (Or.inr ⟨by rfl, rfl⟩) hHeld ?_
              simp only [List.getElem_toArray, List.getElem_cons_zero, List.getElem_cons_succ, Act.put, List.setIfInBounds_toArray, List.set_cons_zero, List.set_cons_succ]
              refine wpAnyH_take (i := 14) (v := undef) rfl (by kernel_rfl) (by kernel_rfl) (by kernel_rfl) (fun _ _ _ h => h) (Or.inr ⟨by rfl, rfl⟩) hHeld ?_
              simp only [List.getElem_toArray, List.getElem_cons_zero, List.getElem_cons_succ, Act.put, List.setIfInBounds_toArray, List.set_cons_zero, List.set_cons_succ]
              refine wpAnyH_take (i := 15) (v := (.bool false)) rfl (by kernel_rfl) (by kernel_rfl) (by kernel_rfl) (fun _ _ _ h => h) (Or.inl ⟨by rfl, ?_⟩) hHeld ?_
              · intro w hSw; (try dsimp only at hSw); simp only [List.getElem_toArray, List.getElem_cons_zero, List.getElem_cons_succ]; go_simp
              simp only [List.getElem_toArray, List.getElem_cons_zero, List.getElem_cons_succ, Act.put, List.setIfInBounds_toArray, List.set_cons_zero, List.set_cons_succ]
              refine wpAnyH_take (i := 16) (v := (.bool false)) rfl (by kernel_rfl) (by kernel_rfl) (by kernel_rfl) (fun _ _ _ h => h) (Or.inl ⟨by rfl, ?_⟩) hHeld ?_
              · intro w hSw; (try dsimp only at hSw); simp only [List.getElem_toArray, List.getElem_cons_zero, List.getElem_cons_succ]; go_simp
              simp only [List.getElem_toArray, List.getElem_cons_zero, List.getElem_cons_succ, Act.put, List.setIfInBounds_toArray, List.set_cons_zero, List.set_cons_succ]
              refine wpAnyH_done (by kernel_rfl) ?_ _
              go_wp2_with fail
              go_meet
              case rel => exact ⟨by rw [HF.out], rfl⟩
            · have h1 : ((k : Int) == (j : Int)) = false := by simp; omega
              have HF : Hid (us = memB p.name q.refs) := show _ = _ by rw [HUSE.out, decide_eq_false hkj]; rfl
              have HKJ : Hid (¬ k = j) := hkj
              clear hkj h1
              refine wp_region_held_drew (S := fun w' => w'.cell? ⟨b, off + j * 6, none⟩ = some (.string p.name) ∧ w'.cell? ⟨b, off + k * 6 + 1, none⟩ = some (.slice ua q.refs.length uc)) (by kernel_rfl) (HC22.out) (fun hHeld => ?_)
              refine wpAnyH_take (i := 0) (v := (.int .i64 (k : Int))) rfl (by kernel_rfl) (by kernel_rfl) (by kernel_rfl) (fun _ _ _ h => h) (Or.inl ⟨by rfl, ?_⟩) hHeld ?_
              · intro w hSw; (try dsimp only at hSw); simp only [List.getElem_toArray, List.getElem_cons_zero]; go_simp
              simp only [List.getElem_toArray, List.getElem_cons_zero, Act.put, List.setIfInBounds_toArray, List.set_cons_zero, List.set_cons_succ]
              refine wpAnyH_take (i := 1) (v := (.int .i64 (j : Int))) rfl (by kernel_rfl) (by kernel_rfl) (by kernel_rfl) (fun _ _ _ h => h) (Or.inl ⟨by rfl, ?_⟩) hHeld ?_
              · intro w hSw; (try dsimp only at hSw); simp only [List.getElem_toArray, List.getElem_cons_zero, List.getElem_cons_succ]; go_simp
              simp only [List.getElem_toArray, List.getElem_cons_zero, List.getElem_cons_succ, Act.put, List.setIfInBounds_toArray, List.set_cons_zero, List.set_cons_succ]
              refine wpAnyH_take (i := 2) (v := (.bool true)) rfl (by kernel_rfl) (by kernel_rfl) (by kernel_rfl) (fun _ _ _ h => h) (Or.inl ⟨by rfl, ?_⟩) hHeld ?_
              · intro w hSw; (try dsimp only at hSw); simp only [List.getElem_toArray, List.getElem_cons_zero, List.getElem_cons_succ]; go_simp; have := HKJ.out; omega
              simp only [List.getElem_toArray, List.getElem_cons_zero, List.getElem_cons_succ, Act.put, List.setIfInBounds_toArray, List.set_cons_zero, List.set_cons_succ]
              refine wpAnyH_take (i := 3) (v := (.bool true)) rfl (by kernel_rfl) (by kernel_rfl) (by kernel_rfl) (fun _ _ _ h => h) (Or.inl ⟨by rfl, ?_⟩) hHeld ?_
              · intro w hSw; (try dsimp only at hSw); simp only [List.getElem_toArray, List.getElem_cons_zero, List.getElem_cons_succ]; go_simp
              simp only [List.getElem_toArray, List.getElem_cons_zero, List.getElem_cons_succ, Act.put, List.setIfInBounds_toArray, List.set_cons_zero, List.set_cons_succ]
              refine wpAnyH_take (i := 4) (v := (.slice (some ⟨b, off, none⟩) l.length pc)) rfl (by kernel_rfl) (by kernel_rfl) (by kernel_rfl) (fun _ _ _ h => h) (Or.inl ⟨by rfl, ?_⟩) hHeld ?_
              · intro w hSw; (try dsimp only at hSw); simp only [List.getElem_toArray, List.getElem_cons_zero, List.getElem_cons_succ]; go_simp
              simp only [List.getElem_toArray, List.getElem_cons_zero, List.getElem_cons_succ, Act.put, List.setIfInBounds_toArray, List.set_cons_zero, List.set_cons_succ]
              refine wpAnyH_take (i := 5) (v := (.int .i64 (j : Int))) rfl (by kernel_rfl) (by kernel_rfl) (by kernel_rfl) (fun _ _ _ h => h) (Or.inl ⟨by rfl, ?_⟩) hHeld ?_
              · intro w hSw; (try dsimp only at hSw); simp only [List.getElem_toArray, List.getElem_cons_zero, List.getElem_cons_succ]; go_simp
              simp only [List.getElem_toArray, List.getElem_cons_zero, List.getElem_cons_succ, Act.put, List.setIfInBounds_toArray, List.set_cons_zero, List.set_cons_succ]
              refine wpAnyH_take (i := 6) (v := (.pointer (some ⟨b, off + j * 6, none⟩))) rfl (by kernel_rfl) (by kernel_rfl) (by kernel_rfl) (fun _ _ _ h => h) (Or.inl ⟨by rfl, ?_⟩) hHeld ?_
              · intro w hSw; (try dsimp only at hSw); simp only [List.getElem_toArray, List.getElem_cons_zero, List.getElem_cons_succ]; go_simp
              simp only [List.getElem_toArray, List.getElem_cons_zero, List.getElem_cons_succ, Act.put, List.setIfInBounds_toArray, List.set_cons_zero, List.set_cons_succ]
              refine wpAnyH_take (i := 7) (v := (.pointer (some ⟨b, off + j * 6, none⟩))) rfl (by kernel_rfl) (by kernel_rfl) (by kernel_rfl) (fun _ _ _ h => h) (Or.inl ⟨by rfl, ?_⟩) hHeld ?_
              · intro w hSw; (try dsimp only at hSw); simp only [List.getElem_toArray, List.getElem_cons_zero, List.getElem_cons_succ]; go_simp
              simp only [List.getElem_toArray, List.getElem_cons_zero, List.getElem_cons_succ, Act.put, List.setIfInBounds_toArray, List.set_cons_zero, List.set_cons_succ]
              refine wpAnyH_take (i := 8) (v := (.string p.name)) rfl (by kernel_rfl) (by kernel_rfl) (by kernel_rfl) (fun _ _ _ h => h) (Or.inl ⟨by rfl, ?_⟩) hHeld ?_
              · intro w hSw; (try dsimp only at hSw); simp only [List.getElem_toArray, List.getElem_cons_zero, List.getElem_cons_succ]; go_simp
              simp only [List.getElem_toArray, List.getElem_cons_zero, List.getElem_cons_succ, Act.put, List.setIfInBounds_toArray, List.set_cons_zero, List.set_cons_succ]
              refine wpAnyH_take (i := 9) (v := (.slice (some ⟨b, off, none⟩) l.length pc)) rfl (by kernel_rfl) (by kernel_rfl) (by kernel_rfl) (fun _ _ _ h => h) (Or.inl ⟨by rfl, ?_⟩) hHeld ?_
              · intro w hSw; (try dsimp only at hSw); simp only [List.getElem_toArray, List.getElem_cons_zero, List.getElem_cons_succ]; go_simp
              simp only [List.getElem_toArray, List.getElem_cons_zero, List.getElem_cons_succ, Act.put, List.setIfInBounds_toArray, List.set_cons_zero, List.set_cons_succ]
              refine wpAnyH_take (i := 10) (v := (.int .i64 (k : Int))) rfl (by kernel_rfl) (by kernel_rfl) (by kernel_rfl) (fun _ _ _ h => h) (Or.inl ⟨by rfl, ?_⟩) hHeld ?_
              · intro w hSw; (try dsimp only at hSw); simp only [List.getElem_toArray, List.getElem_cons_zero, List.getElem_cons_succ]; go_simp
              simp only [List.getElem_toArray, List.getElem_cons_zero, List.getElem_cons_succ, Act.put, List.setIfInBounds_toArray, List.set_cons_zero, List.set_cons_succ]
              refine wpAnyH_take (i := 11) (v := (.pointer (some ⟨b, off + k * 6, none⟩))) rfl (by kernel_rfl) (by kernel_rfl) (by kernel_rfl) (fun _ _ _ h => h) (Or.inl ⟨by rfl, ?_⟩) hHeld ?_
              · intro w hSw; (try dsimp only at hSw); simp only [List.getElem_toArray, List.getElem_cons_zero, List.getElem_cons_succ]; go_simp
              simp only [List.getElem_toArray, List.getElem_cons_zero, List.getElem_cons_succ, Act.put, List.setIfInBounds_toArray, List.set_cons_zero, List.set_cons_succ]
              refine wpAnyH_take (i := 12) (v := (.pointer (some ⟨b, off + k * 6 + 1, none⟩))) rfl (by kernel_rfl) (by kernel_rfl) (by kernel_rfl) (fun _ _ _ h => h) (Or.inl ⟨by rfl, ?_⟩) hHeld ?_
              · intro w hSw; (try dsimp only at hSw); simp only [List.getElem_toArray, List.getElem_cons_zero, List.getElem_cons_succ]; go_simp
              simp only [List.getElem_toArray, List.getElem_cons_zero, List.getElem_cons_succ, Act.put, List.setIfInBounds_toArray, List.set_cons_zero, List.set_cons_succ]
              refine wpAnyH_take (i := 13) (v := (.slice ua q.refs.length uc)) rfl (by kernel_rfl) (by kernel_rfl) (by kernel_rfl) (fun _ _ _ h => h) (Or.inl ⟨by rfl, ?_⟩) hHeld ?_
              · intro w hSw; (try dsimp only at hSw); simp only [List.getElem_toArray, List.getElem_cons_zero, List.getElem_cons_succ]; go_simp
              simp only [List.getElem_toArray, List.getElem_cons_zero, List.getElem_cons_succ, Act.put, List.setIfInBounds_toArray, List.set_cons_zero, List.set_cons_succ]
              refine wpAnyH_ready (rs := [14]) (by kernel_rfl) (by simp) ?_
              refine AllReadyH.cons rfl (fun K' hK => ?_) AllReadyH.nil
              simp only [List.getElem_toArray, List.getElem_cons_zero, List.getElem_cons_succ]
              go_simp
              refine Calls.mono (HIT2.out) ?_
              rintro e wx ⟨rfl, rfl⟩
              go_wp2_with fail
              refine hK.out _ _ (HC22.out) (fun hHeld' => ?_)
              clear hK K' hHeld
              have hHeld := hHeld'
              clear hHeld'
              refine wpAnyH_take (i := 15) (v := (.bool (memB p.name q.refs))) rfl (by kernel_rfl) (by kernel_rfl) (by kernel_rfl) (fun _ _ _ h => h) (Or.inl ⟨by rfl, ?_⟩) hHeld ?_
              · intro w hSw; (try dsimp only at hSw); simp only [List.getElem_toArray, List.getElem_cons_zero, List.getElem_cons_succ]; go_simp
              simp only [List.getElem_toArray, List.getElem_cons_zero, List.getElem_cons_succ, Act.put, List.setIfInBounds_toArray, List.set_cons_zero, List.set_cons_succ]
              refine wpAnyH_take (i := 16) (v := (.bool (memB p.name q.refs))) rfl (by kernel_rfl) (by kernel_rfl) (by kernel_rfl) (fun _ _ _ h => h) (Or.inl ⟨by rfl, ?_⟩) hHeld ?_
              · intro w hSw; (try dsimp only at hSw); simp only [List.getElem_toArray, List.getElem_cons_zero, List.getElem_cons_succ]; go_simp
              simp only [List.getElem_toArray, List.getElem_cons_zero, List.getElem_cons_succ, Act.put, List.setIfInBounds_toArray, List.set_cons_zero, List.set_cons_succ]
              refine wpAnyH_done (by kernel_rfl) ?_ _
              go_wp2_with fail
              go_meet
              case rel => exact ⟨by rw [HF.out], rfl⟩
          case rest =>
          obtain ⟨rfl, rfl⟩ := hcut
          have k0x := HQ0.out
          have HXd : Hid (Below wy.heap.size wy wx.drew) := HK.out.drew
          have HB4y : Hid (Below w4.heap.size w4 wx.drew) := HB4x.out.drew
          have HB0y : Hid (Below w.heap.size w wx.drew) := HB0x.out.drew
          have HIT3 : Hid _ := inTexts_any q.name (.slice va u.length vc) u wx.drew (HUT.out _ (HBum.out.trans (HXd.out.mono HBum.out.size))) (by omega)
          rw [HUM.out] at HIT3
          obtain ⟨wq, Hwq⟩ : ∃ wq, Hid (wq = wx.drew) := ⟨_, (rfl : wx.drew = _)⟩
          rw [← Hwq.out] at k0x HXd HB4y HB0y HIT3 ⊢
          clear HC22 HC22a HQ0 HQT HIT2 HK HB4x HB0x
          go_wp2_with fail
          refine Calls.mono HIT3.out ?_
          clear HIT3
          rintro e wz ⟨rfl, rfl⟩
          cases us with
          | false =>
            go_wp2_with fail
            go_roundw
            case rel => exact ⟨k + 1, by omega, by go_num, HXd⟩
            case measure => simp [intOf]; omega
          | true =>
          have HPQ : Hid (p.name ∈ q.refs) := HXU.out (by simp)
          obtain ⟨W2, hW2⟩ : ∃ W2, W2 = wz.alloc (.cells #[.string q.name] 9) := ⟨_, rfl⟩
          have hbW : Below wz.heap.size wz W2 := by rw [hW2]; exact (Below.refl _ _).alloc (Nat.le_refl _) _
          have qW : W2.heap[wz.heap.size]? = some (.cells #[.string q.name] 9 (0, 0)) := by rw [hW2]; exact heap_alloc_last _ _
          have HB4W2 : Hid (Below w4.heap.size w4 W2) := HB4y.out.trans (hbW.mono HB4y.out.size)
          have HB0W2 : Hid (Below w.heap.size w W2) := HB0y.out.trans (hbW.mono HB0y.out.size)
          have HBzW : Hid (Below wz.heap.size wz W2) := hbW
          have HCQ : Hid _ := closure_any a (.slice (some ⟨b, off, none⟩) l.length pc) (.slice (some ⟨wz.heap.size, 0, none⟩) 1 1) l [q.name] W2 (HT.out _ HB0W2.out) (HP.out _ HB4W2.out) (by omega) (one_text qW 1) (fun y hy => by rw [List.mem_singleton.1 hy]; exact HNS.out _ HQM.out) (by simp)
          have HW2 : Hid (W2 = wz.alloc (.cells #[.string q.name] 9)) := hW2
          clear hW2 hbW qW
          go_wp2_with fail
          rw [← HW2.out]
          refine Calls.mono HCQ.out ?_
          clear HCQ
          rintro e wn ⟨hbn, ⟨f, ev, hk2, _⟩ | ⟨_, c, ca, cc, rfl, hclc, hOc⟩⟩
          · rw [HKN.out _ HQM.out] at hk2; cases hk2
          have hcl : c.length ≤ 15 := by have := closed_sum hclc; omega
          have HSUB : Hid (∀ x ∈ m, memB x c = true) := fun x hx => memB_iff.2 (cl_user HWL.out HQL.out HPQ.out HCM.out hclc x hx)
          have HBn : Hid (Below W2.heap.size W2 wn) := hbn
          have HCT : Hid (∀ W, Below wn.heap.size wn W → Texts W (.slice ca c.length cc) c) := fun W hb => hOc.texts.below hb
          have HByn : Hid (Below wy.heap.size wy wn) := HXd.out.trans ((HBzW.out.trans (HBn.out.mono HBzW.out.size)).mono HXd.out.size)
          have HMC : Hid (∀ i x, m[i]? = some x → ∃ b off, ma = some ⟨b, off, none⟩ ∧ wn.cell? ⟨b, off + i, none⟩ = some (.string x)) := (texts_open (HMT.out wn HByn.out)).2
          clear hclc hbn hOc k0x
          go_wp2_with fail
          go_loop [16] (fun i => ∃ s : Nat, s ≤ m.length ∧ i = .int .i64 s) (fun i => m.length - (intOf i).toNat)
          case atStart => exact ⟨0, Nat.zero_le _, rfl⟩
          case round =>
            obtain ⟨s, hs, rfl⟩ := hrel
            by_cases hlts : s < m.length
            · obtain ⟨x, hx⟩ : ∃ x, m[s]? = some x := ⟨m[s], List.getElem?_eq_getElem hlts⟩
              obtain ⟨b5, o5, rfl, c5⟩ := HMC.out s x hx
              have HI5 : Hid _ := inTexts_any x (.slice ca c.length cc) c wn (HCT.out _ (Below.refl _ _)) (by omega)
              rw [HSUB.out x (List.mem_of_getElem? hx)] at HI5
              clear hx
              go_wp2_with fail
              refine Calls.mono HI5.out ?_
              clear HI5
              rintro e wt ⟨rfl, rfl⟩
              go_wp2_with fail
              go_round
              case rel => exact ⟨s + 1, by omega, by go_num⟩
              case measure => simp [intOf]; omega
            · have hge5 : ¬ (s : Int) < (m.length : Int) := by omega
              go_wp2_with fail
              go_roundw
              case rel => exact ⟨k + 1, by omega, by go_num, HByn⟩
              case measure => simp [intOf]; omega
        · have hge : ¬ (k : Int) < (l.length : Int) := by omega
          have HEND : Hid (Below w6.heap.size w6 wx) := HB6m.out.trans (HK.out.mono HB6m.out.size)
          go_wp2_with fail
          go_roundw
          case rel => exact ⟨j + 1, by omega, by go_num, HEND⟩
          case measure => simp [intOf]; omega
    · have hge : ¬ (j : Int) < (l.length : Int) := by omega
      have HDN : Hid (∀ x ∈ D, x ∈ l.map Pk.name) := by rw [HDE.out]; exact lf_names
      have HTX : Hid (Texts wr (.slice da D.length dc) D) := by have := HDT.out wr HJ.out; rw [← HDL.out] at this; exact this
      have HCL : Hid _ := closure_any a (.slice pa l.length pc) (.slice da D.length dc) l D wr (HT.out _ HB0r.out) (HP.out _ HB4r.out) (by omega) HTX.out (fun x hx => HNS.out x (HDN.out x hx)) (by have := HDL.out; omega)
      rw [HDL.out] at HCL
      go_wp2_with fail
      refine Calls.mono HCL.out ?_
      clear HCL
      rintro e wm ⟨hbm, ⟨f, ev, hk2, _⟩ | ⟨_, r, ra, rc, rfl, hclr, hOr⟩⟩
      · rw [knw_ok HWL.out HDN.out] at hk2; cases hk2
      have HCR : Hid (IsCl l D r) := hclr
      have HAL : Hid (r.length = l.length ∧ ∀ p ∈ l, p.name ∈ r) := by
        have h := HCR.out
        rw [HDE.out] at h
        exact cl_all h
      have HB0m : Hid (Below w.heap.size w wm) := HB0r.out.trans (hbm.mono HB0r.out.size)
      have HB4m : Hid (Below w4.heap.size w4 wm) := HB4r.out.trans (hbm.mono HB4r.out.size)
      rw [HAL.out.1] at hOr ⊢
      have HO : Hid (OwnS wm wr.heap.size (.slice ra l.length rc) r) := hOr
      clear hclr hbm hOr
      by_cases hl0 : l.length = 0
      · rw [hl0]
        have HB : Hid (Below w.heap.size w wm) := HB0m.out
        clear hge
        go_wp2_with fail
        go_ret
        exact ⟨rfl, HB.out⟩
      · obtain ⟨p, hp⟩ : ∃ p, l[0]? = some p := ⟨l[0]'(by omega), List.getElem?_eq_getElem _⟩
        obtain ⟨b, off, _, _, rfl, k0, _, _⟩ := pks_at (HP.out wm HB4m.out) hp
        have h0 : ((l.length : Int) == 0) = false := beq_eq_false_iff_ne.2 (by omega)
        have h01 : (0 : Int) < (l.length : Int) := by omega
        have HTR : Hid (TxR wm (.slice ra r.length rc) r) := by rw [HAL.out.1]; exact HO.out.txr
        have HWI : Hid _ := with_any p.name (.slice ra r.length rc) r wm HTR.out (by have := HAL.out.1; omega)
        rw [withR_there HCR.out.rise (HAL.out.2 p (List.mem_of_getElem? hp)), HAL.out.1] at HWI
        have HRT : Hid (Texts wm (.slice ra l.length rc) r) := HO.out.texts
        have hrl : r.length ≤ 15 := by have := HAL.out.1; omega
        have k0' : wm.cell? ⟨b, off, none⟩ = some (.string p.name) := by simpa using k0
        clear hp hge hl0 k0
        go_wp2_with fail
        refine Calls.mono HWI.out ?_
        clear HWI
        rintro e wo ⟨⟨xa, xc, rfl, htx⟩, hbo⟩
        have HST : Hid _ := sameTexts_any (.slice ra l.length rc) (.slice xa l.length xc) r r wo (HRT.out.below hbo) htx.1 (by omega)
        rw [textsEq_refl] at HST
        have HBo : Hid (Below w.heap.size w wo) := HB0m.out.trans (hbo.mono HB0m.out.size)
        clear htx hbo
        go_wp2_with fail
        refine Calls.mono HST.out ?_
        clear HST
        rintro e wz ⟨rfl, hbz⟩
        have HBz : Hid (Below w.heap.size w wz) := HBo.out.trans (hbz.mono HBo.out.size)
        clear hbz
        go_wp2_with fail
        go_ret
        exact ⟨rfl, HBz.out⟩
end Go.Proofs.YtlaenhohjcjilaaDoor
