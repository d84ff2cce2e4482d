/-
  The contract of dirs.each: it hands each file of a tree, with its path, to a function, and ends at the first error.
  Conditions: those that each states.
-/
import Derived.Test.YtcejpeohkgchdaaGreatDoorO03
import Derived.Deep.RegionHeld3
namespace Go.Proofs.YtcejpeohkgchdaaGreatDoor
open Go.RowKit

set_option maxRecDepth 100000 in
set_option maxHeartbeats 2000000 in
theorem each_need {g : ByteArray → Tree → Tree} {J : List (ByteArray × Tree) → World → Prop} {E : Value → World → Prop} {B0 : Nat} (c1 : Addr) (V : EVisit Tryz.prog 113 #[.pointer (some c1)] 316 g J E B0) : ∀ (d : Nat) (t : Tree) (p : ByteArray) (b o : Nat) (Q : Nat → Prop) (r : List (ByteArray × Tree)) (w : World) (cur : Array Value), J (filesL d p t ++ r) w → TreeIn w Q d b o t → RowT w b cur → o + 4 ≤ cur.size → ¬ Q b → GoodT d t → p.size + d * 20 ≤ 100000 → (∀ q, Q q → B0 ≤ q) → B0 ≤ b →
    Calls Tryz.prog 112 #[.pointer (some ⟨b, o, none⟩), .string p, .func (.func 113) #[] #[.pointer (some c1)]] w (EPost 316 Q d b o (mapL g d p t) r J E w) := by
  intro d
  induction d with
  | zero => intro t p b o Q r w cur _ h; exact h.elim
  | succ d ih =>
    intro t p b o Q r w cur hJ hT hR hRs hQb hG hp hQ0 hb0
    obtain ⟨ad, cap, hn, hl, hlc, hk⟩ := hT
    have n0 := hn.kind
    have n3 := hn.kids
    cases hf : isFile t with
    | true =>
      have hk0 : t.kids = [] := hG.1 hf
      have kf : (t.kind.toList == [102, 105, 108, 101]) = true := hf
      have e1 : filesL (d + 1) p t = [(topP p, t)] := by rw [filesL, if_pos hf]
      have e2 : mapL g (d + 1) p t = g (topP p) t := by rw [mapL, if_pos hf]
      rw [e1] at hJ
      rw [e2]
      rw [hk0] at hn
      have hv := V.call (topP p) t r w b o ad cap cur hJ hn hR hRs hf hk0 hb0
      have HFIN : Hid (∀ w', ((∃ ad' cap', NodeC w' b o (g (topP p) t) (.slice ad' 0 cap')) ∧ (g (topP p) t).kids = [] ∧ EFrame (fun _ => False) b o w w') → TreeIn w' Q (d + 1) b o (g (topP p) t) ∧ EFrame Q b o w w') := fun w' ⟨⟨ad', cap', hn'⟩, hk', hF⟩ => by
        refine ⟨⟨ad', cap', by rw [hk']; exact hn', by rw [hk']; simp, by rw [hk']; exact Nat.zero_le _, fun hne => absurd hk' hne⟩, ⟨fun k obj h1 h2 h3 _ => hF.tre k obj h1 h2 h3 (fun h => h), hF.blk⟩⟩
      have HV : Hid (Calls Tryz.prog 113 #[.string (topP p), .pointer (some ⟨b, o, none⟩), .pointer (some c1)] w fun e w' => (e = .returned .nilIface ∧ J r w' ∧ (∃ ad' cap', NodeC w' b o (g (topP p) t) (.slice ad' 0 cap')) ∧ (g (topP p) t).kids = [] ∧ EFrame (fun _ => False) b o w w') ∨ (∃ er, e = .returned (.iface 316 er) ∧ E (.iface 316 er) w')) := hv
      clear hv ih hJ hn hk hG hf e1 e2 hk0 hQ0 hb0
      cases hpe : p.toList.isEmpty with
      | true =>
        have et : topP p = slash := by unfold topP; rw [hpe]; rfl
        rw [et] at HV HFIN ⊢
        go_enter Tryz.func112, Tryz.ntmps112
        go_wp2_with fail
        refine Calls.mono HV.out ?_
        rintro e w2 hpost
        rcases hpost with ⟨rfl, hJ2, hT2⟩ | ⟨er, rfl, hE2⟩
        · go_wp2_with fail
          go_ret
          exact .inl ⟨rfl, hJ2, HFIN.out w2 hT2⟩
        · go_wp2_with fail
          go_ret
          exact .inr ⟨er, rfl, hE2⟩
      | false =>
        have et : topP p = p := by unfold topP; rw [hpe]; rfl
        rw [et] at HV HFIN ⊢
        go_enter Tryz.func112, Tryz.ntmps112
        go_wp2_with fail
        refine Calls.mono HV.out ?_
        rintro e w2 hpost
        rcases hpost with ⟨rfl, hJ2, hT2⟩ | ⟨er, rfl, hE2⟩
        · go_wp2_with fail
          go_ret
          exact .inl ⟨rfl, hJ2, HFIN.out w2 hT2⟩
        · go_wp2_with fail
          go_ret
          exact .inr ⟨er, rfl, hE2⟩
    | false =>
      have kf : (t.kind.toList == [102, 105, 108, 101]) = false := hf
      have e1 : filesL (d + 1) p t = t.kids.flatMap fun x => filesL d (p ++ slash ++ x.1) x.2 := by rw [filesL, if_neg (by rw [hf]; simp)]
      rw [e1] at hJ
      by_cases hk0 : t.kids = []
      · have HFIN : Hid (EPost 316 Q (d + 1) b o (mapL g (d + 1) p t) r J E w (.returned .nilIface) w) := by
          have e2 : mapL g (d + 1) p t = t := by
            rw [mapL, if_neg (by rw [hf]; simp), hk0]
            cases t; simp only at hk0; subst hk0; rfl
          rw [e2]
          refine .inl ⟨rfl, ?_, ⟨ad, cap, hn, hl, hlc, hk⟩, EFrame.refl _ _ _ _⟩
          rw [hk0] at hJ
          exact hJ
        rw [hk0] at n3
        clear hJ hn hk hG hf e1 ih hk0 hl hQ0 hb0
        go_enter Tryz.func112, Tryz.ntmps112
        go_wp2_with fail
        go_loopw [26] (fun i wr => i = .int .i64 0 ∧ wr = w) (fun _ _ => 0)
        case atStart => exact ⟨rfl, rfl⟩
        case round =>
          obtain ⟨rfl, rfl⟩ := hrel
          go_wp2_with fail
          go_ret
          exact HFIN.out
      · obtain ⟨gb, cur0, Qs, rfl, hg, hr0, hs0, hi0, hsub, hdis⟩ := hk hk0
        have HSUB : Hid (∀ i k, Qs i k → Q k ∧ k ≠ gb) := hsub
        have HDIS : Hid (∀ i j k, i ≠ j → Qs i k → ¬ Qs j k) := hdis
        have hgb : ¬ b = gb := fun e => hQb (by rw [e]; exact hg)
        have HEND : Hid (∀ wr, KidsAt g d p t.kids gb Qs t.kids.length wr → wr.heap[b]? = w.heap[b]? → TreeIn wr Q (d + 1) b o (mapL g (d + 1) p t)) := fun wr hK hb => hK.all (hn.same fun q _ _ => World.cell?_of_block hb) hl hlc hg hsub hdis hf
        have HFR0 : Hid (∀ (wr w' : World) (j : Nat), wr.heap[b]? = w.heap[b]? → EFrame Q b o w wr → EFrame (Qs j) gb (j * 5 + 1) wr.drew w' → EFrame Q b o w w') := fun wr w' j hb hF hF2 => (hF.trans (EFrame.of_eq (w' := wr.drew) rfl)).trans (hF2.kid hg (fun k h => (hsub j k h).1) hQb ⟨cur, by unfold RowT at hR ⊢; show wr.heap[b]? = _ ∨ wr.heap[b]? = _; rw [hb]; exact hR⟩)
        have HBL0 : Hid (∀ (wr w' : World) (j : Nat), wr.heap[b]? = w.heap[b]? → EFrame (Qs j) gb (j * 5 + 1) wr.drew w' → w'.heap[b]? = w.heap[b]?) := fun wr w' j hb hF2 => by
          rcases hR with hR | hR
          · rw [hR]; exact hF2.tre b _ (by show wr.heap[b]? = _; rw [hb]; exact hR) rfl hgb (fun h => hQb (hsub j b h).1)
          · rw [hR]; exact hF2.tre b _ (by show wr.heap[b]? = _; rw [hb]; exact hR) rfl hgb (fun h => hQb (hsub j b h).1)
        have HK0 : Hid (KidsAt g d p t.kids gb Qs 0 w) := ⟨cur0, hr0, hs0, fun i x hx => by rw [if_neg (by omega)]; exact hi0 i x hx⟩
        have HJ0 : Hid (J ((t.kids.drop 0).flatMap (fun x => filesL d (p ++ slash ++ x.1) x.2) ++ r) w) := hJ
        have HIH : Hid (∀ (wr : World) (j : Nat) (x : ByteArray × Tree), t.kids[j]? = some x → KidsAt g d p t.kids gb Qs j wr → J ((t.kids.drop j).flatMap (fun x => filesL d (p ++ slash ++ x.1) x.2) ++ r) wr → Calls Tryz.prog 112 #[.pointer (some ⟨gb, j * 5 + 1, none⟩), .string (p ++ slash ++ x.1), .func (.func 113) #[] #[.pointer (some c1)]] wr.drew (EPost 316 (Qs j) d gb (j * 5 + 1) (mapL g d (p ++ slash ++ x.1) x.2) ((t.kids.drop (j + 1)).flatMap (fun x => filesL d (p ++ slash ++ x.1) x.2) ++ r) J E wr.drew)) := fun wr j x hx hK hJj => by
          obtain ⟨c1, r1, s1, k1⟩ := hK.drew
          have hj := (List.getElem?_eq_some_iff.1 hx).1
          obtain ⟨_, _, kT⟩ := k1 j x hx
          rw [if_neg (by omega)] at kT
          have hGx := hG.2 x (List.mem_of_getElem? hx)
          refine ih x.2 (p ++ slash ++ x.1) gb (j * 5 + 1) (Qs j) _ wr.drew c1 ?_ kT (.inr r1) (by omega) (fun h => (hsub j gb h).2 rfl) hGx.2 (by simp only [ByteArray.size_append]; have e : slash.size = 1 := rfl; omega) (fun q h => hQ0 q (hsub j q h).1) (hQ0 gb hg)
          have e3 : t.kids.drop j = x :: t.kids.drop (j + 1) := by
            rw [List.drop_eq_getElem_cons hj]
            congr 1
            have := (List.getElem?_eq_some_iff.1 hx).2
            exact this
          rw [e3, List.flatMap_cons, List.append_assoc] at hJj
          exact V.drew _ _ hJj
        have HNM0 : Hid (∀ (wr : World) (j : Nat) (x : ByteArray × Tree), t.kids[j]? = some x → KidsAt g d p t.kids gb Qs j wr → wr.cell? ⟨gb, j * 5, none⟩ = some (.string x.1) ∧ x.1.size ≤ 12) := fun wr j x hx hK => by
          obtain ⟨c1, r1, s1, k1⟩ := hK
          exact ⟨(k1 j x hx).2.1, (hG.2 x (List.mem_of_getElem? hx)).1⟩
        have hnb : ∀ wr : World, wr.heap[b]? = w.heap[b]? → wr.cell? ⟨b, o + 3, none⟩ = some (.slice (some ⟨gb, 0, none⟩) t.kids.length cap) := fun wr hb => by rw [World.cell?_of_block (a := ⟨b, o + 3, none⟩) hb]; exact n3
        have HNB : Hid _ := hnb
        obtain ⟨L, HL⟩ : ∃ L, Hid (L = t.kids.length) := ⟨_, (rfl : t.kids.length = _)⟩
        rw [← HL.out] at n3 HNB hl
        clear hJ hn hk hG hf e1 ih hk0 hi0 hr0 hs0 hsub hdis hR hRs hnb V hg hQ0 hb0
        go_enter Tryz.func112, Tryz.ntmps112
        go_wp2_with fail
        go_loopw [26] (fun i wr => ∃ j : Nat, j ≤ L ∧ i = .int .i64 j ∧ J ((t.kids.drop j).flatMap (fun x => filesL d (p ++ slash ++ x.1) x.2) ++ r) wr ∧ EFrame Q b o w wr ∧ wr.heap[b]? = w.heap[b]? ∧ KidsAt g d p t.kids gb Qs j wr) (fun i _ => L - (intOf i).toNat)
        case atStart => exact ⟨0, Nat.zero_le _, rfl, HJ0.out, EFrame.refl _ _ _ _, rfl, HK0.out⟩
        case round =>
          obtain ⟨j, hj, rfl, hJj, hFj, hbj, hKj⟩ := hrel
          have c3 := HNB.out wr hbj
          by_cases hlt : j < L
          · obtain ⟨x, hx⟩ : ∃ x, t.kids[j]? = some x := ⟨_, List.getElem?_eq_getElem (by rw [← HL.out]; exact hlt)⟩
            have HXX : Hid (t.kids[j]? = some x) := hx
            have HCL := HIH.out wr j x hx hKj hJj
            have HCL : Hid (Calls Tryz.prog 112 #[.pointer (some ⟨gb, j * 5 + 1, none⟩), .string (p ++ slash ++ x.1), .func (.func 113) #[] #[.pointer (some c1)]] wr.drew (EPost 316 (Qs j) d gb (j * 5 + 1) (mapL g d (p ++ slash ++ x.1) x.2) ((t.kids.drop (j + 1)).flatMap (fun x => filesL d (p ++ slash ++ x.1) x.2) ++ r) J E wr.drew)) := HCL
            have HNM : Hid (wr.cell? ⟨gb, j * 5, none⟩ = some (.string x.1)) := (HNM0.out wr j x hx hKj).1
            have hx12 := (HNM0.out wr j x hx hKj).2
            have HFR : Hid (∀ w', EFrame (Qs j) gb (j * 5 + 1) wr.drew w' → EFrame Q b o w w') := fun w' hF => HFR0.out wr w' j hbj hFj hF
            have HBL : Hid (∀ w', EFrame (Qs j) gb (j * 5 + 1) wr.drew w' → w'.heap[b]? = w.heap[b]?) := fun w' hF => HBL0.out wr w' j hbj hF
            have HKD : Hid (KidsAt g d p t.kids gb Qs j wr.drew) := hKj.drew
            have hp2 : p.size + 1 + x.1.size ≤ 9223372036854775807 := by omega
            have hp1 : p.size + 1 ≤ 9223372036854775807 := by omega
            clear hx hKj hJj hFj hbj
            go_wp2_with fail
            have nm := HNM.out
            refine wp_region_held_drew (S := fun _ => True) (by kernel_rfl) (trivial) (fun hHeld => ?_)
            refine wpAnyH_take (i := 0) (v := (.pointer (some ⟨gb, j * 5, none⟩))) rfl (by kernel_rfl) (by kernel_rfl) (by kernel_rfl) (fun _ _ _ h => h) (Or.inl ⟨by rfl, ?_⟩) hHeld ?_
            · intro w hSw; (try dsimp only at hSw); simp only [List.getElem_toArray, List.getElem_cons_zero]; go_simp
            simp only [List.getElem_toArray, List.getElem_cons_zero, Act.put, List.setIfInBounds_toArray, List.set_cons_zero, List.set_cons_succ]
            refine wpAnyH_take (i := 1) (v := (.pointer (some ⟨gb, j * 5, none⟩))) rfl (by kernel_rfl) (by kernel_rfl) (by kernel_rfl) (fun _ _ _ h => h) (Or.inl ⟨by rfl, ?_⟩) hHeld ?_
            · intro w hSw; (try dsimp only at hSw); simp only [List.getElem_toArray, List.getElem_cons_zero, List.getElem_cons_succ]; go_simp
            simp only [List.getElem_toArray, List.getElem_cons_zero, List.getElem_cons_succ, Act.put, List.setIfInBounds_toArray, List.set_cons_zero, List.set_cons_succ]
            refine wpAnyH_take (i := 2) (v := (.pointer (some ⟨gb, j * 5 + 1, none⟩))) rfl (by kernel_rfl) (by kernel_rfl) (by kernel_rfl) (fun _ _ _ h => h) (Or.inl ⟨by rfl, ?_⟩) hHeld ?_
            · intro w hSw; (try dsimp only at hSw); simp only [List.getElem_toArray, List.getElem_cons_zero, List.getElem_cons_succ]; go_simp
            simp only [List.getElem_toArray, List.getElem_cons_zero, List.getElem_cons_succ, Act.put, List.setIfInBounds_toArray, List.set_cons_zero, List.set_cons_succ]
            refine wpAnyH_take (i := 3) (v := (.string p)) rfl (by kernel_rfl) (by kernel_rfl) (by kernel_rfl) (fun _ _ _ h => h) (Or.inl ⟨by rfl, ?_⟩) hHeld ?_
            · intro w hSw; (try dsimp only at hSw); simp only [List.getElem_toArray, List.getElem_cons_zero, List.getElem_cons_succ]; go_simp
            simp only [List.getElem_toArray, List.getElem_cons_zero, List.getElem_cons_succ, Act.put, List.setIfInBounds_toArray, List.set_cons_zero, List.set_cons_succ]
            refine wpAnyH_take (i := 4) (v := (.string (p ++ slash))) rfl (by kernel_rfl) (by kernel_rfl) (by kernel_rfl) (fun _ _ _ h => h) (Or.inl ⟨by rfl, ?_⟩) hHeld ?_
            · intro w hSw; (try dsimp only at hSw); simp only [List.getElem_toArray, List.getElem_cons_zero, List.getElem_cons_succ]; go_simp; rw [if_neg (by omega)]; rfl
            simp only [List.getElem_toArray, List.getElem_cons_zero, List.getElem_cons_succ, Act.put, List.setIfInBounds_toArray, List.set_cons_zero, List.set_cons_succ]
            refine wpAnyH_take (i := 5) (v := (.pointer (some ⟨gb, j * 5, none⟩))) rfl (by kernel_rfl) (by kernel_rfl) (by kernel_rfl) (fun _ _ _ h => h) (Or.inl ⟨by rfl, ?_⟩) hHeld ?_
            · intro w hSw; (try dsimp only at hSw); simp only [List.getElem_toArray, List.getElem_cons_zero, List.getElem_cons_succ]; go_simp
            simp only [List.getElem_toArray, List.getElem_cons_zero, List.getElem_cons_succ, Act.put, List.setIfInBounds_toArray, List.set_cons_zero, List.set_cons_succ]
            refine wpAnyH_take (i := 6) (v := (.pointer (some ⟨gb, j * 5, none⟩))) rfl (by kernel_rfl) (by kernel_rfl) (by kernel_rfl) (fun _ _ _ h => h) (Or.inl ⟨by rfl, ?_⟩) hHeld ?_
            · intro w hSw; (try dsimp only at hSw); simp only [List.getElem_toArray, List.getElem_cons_zero, List.getElem_cons_succ]; go_simp
            simp only [List.getElem_toArray, List.getElem_cons_zero, List.getElem_cons_succ, Act.put, List.setIfInBounds_toArray, List.set_cons_zero, List.set_cons_succ]
            refine wpAnyH_take (i := 7) (v := (.pointer (some ⟨gb, j * 5, none⟩))) rfl (by kernel_rfl) (by kernel_rfl) (by kernel_rfl) (fun _ _ _ h => h) (Or.inl ⟨by rfl, ?_⟩) hHeld ?_
            · intro w hSw; (try dsimp only at hSw); simp only [List.getElem_toArray, List.getElem_cons_zero, List.getElem_cons_succ]; go_simp
            simp only [List.getElem_toArray, List.getElem_cons_zero, List.getElem_cons_succ, Act.put, List.setIfInBounds_toArray, List.set_cons_zero, List.set_cons_succ]
            refine wpAnyH_take (i := 10) (v := (.func (.func 113) #[] #[.pointer (some c1)])) rfl (by kernel_rfl) (by kernel_rfl) (by kernel_rfl) (fun _ _ _ h => h) (Or.inl ⟨by rfl, ?_⟩) hHeld ?_
            · intro w hSw; (try dsimp only at hSw); simp only [List.getElem_toArray, List.getElem_cons_zero, List.getElem_cons_succ]; go_simp
            simp only [List.getElem_toArray, List.getElem_cons_zero, List.getElem_cons_succ, Act.put, List.setIfInBounds_toArray, List.set_cons_zero, List.set_cons_succ]
            refine wpAnyH_ready (rs := [8]) (by kernel_rfl) (by simp) ?_
            refine AllReadyH.cons rfl (fun K' hK => ?_) AllReadyH.nil
            go_wp2_with fail
            refine hK.out _ _ (trivial) (fun hHeld' => ?_)
            clear hK K' hHeld
            have hHeld := hHeld'
            clear hHeld'
            refine wpAnyH_take (i := 9) (v := (.string (p ++ slash ++ x.1))) rfl (by kernel_rfl) (by kernel_rfl) (by kernel_rfl) (fun _ _ _ h => h) (Or.inl ⟨by rfl, ?_⟩) hHeld ?_
            · intro w hSw; (try dsimp only at hSw); simp only [List.getElem_toArray, List.getElem_cons_zero, List.getElem_cons_succ]; go_simp; (have e : slash.size = 1 := rfl); omega
            simp only [List.getElem_toArray, List.getElem_cons_zero, List.getElem_cons_succ, Act.put, List.setIfInBounds_toArray, List.set_cons_zero, List.set_cons_succ]
            refine wpAnyH_ready (rs := [11]) (by kernel_rfl) (by simp) ?_
            refine AllReadyH.cons rfl (fun K' hK => ?_) AllReadyH.nil
            simp only [List.getElem_toArray, List.getElem_cons_zero, List.getElem_cons_succ]
            go_simp
            refine Calls.mono (HCL.out) ?_
            rintro e wx hpost
            rcases hpost with ⟨rfl, hJ2, hT2, hF2⟩ | ⟨er, rfl, hE2⟩
            · skip
              go_wp2_with fail
              refine hK.out _ _ (trivial) (fun hHeld' => ?_)
              clear hK K' hHeld
              have hHeld := hHeld'
              clear hHeld'
              refine wpAnyH_ready (rs := [12]) (by kernel_rfl) (by simp) ?_
              refine AllReadyH.cons rfl (fun K' hK => ?_) AllReadyH.nil
              simp only [List.getElem_toArray, List.getElem_cons_zero, List.getElem_cons_succ]
              go_simp
              go_wp2_with fail
              refine hK.out _ _ (trivial) (fun hHeld' => ?_)
              clear hK K' hHeld
              have hHeld := hHeld'
              clear hHeld'
              refine wpAnyH_done (by kernel_rfl) ?_ _
              go_wp2_with fail
              exact ⟨⟨j + 1, by omega, by simp, hJ2, HFR.out _ hF2, HBL.out _ hF2, HKD.out.next HXX.out hT2 hF2 (fun i k h => (HSUB.out i k h).2) HDIS.out⟩, by simp [intOf]; omega⟩
            · skip
              go_wp2_with fail
              refine hK.out _ _ (trivial) (fun hHeld' => ?_)
              clear hK K' hHeld
              have hHeld := hHeld'
              clear hHeld'
              refine wpAnyH_ready (rs := [12]) (by kernel_rfl) (by simp) ?_
              refine AllReadyH.cons rfl (fun K' hK => ?_) AllReadyH.nil
              simp only [List.getElem_toArray, List.getElem_cons_zero, List.getElem_cons_succ]
              go_simp
              go_wp2_with fail
              refine hK.out _ _ (trivial) (fun hHeld' => ?_)
              clear hK K' hHeld
              have hHeld := hHeld'
              clear hHeld'
              refine wpAnyH_done (by kernel_rfl) ?_ _
              go_wp2_with fail
              go_ret
              exact .inr ⟨er, rfl, hE2⟩
          · obtain rfl : j = L := by omega
            have HFIN : Hid (EPost 316 Q (d + 1) b o (mapL g (d + 1) p t) r J E w (.returned .nilIface) wr) := by
              refine .inl ⟨rfl, ?_, HEND.out wr (by rw [← HL.out]; exact hKj) hbj, hFj⟩
              rw [HL.out, List.drop_length] at hJj
              exact hJj
            clear hJj hFj hbj hKj
            go_wp2_with fail
            go_ret
            exact HFIN.out
set_option maxRecDepth 100000 in
set_option maxHeartbeats 2000000 in
theorem each_empty {g : ByteArray → Tree → Tree} {J : List (ByteArray × Tree) → World → Prop} {E : Value → World → Prop} {B0 : Nat} (c1 c2 : Addr) (V : EVisit Tryz.prog 114 #[.pointer (some c1), .pointer (some c2)] 316 g J E B0) : ∀ (d : Nat) (t : Tree) (p : ByteArray) (b o : Nat) (Q : Nat → Prop) (r : List (ByteArray × Tree)) (w : World) (cur : Array Value), J (filesL d p t ++ r) w → TreeIn w Q d b o t → RowT w b cur → o + 4 ≤ cur.size → ¬ Q b → GoodT d t → p.size + d * 20 ≤ 100000 → (∀ q, Q q → B0 ≤ q) → B0 ≤ b →
    Calls Tryz.prog 112 #[.pointer (some ⟨b, o, none⟩), .string p, .func (.func 114) #[] #[.pointer (some c1), .pointer (some c2)]] w (EPost 316 Q d b o (mapL g d p t) r J E w) := by
  intro d
  induction d with
  | zero => intro t p b o Q r w cur _ h; exact h.elim
  | succ d ih =>
    intro t p b o Q r w cur hJ hT hR hRs hQb hG hp hQ0 hb0
    obtain ⟨ad, cap, hn, hl, hlc, hk⟩ := hT
    have n0 := hn.kind
    have n3 := hn.kids
    cases hf : isFile t with
    | true =>
      have hk0 : t.kids = [] := hG.1 hf
      have kf : (t.kind.toList == [102, 105, 108, 101]) = true := hf
      have e1 : filesL (d + 1) p t = [(topP p, t)] := by rw [filesL, if_pos hf]
      have e2 : mapL g (d + 1) p t = g (topP p) t := by rw [mapL, if_pos hf]
      rw [e1] at hJ
      rw [e2]
      rw [hk0] at hn
      have hv := V.call (topP p) t r w b o ad cap cur hJ hn hR hRs hf hk0 hb0
      have HFIN : Hid (∀ w', ((∃ ad' cap', NodeC w' b o (g (topP p) t) (.slice ad' 0 cap')) ∧ (g (topP p) t).kids = [] ∧ EFrame (fun _ => False) b o w w') → TreeIn w' Q (d + 1) b o (g (topP p) t) ∧ EFrame Q b o w w') := fun w' ⟨⟨ad', cap', hn'⟩, hk', hF⟩ => by
        refine ⟨⟨ad', cap', by rw [hk']; exact hn', by rw [hk']; simp, by rw [hk']; exact Nat.zero_le _, fun hne => absurd hk' hne⟩, ⟨fun k obj h1 h2 h3 _ => hF.tre k obj h1 h2 h3 (fun h => h), hF.blk⟩⟩
      have HV : Hid (Calls Tryz.prog 114 #[.string (topP p), .pointer (some ⟨b, o, none⟩), .pointer (some c1), .pointer (some c2)] w fun e w' => (e = .returned .nilIface ∧ J r w' ∧ (∃ ad' cap', NodeC w' b o (g (topP p) t) (.slice ad' 0 cap')) ∧ (g (topP p) t).kids = [] ∧ EFrame (fun _ => False) b o w w') ∨ (∃ er, e = .returned (.iface 316 er) ∧ E (.iface 316 er) w')) := hv
      clear hv ih hJ hn hk hG hf e1 e2 hk0 hQ0 hb0
      cases hpe : p.toList.isEmpty with
      | true =>
        have et : topP p = slash := by unfold topP; rw [hpe]; rfl
        rw [et] at HV HFIN ⊢
        go_enter Tryz.func112, Tryz.ntmps112
        go_wp2_with fail
        refine Calls.mono HV.out ?_
        rintro e w2 hpost
        rcases hpost with ⟨rfl, hJ2, hT2⟩ | ⟨er, rfl, hE2⟩
        · go_wp2_with fail
          go_ret
          exact .inl ⟨rfl, hJ2, HFIN.out w2 hT2⟩
        · go_wp2_with fail
          go_ret
          exact .inr ⟨er, rfl, hE2⟩
      | false =>
        have et : topP p = p := by unfold topP; rw [hpe]; rfl
        rw [et] at HV HFIN ⊢
        go_enter Tryz.func112, Tryz.ntmps112
        go_wp2_with fail
        refine Calls.mono HV.out ?_
        rintro e w2 hpost
        rcases hpost with ⟨rfl, hJ2, hT2⟩ | ⟨er, rfl, hE2⟩
        · go_wp2_with fail
          go_ret
          exact .inl ⟨rfl, hJ2, HFIN.out w2 hT2⟩
        · go_wp2_with fail
          go_ret
          exact .inr ⟨er, rfl, hE2⟩
    | false =>
      have kf : (t.kind.toList == [102, 105, 108, 101]) = false := hf
      have e1 : filesL (d + 1) p t = t.kids.flatMap fun x => filesL d (p ++ slash ++ x.1) x.2 := by rw [filesL, if_neg (by rw [hf]; simp)]
      rw [e1] at hJ
      by_cases hk0 : t.kids = []
      · have HFIN : Hid (EPost 316 Q (d + 1) b o (mapL g (d + 1) p t) r J E w (.returned .nilIface) w) := by
          have e2 : mapL g (d + 1) p t = t := by
            rw [mapL, if_neg (by rw [hf]; simp), hk0]
            cases t; simp only at hk0; subst hk0; rfl
          rw [e2]
          refine .inl ⟨rfl, ?_, ⟨ad, cap, hn, hl, hlc, hk⟩, EFrame.refl _ _ _ _⟩
          rw [hk0] at hJ
          exact hJ
        rw [hk0] at n3
        clear hJ hn hk hG hf e1 ih hk0 hl hQ0 hb0
        go_enter Tryz.func112, Tryz.ntmps112
        go_wp2_with fail
        go_loopw [26] (fun i wr => i = .int .i64 0 ∧ wr = w) (fun _ _ => 0)
        case atStart => exact ⟨rfl, rfl⟩
        case round =>
          obtain ⟨rfl, rfl⟩ := hrel
          go_wp2_with fail
          go_ret
          exact HFIN.out
      · obtain ⟨gb, cur0, Qs, rfl, hg, hr0, hs0, hi0, hsub, hdis⟩ := hk hk0
        have HSUB : Hid (∀ i k, Qs i k → Q k ∧ k ≠ gb) := hsub
        have HDIS : Hid (∀ i j k, i ≠ j → Qs i k → ¬ Qs j k) := hdis
        have hgb : ¬ b = gb := fun e => hQb (by rw [e]; exact hg)
        have HEND : Hid (∀ wr, KidsAt g d p t.kids gb Qs t.kids.length wr → wr.heap[b]? = w.heap[b]? → TreeIn wr Q (d + 1) b o (mapL g (d + 1) p t)) := fun wr hK hb => hK.all (hn.same fun q _ _ => World.cell?_of_block hb) hl hlc hg hsub hdis hf
        have HFR0 : Hid (∀ (wr w' : World) (j : Nat), wr.heap[b]? = w.heap[b]? → EFrame Q b o w wr → EFrame (Qs j) gb (j * 5 + 1) wr.drew w' → EFrame Q b o w w') := fun wr w' j hb hF hF2 => (hF.trans (EFrame.of_eq (w' := wr.drew) rfl)).trans (hF2.kid hg (fun k h => (hsub j k h).1) hQb ⟨cur, by unfold RowT at hR ⊢; show wr.heap[b]? = _ ∨ wr.heap[b]? = _; rw [hb]; exact hR⟩)
        have HBL0 : Hid (∀ (wr w' : World) (j : Nat), wr.heap[b]? = w.heap[b]? → EFrame (Qs j) gb (j * 5 + 1) wr.drew w' → w'.heap[b]? = w.heap[b]?) := fun wr w' j hb hF2 => by
          rcases hR with hR | hR
          · rw [hR]; exact hF2.tre b _ (by show wr.heap[b]? = _; rw [hb]; exact hR) rfl hgb (fun h => hQb (hsub j b h).1)
          · rw [hR]; exact hF2.tre b _ (by show wr.heap[b]? = _; rw [hb]; exact hR) rfl hgb (fun h => hQb (hsub j b h).1)
        have HK0 : Hid (KidsAt g d p t.kids gb Qs 0 w) := ⟨cur0, hr0, hs0, fun i x hx => by rw [if_neg (by omega)]; exact hi0 i x hx⟩
        have HJ0 : Hid (J ((t.kids.drop 0).flatMap (fun x => filesL d (p ++ slash ++ x.1) x.2) ++ r) w) := hJ
        have HIH : Hid (∀ (wr : World) (j : Nat) (x : ByteArray × Tree), t.kids[j]? = some x → KidsAt g d p t.kids gb Qs j wr → J ((t.kids.drop j).flatMap (fun x => filesL d (p ++ slash ++ x.1) x.2) ++ r) wr → Calls Tryz.prog 112 #[.pointer (some ⟨gb, j * 5 + 1, none⟩), .string (p ++ slash ++ x.1), .func (.func 114) #[] #[.pointer (some c1), .pointer (some c2)]] wr.drew (EPost 316 (Qs j) d gb (j * 5 + 1) (mapL g d (p ++ slash ++ x.1) x.2) ((t.kids.drop (j + 1)).flatMap (fun x => filesL d (p ++ slash ++ x.1) x.2) ++ r) J E wr.drew)) := fun wr j x hx hK hJj => by
          obtain ⟨c1, r1, s1, k1⟩ := hK.drew
          have hj := (List.getElem?_eq_some_iff.1 hx).1
          obtain ⟨_, _, kT⟩ := k1 j x hx
          rw [if_neg (by omega)] at kT
          have hGx := hG.2 x (List.mem_of_getElem? hx)
          refine ih x.2 (p ++ slash ++ x.1) gb (j * 5 + 1) (Qs j) _ wr.drew c1 ?_ kT (.inr r1) (by omega) (fun h => (hsub j gb h).2 rfl) hGx.2 (by simp only [ByteArray.size_append]; have e : slash.size = 1 := rfl; omega) (fun q h => hQ0 q (hsub j q h).1) (hQ0 gb hg)
          have e3 : t.kids.drop j = x :: t.kids.drop (j + 1) := by
            rw [List.drop_eq_getElem_cons hj]
            congr 1
            have := (List.getElem?_eq_some_iff.1 hx).2
            exact this
          rw [e3, List.flatMap_cons, List.append_assoc] at hJj
          exact V.drew _ _ hJj
        have HNM0 : Hid (∀ (wr : World) (j : Nat) (x : ByteArray × Tree), t.kids[j]? = some x → KidsAt g d p t.kids gb Qs j wr → wr.cell? ⟨gb, j * 5, none⟩ = some (.string x.1) ∧ x.1.size ≤ 12) := fun wr j x hx hK => by
          obtain ⟨c1, r1, s1, k1⟩ := hK
          exact ⟨(k1 j x hx).2.1, (hG.2 x (List.mem_of_getElem? hx)).1⟩
        have hnb : ∀ wr : World, wr.heap[b]? = w.heap[b]? → wr.cell? ⟨b, o + 3, none⟩ = some (.slice (some ⟨gb, 0, none⟩) t.kids.length cap) := fun wr hb => by rw [World.cell?_of_block (a := ⟨b, o + 3, none⟩) hb]; exact n3
        have HNB : Hid _ := hnb
        obtain ⟨L, HL⟩ : ∃ L, Hid (L = t.kids.length) := ⟨_, (rfl : t.kids.length = _)⟩
        rw [← HL.out] at n3 HNB hl
        clear hJ hn hk hG hf e1 ih hk0 hi0 hr0 hs0 hsub hdis hR hRs hnb V hg hQ0 hb0
        go_enter Tryz.func112, Tryz.ntmps112
        go_wp2_with fail
        go_loopw [26] (fun i wr => ∃ j : Nat, j ≤ L ∧ i = .int .i64 j ∧ J ((t.kids.drop j).flatMap (fun x => filesL d (p ++ slash ++ x.1) x.2) ++ r) wr ∧ EFrame Q b o w wr ∧ wr.heap[b]? = w.heap[b]? ∧ KidsAt g d p t.kids gb Qs j wr) (fun i _ => L - (intOf i).toNat)
        case atStart => exact ⟨0, Nat.zero_le _, rfl, HJ0.out, EFrame.refl _ _ _ _, rfl, HK0.out⟩
        case round =>
          obtain ⟨j, hj, rfl, hJj, hFj, hbj, hKj⟩ := hrel
          have c3 := HNB.out wr hbj
          by_cases hlt : j < L
          · obtain ⟨x, hx⟩ : ∃ x, t.kids[j]? = some x := ⟨_, List.getElem?_eq_getElem (by rw [← HL.out]; exact hlt)⟩
            have HXX : Hid (t.kids[j]? = some x) := hx
            have HCL := HIH.out wr j x hx hKj hJj
            have HCL : Hid (Calls Tryz.prog 112 #[.pointer (some ⟨gb, j * 5 + 1, none⟩), .string (p ++ slash ++ x.1), .func (.func 114) #[] #[.pointer (some c1), .pointer (some c2)]] wr.drew (EPost 316 (Qs j) d gb (j * 5 + 1) (mapL g d (p ++ slash ++ x.1) x.2) ((t.kids.drop (j + 1)).flatMap (fun x => filesL d (p ++ slash ++ x.1) x.2) ++ r) J E wr.drew)) := HCL
            have HNM : Hid (wr.cell? ⟨gb, j * 5, none⟩ = some (.string x.1)) := (HNM0.out wr j x hx hKj).1
            have hx12 := (HNM0.out wr j x hx hKj).2
            have HFR : Hid (∀ w', EFrame (Qs j) gb (j * 5 + 1) wr.drew w' → EFrame Q b o w w') := fun w' hF => HFR0.out wr w' j hbj hFj hF
            have HBL : Hid (∀ w', EFrame (Qs j) gb (j * 5 + 1) wr.drew w' → w'.heap[b]? = w.heap[b]?) := fun w' hF => HBL0.out wr w' j hbj hF
            have HKD : Hid (KidsAt g d p t.kids gb Qs j wr.drew) := hKj.drew
            have hp2 : p.size + 1 + x.1.size ≤ 9223372036854775807 := by omega
            have hp1 : p.size + 1 ≤ 9223372036854775807 := by omega
            clear hx hKj hJj hFj hbj
            go_wp2_with fail
            have nm := HNM.out
            refine wp_region_held_drew (S := fun _ => True) (by kernel_rfl) (trivial) (fun hHeld => ?_)
            refine wpAnyH_take (i := 0) (v := (.pointer (some ⟨gb, j * 5, none⟩))) rfl (by kernel_rfl) (by kernel_rfl) (by kernel_rfl) (fun _ _ _ h => h) (Or.inl ⟨by rfl, ?_⟩) hHeld ?_
            · intro w hSw; (try dsimp only at hSw); simp only [List.getElem_toArray, List.getElem_cons_zero]; go_simp
            simp only [List.getElem_toArray, List.getElem_cons_zero, Act.put, List.setIfInBounds_toArray, List.set_cons_zero, List.set_cons_succ]
            refine wpAnyH_take (i := 1) (v := (.pointer (some ⟨gb, j * 5, none⟩))) rfl (by kernel_rfl) (by kernel_rfl) (by kernel_rfl) (fun _ _ _ h => h) (Or.inl ⟨by rfl, ?_⟩) hHeld ?_
            · intro w hSw; (try dsimp only at hSw); simp only [List.getElem_toArray, List.getElem_cons_zero, List.getElem_cons_succ]; go_simp
            simp only [List.getElem_toArray, List.getElem_cons_zero, List.getElem_cons_succ, Act.put, List.setIfInBounds_toArray, List.set_cons_zero, List.set_cons_succ]
            refine wpAnyH_take (i := 2) (v := (.pointer (some ⟨gb, j * 5 + 1, none⟩))) rfl (by kernel_rfl) (by kernel_rfl) (by kernel_rfl) (fun _ _ _ h => h) (Or.inl ⟨by rfl, ?_⟩) hHeld ?_
            · intro w hSw; (try dsimp only at hSw); simp only [List.getElem_toArray, List.getElem_cons_zero, List.getElem_cons_succ]; go_simp
            simp only [List.getElem_toArray, List.getElem_cons_zero, List.getElem_cons_succ, Act.put, List.setIfInBounds_toArray, List.set_cons_zero, List.set_cons_succ]
            refine wpAnyH_take (i := 3) (v := (.string p)) rfl (by kernel_rfl) (by kernel_rfl) (by kernel_rfl) (fun _ _ _ h => h) (Or.inl ⟨by rfl, ?_⟩) hHeld ?_
            · intro w hSw; (try dsimp only at hSw); simp only [List.getElem_toArray, List.getElem_cons_zero, List.getElem_cons_succ]; go_simp
            simp only [List.getElem_toArray, List.getElem_cons_zero, List.getElem_cons_succ, Act.put, List.setIfInBounds_toArray, List.set_cons_zero, List.set_cons_succ]
            refine wpAnyH_take (i := 4) (v := (.string (p ++ slash))) rfl (by kernel_rfl) (by kernel_rfl) (by kernel_rfl) (fun _ _ _ h => h) (Or.inl ⟨by rfl, ?_⟩) hHeld ?_
            · intro w hSw; (try dsimp only at hSw); simp only [List.getElem_toArray, List.getElem_cons_zero, List.getElem_cons_succ]; go_simp; rw [if_neg (by omega)]; rfl
            simp only [List.getElem_toArray, List.getElem_cons_zero, List.getElem_cons_succ, Act.put, List.setIfInBounds_toArray, List.set_cons_zero, List.set_cons_succ]
            refine wpAnyH_take (i := 5) (v := (.pointer (some ⟨gb, j * 5, none⟩))) rfl (by kernel_rfl) (by kernel_rfl) (by kernel_rfl) (fun _ _ _ h => h) (Or.inl ⟨by rfl, ?_⟩) hHeld ?_
            · intro w hSw; (try dsimp only at hSw); simp only [List.getElem_toArray, List.getElem_cons_zero, List.getElem_cons_succ]; go_simp
            simp only [List.getElem_toArray, List.getElem_cons_zero, List.getElem_cons_succ, Act.put, List.setIfInBounds_toArray, List.set_cons_zero, List.set_cons_succ]
            refine wpAnyH_take (i := 6) (v := (.pointer (some ⟨gb, j * 5, none⟩))) rfl (by kernel_rfl) (by kernel_rfl) (by kernel_rfl) (fun _ _ _ h => h) (Or.inl ⟨by rfl, ?_⟩) hHeld ?_
            · intro w hSw; (try dsimp only at hSw); simp only [List.getElem_toArray, List.getElem_cons_zero, List.getElem_cons_succ]; go_simp
            simp only [List.getElem_toArray, List.getElem_cons_zero, List.getElem_cons_succ, Act.put, List.setIfInBounds_toArray, List.set_cons_zero, List.set_cons_succ]
            refine wpAnyH_take (i := 7) (v := (.pointer (some ⟨gb, j * 5, none⟩))) rfl (by kernel_rfl) (by kernel_rfl) (by kernel_rfl) (fun _ _ _ h => h) (Or.inl ⟨by rfl, ?_⟩) hHeld ?_
            · intro w hSw; (try dsimp only at hSw); simp only [List.getElem_toArray, List.getElem_cons_zero, List.getElem_cons_succ]; go_simp
            simp only [List.getElem_toArray, List.getElem_cons_zero, List.getElem_cons_succ, Act.put, List.setIfInBounds_toArray, List.set_cons_zero, List.set_cons_succ]
            refine wpAnyH_take (i := 10) (v := (.func (.func 114) #[] #[.pointer (some c1), .pointer (some c2)])) rfl (by kernel_rfl) (by kernel_rfl) (by kernel_rfl) (fun _ _ _ h => h) (Or.inl ⟨by rfl, ?_⟩) hHeld ?_
            · intro w hSw; (try dsimp only at hSw); simp only [List.getElem_toArray, List.getElem_cons_zero, List.getElem_cons_succ]; go_simp
            simp only [List.getElem_toArray, List.getElem_cons_zero, List.getElem_cons_succ, Act.put, List.setIfInBounds_toArray, List.set_cons_zero, List.set_cons_succ]
            refine wpAnyH_ready (rs := [8]) (by kernel_rfl) (by simp) ?_
            refine AllReadyH.cons rfl (fun K' hK => ?_) AllReadyH.nil
            go_wp2_with fail
            refine hK.out _ _ (trivial) (fun hHeld' => ?_)
            clear hK K' hHeld
            have hHeld := hHeld'
            clear hHeld'
            refine wpAnyH_take (i := 9) (v := (.string (p ++ slash ++ x.1))) rfl (by kernel_rfl) (by kernel_rfl) (by kernel_rfl) (fun _ _ _ h => h) (Or.inl ⟨by rfl, ?_⟩) hHeld ?_
            · intro w hSw; (try dsimp only at hSw); simp only [List.getElem_toArray, List.getElem_cons_zero, List.getElem_cons_succ]; go_simp; (have e : slash.size = 1 := rfl); omega
            simp only [List.getElem_toArray, List.getElem_cons_zero, List.getElem_cons_succ, Act.put, List.setIfInBounds_toArray, List.set_cons_zero, List.set_cons_succ]
            refine wpAnyH_ready (rs := [11]) (by kernel_rfl) (by simp) ?_
            refine AllReadyH.cons rfl (fun K' hK => ?_) AllReadyH.nil
            simp only [List.getElem_toArray, List.getElem_cons_zero, List.getElem_cons_succ]
            go_simp
            refine Calls.mono (HCL.out) ?_
            rintro e wx hpost
            rcases hpost with ⟨rfl, hJ2, hT2, hF2⟩ | ⟨er, rfl, hE2⟩
            · skip
              go_wp2_with fail
              refine hK.out _ _ (trivial) (fun hHeld' => ?_)
              clear hK K' hHeld
              have hHeld := hHeld'
              clear hHeld'
              refine wpAnyH_ready (rs := [12]) (by kernel_rfl) (by simp) ?_
              refine AllReadyH.cons rfl (fun K' hK => ?_) AllReadyH.nil
              simp only [List.getElem_toArray, List.getElem_cons_zero, List.getElem_cons_succ]
              go_simp
              go_wp2_with fail
              refine hK.out _ _ (trivial) (fun hHeld' => ?_)
              clear hK K' hHeld
              have hHeld := hHeld'
              clear hHeld'
              refine wpAnyH_done (by kernel_rfl) ?_ _
              go_wp2_with fail
              exact ⟨⟨j + 1, by omega, by simp, hJ2, HFR.out _ hF2, HBL.out _ hF2, HKD.out.next HXX.out hT2 hF2 (fun i k h => (HSUB.out i k h).2) HDIS.out⟩, by simp [intOf]; omega⟩
            · skip
              go_wp2_with fail
              refine hK.out _ _ (trivial) (fun hHeld' => ?_)
              clear hK K' hHeld
              have hHeld := hHeld'
              clear hHeld'
              refine wpAnyH_ready (rs := [12]) (by kernel_rfl) (by simp) ?_
              refine AllReadyH.cons rfl (fun K' hK => ?_) AllReadyH.nil
              simp only [List.getElem_toArray, List.getElem_cons_zero, List.getElem_cons_succ]
              go_simp
              go_wp2_with fail
              refine hK.out _ _ (trivial) (fun hHeld' => ?_)
              clear hK K' hHeld
              have hHeld := hHeld'
              clear hHeld'
              refine wpAnyH_done (by kernel_rfl) ?_ _
              go_wp2_with fail
              go_ret
              exact .inr ⟨er, rfl, hE2⟩
          · obtain rfl : j = L := by omega
            have HFIN : Hid (EPost 316 Q (d + 1) b o (mapL g (d + 1) p t) r J E w (.returned .nilIface) wr) := by
              refine .inl ⟨rfl, ?_, HEND.out wr (by rw [← HL.out]; exact hKj) hbj, hFj⟩
              rw [HL.out, List.drop_length] at hJj
              exact hJj
            clear hJj hFj hbj hKj
            go_wp2_with fail
            go_ret
            exact HFIN.out
set_option maxRecDepth 100000 in
set_option maxHeartbeats 2000000 in
theorem each_fill {g : ByteArray → Tree → Tree} {J : List (ByteArray × Tree) → World → Prop} {E : Value → World → Prop} {B0 : Nat} (c1 c2 : Addr) (V : EVisit Tryz.prog 119 #[.pointer (some c1), .pointer (some c2)] 316 g J E B0) : ∀ (d : Nat) (t : Tree) (p : ByteArray) (b o : Nat) (Q : Nat → Prop) (r : List (ByteArray × Tree)) (w : World) (cur : Array Value), J (filesL d p t ++ r) w → TreeIn w Q d b o t → RowT w b cur → o + 4 ≤ cur.size → ¬ Q b → GoodT d t → p.size + d * 20 ≤ 100000 → (∀ q, Q q → B0 ≤ q) → B0 ≤ b →
    Calls Tryz.prog 112 #[.pointer (some ⟨b, o, none⟩), .string p, .func (.func 119) #[] #[.pointer (some c1), .pointer (some c2)]] w (EPost 316 Q d b o (mapL g d p t) r J E w) := by
  intro d
  induction d with
  | zero => intro t p b o Q r w cur _ h; exact h.elim
  | succ d ih =>
    intro t p b o Q r w cur hJ hT hR hRs hQb hG hp hQ0 hb0
    obtain ⟨ad, cap, hn, hl, hlc, hk⟩ := hT
    have n0 := hn.kind
    have n3 := hn.kids
    cases hf : isFile t with
    | true =>
      have hk0 : t.kids = [] := hG.1 hf
      have kf : (t.kind.toList == [102, 105, 108, 101]) = true := hf
      have e1 : filesL (d + 1) p t = [(topP p, t)] := by rw [filesL, if_pos hf]
      have e2 : mapL g (d + 1) p t = g (topP p) t := by rw [mapL, if_pos hf]
      rw [e1] at hJ
      rw [e2]
      rw [hk0] at hn
      have hv := V.call (topP p) t r w b o ad cap cur hJ hn hR hRs hf hk0 hb0
      have HFIN : Hid (∀ w', ((∃ ad' cap', NodeC w' b o (g (topP p) t) (.slice ad' 0 cap')) ∧ (g (topP p) t).kids = [] ∧ EFrame (fun _ => False) b o w w') → TreeIn w' Q (d + 1) b o (g (topP p) t) ∧ EFrame Q b o w w') := fun w' ⟨⟨ad', cap', hn'⟩, hk', hF⟩ => by
        refine ⟨⟨ad', cap', by rw [hk']; exact hn', by rw [hk']; simp, by rw [hk']; exact Nat.zero_le _, fun hne => absurd hk' hne⟩, ⟨fun k obj h1 h2 h3 _ => hF.tre k obj h1 h2 h3 (fun h => h), hF.blk⟩⟩
      have HV : Hid (Calls Tryz.prog 119 #[.string (topP p), .pointer (some ⟨b, o, none⟩), .pointer (some c1), .pointer (some c2)] w fun e w' => (e = .returned .nilIface ∧ J r w' ∧ (∃ ad' cap', NodeC w' b o (g (topP p) t) (.slice ad' 0 cap')) ∧ (g (topP p) t).kids = [] ∧ EFrame (fun _ => False) b o w w') ∨ (∃ er, e = .returned (.iface 316 er) ∧ E (.iface 316 er) w')) := hv
      clear hv ih hJ hn hk hG hf e1 e2 hk0 hQ0 hb0
      cases hpe : p.toList.isEmpty with
      | true =>
        have et : topP p = slash := by unfold topP; rw [hpe]; rfl
        rw [et] at HV HFIN ⊢
        go_enter Tryz.func112, Tryz.ntmps112
        go_wp2_with fail
        refine Calls.mono HV.out ?_
        rintro e w2 hpost
        rcases hpost with ⟨rfl, hJ2, hT2⟩ | ⟨er, rfl, hE2⟩
        · go_wp2_with fail
          go_ret
          exact .inl ⟨rfl, hJ2, HFIN.out w2 hT2⟩
        · go_wp2_with fail
          go_ret
          exact .inr ⟨er, rfl, hE2⟩
      | false =>
        have et : topP p = p := by unfold topP; rw [hpe]; rfl
        rw [et] at HV HFIN ⊢
        go_enter Tryz.func112, Tryz.ntmps112
        go_wp2_with fail
        refine Calls.mono HV.out ?_
        rintro e w2 hpost
        rcases hpost with ⟨rfl, hJ2, hT2⟩ | ⟨er, rfl, hE2⟩
        · go_wp2_with fail
          go_ret
          exact .inl ⟨rfl, hJ2, HFIN.out w2 hT2⟩
        · go_wp2_with fail
          go_ret
          exact .inr ⟨er, rfl, hE2⟩
    | false =>
      have kf : (t.kind.toList == [102, 105, 108, 101]) = false := hf
      have e1 : filesL (d + 1) p t = t.kids.flatMap fun x => filesL d (p ++ slash ++ x.1) x.2 := by rw [filesL, if_neg (by rw [hf]; simp)]
      rw [e1] at hJ
      by_cases hk0 : t.kids = []
      · have HFIN : Hid (EPost 316 Q (d + 1) b o (mapL g (d + 1) p t) r J E w (.returned .nilIface) w) := by
          have e2 : mapL g (d + 1) p t = t := by
            rw [mapL, if_neg (by rw [hf]; simp), hk0]
            cases t; simp only at hk0; subst hk0; rfl
          rw [e2]
          refine .inl ⟨rfl, ?_, ⟨ad, cap, hn, hl, hlc, hk⟩, EFrame.refl _ _ _ _⟩
          rw [hk0] at hJ
          exact hJ
        rw [hk0] at n3
        clear hJ hn hk hG hf e1 ih hk0 hl hQ0 hb0
        go_enter Tryz.func112, Tryz.ntmps112
        go_wp2_with fail
        go_loopw [26] (fun i wr => i = .int .i64 0 ∧ wr = w) (fun _ _ => 0)
        case atStart => exact ⟨rfl, rfl⟩
        case round =>
          obtain ⟨rfl, rfl⟩ := hrel
          go_wp2_with fail
          go_ret
          exact HFIN.out
      · obtain ⟨gb, cur0, Qs, rfl, hg, hr0, hs0, hi0, hsub, hdis⟩ := hk hk0
        have HSUB : Hid (∀ i k, Qs i k → Q k ∧ k ≠ gb) := hsub
        have HDIS : Hid (∀ i j k, i ≠ j → Qs i k → ¬ Qs j k) := hdis
        have hgb : ¬ b = gb := fun e => hQb (by rw [e]; exact hg)
        have HEND : Hid (∀ wr, KidsAt g d p t.kids gb Qs t.kids.length wr → wr.heap[b]? = w.heap[b]? → TreeIn wr Q (d + 1) b o (mapL g (d + 1) p t)) := fun wr hK hb => hK.all (hn.same fun q _ _ => World.cell?_of_block hb) hl hlc hg hsub hdis hf
        have HFR0 : Hid (∀ (wr w' : World) (j : Nat), wr.heap[b]? = w.heap[b]? → EFrame Q b o w wr → EFrame (Qs j) gb (j * 5 + 1) wr.drew w' → EFrame Q b o w w') := fun wr w' j hb hF hF2 => (hF.trans (EFrame.of_eq (w' := wr.drew) rfl)).trans (hF2.kid hg (fun k h => (hsub j k h).1) hQb ⟨cur, by unfold RowT at hR ⊢; show wr.heap[b]? = _ ∨ wr.heap[b]? = _; rw [hb]; exact hR⟩)
        have HBL0 : Hid (∀ (wr w' : World) (j : Nat), wr.heap[b]? = w.heap[b]? → EFrame (Qs j) gb (j * 5 + 1) wr.drew w' → w'.heap[b]? = w.heap[b]?) := fun wr w' j hb hF2 => by
          rcases hR with hR | hR
          · rw [hR]; exact hF2.tre b _ (by show wr.heap[b]? = _; rw [hb]; exact hR) rfl hgb (fun h => hQb (hsub j b h).1)
          · rw [hR]; exact hF2.tre b _ (by show wr.heap[b]? = _; rw [hb]; exact hR) rfl hgb (fun h => hQb (hsub j b h).1)
        have HK0 : Hid (KidsAt g d p t.kids gb Qs 0 w) := ⟨cur0, hr0, hs0, fun i x hx => by rw [if_neg (by omega)]; exact hi0 i x hx⟩
        have HJ0 : Hid (J ((t.kids.drop 0).flatMap (fun x => filesL d (p ++ slash ++ x.1) x.2) ++ r) w) := hJ
        have HIH : Hid (∀ (wr : World) (j : Nat) (x : ByteArray × Tree), t.kids[j]? = some x → KidsAt g d p t.kids gb Qs j wr → J ((t.kids.drop j).flatMap (fun x => filesL d (p ++ slash ++ x.1) x.2) ++ r) wr → Calls Tryz.prog 112 #[.pointer (some ⟨gb, j * 5 + 1, none⟩), .string (p ++ slash ++ x.1), .func (.func 119) #[] #[.pointer (some c1), .pointer (some c2)]] wr.drew (EPost 316 (Qs j) d gb (j * 5 + 1) (mapL g d (p ++ slash ++ x.1) x.2) ((t.kids.drop (j + 1)).flatMap (fun x => filesL d (p ++ slash ++ x.1) x.2) ++ r) J E wr.drew)) := fun wr j x hx hK hJj => by
          obtain ⟨c1, r1, s1, k1⟩ := hK.drew
          have hj := (List.getElem?_eq_some_iff.1 hx).1
          obtain ⟨_, _, kT⟩ := k1 j x hx
          rw [if_neg (by omega)] at kT
          have hGx := hG.2 x (List.mem_of_getElem? hx)
          refine ih x.2 (p ++ slash ++ x.1) gb (j * 5 + 1) (Qs j) _ wr.drew c1 ?_ kT (.inr r1) (by omega) (fun h => (hsub j gb h).2 rfl) hGx.2 (by simp only [ByteArray.size_append]; have e : slash.size = 1 := rfl; omega) (fun q h => hQ0 q (hsub j q h).1) (hQ0 gb hg)
          have e3 : t.kids.drop j = x :: t.kids.drop (j + 1) := by
            rw [List.drop_eq_getElem_cons hj]
            congr 1
            have := (List.getElem?_eq_some_iff.1 hx).2
            exact this
          rw [e3, List.flatMap_cons, List.append_assoc] at hJj
          exact V.drew _ _ hJj
        have HNM0 : Hid (∀ (wr : World) (j : Nat) (x : ByteArray × Tree), t.kids[j]? = some x → KidsAt g d p t.kids gb Qs j wr → wr.cell? ⟨gb, j * 5, none⟩ = some (.string x.1) ∧ x.1.size ≤ 12) := fun wr j x hx hK => by
          obtain ⟨c1, r1, s1, k1⟩ := hK
          exact ⟨(k1 j x hx).2.1, (hG.2 x (List.mem_of_getElem? hx)).1⟩
        have hnb : ∀ wr : World, wr.heap[b]? = w.heap[b]? → wr.cell? ⟨b, o + 3, none⟩ = some (.slice (some ⟨gb, 0, none⟩) t.kids.length cap) := fun wr hb => by rw [World.cell?_of_block (a := ⟨b, o + 3, none⟩) hb]; exact n3
        have HNB : Hid _ := hnb
        obtain ⟨L, HL⟩ : ∃ L, Hid (L = t.kids.length) := ⟨_, (rfl : t.kids.length = _)⟩
        rw [← HL.out] at n3 HNB hl
        clear hJ hn hk hG hf e1 ih hk0 hi0 hr0 hs0 hsub hdis hR hRs hnb V hg hQ0 hb0
        go_enter Tryz.func112, Tryz.ntmps112
        go_wp2_with fail
        go_loopw [26] (fun i wr => ∃ j : Nat, j ≤ L ∧ i = .int .i64 j ∧ J ((t.kids.drop j).flatMap (fun x => filesL d (p ++ slash ++ x.1) x.2) ++ r) wr ∧ EFrame Q b o w wr ∧ wr.heap[b]? = w.heap[b]? ∧ KidsAt g d p t.kids gb Qs j wr) (fun i _ => L - (intOf i).toNat)
        case atStart => exact ⟨0, Nat.zero_le _, rfl, HJ0.out, EFrame.refl _ _ _ _, rfl, HK0.out⟩
        case round =>
          obtain ⟨j, hj, rfl, hJj, hFj, hbj, hKj⟩ := hrel
          have c3 := HNB.out wr hbj
          by_cases hlt : j < L
          · obtain ⟨x, hx⟩ : ∃ x, t.kids[j]? = some x := ⟨_, List.getElem?_eq_getElem (by rw [← HL.out]; exact hlt)⟩
            have HXX : Hid (t.kids[j]? = some x) := hx
            have HCL := HIH.out wr j x hx hKj hJj
            have HCL : Hid (Calls Tryz.prog 112 #[.pointer (some ⟨gb, j * 5 + 1, none⟩), .string (p ++ slash ++ x.1), .func (.func 119) #[] #[.pointer (some c1), .pointer (some c2)]] wr.drew (EPost 316 (Qs j) d gb (j * 5 + 1) (mapL g d (p ++ slash ++ x.1) x.2) ((t.kids.drop (j + 1)).flatMap (fun x => filesL d (p ++ slash ++ x.1) x.2) ++ r) J E wr.drew)) := HCL
            have HNM : Hid (wr.cell? ⟨gb, j * 5, none⟩ = some (.string x.1)) := (HNM0.out wr j x hx hKj).1
            have hx12 := (HNM0.out wr j x hx hKj).2
            have HFR : Hid (∀ w', EFrame (Qs j) gb (j * 5 + 1) wr.drew w' → EFrame Q b o w w') := fun w' hF => HFR0.out wr w' j hbj hFj hF
            have HBL : Hid (∀ w', EFrame (Qs j) gb (j * 5 + 1) wr.drew w' → w'.heap[b]? = w.heap[b]?) := fun w' hF => HBL0.out wr w' j hbj hF
            have HKD : Hid (KidsAt g d p t.kids gb Qs j wr.drew) := hKj.drew
            have hp2 : p.size + 1 + x.1.size ≤ 9223372036854775807 := by omega
            have hp1 : p.size + 1 ≤ 9223372036854775807 := by omega
            clear hx hKj hJj hFj hbj
            go_wp2_with fail
            have nm := HNM.out
            refine wp_region_held_drew (S := fun _ => True) (by kernel_rfl) (trivial) (fun hHeld => ?_)
            refine wpAnyH_take (i := 0) (v := (.pointer (some ⟨gb, j * 5, none⟩))) rfl (by kernel_rfl) (by kernel_rfl) (by kernel_rfl) (fun _ _ _ h => h) (Or.inl ⟨by rfl, ?_⟩) hHeld ?_
            · intro w hSw; (try dsimp only at hSw); simp only [List.getElem_toArray, List.getElem_cons_zero]; go_simp
            simp only [List.getElem_toArray, List.getElem_cons_zero, Act.put, List.setIfInBounds_toArray, List.set_cons_zero, List.set_cons_succ]
            refine wpAnyH_take (i := 1) (v := (.pointer (some ⟨gb, j * 5, none⟩))) rfl (by kernel_rfl) (by kernel_rfl) (by kernel_rfl) (fun _ _ _ h => h) (Or.inl ⟨by rfl, ?_⟩) hHeld ?_
            · intro w hSw; (try dsimp only at hSw); simp only [List.getElem_toArray, List.getElem_cons_zero, List.getElem_cons_succ]; go_simp
            simp only [List.getElem_toArray, List.getElem_cons_zero, List.getElem_cons_succ, Act.put, List.setIfInBounds_toArray, List.set_cons_zero, List.set_cons_succ]
            refine wpAnyH_take (i := 2) (v := (.pointer (some ⟨gb, j * 5 + 1, none⟩))) rfl (by kernel_rfl) (by kernel_rfl) (by kernel_rfl) (fun _ _ _ h => h) (Or.inl ⟨by rfl, ?_⟩) hHeld ?_
            · intro w hSw; (try dsimp only at hSw); simp only [List.getElem_toArray, List.getElem_cons_zero, List.getElem_cons_succ]; go_simp
            simp only [List.getElem_toArray, List.getElem_cons_zero, List.getElem_cons_succ, Act.put, List.setIfInBounds_toArray, List.set_cons_zero, List.set_cons_succ]
            refine wpAnyH_take (i := 3) (v := (.string p)) rfl (by kernel_rfl) (by kernel_rfl) (by kernel_rfl) (fun _ _ _ h => h) (Or.inl ⟨by rfl, ?_⟩) hHeld ?_
            · intro w hSw; (try dsimp only at hSw); simp only [List.getElem_toArray, List.getElem_cons_zero, List.getElem_cons_succ]; go_simp
            simp only [List.getElem_toArray, List.getElem_cons_zero, List.getElem_cons_succ, Act.put, List.setIfInBounds_toArray, List.set_cons_zero, List.set_cons_succ]
            refine wpAnyH_take (i := 4) (v := (.string (p ++ slash))) rfl (by kernel_rfl) (by kernel_rfl) (by kernel_rfl) (fun _ _ _ h => h) (Or.inl ⟨by rfl, ?_⟩) hHeld ?_
            · intro w hSw; (try dsimp only at hSw); simp only [List.getElem_toArray, List.getElem_cons_zero, List.getElem_cons_succ]; go_simp; rw [if_neg (by omega)]; rfl
            simp only [List.getElem_toArray, List.getElem_cons_zero, List.getElem_cons_succ, Act.put, List.setIfInBounds_toArray, List.set_cons_zero, List.set_cons_succ]
            refine wpAnyH_take (i := 5) (v := (.pointer (some ⟨gb, j * 5, none⟩))) rfl (by kernel_rfl) (by kernel_rfl) (by kernel_rfl) (fun _ _ _ h => h) (Or.inl ⟨by rfl, ?_⟩) hHeld ?_
            · intro w hSw; (try dsimp only at hSw); simp only [List.getElem_toArray, List.getElem_cons_zero, List.getElem_cons_succ]; go_simp
            simp only [List.getElem_toArray, List.getElem_cons_zero, List.getElem_cons_succ, Act.put, List.setIfInBounds_toArray, List.set_cons_zero, List.set_cons_succ]
            refine wpAnyH_take (i := 6) (v := (.pointer (some ⟨gb, j * 5, none⟩))) rfl (by kernel_rfl) (by kernel_rfl) (by kernel_rfl) (fun _ _ _ h => h) (Or.inl ⟨by rfl, ?_⟩) hHeld ?_
            · intro w hSw; (try dsimp only at hSw); simp only [List.getElem_toArray, List.getElem_cons_zero, List.getElem_cons_succ]; go_simp
            simp only [List.getElem_toArray, List.getElem_cons_zero, List.getElem_cons_succ, Act.put, List.setIfInBounds_toArray, List.set_cons_zero, List.set_cons_succ]
            refine wpAnyH_take (i := 7) (v := (.pointer (some ⟨gb, j * 5, none⟩))) rfl (by kernel_rfl) (by kernel_rfl) (by kernel_rfl) (fun _ _ _ h => h) (Or.inl ⟨by rfl, ?_⟩) hHeld ?_
            · intro w hSw; (try dsimp only at hSw); simp only [List.getElem_toArray, List.getElem_cons_zero, List.getElem_cons_succ]; go_simp
            simp only [List.getElem_toArray, List.getElem_cons_zero, List.getElem_cons_succ, Act.put, List.setIfInBounds_toArray, List.set_cons_zero, List.set_cons_succ]
            refine wpAnyH_take (i := 10) (v := (.func (.func 119) #[] #[.pointer (some c1), .pointer (some c2)])) rfl (by kernel_rfl) (by kernel_rfl) (by kernel_rfl) (fun _ _ _ h => h) (Or.inl ⟨by rfl, ?_⟩) hHeld ?_
            · intro w hSw; (try dsimp only at hSw); simp only [List.getElem_toArray, List.getElem_cons_zero, List.getElem_cons_succ]; go_simp
            simp only [List.getElem_toArray, List.getElem_cons_zero, List.getElem_cons_succ, Act.put, List.setIfInBounds_toArray, List.set_cons_zero, List.set_cons_succ]
            refine wpAnyH_ready (rs := [8]) (by kernel_rfl) (by simp) ?_
            refine AllReadyH.cons rfl (fun K' hK => ?_) AllReadyH.nil
            go_wp2_with fail
            refine hK.out _ _ (trivial) (fun hHeld' => ?_)
            clear hK K' hHeld
            have hHeld := hHeld'
            clear hHeld'
            refine wpAnyH_take (i := 9) (v := (.string (p ++ slash ++ x.1))) rfl (by kernel_rfl) (by kernel_rfl) (by kernel_rfl) (fun _ _ _ h => h) (Or.inl ⟨by rfl, ?_⟩) hHeld ?_
            · intro w hSw; (try dsimp only at hSw); simp only [List.getElem_toArray, List.getElem_cons_zero, List.getElem_cons_succ]; go_simp; (have e : slash.size = 1 := rfl); omega
            simp only [List.getElem_toArray, List.getElem_cons_zero, List.getElem_cons_succ, Act.put, List.setIfInBounds_toArray, List.set_cons_zero, List.set_cons_succ]
            refine wpAnyH_ready (rs := [11]) (by kernel_rfl) (by simp) ?_
            refine AllReadyH.cons rfl (fun K' hK => ?_) AllReadyH.nil
            simp only [List.getElem_toArray, List.getElem_cons_zero, List.getElem_cons_succ]
            go_simp
            refine Calls.mono (HCL.out) ?_
            rintro e wx hpost
            rcases hpost with ⟨rfl, hJ2, hT2, hF2⟩ | ⟨er, rfl, hE2⟩
            · skip
              go_wp2_with fail
              refine hK.out _ _ (trivial) (fun hHeld' => ?_)
              clear hK K' hHeld
              have hHeld := hHeld'
              clear hHeld'
              refine wpAnyH_ready (rs := [12]) (by kernel_rfl) (by simp) ?_
              refine AllReadyH.cons rfl (fun K' hK => ?_) AllReadyH.nil
              simp only [List.getElem_toArray, List.getElem_cons_zero, List.getElem_cons_succ]
              go_simp
              go_wp2_with fail
              refine hK.out _ _ (trivial) (fun hHeld' => ?_)
              clear hK K' hHeld
              have hHeld := hHeld'
              clear hHeld'
              refine wpAnyH_done (by kernel_rfl) ?_ _
              go_wp2_with fail
              exact ⟨⟨j + 1, by omega, by simp, hJ2, HFR.out _ hF2, HBL.out _ hF2, HKD.out.next HXX.out hT2 hF2 (fun i k h => (HSUB.out i k h).2) HDIS.out⟩, by simp [intOf]; omega⟩
            · skip
              go_wp2_with fail
              refine hK.out _ _ (trivial) (fun hHeld' => ?_)
              clear hK K' hHeld
              have hHeld := hHeld'
              clear hHeld'
              refine wpAnyH_ready (rs := [12]) (by kernel_rfl) (by simp) ?_
              refine AllReadyH.cons rfl (fun K' hK => ?_) AllReadyH.nil
              simp only [List.getElem_toArray, List.getElem_cons_zero, List.getElem_cons_succ]
              go_simp
              go_wp2_with fail
              refine hK.out _ _ (trivial) (fun hHeld' => ?_)
              clear hK K' hHeld
              have hHeld := hHeld'
              clear hHeld'
              refine wpAnyH_done (by kernel_rfl) ?_ _
              go_wp2_with fail
              go_ret
              exact .inr ⟨er, rfl, hE2⟩
          · obtain rfl : j = L := by omega
            have HFIN : Hid (EPost 316 Q (d + 1) b o (mapL g (d + 1) p t) r J E w (.returned .nilIface) wr) := by
              refine .inl ⟨rfl, ?_, HEND.out wr (by rw [← HL.out]; exact hKj) hbj, hFj⟩
              rw [HL.out, List.drop_length] at hJj
              exact hJj
            clear hJj hFj hbj hKj
            go_wp2_with fail
            go_ret
            exact HFIN.out
end Go.Proofs.YtcejpeohkgchdaaGreatDoor
