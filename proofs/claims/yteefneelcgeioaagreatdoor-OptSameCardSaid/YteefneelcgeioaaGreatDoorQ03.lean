/-
  The contract of dirs.each: it hands each file of a tree, with its path, to a function, and ends at the first error.
  A space of blocks: what is free, taken and given back, as functions on lists; a space in memory.
  Numbers in memory: as cells, and in a row of their own; the contract of the law's own copy of numbers.
  The contracts of package space: New, marks, where.
  Conditions: those that each states.
-/
import Derived.Test.YteefneelcgeioaaGreatDoorQ02
import Derived.Shelf.Abstract
import Derived.Deep.RegionHeld3
import Derived.Below
import Derived.Laws.AppendOwn
import Derived.Deep.WholeRow
import Derived.Test.YteefneelcgeioaaGreatDoorProg
import Derived.WalkKit
import Derived.Deep.MidRow
import Derived.LoopN
import Derived.BigQuiet
import Derived.KernelRfl
import Derived.Handy
import Derived.Laws.MakeOwn
import Derived.Laws.IdiomStrings
import Derived.Maps.AppendAt
namespace Go.Proofs.YteefneelcgeioaaGreatDoor
open Go.RowKit

set_option maxRecDepth 100000 in
set_option maxHeartbeats 2000000 in
theorem each_gen {g : ByteArray → Tree → Tree} {J : List (ByteArray × Tree) → World → Prop} {E : Value → World → Prop} {B0 : Nat} {cl : FuncId} (eg : ∀ args w, (callFunc cl args).run Tryz.prog w = .ok (.enter cl args) w) (cp : Array Value) (V : EVisit Tryz.prog cl cp 235 g J E B0) : ∀ (d : Nat) (t : Tree) (p : ByteArray) (b o : Nat) (Q : Nat → Prop) (r : List (ByteArray × Tree)) (w : World) (cur : Array Value), J (filesL d p t ++ r) w → TreeIn w Q d b o t → RowT w b cur → o + 4 ≤ cur.size → ¬ Q b → GoodT d t → p.size + d * 20 ≤ 100000 → (∀ q, Q q → B0 ≤ q) → B0 ≤ b →
    Calls Tryz.prog 60 #[.pointer (some ⟨b, o, none⟩), .string p, .func (.func cl) #[] cp] w (EPost 235 Q d b o (mapL g d p t) r J E w) := by
  intro d
  induction d with
  | zero => intro t p b o Q r w cur _ h; exact h.elim
  | succ d ih =>
    intro t p b o Q r w cur hJ hT hR hRs hQb hG hp hQ0 hb0
    obtain ⟨ad, cap, hn, hl, hlc, hk⟩ := hT
    have n0 := hn.kind
    have n3 := hn.kids
    cases hf : isFile t with
    | true =>
      have hk0 : t.kids = [] := hG.1 hf
      have kf : (t.kind.toList == [102, 105, 108, 101]) = true := hf
      have e1 : filesL (d + 1) p t = [(topP p, t)] := by rw [filesL, if_pos hf]
      have e2 : mapL g (d + 1) p t = g (topP p) t := by rw [mapL, if_pos hf]
      rw [e1] at hJ
      rw [e2]
      rw [hk0] at hn
      have hv := V.call (topP p) t r w b o ad cap cur hJ hn hR hRs hf hk0 hb0
      have HFIN : Hid (∀ w', ((∃ ad' cap', NodeC w' b o (g (topP p) t) (.slice ad' 0 cap')) ∧ (g (topP p) t).kids = [] ∧ EFrame (fun _ => False) b o w w') → TreeIn w' Q (d + 1) b o (g (topP p) t) ∧ EFrame Q b o w w') := fun w' ⟨⟨ad', cap', hn'⟩, hk', hF⟩ => by
        refine ⟨⟨ad', cap', by rw [hk']; exact hn', by rw [hk']; simp, by rw [hk']; exact Nat.zero_le _, fun hne => absurd hk' hne⟩, ⟨fun k obj h1 h2 h3 _ => hF.tre k obj h1 h2 h3 (fun h => h), hF.blk⟩⟩
      have HV : Hid (Calls Tryz.prog cl (#[.string (topP p), .pointer (some ⟨b, o, none⟩)] ++ cp) w fun e w' => (e = .returned .nilIface ∧ J r w' ∧ (∃ ad' cap', NodeC w' b o (g (topP p) t) (.slice ad' 0 cap')) ∧ (g (topP p) t).kids = [] ∧ EFrame (fun _ => False) b o w w') ∨ (∃ er, e = .returned (.iface 235 er) ∧ E (.iface 235 er) w')) := hv
      clear hv ih hJ hn hk hG hf e1 e2 hk0 hQ0 hb0
      cases hpe : p.toList.isEmpty with
      | true =>
        have et : topP p = slash := by unfold topP; rw [hpe]; rfl
        rw [et] at HV HFIN ⊢
        go_enter Tryz.func60, Tryz.ntmps60
        go_wp2_with fail
        refine Calls.mono HV.out ?_
        rintro e w2 hpost
        rcases hpost with ⟨rfl, hJ2, hT2⟩ | ⟨er, rfl, hE2⟩
        · go_wp2_with fail
          go_ret
          exact .inl ⟨rfl, hJ2, HFIN.out w2 hT2⟩
        · go_wp2_with fail
          go_ret
          exact .inr ⟨er, rfl, hE2⟩
      | false =>
        have et : topP p = p := by unfold topP; rw [hpe]; rfl
        rw [et] at HV HFIN ⊢
        go_enter Tryz.func60, Tryz.ntmps60
        go_wp2_with fail
        refine Calls.mono HV.out ?_
        rintro e w2 hpost
        rcases hpost with ⟨rfl, hJ2, hT2⟩ | ⟨er, rfl, hE2⟩
        · go_wp2_with fail
          go_ret
          exact .inl ⟨rfl, hJ2, HFIN.out w2 hT2⟩
        · go_wp2_with fail
          go_ret
          exact .inr ⟨er, rfl, hE2⟩
    | false =>
      have kf : (t.kind.toList == [102, 105, 108, 101]) = false := hf
      have e1 : filesL (d + 1) p t = t.kids.flatMap fun x => filesL d (p ++ slash ++ x.1) x.2 := by rw [filesL, if_neg (by rw [hf]; simp)]
      rw [e1] at hJ
      by_cases hk0 : t.kids = []
      · have HFIN : Hid (EPost 235 Q (d + 1) b o (mapL g (d + 1) p t) r J E w (.returned .nilIface) w) := by
          have e2 : mapL g (d + 1) p t = t := by
            rw [mapL, if_neg (by rw [hf]; simp), hk0]
            cases t; simp only at hk0; subst hk0; rfl
          rw [e2]
          refine .inl ⟨rfl, ?_, ⟨ad, cap, hn, hl, hlc, hk⟩, EFrame.refl _ _ _ _⟩
          rw [hk0] at hJ
          exact hJ
        rw [hk0] at n3
        clear hJ hn hk hG hf e1 ih hk0 hl hQ0 hb0
        go_enter Tryz.func60, Tryz.ntmps60
        go_wp2_with fail
        go_loopw [26] (fun i wr => i = .int .i64 0 ∧ wr = w) (fun _ _ => 0)
        case atStart => exact ⟨rfl, rfl⟩
        case round =>
          obtain ⟨rfl, rfl⟩ := hrel
          go_wp2_with fail
          go_ret
          exact HFIN.out
      · obtain ⟨gb, cur0, Qs, rfl, hg, hr0, hs0, hi0, hsub, hdis⟩ := hk hk0
        have HSUB : Hid (∀ i k, Qs i k → Q k ∧ k ≠ gb) := hsub
        have HDIS : Hid (∀ i j k, i ≠ j → Qs i k → ¬ Qs j k) := hdis
        have hgb : ¬ b = gb := fun e => hQb (by rw [e]; exact hg)
        have HEND : Hid (∀ wr, KidsAt g d p t.kids gb Qs t.kids.length wr → wr.heap[b]? = w.heap[b]? → TreeIn wr Q (d + 1) b o (mapL g (d + 1) p t)) := fun wr hK hb => hK.all (hn.same fun q _ _ => World.cell?_of_block hb) hl hlc hg hsub hdis hf
        have HFR0 : Hid (∀ (wr w' : World) (j : Nat), wr.heap[b]? = w.heap[b]? → EFrame Q b o w wr → EFrame (Qs j) gb (j * 5 + 1) wr.drew w' → EFrame Q b o w w') := fun wr w' j hb hF hF2 => (hF.trans (EFrame.of_eq (w' := wr.drew) rfl)).trans (hF2.kid hg (fun k h => (hsub j k h).1) hQb ⟨cur, by unfold RowT at hR ⊢; show wr.heap[b]? = _ ∨ wr.heap[b]? = _; rw [hb]; exact hR⟩)
        have HBL0 : Hid (∀ (wr w' : World) (j : Nat), wr.heap[b]? = w.heap[b]? → EFrame (Qs j) gb (j * 5 + 1) wr.drew w' → w'.heap[b]? = w.heap[b]?) := fun wr w' j hb hF2 => by
          rcases hR with hR | hR
          · rw [hR]; exact hF2.tre b _ (by show wr.heap[b]? = _; rw [hb]; exact hR) rfl hgb (fun h => hQb (hsub j b h).1)
          · rw [hR]; exact hF2.tre b _ (by show wr.heap[b]? = _; rw [hb]; exact hR) rfl hgb (fun h => hQb (hsub j b h).1)
        have HK0 : Hid (KidsAt g d p t.kids gb Qs 0 w) := ⟨cur0, hr0, hs0, fun i x hx => by rw [if_neg (by omega)]; exact hi0 i x hx⟩
        have HJ0 : Hid (J ((t.kids.drop 0).flatMap (fun x => filesL d (p ++ slash ++ x.1) x.2) ++ r) w) := hJ
        have HIH : Hid (∀ (wr : World) (j : Nat) (x : ByteArray × Tree), t.kids[j]? = some x → KidsAt g d p t.kids gb Qs j wr → J ((t.kids.drop j).flatMap (fun x => filesL d (p ++ slash ++ x.1) x.2) ++ r) wr → Calls Tryz.prog 60 #[.pointer (some ⟨gb, j * 5 + 1, none⟩), .string (p ++ slash ++ x.1), .func (.func cl) #[] cp] wr.drew (EPost 235 (Qs j) d gb (j * 5 + 1) (mapL g d (p ++ slash ++ x.1) x.2) ((t.kids.drop (j + 1)).flatMap (fun x => filesL d (p ++ slash ++ x.1) x.2) ++ r) J E wr.drew)) := fun wr j x hx hK hJj => by
          obtain ⟨c1, r1, s1, k1⟩ := hK.drew
          have hj := (List.getElem?_eq_some_iff.1 hx).1
          obtain ⟨_, _, kT⟩ := k1 j x hx
          rw [if_neg (by omega)] at kT
          have hGx := hG.2 x (List.mem_of_getElem? hx)
          refine ih x.2 (p ++ slash ++ x.1) gb (j * 5 + 1) (Qs j) _ wr.drew c1 ?_ kT (.inr r1) (by omega) (fun h => (hsub j gb h).2 rfl) hGx.2 (by simp only [ByteArray.size_append]; have e : slash.size = 1 := rfl; omega) (fun q h => hQ0 q (hsub j q h).1) (hQ0 gb hg)
          have e3 : t.kids.drop j = x :: t.kids.drop (j + 1) := by
            rw [List.drop_eq_getElem_cons hj]
            congr 1
            have := (List.getElem?_eq_some_iff.1 hx).2
            exact this
          rw [e3, List.flatMap_cons, List.append_assoc] at hJj
          exact V.drew _ _ hJj
        have HNM0 : Hid (∀ (wr : World) (j : Nat) (x : ByteArray × Tree), t.kids[j]? = some x → KidsAt g d p t.kids gb Qs j wr → wr.cell? ⟨gb, j * 5, none⟩ = some (.string x.1) ∧ x.1.size ≤ 12) := fun wr j x hx hK => by
          obtain ⟨c1, r1, s1, k1⟩ := hK
          exact ⟨(k1 j x hx).2.1, (hG.2 x (List.mem_of_getElem? hx)).1⟩
        have hnb : ∀ wr : World, wr.heap[b]? = w.heap[b]? → wr.cell? ⟨b, o + 3, none⟩ = some (.slice (some ⟨gb, 0, none⟩) t.kids.length cap) := fun wr hb => by rw [World.cell?_of_block (a := ⟨b, o + 3, none⟩) hb]; exact n3
        have HNB : Hid _ := hnb
        obtain ⟨L, HL⟩ : ∃ L, Hid (L = t.kids.length) := ⟨_, (rfl : t.kids.length = _)⟩
        rw [← HL.out] at n3 HNB hl
        clear hJ hn hk hG hf e1 ih hk0 hi0 hr0 hs0 hsub hdis hR hRs hnb V hg hQ0 hb0
        go_enter Tryz.func60, Tryz.ntmps60
        go_wp2_with fail
        go_loopw [26] (fun i wr => ∃ j : Nat, j ≤ L ∧ i = .int .i64 j ∧ J ((t.kids.drop j).flatMap (fun x => filesL d (p ++ slash ++ x.1) x.2) ++ r) wr ∧ EFrame Q b o w wr ∧ wr.heap[b]? = w.heap[b]? ∧ KidsAt g d p t.kids gb Qs j wr) (fun i _ => L - (intOf i).toNat)
        case atStart => exact ⟨0, Nat.zero_le _, rfl, HJ0.out, EFrame.refl _ _ _ _, rfl, HK0.out⟩
        case round =>
          obtain ⟨j, hj, rfl, hJj, hFj, hbj, hKj⟩ := hrel
          have c3 := HNB.out wr hbj
          by_cases hlt : j < L
          · obtain ⟨x, hx⟩ : ∃ x, t.kids[j]? = some x := ⟨_, List.getElem?_eq_getElem (by rw [← HL.out]; exact hlt)⟩
            have HXX : Hid (t.kids[j]? = some x) := hx
            have HCL := HIH.out wr j x hx hKj hJj
            have HCL : Hid (Calls Tryz.prog 60 #[.pointer (some ⟨gb, j * 5 + 1, none⟩), .string (p ++ slash ++ x.1), .func (.func cl) #[] cp] wr.drew (EPost 235 (Qs j) d gb (j * 5 + 1) (mapL g d (p ++ slash ++ x.1) x.2) ((t.kids.drop (j + 1)).flatMap (fun x => filesL d (p ++ slash ++ x.1) x.2) ++ r) J E wr.drew)) := HCL
            have HNM : Hid (wr.cell? ⟨gb, j * 5, none⟩ = some (.string x.1)) := (HNM0.out wr j x hx hKj).1
            have hx12 := (HNM0.out wr j x hx hKj).2
            have HFR : Hid (∀ w', EFrame (Qs j) gb (j * 5 + 1) wr.drew w' → EFrame Q b o w w') := fun w' hF => HFR0.out wr w' j hbj hFj hF
            have HBL : Hid (∀ w', EFrame (Qs j) gb (j * 5 + 1) wr.drew w' → w'.heap[b]? = w.heap[b]?) := fun w' hF => HBL0.out wr w' j hbj hF
            have HKD : Hid (KidsAt g d p t.kids gb Qs j wr.drew) := hKj.drew
            have hp2 : p.size + 1 + x.1.size ≤ 9223372036854775807 := by omega
            have hp1 : p.size + 1 ≤ 9223372036854775807 := by omega
            clear hx hKj hJj hFj hbj
            go_wp2_with fail
            have nm := HNM.out
            refine wp_region_held_drew (S := fun _ => True) (by kernel_rfl) (trivial) (fun hHeld => ?_)
            refine wpAnyH_take (i := 0) (v := (.pointer (some ⟨gb, j * 5, none⟩))) rfl (by kernel_rfl) (by kernel_rfl) (by kernel_rfl) (fun _ _ _ h => h) (Or.inl ⟨by rfl, ?_⟩) hHeld ?_
            · intro w hSw; (try dsimp only at hSw); simp only [List.getElem_toArray, List.getElem_cons_zero]; go_simp
            simp only [List.getElem_toArray, List.getElem_cons_zero, Act.put, List.setIfInBounds_toArray, List.set_cons_zero, List.set_cons_succ]
            refine wpAnyH_take (i := 1) (v := (.pointer (some ⟨gb, j * 5, none⟩))) rfl (by kernel_rfl) (by kernel_rfl) (by kernel_rfl) (fun _ _ _ h => h) (Or.inl ⟨by rfl, ?_⟩) hHeld ?_
            · intro w hSw; (try dsimp only at hSw); simp only [List.getElem_toArray, List.getElem_cons_zero, List.getElem_cons_succ]; go_simp
            simp only [List.getElem_toArray, List.getElem_cons_zero, List.getElem_cons_succ, Act.put, List.setIfInBounds_toArray, List.set_cons_zero, List.set_cons_succ]
            refine wpAnyH_take (i := 2) (v := (.pointer (some ⟨gb, j * 5 + 1, none⟩))) rfl (by kernel_rfl) (by kernel_rfl) (by kernel_rfl) (fun _ _ _ h => h) (Or.inl ⟨by rfl, ?_⟩) hHeld ?_
            · intro w hSw; (try dsimp only at hSw); simp only [List.getElem_toArray, List.getElem_cons_zero, List.getElem_cons_succ]; go_simp
            simp only [List.getElem_toArray, List.getElem_cons_zero, List.getElem_cons_succ, Act.put, List.setIfInBounds_toArray, List.set_cons_zero, List.set_cons_succ]
            refine wpAnyH_take (i := 3) (v := (.string p)) rfl (by kernel_rfl) (by kernel_rfl) (by kernel_rfl) (fun _ _ _ h => h) (Or.inl ⟨by rfl, ?_⟩) hHeld ?_
            · intro w hSw; (try dsimp only at hSw); simp only [List.getElem_toArray, List.getElem_cons_zero, List.getElem_cons_succ]; go_simp
            simp only [List.getElem_toArray, List.getElem_cons_zero, List.getElem_cons_succ, Act.put, List.setIfInBounds_toArray, List.set_cons_zero, List.set_cons_succ]
            refine wpAnyH_take (i := 4) (v := (.string (p ++ slash))) rfl (by kernel_rfl) (by kernel_rfl) (by kernel_rfl) (fun _ _ _ h => h) (Or.inl ⟨by rfl, ?_⟩) hHeld ?_
            · intro w hSw; (try dsimp only at hSw); simp only [List.getElem_toArray, List.getElem_cons_zero, List.getElem_cons_succ]; go_simp; rw [if_neg (by omega)]; rfl
            simp only [List.getElem_toArray, List.getElem_cons_zero, List.getElem_cons_succ, Act.put, List.setIfInBounds_toArray, List.set_cons_zero, List.set_cons_succ]
            refine wpAnyH_take (i := 5) (v := (.pointer (some ⟨gb, j * 5, none⟩))) rfl (by kernel_rfl) (by kernel_rfl) (by kernel_rfl) (fun _ _ _ h => h) (Or.inl ⟨by rfl, ?_⟩) hHeld ?_
            · intro w hSw; (try dsimp only at hSw); simp only [List.getElem_toArray, List.getElem_cons_zero, List.getElem_cons_succ]; go_simp
            simp only [List.getElem_toArray, List.getElem_cons_zero, List.getElem_cons_succ, Act.put, List.setIfInBounds_toArray, List.set_cons_zero, List.set_cons_succ]
            refine wpAnyH_take (i := 6) (v := (.pointer (some ⟨gb, j * 5, none⟩))) rfl (by kernel_rfl) (by kernel_rfl) (by kernel_rfl) (fun _ _ _ h => h) (Or.inl ⟨by rfl, ?_⟩) hHeld ?_
            · intro w hSw; (try dsimp only at hSw); simp only [List.getElem_toArray, List.getElem_cons_zero, List.getElem_cons_succ]; go_simp
            simp only [List.getElem_toArray, List.getElem_cons_zero, List.getElem_cons_succ, Act.put, List.setIfInBounds_toArray, List.set_cons_zero, List.set_cons_succ]
            refine wpAnyH_take (i := 7) (v := (.pointer (some ⟨gb, j * 5, none⟩))) rfl (by kernel_rfl) (by kernel_rfl) (by kernel_rfl) (fun _ _ _ h => h) (Or.inl ⟨by rfl, ?_⟩) hHeld ?_
            · intro w hSw; (try dsimp only at hSw); simp only [List.getElem_toArray, List.getElem_cons_zero, List.getElem_cons_succ]; go_simp
            simp only [List.getElem_toArray, List.getElem_cons_zero, List.getElem_cons_succ, Act.put, List.setIfInBounds_toArray, List.set_cons_zero, List.set_cons_succ]
            refine wpAnyH_take (i := 10) (v := (.func (.func cl) #[] cp)) rfl (by kernel_rfl) (by kernel_rfl) (by kernel_rfl) (fun _ _ _ h => h) (Or.inl ⟨by rfl, ?_⟩) hHeld ?_
            · intro w hSw; (try dsimp only at hSw); simp only [List.getElem_toArray, List.getElem_cons_zero, List.getElem_cons_succ]; go_simp
            simp only [List.getElem_toArray, List.getElem_cons_zero, List.getElem_cons_succ, Act.put, List.setIfInBounds_toArray, List.set_cons_zero, List.set_cons_succ]
            refine wpAnyH_ready (rs := [8]) (by kernel_rfl) (by simp) ?_
            refine AllReadyH.cons rfl (fun K' hK => ?_) AllReadyH.nil
            go_wp2_with fail
            refine hK.out _ _ (trivial) (fun hHeld' => ?_)
            clear hK K' hHeld
            have hHeld := hHeld'
            clear hHeld'
            refine wpAnyH_take (i := 9) (v := (.string (p ++ slash ++ x.1))) rfl (by kernel_rfl) (by kernel_rfl) (by kernel_rfl) (fun _ _ _ h => h) (Or.inl ⟨by rfl, ?_⟩) hHeld ?_
            · intro w hSw; (try dsimp only at hSw); simp only [List.getElem_toArray, List.getElem_cons_zero, List.getElem_cons_succ]; go_simp; (have e : slash.size = 1 := rfl); omega
            simp only [List.getElem_toArray, List.getElem_cons_zero, List.getElem_cons_succ, Act.put, List.setIfInBounds_toArray, List.set_cons_zero, List.set_cons_succ]
            refine wpAnyH_ready (rs := [11]) (by kernel_rfl) (by simp) ?_
            refine AllReadyH.cons rfl (fun K' hK => ?_) AllReadyH.nil
            simp only [List.getElem_toArray, List.getElem_cons_zero, List.getElem_cons_succ]
            go_simp
            refine Calls.mono (HCL.out) ?_
            rintro e wx hpost
            rcases hpost with ⟨rfl, hJ2, hT2, hF2⟩ | ⟨er, rfl, hE2⟩
            · skip
              go_wp2_with fail
              refine hK.out _ _ (trivial) (fun hHeld' => ?_)
              clear hK K' hHeld
              have hHeld := hHeld'
              clear hHeld'
              refine wpAnyH_ready (rs := [12]) (by kernel_rfl) (by simp) ?_
              refine AllReadyH.cons rfl (fun K' hK => ?_) AllReadyH.nil
              simp only [List.getElem_toArray, List.getElem_cons_zero, List.getElem_cons_succ]
              go_simp
              go_wp2_with fail
              refine hK.out _ _ (trivial) (fun hHeld' => ?_)
              clear hK K' hHeld
              have hHeld := hHeld'
              clear hHeld'
              refine wpAnyH_done (by kernel_rfl) ?_ _
              go_wp2_with fail
              exact ⟨⟨j + 1, by omega, by simp, hJ2, HFR.out _ hF2, HBL.out _ hF2, HKD.out.next HXX.out hT2 hF2 (fun i k h => (HSUB.out i k h).2) HDIS.out⟩, by simp [intOf]; omega⟩
            · skip
              go_wp2_with fail
              refine hK.out _ _ (trivial) (fun hHeld' => ?_)
              clear hK K' hHeld
              have hHeld := hHeld'
              clear hHeld'
              refine wpAnyH_ready (rs := [12]) (by kernel_rfl) (by simp) ?_
              refine AllReadyH.cons rfl (fun K' hK => ?_) AllReadyH.nil
              simp only [List.getElem_toArray, List.getElem_cons_zero, List.getElem_cons_succ]
              go_simp
              go_wp2_with fail
              refine hK.out _ _ (trivial) (fun hHeld' => ?_)
              clear hK K' hHeld
              have hHeld := hHeld'
              clear hHeld'
              refine wpAnyH_done (by kernel_rfl) ?_ _
              go_wp2_with fail
              go_ret
              exact .inr ⟨er, rfl, hE2⟩
          · obtain rfl : j = L := by omega
            have HFIN : Hid (EPost 235 Q (d + 1) b o (mapL g (d + 1) p t) r J E w (.returned .nilIface) wr) := by
              refine .inl ⟨rfl, ?_, HEND.out wr (by rw [← HL.out]; exact hKj) hbj, hFj⟩
              rw [HL.out, List.drop_length] at hJj
              exact hJj
            clear hJj hFj hbj hKj
            go_wp2_with fail
            go_ret
            exact HFIN.out
end Go.Proofs.YteefneelcgeioaaGreatDoor
namespace Go.Proofs.YteefneelcgeioaaGreatDoor
open Go.RowKit

def whereR (p:Bool->Bool) (u:List Bool) (n:Nat):List Nat:=(List.range n).filter fun k=>p (u[k]?.getD false)
def freeR (u:List Bool):List Nat:=whereR (fun b=>!b) u u.length
def usedR (u:List Bool):List Nat:=whereR id u u.length
def markR (u:List Bool) (b:Bool):List Nat->List Bool
 | []=>u
 | k :: l=>markR (u.set k b) b l
def giveR (u:List Bool):List Nat->Bool
 | []=>true
 | k :: l=>u[k]?.getD false&&giveR (u.set k false) l
theorem whereR_next (p:Bool->Bool) (u:List Bool) (n:Nat):whereR p u (n+1)=if p (u[n]?.getD false) then whereR p u n ++ [n] else whereR p u n:=by
 unfold whereR
 rw [List.range_succ,List.filter_append]
 by_cases h:p (u[n]?.getD false)=true <;> simp [h]
theorem whereR_lt {p:Bool->Bool} {u:List Bool} {n k:Nat} (h:k∈whereR p u n):k<n:=by
 unfold whereR at h
 simpa using (List.mem_filter.1 h).1
theorem whereR_len (p:Bool->Bool) (u:List Bool) (n:Nat):(whereR p u n).length<=n:=by
 unfold whereR
 exact Nat.le_trans (List.length_filter_le _ _) (by simp)
theorem whereR_nodup (p:Bool->Bool) (u:List Bool) (n:Nat):(whereR p u n).Nodup:=List.Pairwise.filter _ List.nodup_range
theorem mem_free {u:List Bool} {k:Nat}:k∈freeR u↔u[k]? = some false:=by
 unfold freeR whereR
 simp only [List.mem_filter,List.mem_range,Bool.not_eq_true']
 constructor
 ·rintro ⟨h1,h2⟩
  rw [List.getElem?_eq_getElem h1] at h2 ⊢
  simpa using h2
 ·intro h
  exact ⟨(List.getElem?_eq_some_iff.1 h).1,by rw [h];rfl⟩
theorem mem_used {u:List Bool} {k:Nat}:k∈usedR u↔u[k]? = some true:=by
 unfold usedR whereR
 simp only [List.mem_filter,List.mem_range,id]
 constructor
 ·rintro ⟨h1,h2⟩
  rw [List.getElem?_eq_getElem h1] at h2 ⊢
  simpa using h2
 ·intro h
  exact ⟨(List.getElem?_eq_some_iff.1 h).1,by rw [h];rfl⟩
theorem free_used_len (u:List Bool):(freeR u).length+(usedR u).length=u.length:=by
 have:∀n,(whereR (fun b=>!b) u n).length+(whereR id u n).length=n:=by
  intro n
  induction n with
  | zero=>simp [whereR]
  | succ n ih =>
   rw [whereR_next,whereR_next]
   cases u[n]?.getD false <;> simp <;> omega
 exact this u.length
theorem markR_len (b:Bool):∀(l:List Nat) (u:List Bool),(markR u b l).length=u.length
 | [],_=>rfl
 | k :: l,u=>by rw [markR,markR_len b l];simp
theorem markR_not {b:Bool}:∀ {l:List Nat} {u:List Bool} {k:Nat},k∉l->(markR u b l)[k]? = u[k]?
 | [],_,_,_=>rfl
 | j :: l,u,k,h=>by
  have hne:j≠k:=fun e=>h (by rw [e];exact List.mem_cons_self)
  rw [markR,markR_not (fun hk=>h (List.mem_cons_of_mem _ hk)),List.getElem?_set_ne hne]
theorem markR_in {b:Bool}:∀ {l:List Nat} {u:List Bool} {k:Nat},k∈l->k<u.length->(markR u b l)[k]? = some b
 | j :: l,u,k,h,hk=>by
  rw [markR]
  by_cases hl:k∈l
  ·exact markR_in hl (by simpa using hk)
  ·rw [markR_not hl]
   rcases List.mem_cons.1 h with rfl|h
   ·rw [List.getElem?_set_self hk]
   ·exact absurd h hl
theorem markR_snoc (b:Bool):∀(l:List Nat) (u:List Bool) (k:Nat),markR u b (l ++ [k])=(markR u b l).set k b
 | [],_,_=>rfl
 | j :: l,u,k=>by rw [List.cons_append,markR,markR,markR_snoc b l]
theorem giveR_snoc:∀(l:List Nat) (u:List Bool) (k:Nat),giveR u (l ++ [k])=(giveR u l&&(markR u false l)[k]?.getD false)
 | [],u,k=>by simp [giveR,markR]
 | j :: l,u,k=>by rw [List.cons_append,giveR,giveR,giveR_snoc l,markR,Bool.and_assoc]
theorem giveR_iff:∀(l:List Nat) (u:List Bool),giveR u l=true↔l.Nodup/\∀k∈l,u[k]? = some true
 | [],u=>by simp [giveR]
 | j :: l,u=>by
  rw [giveR,Bool.and_eq_true,giveR_iff l,List.nodup_cons]
  constructor
  ·rintro ⟨h1,h2,h3⟩
   have hj:u[j]? = some true:=by
    cases h:u[j]? with
    | none=>rw [h] at h1;cases h1
    | some b=>rw [h] at h1;simpa using h1
   have hjl:=(List.getElem?_eq_some_iff.1 hj).1
   have hn:j∉l:=fun hm=>by
    have:=h3 j hm
    rw [List.getElem?_set_self hjl] at this
    cases this
   refine ⟨⟨hn,h2⟩,fun k hk=>?_⟩
   rcases List.mem_cons.1 hk with rfl|hk
   ·exact hj
   ·have:=h3 k hk
    have hne:j≠k:=fun e=>hn (by rw [e];exact hk)
    rwa [List.getElem?_set_ne hne] at this
  ·rintro ⟨⟨h1,h2⟩,h3⟩
   refine ⟨by rw [h3 j List.mem_cons_self];rfl,h2,fun k hk=>?_⟩
   have hne:j≠k:=fun e=>h1 (by rw [e];exact hk)
   rw [List.getElem?_set_ne hne]
   exact h3 k (List.mem_cons_of_mem _ hk)

def RowB (w:World) (b cap:Nat) (u:List Bool):Prop:=w.ownsRow 0 4 1 (.slice (some ⟨b,0,none⟩) u.length cap) u.length (u.map Value.bool)
namespace RowB
variable {w w' : World} {b cap : Nat} {u : List Bool}
theorem of_owns {B:Nat} (h:w.ownsRow B 4 1 (.slice (some ⟨b,0,none⟩) u.length cap) u.length (u.map Value.bool)):RowB w b cap u:=by
 refine ⟨h.1,?_⟩
 rcases h.2 with ⟨h,_⟩|⟨g,c,cur,e,_,h1⟩
 ·simp at h
 ·exact .inr ⟨g,c,cur,e,Nat.zero_le _,h1⟩
theorem row (S:RowB w b cap u):∃cur,w.heap[b]? = some (.cells cur 4 (0,0))/\u.length<=cap/\cap<=maxLen/\cur.size=cap/\cur.toList.take u.length=u.map Value.bool:=by
 rcases S.2 with ⟨h,_⟩|⟨g,c,cur,e,_,h1,h2,h3,h4,h5⟩
 ·simp at h
 ·simp only [Value.slice.injEq,Option.some.injEq,Addr.mk.injEq,true_and,and_true] at e
  obtain ⟨rfl,rfl⟩:=e
  exact ⟨cur,h1,h2,h3,by rw [h4,Nat.mul_one],by rw [<-h5,Nat.mul_one]⟩
theorem mark (S:RowB w b cap u) {k:Nat} {x:Bool} (h:u[k]? = some x):w.cell? ⟨b,k,none⟩=some (.bool x):=by
 obtain ⟨cur,h1,_,_,_,h5⟩:=S.row
 have hk:=(List.getElem?_eq_some_iff.1 h).1
 rw [cell_of_row _ _ _ _ _ _ h1,<-Array.getElem?_toList]
 have:cur.toList[k]? = (cur.toList.take u.length)[k]? := by rw [List.getElem?_take_of_lt hk]
 rw [this,h5,List.getElem?_map,h];rfl
theorem frozen (S:RowB w b cap u) (k:Nat):w.frozen? ⟨b,k,none⟩=false:=by
 obtain ⟨cur,h1,_⟩:=S.row
 simp [World.frozen?,h1]
theorem lt (S:RowB w b cap u):b<w.heap.size:=by
 obtain ⟨cur,h1,_⟩:=S.row
 exact (Array.getElem?_eq_some_iff.1 h1).1
theorem keep (S:RowB w b cap u) (hb:w'.heap[b]? = w.heap[b]?):RowB w' b cap u:=by
 refine ⟨S.1,?_⟩
 rcases S.2 with ⟨h,_⟩|⟨g,c,cur,e,h0,h1,h2⟩
 ·simp at h
 ·simp only [Value.slice.injEq,Option.some.injEq,Addr.mk.injEq,true_and,and_true] at e
  obtain ⟨rfl,rfl⟩:=e
  exact .inr ⟨b,cap,cur,rfl,h0,by rw [hb];exact h1,h2⟩
theorem below (S:RowB w b cap u) (hb:Below w.heap.size w w'):RowB w' b cap u:=S.keep (hb.block _ S.lt)
theorem ne (S:RowB w b cap u) {k:Nat} {cur:Array Value} {t:TypeId} {f:Nat×Nat} (h:w.heap[k]? = some (.cells cur t f)) (ht:t≠4):k≠b:=fun e=>by
 obtain ⟨cur',h1,_⟩:=S.row
 rw [e,h1] at h
 simp only [Option.some.injEq,Obj.cells.injEq] at h
 exact ht h.2.1.symm
theorem set (S:RowB w b cap u) (k:Nat) (x:Bool):RowB (w.setCell ⟨b,k,none⟩ (.bool x)) b cap (u.set k x):=by
 obtain ⟨cur,h1,h2,h3,h4,h5⟩:=S.row
 have hr:(w.setCell ⟨b,k,none⟩ (.bool x)).heap[b]? = some (.cells (cur.toList.set k (.bool x)).toArray 4 (0,0)):=by
  simp [World.setCell,Array.getElem?_modify,h1]
  apply Array.ext';simp
 refine ⟨by simp,.inr ⟨b,cap,_,by simp,Nat.zero_le _,hr,by simpa using h2,h3,by simpa using h4,?_⟩⟩
 simp only [List.length_set,Nat.mul_one,List.take_set]
 rw [h5,List.map_set]
end RowB
structure SpAt (w:World) (p b cap:Nat) (u:List Bool):Prop where
 box:w.heap[p]? = some (.cells #[.slice (some ⟨b,0,none⟩) u.length cap] 184 (0,0))
 own:RowB w b cap u
namespace SpAt
variable {w w' : World} {p b cap : Nat} {u : List Bool}
theorem row (S:SpAt w p b cap u):∃cur,w.heap[b]? = some (.cells cur 4 (0,0))/\u.length<=cap/\cap<=maxLen/\cur.size=cap/\cur.toList.take u.length=u.map Value.bool:=S.own.row
theorem cell (S:SpAt w p b cap u):w.cell? ⟨p,0,none⟩=some (.slice (some ⟨b,0,none⟩) u.length cap):=by rw [cell_of_row _ _ _ _ _ _ S.box];rfl
theorem mark (S:SpAt w p b cap u) {k:Nat} {x:Bool} (h:u[k]? = some x):w.cell? ⟨b,k,none⟩=some (.bool x):=S.own.mark h
theorem frozen (S:SpAt w p b cap u) (k:Nat):w.frozen? ⟨b,k,none⟩=false:=S.own.frozen k
theorem lt (S:SpAt w p b cap u):p<w.heap.size/\b<w.heap.size:=⟨(Array.getElem?_eq_some_iff.1 S.box).1,S.own.lt⟩
theorem keep (S:SpAt w p b cap u) (hp:w'.heap[p]? = w.heap[p]?) (hb:w'.heap[b]? = w.heap[b]?):SpAt w' p b cap u:=⟨by rw [hp];exact S.box,S.own.keep hb⟩
theorem below (S:SpAt w p b cap u) (hb:Below w.heap.size w w'):SpAt w' p b cap u:=S.keep (hb.block _ S.lt.1) (hb.block _ S.lt.2)
theorem ne (S:SpAt w p b cap u):p≠b:=S.own.ne S.box (by decide)
theorem set (S:SpAt w p b cap u) (k:Nat) (x:Bool):SpAt (w.setCell ⟨b,k,none⟩ (.bool x)) p b cap (u.set k x) :=
 ⟨by rw [Below.heap_setCell _ _ _ _ S.ne,List.length_set];exact S.box,S.own.set k x⟩
end SpAt
end Go.Proofs.YteefneelcgeioaaGreatDoor
namespace Go.Proofs.YteefneelcgeioaaGreatDoor
open Go.RowKit

def IntsAt (w:World) (v:Value) (l:List Int):Prop:=∃ad cap,v = .slice ad l.length cap/\∀i x,l[i]? = some x->∃b off,ad=some ⟨b,off,none⟩/\w.cell? ⟨b,off+i,none⟩=some (.int .i64 x)
theorem IntsAt.nil (w:World):IntsAt w (.slice none 0 0) []:=⟨none,0,rfl,fun i x h=>by simp at h⟩
theorem IntsAt.below {w w':World} {v:Value} {l:List Int} (h:IntsAt w v l) (hb:Below w.heap.size w w'):IntsAt w' v l:=by
 obtain ⟨ad,cap,e,hc⟩:=h
 refine ⟨ad,cap,e,fun i x hx=>?_⟩
 obtain ⟨b,off,e2,h2⟩:=hc i x hx
 exact ⟨b,off,e2,by rw [hb.cell (p:=⟨b,off+i,none⟩) (World.block_lt_of_cell? w _ h2)];exact h2⟩
def IntsT (w:World) (v:Value) (l:List Int):Prop:=∃ad cap,v = .slice ad l.length cap/\(l≠[]->∃b off cur,ad=some ⟨b,off,none⟩/\w.heap[b]? = some (.cells cur 3 (0,0))/\∀i x,l[i]? = some x->cur[off+i]? = some (.int .i64 x))
def ints (l:List Nat):List Int:=l.map Int.ofNat
theorem IntsT.nil (w:World) (ad:Option Addr) (c:Nat):IntsT w (.slice ad 0 c) []:=⟨ad,c,rfl,fun h=>absurd rfl h⟩
theorem IntsT.keep {w w':World} {v:Value} {l:List Int} (h:IntsT w v l) (hb:∀(b:Nat) (cur:Array Value),w.heap[b]? = some (Obj.cells cur 3 (0,0))->w'.heap[b]? = w.heap[b]?):IntsT w' v l:=by
 obtain ⟨ad,cap,e,h1⟩:=h
 refine ⟨ad,cap,e,fun hl=>?_⟩
 obtain ⟨b,off,cur,e2,e3,e4⟩:=h1 hl
 exact ⟨b,off,cur,e2,by rw [hb b cur e3];exact e3,e4⟩
theorem IntsT.below {w w':World} {v:Value} {l:List Int} (h:IntsT w v l) (hb:Below w.heap.size w w'):IntsT w' v l :=
 h.keep fun b _ e=>hb.block b (Array.getElem?_eq_some_iff.1 e).1
theorem IntsT.of_owns {w:World} {base:Nat} {v:Value} {l:List Int} (h:w.ownsRow base 3 1 v l.length (l.map (Value.int .i64))):IntsT w v l:=by
 rcases h.2 with ⟨rfl,hn⟩|⟨g,cap,cur,rfl,_,hg,_,_,_,ht⟩
 ·have:l = []:=List.eq_nil_of_length_eq_zero hn
  subst this
  exact IntsT.nil _ _ _
 ·refine ⟨some ⟨g,0,none⟩,cap,rfl,fun _=>⟨g,0,cur,rfl,hg,fun i x hx=>?_⟩⟩
  have hi:=(List.getElem?_eq_some_iff.1 hx).1
  have:cur.toList[i]? = (cur.toList.take (l.length*1))[i]? := by rw [List.getElem?_take_of_lt (by omega)]
  rw [Nat.zero_add,<-Array.getElem?_toList,this,ht,List.getElem?_map,hx];rfl
theorem IntsT.at {w:World} {v:Value} {l:List Int} (h:IntsT w v l):IntsAt w v l:=by
 obtain ⟨ad,cap,e,h1⟩:=h
 refine ⟨ad,cap,e,fun i x hx=>?_⟩
 obtain ⟨b,off,cur,e2,e3,e4⟩:=h1 (fun hl=>by rw [hl] at hx;simp at hx)
 exact ⟨b,off,e2,by rw [cell_of_row _ _ _ _ _ _ e3];exact e4 i x hx⟩
def OwnI (w:World) (B:Nat) (v:Value) (l:List Nat):Prop:=w.ownsRow B 3 1 v l.length ((ints l).map (Value.int .i64))
theorem OwnI.nil (w:World) (B:Nat):OwnI w B (.slice none 0 0) []:=World.ownsRow_nil _ _ _ _
theorem OwnI.alloc {w:World} {B:Nat} {v:Value} {l:List Nat} (h:OwnI w B v l) (o:Obj):OwnI (w.alloc o) B v l:=World.ownsRow.alloc h o
theorem OwnI.t {w:World} {B:Nat} {v:Value} {l:List Nat} (h:OwnI w B v l):IntsT w v (ints l):=by
 refine IntsT.of_owns (base:=B) ?_
 rw [show (ints l).length=l.length by simp [ints]]
 exact h
theorem OwnI.keep {w w':World} {B:Nat} {v:Value} {l:List Nat} (h:OwnI w B v l) (hb:∀(b:Nat) (cur:Array Value),w.heap[b]? = some (Obj.cells cur 3 (0,0))->w'.heap[b]? = w.heap[b]?):OwnI w' B v l:=by
 refine ⟨h.1,?_⟩
 rcases h.2 with h2|⟨g,cap,cur,e,e1,e2,e3⟩
 ·exact .inl h2
 ·exact .inr ⟨g,cap,cur,e,e1,by rw [hb g cur e2];exact e2,e3⟩
theorem infoBo:(Tryz.prog.info? 4).map (fun i=>(i.zero,i.size,i.bytes))=some (some (.bool false),1,1):=by kernel_rfl
theorem infoSt:(Tryz.prog.info? 9).map (fun i=>(i.zero,i.size,i.bytes))=some (some (.string { data:=#[] }),1,16):=by kernel_rfl
theorem infoIn:(Tryz.prog.info? 3).map (fun i=>(i.zero,i.size,i.bytes))=some (some (.int .i64 0),1,8):=by kernel_rfl

end Go.Proofs.YteefneelcgeioaaGreatDoor
namespace Go.Proofs.YteefneelcgeioaaGreatDoor
set_option maxHeartbeats 2000000
set_option maxRecDepth 100000
open Go.RowKit

theorem run_make_bools (n:Nat) (hn:n<=100000) (w:World):(Instr.makeSlice 182 (.int .i64 (n:Int)) (.int .i64 (n:Int))).run Tryz.prog w = .ok (.slice (some ⟨w.heap.size,0,none⟩) n n) (w.alloc (.cells ((List.replicate n false).map Value.bool).toArray 4)):=by
 obtain ⟨i0,hi0,hz0,hz1,hz2⟩:=info_parts infoBo
 have:=run_make (P:=Tryz.prog) w 182 4 i0 _ Tryz.underlying182 hi0 hz0 .i64 .i64 n n (by omega) (Int.le_refl _) (by rw [hz2];omega) (by omega)
 simp only [Int.toNat_natCast] at this
 rw [this,hz1]
 congr 3
 apply Array.ext
 ·simp [size_madeCells]
 ·intro i h1 h2
  simp [madeCells,Value.cells,Nat.mod_one]
theorem sp_new (n:Nat) (h1:1<=n) (h2:n<=512) (w:World) :
  Calls Tryz.prog 84 #[.int .i64 (n:Int)] w fun e w'=>e = .returned (.tuple #[.pointer (some ⟨w.heap.size+1,0,none⟩),.nilIface])/\SpAt w' (w.heap.size+1) w.heap.size n (List.replicate n false)/\Below w.heap.size w w':=by
 have HM:=run_make_bools n (by omega) w
 obtain ⟨C0,hC0⟩:∃C0,C0=((List.replicate n false).map Value.bool).toArray:=⟨_,rfl⟩
 rw [<-hC0] at HM
 have HC0:Hid (C0=((List.replicate n false).map Value.bool).toArray):=hC0
 clear hC0
 go_enter Tryz.func84,Tryz.ntmps84
 go_wp2_with fail
 go_ret2
 have hs1:(w.alloc (.cells C0 4)).heap.size=w.heap.size+1:=by simp
 refine ⟨rfl,⟨?_,by simp,.inr ⟨w.heap.size,n,C0,by simp,Nat.zero_le _,?_,by simp,by unfold maxLen;omega,by rw [HC0.out];simp,by rw [HC0.out];simp⟩⟩,((Below.refl _ w).alloc (Nat.le_refl _) _).alloc (by simp) _⟩
 ·rw [<-hs1,heap_alloc_last,List.length_replicate]
 ·rw [Below.heap_alloc _ _ _ (by simp),heap_alloc_last]
section
variable {p b cap : Nat} {u : List Bool}
theorem sp_marks (w:World) (S:SpAt w p b cap u) :
  Calls Tryz.prog 109 #[.pointer (some ⟨p,0,none⟩)] w fun e w'=>e = .returned (.slice (some ⟨b,0,none⟩) u.length cap)/\w'=w:=by
 have c:=S.cell
 clear S
 go_enter Tryz.func109,Tryz.ntmps109
 go_wp2_with fail
 go_ret
 exact ⟨rfl,rfl⟩
theorem sp_where (g:Nat) (pr:Bool->Bool) (w:World) (S:SpAt w p b cap u) (hu:u.length<=512)
  (eg:∀args w,(callFunc g args).run Tryz.prog w = .ok (.enter g args) w)
  (HF:∀(x:Bool) (W:World),Calls Tryz.prog g (#[.bool x] ++ #[]) W fun e W'=>e = .returned (.bool (pr x))/\W'=W) :
  Calls Tryz.prog 100 #[.pointer (some ⟨p,0,none⟩),.func (.func g) #[] #[]] w fun e w'=>∃v,e = .returned v/\OwnI w' w.heap.size v (whereR pr u u.length)/\Below w.heap.size w w':=by
 obtain ⟨i0,hi0,hz0,hz1,hz2⟩:=info_parts infoIn
 have HM:=sp_marks w S
 have HS:Hid (SpAt w p b cap u):=S
 have HFF:Hid (∀(x:Bool) (W:World),Calls Tryz.prog g (#[.bool x] ++ #[]) W fun e W'=>e = .returned (.bool (pr x))/\W'=W):=HF
 clear S HF
 go_enter Tryz.func100,Tryz.ntmps100
 go_wp2_with (go_at_call 109;refine HM.mono ?_;rintro e w1 ⟨rfl,hw⟩;rw [hw];clear hw)
 clear HM
 go_loopw [5,11] (fun l i wr=>∃j:Nat,j<=u.length/\i = .int .i64 j/\OwnI wr w.heap.size l (whereR pr u j)/\Below w.heap.size w wr) (fun _ i _=>u.length-(intOf i).toNat)
 case atStart=>exact ⟨0,Nat.zero_le _,rfl,OwnI.nil _ _,Below.refl _ _⟩
 case round =>
  obtain ⟨j,hj,rfl,ho,hb⟩:=hrel
  have HO:Hid (OwnI wr w.heap.size u5 (whereR pr u j)):=ho
  have HB:Hid (Below w.heap.size w wr):=hb
  by_cases hlt:j<u.length
  ·obtain ⟨x,hx⟩:∃x,u[j]? = some x:=⟨_,List.getElem?_eq_getElem hlt⟩
   have c:=(HS.out.below hb).mark hx
   have HN:Hid (whereR pr u (j+1)=if pr x then whereR pr u j ++ [j] else whereR pr u j):=by show _=_;rw [whereR_next,hx];rfl
   have HC:=HFF.out x wr
   have hwl:=whereR_len pr u j
   clear ho hb hx
   cases hp:pr x with
   | true =>
    rw [hp] at HC HN
    have hsz:=HB.out.size
    obtain ⟨m,xs,HMm,HO1⟩:∃m xs,Hid (m=(whereR pr u j).length/\xs=(ints (whereR pr u j)).map (Value.int .i64))/\Hid (∀X,(wr.alloc X).ownsRow w.heap.size 3 1 u5 m xs):=⟨_,_,⟨rfl,rfl⟩,fun X=>HO.out.alloc X⟩
    have hm5:m<=512:=by rw [HMm.out.1];omega
    go_wp2_with (first
     | (refine HC.mono ?_;rintro e w2 ⟨rfl,hw⟩;rw [hw];clear hw)
     | (at_builtin;refine wpList_append_own _ (by rfl) (.tmp 19) (.tmp 21) 44 (by rfl) w.heap.size 3 i0 _ 1 8 Tryz.underlying44 hi0 hz0 hz1 hz2 rfl (by omega) _ m _ (by rfl) (HO1.out _) ⟨wr.heap.size,0,none⟩ 1 1 [.int .i64 (j:Int)] (by rfl) rfl (cell_one_new _ _ _) (fun u hu=>by rw [List.mem_singleton.1 hu];rfl) (by unfold maxLen;omega) (by omega) (by rw [World.size_alloc];omega) ?_;intro v' w3 hown hgrow _))
    refine ⟨⟨j+1,by omega,by simp,?_,(HB.out.alloc hsz _).grown hgrow (by rw [World.size_alloc];omega) (fun k hk=>(HO.out.lt k hk).1)⟩,by simp [intOf];omega⟩
    rw [HN.out]
    obtain ⟨e1,e2⟩:=HMm.out
    rw [e1,e2] at hown
    unfold OwnI
    simpa [ints] using hown
   | false =>
    rw [hp] at HC HN
    go_wp2_with (refine HC.mono ?_;rintro e w2 ⟨rfl,hw⟩;rw [hw];clear hw)
    refine ⟨⟨j+1,by omega,by simp,by rw [HN.out];exact HO.out,HB.out⟩,by simp [intOf];omega⟩
  ·obtain rfl:j=u.length:=by omega
   clear ho hb
   go_wp2_with fail
   go_ret
   exact ⟨_,rfl,HO.out,HB.out⟩
end
end Go.Proofs.YteefneelcgeioaaGreatDoor
