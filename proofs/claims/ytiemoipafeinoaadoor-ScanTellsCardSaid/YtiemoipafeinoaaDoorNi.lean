/-
  The law 'ScanTells' returns true.
  Conditions: the sentinels hold what the program's text lays; the tree and the names lie in memory.
-/
import Derived.Test.YtiemoipafeinoaaDoorNe
import Derived.Test.YtiemoipafeinoaaDoorNh
import Derived.Test.YtiemoipafeinoaaDoorCode
import Derived.Test.YtiemoipafeinoaaDoorLarge
namespace Go.Proofs.YtiemoipafeinoaaDoor
open Go.RowKit Go.Maps
attribute [local go_sem ↓] Go.wp_at_zero Go.wp_at_succ

/-- Names that are found, in one form. -/
def FdP (names M : List ByteArray) (W : World) (e : Ending) (w' : World) : Prop := (∃ r va vc, e = .returned (.slice va r.length vc) ∧ r.length ≤ 1000 ∧ Hid (IsFd names M r ∧ Texts w' (.slice va r.length vc) r)) ∧ Below W.heap.size W w'
theorem find_fdp (s : ByteArray) (v : Value) (names : List ByteArray) (w : World) (hv : Texts w v names) (hz : ∀ x ∈ names, x.size ≤ 1000000) (hl : names.length ≤ 1000) (hs : s.size ≤ 1000000) : Calls Tryd.prog 9 #[.string s, v] w fun e w' => FdP names (mn s.data.toList) w e w' := by
  refine (find_any s v names w hv hz (by omega) hs).mono ?_
  rintro e w' ⟨⟨r, va, vc, rfl, hr, ho⟩, hb⟩
  exact ⟨⟨r, va, vc, rfl, Nat.le_trans hr.len hl, hr, ho.texts⟩, hb⟩
theorem findIn_fdp (s : ByteArray) (v : Value) (names : List ByteArray) (w : World) (hv : Texts w v names) (hl : names.length ≤ 1000) (hs : s.size ≤ 1000000) : Calls Tryd.prog 10 #[.string s, v] w fun e w' => FdP names (mn s.data.toList) w e w' := by
  refine (findIn_any s v names w hv hl hs).mono ?_
  rintro e w' ⟨⟨r, va, vc, rfl, hl, hr⟩, hb⟩
  exact ⟨⟨r, va, vc, rfl, hl, hr.out.1, hr.out.2.1⟩, hb⟩
/-- Turn's answer and the document's, side by side. -/
theorem tu_both {eN eB : Value} {s f t : ByteArray} {e1 e2 : Ending} (h1 : TurnPost eN eB s f t e1) (h2 : TuO s f t e2) : ∃ (x : ByteArray) (ev : Value) (c : Int), e1 = .returned (.tuple #[.string x, ev]) ∧ e2 = .returned (.tuple #[.string x, .int .i64 c]) ∧ ((ev = eN ∧ c = 5) ∨ (ev = eB ∧ c = 2) ∨ (ev = .nilIface ∧ c = 0)) := by
  rcases h1 with ⟨n1, rfl⟩ | ⟨f1, t1, ⟨l1, rfl⟩ | ⟨l1, rfl⟩⟩
  · rcases h2 with ⟨_, rfl⟩ | ⟨f2, t2, _⟩
    · exact ⟨_, _, _, rfl, rfl, .inl ⟨rfl, rfl⟩⟩
    · rw [f2, t2] at n1; rcases n1 with h | h <;> cases h
  · rcases h2 with ⟨n2, _⟩ | ⟨f2, t2, ⟨_, rfl⟩ | ⟨l2, _⟩⟩
    · rw [f1, t1] at n2; rcases n2 with h | h <;> cases h
    · exact ⟨_, _, _, rfl, rfl, .inr (.inl ⟨rfl, rfl⟩)⟩
    · omega
  · rcases h2 with ⟨n2, _⟩ | ⟨f2, t2, ⟨l2, _⟩ | ⟨_, rfl⟩⟩
    · rw [f1, t1] at n2; rcases n2 with h | h <;> cases h
    · omega
    · exact ⟨_, _, _, rfl, rfl, .inr (.inr ⟨rfl, rfl⟩)⟩
theorem tu_form {eN eB : Value} {s f t : ByteArray} {e1 : Ending} (h1 : TurnPost eN eB s f t e1) : ∃ (x : ByteArray) (ev : Value), e1 = .returned (.tuple #[.string x, ev]) := by
  rcases h1 with ⟨n1, rfl⟩ | ⟨f1, t1, ⟨l1, rfl⟩ | ⟨l1, rfl⟩⟩ <;> exact ⟨_, _, rfl⟩

set_option maxRecDepth 100000 in
set_option maxHeartbeats 8000000 in
theorem scanTells_any (a : Nat → Addr) (s : ByteArray) (d : Nat) (t : Tree) (u v : Value) (names : List ByteArray) (f g : ByteArray) (w : World) (T : Sents a w) (hl : Lies w w.heap.size d t.kids u) (hv : Texts w v names) (hnl : names.length ≤ maxLen) (hz : ∀ x ∈ names, x.size ≤ maxLen) (hs : s.size ≤ maxLen) (hf : f.size ≤ maxLen) (hg : g.size ≤ maxLen) :
    Calls Tryd.prog 3 #[.string s, .agg #[.string t.kind, .string t.data, .bool t.exec, u], v, .string f, .string g] w fun e w' => e = .returned (.bool true) ∧ Below w.heap.size w w' := by
  unfold maxLen at hs hf hg hnl hz
  have hfit := Lies.fit hl
  obtain ⟨ta, tc, rfl⟩ := hl.form
  obtain ⟨ad, cap, rfl, _⟩ := id hv
  obtain ⟨w1, hw1⟩ : ∃ w1, w1 = w.alloc (.cells #[.string t.kind, .string t.data, .bool t.exec, .slice ta t.kids.length tc] 24) := ⟨_, rfl⟩
  have b1 : Below w.heap.size w w1 := by rw [hw1]; exact (Below.refl _ _).alloc (Nat.le_refl _) _
  have q1 : w1.heap[w.heap.size]? = some (.cells #[.string t.kind, .string t.data, .bool t.exec, .slice ta t.kids.length tc] 24 (0, 0)) := by rw [hw1]; exact heap_alloc_last _ _
  have HSC : Hid _ := scanned_any w1 ⟨_, _, (T.below b1).c4, (T.below b1).c1⟩
  have HT : Hid (∀ W, Below w.heap.size w W → Sents a W) := fun W hb => T.below hb
  have HL : Hid (∀ W, Below w.heap.size w W → Lies W w.heap.size d t.kids (.slice ta t.kids.length tc)) := fun W hb => hl.below hb (Nat.le_refl _)
  have HV : Hid (∀ W, Below w.heap.size w W → Texts W (.slice ad names.length cap) names) := fun W hb => hv.below hb
  have HZ : Hid (∀ x ∈ names, x.size ≤ 9223372036854775807) := hz
  have HFIT : Hid (Fit d t) := hfit
  have HB1 : Hid (Below w.heap.size w w1) := b1
  have HC : Hid (∀ W, Below w1.heap.size w1 W → W.cell? ⟨w.heap.size, 0, none⟩ = some (.string t.kind) ∧ W.cell? ⟨w.heap.size, 1, none⟩ = some (.string t.data) ∧ W.cell? ⟨w.heap.size, 2, none⟩ = some (.bool t.exec) ∧ W.cell? ⟨w.heap.size, 3, none⟩ = some (.slice ta t.kids.length tc)) := fun W hb => by
    have q := (hb.block _ (lt_of_row q1)).trans q1
    refine ⟨?_, ?_, ?_, ?_⟩ <;> (rw [cell_of_row _ _ _ _ _ _ q]; rfl)
  have HW1 : Hid (w1 = w.alloc (.cells #[.string t.kind, .string t.data, .bool t.exec, .slice ta t.kids.length tc] 24)) := hw1
  clear T hl hv b1 q1 hw1 hfit hz
  go_enter Tryd.func3, Tryd.ntmps3
  go_wp2_with fail
  rw [← HW1.out]
  refine Calls.mono HSC.out ?_
  clear HSC
  rintro e w2 ⟨rfl, hb2⟩
  have HB12 : Hid (Below w1.heap.size w1 w2) := hb2
  have HB2 : Hid (Below w.heap.size w w2) := HB1.out.trans (hb2.mono HB1.out.size)
  clear hb2
  obtain ⟨y0, y1, y2, y3⟩ := HC.out w2 HB12.out
  rcases Nat.lt_or_ge 300 s.size with k1 | k1
  · have k1' : (300 : Int) < (s.size : Int) := by omega
    go_wp2_with fail
    go_ret
    exact ⟨rfl, HB2.out⟩
  have k1' : (s.size : Int) ≤ 300 := by omega
  have h := large_any w.heap.size d 60 t (.slice ta t.kids.length tc) w2 HB2.out.size (HL.out w2 HB2.out) (by omega)
  cases hlb : largeB 60 t with
  | true =>
    rw [largeN_yes hlb] at h
    have HLG : Hid _ := h
    clear h hlb
    go_wp2_with fail
    refine Calls.mono HLG.out ?_
    rintro e w3 ⟨rfl, hb3⟩
    have HB3 : Hid (Below w.heap.size w w3) := HB2.out.trans (hb3.mono HB2.out.size)
    clear hb3 HLG
    go_wp2_with fail
    go_ret
    exact ⟨rfl, HB3.out⟩
  | false =>
  rw [largeN_no hlb] at h
  have HLG : Hid _ := h
  obtain ⟨hok, hfew⟩ := small_ok HFIT.out hlb
  have HOK : Hid (OkItems (pre d ByteArray.empty 0 t)) := hok
  have HFEW : Hid ((pre d ByteArray.empty 0 t).length ≤ 60) := hfew
  clear h hlb hok hfew
  go_wp2_with fail
  refine Calls.mono HLG.out ?_
  clear HLG y0 y1 y2 y3
  rintro e w3 ⟨rfl, hb3⟩
  have HB3 : Hid (Below w.heap.size w w3) := HB2.out.trans (hb3.mono HB2.out.size)
  have HB13 : Hid (Below w1.heap.size w1 w3) := HB12.out.trans (hb3.mono HB12.out.size)
  clear hb3
  go_wp2_with fail
  refine Calls.mono (longTexts_any (.slice ad names.length cap) names 30 w3 (HV.out w3 HB3.out) hnl HZ.out) ?_
  rintro e w4 ⟨⟨b, rfl, hsm⟩, rfl⟩
  have HS2 : Hid (b = false → names.length ≤ 20 ∧ ∀ x ∈ names, x.size ≤ 30) := hsm
  clear hsm
  cases b with
  | true =>
    go_wp2_with fail
    go_ret
    exact ⟨rfl, HB3.out⟩
  | false =>
  have hn20 : names.length ≤ 20 := (HS2.out (by simp)).1
  have HNS : Hid (∀ x ∈ names, x.size ≤ 1000000) := fun x hx => by have := (HS2.out (by simp)).2 x hx; omega
  clear HS2 HZ hnl
  rcases Nat.lt_or_ge 30 f.size with k2 | k2
  · have k2' : (30 : Int) < (f.size : Int) := by omega
    go_wp2_with fail
    go_ret
    exact ⟨rfl, HB3.out⟩
  have k2' : (f.size : Int) ≤ 30 := by omega
  rcases Nat.lt_or_ge 30 g.size with k3 | k3
  · have k3' : (30 : Int) < (g.size : Int) := by omega
    go_wp2_with fail
    go_ret
    exact ⟨rfl, HB3.out⟩
  have k3' : (g.size : Int) ≤ 30 := by omega
  have HV4 : Hid (Texts w4 (.slice ad names.length cap) names) := HV.out w4 HB3.out
  go_upto_region 6 with (at_builtin; go_must (refine wpList_appS _ (by rfl) _ _ (by rfl) w4.heap.size (.slice none 0 0) (.slice ad names.length cap) [] names (by rfl) (by rfl) (OwnS.nil _ _) HV4.out (by rw [List.length_nil]; omega) (Nat.le_refl _) ?_; intro va5 vc5 w5 h5 g5; (have HO5 : Hid (Texts w5 (.slice va5 names.length vc5) names) := by (have h6 := h5.texts; rw [List.nil_append, List.length_nil, Nat.zero_add] at h6; exact h6)); (have HB45 : Hid (Below w4.heap.size w4 w5) := (Below.refl _ _).grown g5 (Nat.le_refl _) (fun j e => by cases e)); clear h5 g5; rw [show ([] : List ByteArray).length + names.length = names.length from Nat.zero_add _]))
  have HB5 : Hid (Below w.heap.size w w5) := HB3.out.trans (HB45.out.mono HB3.out.size)
  have HB15 : Hid (Below w1.heap.size w1 w5) := HB13.out.trans (HB45.out.mono HB13.out.size)
  clear HB45 HV4 HB13 HB3 HB12 HB2
  have HBX : Hid (∀ W, Below w5.heap.size w5 W → W.cell? ⟨w.heap.size, 0, none⟩ = some (.string t.kind) ∧ W.cell? ⟨w.heap.size, 1, none⟩ = some (.string t.data) ∧ W.cell? ⟨w.heap.size, 2, none⟩ = some (.bool t.exec) ∧ W.cell? ⟨w.heap.size, 3, none⟩ = some (.slice ta t.kids.length tc)) := fun W hb => HC.out W (HB15.out.trans (hb.mono HB15.out.size))
  have HU : Hid (∀ W, Below w5.heap.size w5 W → Below w.heap.size w W) := fun W hb => HB5.out.trans (hb.mono HB5.out.size)
  have HOW : Hid (∀ W, Below w5.heap.size w5 W → Texts W (.slice va5 names.length vc5) names) := fun W hb => HO5.out.below hb
  have HFD : Hid (∀ W, Below w5.heap.size w5 W → Calls Tryd.prog 9 #[.string s, .slice va5 names.length vc5] W fun e w' => FdP names (mn s.data.toList) W e w') := fun W hb => find_fdp s _ names W (HOW.out W hb) HNS.out (by omega) (by omega)
  have HFI : Hid (∀ W, Below w5.heap.size w5 W → Calls Tryd.prog 10 #[.string s, .slice ad names.length cap] W fun e w' => FdP names (mn s.data.toList) W e w') := fun W hb => findIn_fdp s _ names W (HV.out W (HU.out W hb)) (by omega) (by omega)
  have HOWN : Hid (∀ W, Below w5.heap.size w5 W → Calls Tryd.prog 12 #[.agg #[.string t.kind, .string t.data, .bool t.exec, .slice ta t.kids.length tc]] W fun e w' => ∃ u', e = .returned (.agg #[.string t.kind, .string t.data, .bool t.exec, u']) ∧ LiesQ w' (fun b => W.heap.size ≤ b ∧ b < w'.heap.size) d t.kids u' ∧ Below W.heap.size W w') := fun W hb => own_any w.heap.size d t _ W (HU.out W hb).size (HL.out W (HU.out W hb))
  have HRF : Hid (∀ W u', Below w5.heap.size w5 W → Lies W W.heap.size d t.kids u' → Calls Tryd.prog 11 #[.agg #[.string t.kind, .string t.data, .bool t.exec, u'], .slice va5 names.length vc5] W fun e w' => FdP names (refM d t) W e w') := fun W u' hb hl => refs_any a d W.heap.size t u' _ names W (HT.out W (HU.out W hb)).atB (Nat.le_refl _) hl HOK.out (by have := HFEW.out; omega) (HOW.out W hb) HNS.out (by omega)
  have HRI : Hid (∀ W, Below w5.heap.size w5 W → Calls Tryd.prog 13 #[.agg #[.string t.kind, .string t.data, .bool t.exec, .slice ta t.kids.length tc], .slice ad names.length cap] W fun e w' => FdP names (refM d t) W e w') := fun W hb => refsIn_any d w.heap.size t _ _ names W (HU.out W hb).size (HL.out W (HU.out W hb)) HOK.out (HV.out W (HU.out W hb)) (by omega)
  have HBD : Hid (Below w5.heap.size w5 w5.drew) := (Below.refl _ w5).drew
  clear HC HOW HO5 HNS HOK HFEW HFIT HB1 HB15
  refine wp_region_held_drew (S := fun W => W.cell? ⟨w.heap.size, 0, none⟩ = some (.string t.kind) ∧ W.cell? ⟨w.heap.size, 1, none⟩ = some (.string t.data) ∧ W.cell? ⟨w.heap.size, 2, none⟩ = some (.bool t.exec) ∧ W.cell? ⟨w.heap.size, 3, none⟩ = some (.slice ta t.kids.length tc)) (by kernel_rfl) (HBX.out _ HBD.out) (fun hHeld => ?_)
  refine wpAnyH_take (i := 0) (v := (.string s)) rfl (by kernel_rfl) (by kernel_rfl) (by kernel_rfl) (fun _ _ _ h => h) (Or.inl ⟨by rfl, ?_⟩) hHeld ?_
  · intro w hSw; (try dsimp only at hSw); simp only [List.getElem_toArray, List.getElem_cons_zero]; go_simp
  simp only [List.getElem_toArray, List.getElem_cons_zero, Act.put, List.setIfInBounds_toArray, List.set_cons_zero, List.set_cons_succ]
  refine wpAnyH_take (i := 1) (v := (.slice va5 names.length vc5)) rfl (by kernel_rfl) (by kernel_rfl) (by kernel_rfl) (fun _ _ _ h => h) (Or.inl ⟨by rfl, ?_⟩) hHeld ?_
  · intro w hSw; (try dsimp only at hSw); simp only [List.getElem_toArray, List.getElem_cons_zero, List.getElem_cons_succ]; go_simp
  simp only [List.getElem_toArray, List.getElem_cons_zero, List.getElem_cons_succ, Act.put, List.setIfInBounds_toArray, List.set_cons_zero, List.set_cons_succ]
  refine wpAnyH_take (i := 3) (v := (.string s)) rfl (by kernel_rfl) (by kernel_rfl) (by kernel_rfl) (fun _ _ _ h => h) (Or.inl ⟨by rfl, ?_⟩) hHeld ?_
  · intro w hSw; (try dsimp only at hSw); simp only [List.getElem_toArray, List.getElem_cons_zero, List.getElem_cons_succ]; go_simp
  simp only [List.getElem_toArray, List.getElem_cons_zero, List.getElem_cons_succ, Act.put, List.setIfInBounds_toArray, List.set_cons_zero, List.set_cons_succ]
  refine wpAnyH_take (i := 4) (v := (.slice ad names.length cap)) rfl (by kernel_rfl) (by kernel_rfl) (by kernel_rfl) (fun _ _ _ h => h) (Or.inl ⟨by rfl, ?_⟩) hHeld ?_
  · intro w hSw; (try dsimp only at hSw); simp only [List.getElem_toArray, List.getElem_cons_zero, List.getElem_cons_succ]; go_simp
  simp only [List.getElem_toArray, List.getElem_cons_zero, List.getElem_cons_succ, Act.put, List.setIfInBounds_toArray, List.set_cons_zero, List.set_cons_succ]
  refine wpAnyH_ready (rs := [2]) (by kernel_rfl) (by simp) ?_
  refine AllReadyH.cons rfl (fun K' hK => ?_) AllReadyH.nil
  simp only [List.getElem_toArray, List.getElem_cons_zero, List.getElem_cons_succ]
  go_simp
  refine Calls.mono (HFD.out _ HBD.out) ?_
  rintro e wx ⟨⟨r1, a1, c1, rfl, hr1, H1⟩, bb⟩
  have HBE : Hid (Below w5.heap.size w5 wx) := HBD.out.trans (bb.mono HBD.out.size)
  clear bb HFD
  go_wp2_with fail
  refine hK.out _ _ (HBX.out _ HBE.out) (fun hHeld' => ?_)
  clear hK K' hHeld
  have hHeld := hHeld'
  clear hHeld'
  refine wpAnyH_ready (rs := [5]) (by kernel_rfl) (by simp) ?_
  refine AllReadyH.cons rfl (fun K' hK => ?_) AllReadyH.nil
  simp only [List.getElem_toArray, List.getElem_cons_zero, List.getElem_cons_succ]
  go_simp
  refine Calls.mono (HFI.out _ HBE.out) ?_
  rintro e wx ⟨⟨r2, a2, c2, rfl, hr2, H2⟩, bb⟩
  have HBF : Hid (Below w5.heap.size w5 wx) := HBE.out.trans (bb.mono HBE.out.size)
  have HTX : Hid (Texts wx (.slice a1 r1.length c1) r1) := H1.out.2.below bb
  obtain rfl := H1.out.1.one H2.out.1
  have HST : Hid (Calls Tryd.prog 8 #[.slice a1 r1.length c1, .slice a2 r1.length c2] wx fun e w' => e = .returned (.bool true) ∧ Below wx.heap.size wx w') := by
    have h := sameTexts_any (.slice a1 r1.length c1) (.slice a2 r1.length c2) r1 r1 wx HTX.out H2.out.2 (by omega)
    rw [textsEq_refl] at h
    exact h
  clear bb H1 H2 HTX
  clear HFI
  go_wp2_with fail
  refine hK.out _ _ (HBX.out _ HBF.out) (fun hHeld' => ?_)
  clear hK K' hHeld
  have hHeld := hHeld'
  clear hHeld'
  refine wpAnyH_ready (rs := [6]) (by kernel_rfl) (by simp) ?_
  refine AllReadyH.cons rfl (fun K' hK => ?_) AllReadyH.nil
  simp only [List.getElem_toArray, List.getElem_cons_zero, List.getElem_cons_succ]
  go_simp
  refine Calls.mono (HST.out) ?_
  rintro e wx ⟨rfl, bb⟩
  have HBG : Hid (Below w5.heap.size w5 wx) := HBF.out.trans (bb.mono HBF.out.size)
  clear bb HST
  go_wp2_with fail
  refine hK.out _ _ (HBX.out _ HBG.out) (fun hHeld' => ?_)
  clear hK K' hHeld
  have hHeld := hHeld'
  clear hHeld'
  refine wpAnyH_take (i := 7) (v := (.bool false)) rfl (by kernel_rfl) (by kernel_rfl) (by kernel_rfl) (fun _ _ _ h => h) (Or.inl ⟨by rfl, ?_⟩) hHeld ?_
  · intro w hSw; (try dsimp only at hSw); simp only [List.getElem_toArray, List.getElem_cons_zero, List.getElem_cons_succ]; go_simp
  simp only [List.getElem_toArray, List.getElem_cons_zero, List.getElem_cons_succ, Act.put, List.setIfInBounds_toArray, List.set_cons_zero, List.set_cons_succ]
  refine wpAnyH_take (i := 8) (v := (.bool false)) rfl (by kernel_rfl) (by kernel_rfl) (by kernel_rfl) (fun _ _ _ h => h) (Or.inl ⟨by rfl, ?_⟩) hHeld ?_
  · intro w hSw; (try dsimp only at hSw); simp only [List.getElem_toArray, List.getElem_cons_zero, List.getElem_cons_succ]; go_simp
  simp only [List.getElem_toArray, List.getElem_cons_zero, List.getElem_cons_succ, Act.put, List.setIfInBounds_toArray, List.set_cons_zero, List.set_cons_succ]
  refine wpAnyH_take (i := 9) (v := (.agg #[.string t.kind, .string t.data, .bool t.exec, .slice ta t.kids.length tc])) rfl (by kernel_rfl) (by kernel_rfl) (by kernel_rfl) (fun _ _ _ h => h) (Or.inl ⟨by rfl, ?_⟩) hHeld ?_
  · intro w hSw; (try dsimp only at hSw); simp only [List.getElem_toArray, List.getElem_cons_zero, List.getElem_cons_succ]; go_simp
  simp only [List.getElem_toArray, List.getElem_cons_zero, List.getElem_cons_succ, Act.put, List.setIfInBounds_toArray, List.set_cons_zero, List.set_cons_succ]
  refine wpAnyH_take (i := 11) (v := (.slice va5 names.length vc5)) rfl (by kernel_rfl) (by kernel_rfl) (by kernel_rfl) (fun _ _ _ h => h) (Or.inl ⟨by rfl, ?_⟩) hHeld ?_
  · intro w hSw; (try dsimp only at hSw); simp only [List.getElem_toArray, List.getElem_cons_zero, List.getElem_cons_succ]; go_simp
  simp only [List.getElem_toArray, List.getElem_cons_zero, List.getElem_cons_succ, Act.put, List.setIfInBounds_toArray, List.set_cons_zero, List.set_cons_succ]
  refine wpAnyH_take (i := 13) (v := (.agg #[.string t.kind, .string t.data, .bool t.exec, .slice ta t.kids.length tc])) rfl (by kernel_rfl) (by kernel_rfl) (by kernel_rfl) (fun _ _ _ h => h) (Or.inl ⟨by rfl, ?_⟩) hHeld ?_
  · intro w hSw; (try dsimp only at hSw); simp only [List.getElem_toArray, List.getElem_cons_zero, List.getElem_cons_succ]; go_simp
  simp only [List.getElem_toArray, List.getElem_cons_zero, List.getElem_cons_succ, Act.put, List.setIfInBounds_toArray, List.set_cons_zero, List.set_cons_succ]
  refine wpAnyH_take (i := 14) (v := (.slice ad names.length cap)) rfl (by kernel_rfl) (by kernel_rfl) (by kernel_rfl) (fun _ _ _ h => h) (Or.inl ⟨by rfl, ?_⟩) hHeld ?_
  · intro w hSw; (try dsimp only at hSw); simp only [List.getElem_toArray, List.getElem_cons_zero, List.getElem_cons_succ]; go_simp
  simp only [List.getElem_toArray, List.getElem_cons_zero, List.getElem_cons_succ, Act.put, List.setIfInBounds_toArray, List.set_cons_zero, List.set_cons_succ]
  refine wpAnyH_ready (rs := [10]) (by kernel_rfl) (by simp) ?_
  refine AllReadyH.cons rfl (fun K' hK => ?_) AllReadyH.nil
  simp only [List.getElem_toArray, List.getElem_cons_zero, List.getElem_cons_succ]
  go_simp
  refine Calls.mono (HOWN.out _ HBG.out) ?_
  rintro e wx ⟨u2, rfl, hq, bb⟩
  have HBH : Hid (Below w5.heap.size w5 wx) := HBG.out.trans (bb.mono HBG.out.size)
  have HRF2 : Hid _ := HRF.out wx u2 HBH.out (hq.lies (fun k h => h.2))
  clear bb HOWN hq HRF
  go_wp2_with fail
  refine hK.out _ _ (HBX.out _ HBH.out) (fun hHeld' => ?_)
  clear hK K' hHeld
  have hHeld := hHeld'
  clear hHeld'
  refine wpAnyH_ready (rs := [12]) (by kernel_rfl) (by simp) ?_
  refine AllReadyH.cons rfl (fun K' hK => ?_) AllReadyH.nil
  simp only [List.getElem_toArray, List.getElem_cons_zero, List.getElem_cons_succ]
  go_simp
  refine Calls.mono (HRF2.out) ?_
  rintro e wx ⟨⟨r3, a3, c3, rfl, hr3, H3⟩, bb⟩
  have HBI : Hid (Below w5.heap.size w5 wx) := HBH.out.trans (bb.mono HBH.out.size)
  clear bb HRF2
  go_wp2_with fail
  refine hK.out _ _ (HBX.out _ HBI.out) (fun hHeld' => ?_)
  clear hK K' hHeld
  have hHeld := hHeld'
  clear hHeld'
  refine wpAnyH_ready (rs := [15]) (by kernel_rfl) (by simp) ?_
  refine AllReadyH.cons rfl (fun K' hK => ?_) AllReadyH.nil
  simp only [List.getElem_toArray, List.getElem_cons_zero, List.getElem_cons_succ]
  go_simp
  refine Calls.mono (HRI.out _ HBI.out) ?_
  rintro e wx ⟨⟨r4, a4, c4, rfl, hr4, H4⟩, bb⟩
  have HBJ : Hid (Below w5.heap.size w5 wx) := HBI.out.trans (bb.mono HBI.out.size)
  have HTX : Hid (Texts wx (.slice a3 r3.length c3) r3) := H3.out.2.below bb
  obtain rfl := H3.out.1.one H4.out.1
  have HST : Hid (Calls Tryd.prog 8 #[.slice a3 r3.length c3, .slice a4 r3.length c4] wx fun e w' => e = .returned (.bool true) ∧ Below wx.heap.size wx w') := by
    have h := sameTexts_any (.slice a3 r3.length c3) (.slice a4 r3.length c4) r3 r3 wx HTX.out H4.out.2 (by omega)
    rw [textsEq_refl] at h
    exact h
  clear bb H3 H4 HTX
  clear HRI
  go_wp2_with fail
  refine hK.out _ _ (HBX.out _ HBJ.out) (fun hHeld' => ?_)
  clear hK K' hHeld
  have hHeld := hHeld'
  clear hHeld'
  refine wpAnyH_ready (rs := [16]) (by kernel_rfl) (by simp) ?_
  refine AllReadyH.cons rfl (fun K' hK => ?_) AllReadyH.nil
  simp only [List.getElem_toArray, List.getElem_cons_zero, List.getElem_cons_succ]
  go_simp
  refine Calls.mono (HST.out) ?_
  rintro e wx ⟨rfl, bb⟩
  have HBK : Hid (Below w5.heap.size w5 wx) := HBJ.out.trans (bb.mono HBJ.out.size)
  clear bb HST
  go_wp2_with fail
  refine hK.out _ _ (HBX.out _ HBK.out) (fun hHeld' => ?_)
  clear hK K' hHeld
  have hHeld := hHeld'
  clear hHeld'
  refine wpAnyH_take (i := 17) (v := (.bool false)) rfl (by kernel_rfl) (by kernel_rfl) (by kernel_rfl) (fun _ _ _ h => h) (Or.inl ⟨by rfl, ?_⟩) hHeld ?_
  · intro w hSw; (try dsimp only at hSw); simp only [List.getElem_toArray, List.getElem_cons_zero, List.getElem_cons_succ]; go_simp
  simp only [List.getElem_toArray, List.getElem_cons_zero, List.getElem_cons_succ, Act.put, List.setIfInBounds_toArray, List.set_cons_zero, List.set_cons_succ]
  refine wpAnyH_take (i := 18) (v := (.bool false)) rfl (by kernel_rfl) (by kernel_rfl) (by kernel_rfl) (fun _ _ _ h => h) (Or.inl ⟨by rfl, ?_⟩) hHeld ?_
  · intro w hSw; (try dsimp only at hSw); simp only [List.getElem_toArray, List.getElem_cons_zero, List.getElem_cons_succ]; go_simp
  simp only [List.getElem_toArray, List.getElem_cons_zero, List.getElem_cons_succ, Act.put, List.setIfInBounds_toArray, List.set_cons_zero, List.set_cons_succ]
  refine wpAnyH_done (by kernel_rfl) ?_ _
  have HBL : Hid (Below w.heap.size w wx) := HU.out _ HBK.out
  have HTU : Hid _ := turn_any s f g _ _ wx (by omega) (by omega) (by omega) (HT.out _ HBL.out).c4 (HT.out _ HBL.out).c1
  clear HBX HU HBK HBJ HBI HBH HBG HBF HBE HBD hHeld hr1 hr2 hr3 hr4
  go_wp2_with fail
  refine Calls.mono HTU.out ?_
  clear HTU
  rintro e w6 ⟨hp, hb6⟩
  have HB6 : Hid (Below w.heap.size w w6) := HBL.out.trans (hb6.mono HBL.out.size)
  obtain ⟨x, ev, rfl⟩ := tu_form hp
  have HP : Hid (TurnPost _ _ s f g _) := hp
  have HTO : Hid _ := turnOf_any s f g w6 (by omega) (by omega) (by omega)
  clear hp hb6
  go_wp2_with fail
  refine Calls.mono HTO.out ?_
  clear HTO
  rintro e w7 ⟨ho, rfl⟩
  obtain ⟨x', ev', c, e1, rfl, hcase⟩ := tu_both HP.out ho
  simp only [Ending.returned.injEq, Value.tuple.injEq, Array.mk.injEq, List.cons.injEq, Value.string.injEq, and_true] at e1
  obtain ⟨rfl, rfl⟩ := e1
  have HCO : Hid (Calls Tryd.prog 16 #[ev, .int .i64 c] w7 fun e w' => e = .returned (.bool true) ∧ Below w7.heap.size w7 w') := by
    rcases hcase with ⟨rfl, rfl⟩ | ⟨rfl, rfl⟩ | ⟨rfl, rfl⟩
    · refine (coded_sent a 4 5 w7 (HT.out _ HB6.out) (by decide)).mono ?_
      rintro e w' ⟨rfl, hb⟩
      exact ⟨rfl, hb⟩
    · refine (coded_sent a 1 2 w7 (HT.out _ HB6.out) (by decide)).mono ?_
      rintro e w' ⟨rfl, hb⟩
      exact ⟨rfl, hb⟩
    · refine (coded_nil 0 w7).mono ?_
      rintro e w' ⟨rfl, rfl⟩
      exact ⟨rfl, Below.refl _ _⟩
  clear hcase HP ho
  go_wp2_with fail
  refine Calls.mono HCO.out ?_
  clear HCO
  rintro e w8 ⟨rfl, hb8⟩
  have HB8 : Hid (Below w.heap.size w w8) := HB6.out.trans (hb8.mono HB6.out.size)
  have hxx : (x.toList == x.toList) = true := by simp
  clear hb8
  go_wp2_with fail
  go_ret
  exact ⟨rfl, HB8.out⟩
end Go.Proofs.YtiemoipafeinoaaDoor
