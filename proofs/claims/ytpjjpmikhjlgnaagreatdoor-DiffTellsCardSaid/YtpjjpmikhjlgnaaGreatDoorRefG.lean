/-
  The contract of the document's answer for a node by its path: stillroomref1's GetOf.
  Conditions: the tree lies in memory below block B; its data are not too long; the text has no more than a million bytes.
-/
import Derived.Test.YtpjjpmikhjlgnaaGreatDoorRefC
import Derived.Test.YtpjjpmikhjlgnaaGreatDoorNamed
import Derived.Test.YtpjjpmikhjlgnaaGreatDoorPGet
namespace Go.Proofs.YtpjjpmikhjlgnaaGreatDoor
open Go.RowKit
attribute [local go_sem ↓] Go.wp_at_zero Go.wp_at_succ

theorem preN_mem : ∀ {l : List ByteArray} {d : Nat} {ns : List ByteArray} {t k : Tree}, Fit d t → atR l t = some k → (ns ++ l, k) ∈ preN d ns t
  | _, 0, _, _, _, h, _ => h.elim
  | [], d + 1, ns, t, k, _, e => by
    simp only [atR, Option.some.injEq] at e
    subst e
    simp [preN]
  | x :: l, d + 1, ns, t, k, h, e => by
    simp only [atR] at e
    cases hk : kidOf t x with
    | none => rw [hk] at e; cases e
    | some y =>
      rw [hk] at e
      simp only at e
      unfold kidOf at hk
      split at hk
      · rename_i hth
        cases hx : t.kids[placeOf t.kids x]? with
        | none => rw [hx] at hk; cases hk
        | some z =>
          rw [hx] at hk
          simp only [Option.map_some, Option.some.injEq] at hk
          subst hk
          have hm := List.mem_of_getElem? hx
          have hq := preN_mem (d := d) (ns := ns ++ [z.1]) (h z hm) e
          have hzx : z.1 = x := by
            obtain ⟨y, hy, e1⟩ := there_some hth
            rw [hx] at hy
            injection hy with hy
            rw [hy]
            exact e1
          rw [hzx, List.append_assoc] at hq
          simp only [preN]
          exact List.mem_cons_of_mem _ (List.mem_flatMap.2 ⟨z, hm, by rw [hzx]; exact hq⟩)
      · cases hk
theorem tell_of_split {s : ByteArray} {m : List ByteArray} (h : splitR s = some m) : tellP m = s := by
  rcases split_join h with ⟨h1, h2⟩ | ⟨h1, h2⟩
  · rw [h1, h2]; unfold tellP; rw [joinB_isEmpty]; rfl
  · unfold tellP
    rw [joinB_isEmpty]
    cases m with
    | nil =>
      have he : s = ByteArray.empty := by rw [← h2]; rfl
      rw [he] at h
      have : splitR ByteArray.empty = none := by rw [splitR_nil (by decide) rfl]
      rw [this] at h
      cases h
    | cons x m => exact h2
/-- What is found by its path is what stands at its names. -/
theorem found_at {d : Nat} {t : Tree} {s : ByteArray} {m : List ByteArray} (hf : Fit d t) (h : treeErr d t = none) (hm : splitR s = some m) {x : ByteArray × Nat × Tree} (hx : x ∈ pre d ByteArray.empty 0 t) (he : fixP x.1 = s) : atR m t = some x.2.2 := by
  have hp := pre_names d [] t
  rw [show joinB [] = ByteArray.empty from rfl, List.length_nil] at hp
  rw [hp] at hx
  obtain ⟨y, hy, rfl⟩ := List.mem_map.1 hx
  obtain ⟨n, hn, ha, hnm⟩ := preN_at (rises_well hf h) (names_tree (p := ByteArray.empty) (k := 0) hf fun x hx => ((treeErr_none.1 h).2 x hx).2) y hy
  rw [List.nil_append] at hn
  have hs : splitR (tellP n) = some n := tell_split (at_len hf h ha) hnm
  have ht : tellP n = s := by rw [← he, ← hn]; rfl
  rw [ht, hm] at hs
  injection hs with hs
  rw [hs]
  exact ha
theorem at_found {d : Nat} {t k : Tree} {s : ByteArray} {m : List ByteArray} (hf : Fit d t) (hm : splitR s = some m) (hk : atR m t = some k) : ∃ x ∈ pre d ByteArray.empty 0 t, fixP x.1 = s := by
  have hp := pre_names d [] t
  rw [show joinB [] = ByteArray.empty from rfl, List.length_nil] at hp
  rw [hp]
  refine ⟨_, List.mem_map.2 ⟨_, preN_mem (ns := []) hf hk, rfl⟩, ?_⟩
  exact tell_of_split hm

/-- What the document's answers that are a node hand back. -/
def NdPost (r : Except Nat Tree) (w : World) (e : Ending) (w' : World) : Prop := Below w.heap.size w w' ∧
  ((∃ er : Nat, r = .error er ∧ e = .returned (.tuple #[.agg #[.string { data := #[] }, .string { data := #[] }, .bool false, .slice none 0 0], .int .i64 ((er : Int) + 1)])) ∨
   (∃ k u d', r = .ok k ∧ e = .returned (.tuple #[.agg #[.string k.kind, .string k.data, .bool k.exec, u], .int .i64 0]) ∧ Lies w' w'.heap.size d' k.kids u))

set_option maxRecDepth 100000 in
set_option maxHeartbeats 4000000 in
theorem getOf_any {M : Nat} (B d d2 : Nat) (t : Tree) (u : Value) (s : ByteArray) (w : World) (hB : B ≤ w.heap.size) (hl : Lies w B d t.kids u) (hdat : DatM M d2 t) (hM : M ≤ 1000000) (hs : s.size ≤ 1000000) :
    Calls Tryz.prog 13 #[.agg #[.string t.kind, .string t.data, .bool t.exec, u], .string s] w (NdPost (getR d t s) w) := by
  obtain ⟨ta, tc, rfl⟩ := hl.form
  have hfit : Fit d t := hl.fit
  have hA : Below w.heap.size w ((w.alloc (.cells #[.string t.kind, .string t.data, .bool t.exec, .slice ta t.kids.length tc] 24)).alloc (.cells #[.string { data := #[] }, .string { data := #[] }, .bool false, .slice none 0 0] 24)) := ((Below.refl _ _).alloc (Nat.le_refl _) _).alloc (by simp) _
  have hz : ((w.alloc (.cells #[.string t.kind, .string t.data, .bool t.exec, .slice ta t.kids.length tc] 24)).alloc (.cells #[.string { data := #[] }, .string { data := #[] }, .bool false, .slice none 0 0] 24)).heap.size = w.heap.size + 2 := by simp
  have hbox : ((w.alloc (.cells #[.string t.kind, .string t.data, .bool t.exec, .slice ta t.kids.length tc] 24)).alloc (.cells #[.string { data := #[] }, .string { data := #[] }, .bool false, .slice none 0 0] 24)).heap[w.heap.size]? = some (.cells #[.string t.kind, .string t.data, .bool t.exec, .slice ta t.kids.length tc] 24 (0, 0)) := by
    rw [Below.heap_alloc _ _ _ (by simp)]; exact row_alloc' _ _ _
  have hres : ((w.alloc (.cells #[.string t.kind, .string t.data, .bool t.exec, .slice ta t.kids.length tc] 24)).alloc (.cells #[.string { data := #[] }, .string { data := #[] }, .bool false, .slice none 0 0] 24)).heap[w.heap.size + 1]? = some (.cells #[.string { data := #[] }, .string { data := #[] }, .bool false, .slice none 0 0] 24 (0, 0)) := by
    have := row_alloc' (w.alloc (.cells #[.string t.kind, .string t.data, .bool t.exec, .slice ta t.kids.length tc] 24)) #[.string { data := #[] }, .string { data := #[] }, .bool false, .slice none 0 0] 24
    simpa using this
  have hE := treeError_any B d d2 t (.slice ta t.kids.length tc) _ (by rw [hz]; omega) (hl.below hA hB) hdat hM
  rw [list_errs hfit] at hE
  have HE : Hid _ := hE
  have HSO : Hid (∀ w', Calls Tryz.prog 9 #[.string s] w' (SplitOfPost s w')) := fun w' => splitOf_any s w' hs
  have HI : Hid (∀ l, l = listOf 200 8 t → ∀ w', Below w.heap.size w w' → Calls Tryz.prog 41 #[.agg #[.string t.kind, .string t.data, .bool t.exec, .slice ta t.kids.length tc]] w' fun e w'' => ∃ g cap, e = .returned (.slice (some ⟨g, 0, none⟩) l.length cap) ∧ g < w''.heap.size ∧ ToldAt l g w'' ∧ NodesAt l B g w'' ∧ Below w'.heap.size w' w'') := fun l hll w' h =>
    itemsOf_all B d t _ w' l hll (by have := h.size; omega) (hl.below h hB)
  have HA : Hid _ := hA
  have HLI : Hid (Lies w B d t.kids (.slice ta t.kids.length tc)) := hl
  have HBOX : Hid _ := hbox
  have HRES : Hid _ := hres
  have HFIT : Hid (Fit d t) := hfit
  clear hA hl hdat hbox hres hfit hE
  go_enter Tryz.func13, Tryz.ntmps13
  go_wp2_with fail
  refine Calls.mono HE.out ?_
  clear HE
  rintro e w1 ⟨rfl, hb1⟩
  have HB1 : Hid (Below w.heap.size w w1) := HA.out.trans (hb1.mono (by omega))
  have hz1 := hb1.size
  rw [hz] at hz1
  have hres1 := (hb1.block (w.heap.size + 1) (by omega)).trans HRES.out
  have hbox1 := (hb1.block w.heap.size (by omega)).trans HBOX.out
  have HR1 : Hid _ := hres1
  have HX1 : Hid _ := hbox1
  cases ht : treeErr d t with
  | some er =>
    have HF : Hid (getR d t s = .error er) := getR_tree ht
    obtain ⟨⟨q0, q1, q2, q3⟩, g0, g1, g2, g3⟩ := row4b hres1
    simp only [num]
    clear ht hb1 hres1 hbox1
    go_wp2_with fail
    refine bodyPost_ret (v := .tuple #[.agg #[.string { data := #[] }, .string { data := #[] }, .bool false, .slice none 0 0], .int .i64 ((er : Int) + 1)]) (by simp [results, Tryz.results13, go_sem, q0, q1, q2, q3]) rfl ?_
    have hS := ((((But1.refl (w.heap.size + 1) w1).set 0 (.string { data := #[] })).set 1 (.string { data := #[] })).set 2 (.bool false)).set 3 (.slice none 0 0)
    exact ⟨hS.below HB1.out (by omega), .inl ⟨er, HF.out, rfl⟩⟩
  | none =>
    have HT : Hid (treeErr d t = none) := ht
    simp only [num]
    clear ht hb1 hres1 hbox1
    go_wp2_with fail
    refine Calls.mono (HSO.out _) ?_
    rintro e w2 ⟨hb2, ⟨h2, rfl⟩ | ⟨m, v, h2, rfl, _, _⟩⟩
    · have HF : Hid (getR d t s = .error 4) := getR_split HT.out h2
      have HB2 : Hid (Below w.heap.size w w2) := HB1.out.trans (hb2.mono HB1.out.size)
      have hz2 := hb2.size
      have hres2 := (hb2.block (w.heap.size + 1) (by omega)).trans HR1.out
      obtain ⟨⟨q0, q1, q2, q3⟩, g0, g1, g2, g3⟩ := row4b hres2
      clear hb2 h2 hres2
      go_wp2_with fail
      refine bodyPost_ret (v := .tuple #[.agg #[.string { data := #[] }, .string { data := #[] }, .bool false, .slice none 0 0], .int .i64 5]) (by simp [results, Tryz.results13, go_sem, q0, q1, q2, q3]) rfl ?_
      have hS := ((((But1.refl (w.heap.size + 1) w2).set 0 (.string { data := #[] })).set 1 (.string { data := #[] })).set 2 (.bool false)).set 3 (.slice none 0 0)
      exact ⟨hS.below HB2.out (by omega), .inl ⟨4, HF.out, rfl⟩⟩
    · have H2 : Hid (splitR s = some m) := h2
      have HB2 : Hid (Below w.heap.size w w2) := HB1.out.trans (hb2.mono HB1.out.size)
      have hz2 := hb2.size
      have HR2 : Hid _ := (hb2.block (w.heap.size + 1) (by omega)).trans HR1.out
      have hbox2 := (hb2.block w.heap.size (by omega)).trans HX1.out
      obtain ⟨⟨y0, y1, y2, y3⟩, _⟩ := row4b hbox2
      obtain ⟨l, hll⟩ : ∃ l, l = listOf 200 8 t := ⟨_, rfl⟩
      have HIT : Hid _ := HI.out l hll w2 HB2.out
      have hpl : l = pre d ByteArray.empty 0 t := hll.trans (well_list HFIT.out HT.out)
      have HPL : Hid (l = pre d ByteArray.empty 0 t) := hpl
      have hlen : l.length ≤ 1000000 := by
        rw [hpl]
        have := (treeErr_none.1 HT.out).1
        omega
      clear hb2 h2 hbox2 hpl hll HI HSO
      go_wp2_with fail
      refine Calls.mono HIT.out ?_
      clear HIT y0 y1 y2 y3
      rintro e w3 ⟨g, cap, rfl, hg, hT, hN, hb3⟩
      have HB3 : Hid (Below w.heap.size w w3) := HB2.out.trans (hb3.mono HB2.out.size)
      have hz3 := hb3.size
      have HR3 : Hid _ := (hb3.block (w.heap.size + 1) (by omega)).trans HR2.out
      have HFD : Hid _ := findOf_any l g cap s w3 hlen hT
      have HTO : Hid (ToldAt l g w3) := hT
      have HNO : Hid (NodesAt l B g w3) := hN
      clear hb3 hT hN
      go_wp2_with fail
      refine Calls.mono HFD.out ?_
      clear HFD
      rintro e w4 ⟨hb4, ⟨rfl, h3⟩ | ⟨k, x, rfl, hx, h3⟩⟩
      · have HB4 : Hid (Below w.heap.size w w4) := HB3.out.trans (hb4.mono HB3.out.size)
        have hz4 := hb4.size
        have hres4 := (hb4.block (w.heap.size + 1) (by omega)).trans HR3.out
        obtain ⟨⟨q0, q1, q2, q3⟩, g0, g1, g2, g3⟩ := row4b hres4
        have HF : Hid (getR d t s = .error 5) := getR_none HT.out H2.out (by
          cases hat : atR m t with
          | none => rfl
          | some k =>
            obtain ⟨x, hx, he⟩ := at_found HFIT.out H2.out hat
            exact absurd he (h3 x (by rw [HPL.out]; exact hx)))
        clear hb4 h3 hres4
        go_wp2_with fail
        refine bodyPost_ret (v := .tuple #[.agg #[.string { data := #[] }, .string { data := #[] }, .bool false, .slice none 0 0], .int .i64 6]) (by simp [results, Tryz.results13, go_sem, q0, q1, q2, q3]) rfl ?_
        have hS := ((((But1.refl (w.heap.size + 1) w4).set 0 (.string { data := #[] })).set 1 (.string { data := #[] })).set 2 (.bool false)).set 3 (.slice none 0 0)
        exact ⟨hS.below HB4.out (by omega), .inl ⟨5, HF.out, rfl⟩⟩
      · have HB4 : Hid (Below w.heap.size w w4) := HB3.out.trans (hb4.mono HB3.out.size)
        have hz4 := hb4.size
        have hres4 := (hb4.block (w.heap.size + 1) (by omega)).trans HR3.out
        obtain ⟨⟨q0, q1, q2, q3⟩, g0, g1, g2, g3⟩ := row4b hres4
        have HF : Hid (getR d t s = .ok x.2.2) := getR_some HT.out H2.out (found_at HFIT.out HT.out H2.out (by rw [← HPL.out]; exact List.mem_of_getElem? hx) h3)
        obtain ⟨_, p2, p3⟩ := HTO.out k x hx
        obtain ⟨dk, uk, p4, p5, hlk⟩ := HNO.out k x hx
        have hkl := (List.getElem?_eq_some_iff.1 hx).1
        have r2 : w4.cell? ⟨g, k * 6 + 2, none⟩ = _ := (hb4.cell (p := ⟨g, k * 6 + 2, none⟩) hg).trans p2
        have r3 : w4.cell? ⟨g, k * 6 + 3, none⟩ = _ := (hb4.cell (p := ⟨g, k * 6 + 3, none⟩) hg).trans p3
        have r4 : w4.cell? ⟨g, k * 6 + 4, none⟩ = _ := (hb4.cell (p := ⟨g, k * 6 + 4, none⟩) hg).trans p4
        have r5 : w4.cell? ⟨g, k * 6 + 5, none⟩ = _ := (hb4.cell (p := ⟨g, k * 6 + 5, none⟩) hg).trans p5
        have HLK : Hid (Lies w4 B dk x.2.2.kids uk) := hlk.below hb4 (by omega)
        obtain ⟨ka, kc, rfl⟩ := hlk.form
        have hk0 : (0 : Int) ≤ (k : Int) := by omega
        have hk1 : (k : Int) < (l.length : Int) := by omega
        clear hb4 h3 hres4 p2 p3 p4 p5 hlk hx
        go_wp2_with fail
        refine bodyPost_ret (v := .tuple #[.agg #[.string x.2.2.kind, .string x.2.2.data, .bool x.2.2.exec, .slice ka x.2.2.kids.length kc], .int .i64 0]) (by simp [results, Tryz.results13, go_sem, q0, q1, q2, q3]) rfl ?_
        have hS := ((((But1.refl (w.heap.size + 1) w4).set 0 (.string x.2.2.kind)).set 1 (.string x.2.2.data)).set 2 (.bool x.2.2.exec)).set 3 (.slice ka x.2.2.kids.length kc)
        exact ⟨hS.below HB4.out (by omega), .inr ⟨x.2.2, _, dk, HF.out, rfl, (HLK.out.below (hS.below (Below.refl w.heap.size w4) (by omega)) hB).up (by rw [hS.size]; omega) (Nat.le_refl _)⟩⟩
end Go.Proofs.YtpjjpmikhjlgnaaGreatDoor
