/-
  The contracts of the document's answers for a node put and taken out by its path: stillroomref1's PutOf and DropOf.
  The contract of the document's way to tell names as a path: stillroomref1's joined.
  The library's contracts at this program's numbers: strings.HasPrefix, strings.Split.
  Conditions: those that each states.
-/
import Derived.Test.YtpjjpmikhjlgnaaGreatDoorM23
import Derived.Test.YtpjjpmikhjlgnaaGreatDoorM16
import Derived.Test.YtpjjpmikhjlgnaaGreatDoorM22
import Derived.Shelf.Strings.Prefix
import Derived.Shelf.Strings.Split
import Derived.Test.YtpjjpmikhjlgnaaGreatDoorProg
namespace Go.Proofs.YtpjjpmikhjlgnaaGreatDoor
open Go.RowKit
attribute [local go_sem ↓] Go.wp_at_zero Go.wp_at_succ

theorem pre_kid {d : Nat} {t : Tree} (h : Fit (d + 1) t) {p : ByteArray} {k : Nat} : t.kids.length ≤ (pre (d + 1) p k t).length ∧ ∀ x ∈ t.kids, (pre d (p ++ slash ++ x.1) (k + 1) x.2).length ≤ (pre (d + 1) p k t).length := by
  simp only [pre, List.length_cons]
  have hsub : ∀ l : List (ByteArray × Tree), (∀ x ∈ l, x ∈ t.kids) → l.length ≤ (l.flatMap fun x => pre d (p ++ slash ++ x.1) (k + 1) x.2).length ∧ ∀ x ∈ l, (pre d (p ++ slash ++ x.1) (k + 1) x.2).length ≤ (l.flatMap fun x => pre d (p ++ slash ++ x.1) (k + 1) x.2).length := by
    intro l
    induction l with
    | nil => intro _; simp
    | cons y l ih =>
      intro hl
      have h1 := ih fun x hx => hl x (List.mem_cons_of_mem _ hx)
      have hp := pre_pos (p := p ++ slash ++ y.1) (k := k + 1) (h y (hl y List.mem_cons_self))
      rw [List.flatMap_cons, List.length_append, List.length_cons]
      refine ⟨by omega, fun x hx => ?_⟩
      rcases List.mem_cons.1 hx with rfl | hx
      · omega
      · have := h1.2 x hx
        omega
  have := hsub t.kids fun _ h => h
  exact ⟨by omega, fun x hx => by have := this.2 x hx; omega⟩
theorem kids_of : ∀ {d : Nat} {p : ByteArray} {k : Nat} {t : Tree}, Fit d t → (pre d p k t).length ≤ 1000000 → KidsD d t
  | 0, _, _, _, h, _ => h
  | d + 1, p, k, t, h, hn => by
    have h1 := pre_kid h (p := p) (k := k)
    exact ⟨by omega, fun x hx => kids_of (p := p ++ slash ++ x.1) (k := k + 1) (h x hx) (by have := h1.2 x hx; omega)⟩
theorem kids_well {d : Nat} {t : Tree} (hf : Fit d t) (h : treeErr d t = none) : KidsD d t := kids_of (p := ByteArray.empty) (k := 0) hf (by have := (treeErr_none.1 h).1; omega)
theorem names_b {w : World} {v : Value} {l : List ByteArray} (h : Texts w v l) (hr : RoomR v l.length) : NamesB w w.heap.size v l := by
  obtain ⟨ad, cap, rfl, h1⟩ := h
  obtain ⟨ad', cap', e, h2, h3⟩ := hr
  simp only [Value.slice.injEq] at e
  obtain ⟨rfl, _, rfl⟩ := e
  refine ⟨ad, cap, rfl, h2, h3, fun i x hx => ?_⟩
  obtain ⟨b, off, e1, e2⟩ := h1 i x hx
  exact ⟨b, off, e1, lt_of_cell e2, e2⟩
theorem names_short {s : ByteArray} {l : List ByteArray} (h : splitR s = some l) : ∀ y ∈ l, y.size ≤ 1000 := fun y hy => by
  have := name_size (List.all_eq_true.1 (splitR_names h) y hy)
  omega
theorem lies_nil (w : World) (B : Nat) : Lies w B 1 zeroT.kids (.slice none 0 0) := ⟨none, 0, rfl, by simp [zeroT], fun i x h => by simp [zeroT] at h⟩

/-- What PutOf and DropOf hand back: the tree lies where the arguments lay, or in new blocks. -/
def NdQ (B K : Nat) (r : Except Nat Tree) (w : World) (e : Ending) (w' : World) : Prop := Below w.heap.size w w' ∧
  ((∃ er : Nat, r = .error er ∧ e = .returned (.tuple #[.agg #[.string { data := #[] }, .string { data := #[] }, .bool false, .slice none 0 0], .int .i64 ((er : Int) + 1)])) ∨
   (∃ k u, r = .ok k ∧ e = .returned (.tuple #[.agg #[.string k.kind, .string k.data, .bool k.exec, u], .int .i64 0]) ∧ LiesQ w' (fun b => b < B ∨ (w.heap.size ≤ b ∧ b < w'.heap.size)) K k.kids u))

set_option maxRecDepth 100000 in
set_option maxHeartbeats 4000000 in
theorem putOf_any {M : Nat} (B d d2 dX : Nat) (t X : Tree) (u ux : Value) (s : ByteArray) (w : World) (hB : B ≤ w.heap.size) (hl : Lies w B d t.kids u) (hlx : Lies w B dX X.kids ux) (hdat : DatM M d2 t) (hM : M ≤ 1000000) (hs : s.size ≤ 1000000)
    (hdY : ∀ l, splitR s = some l → roomB l t = true → ∃ e, DatM M e (setAt X l t)) :
    Calls Tryz.prog 16 #[.agg #[.string t.kind, .string t.data, .bool t.exec, u], .string s, .agg #[.string X.kind, .string X.data, .bool X.exec, ux]] w (NdQ B (d + dX) (putR d (d + 1 + dX) t s X) w) := by
  obtain ⟨ta, tc, rfl⟩ := hl.form
  obtain ⟨xa, xc, rfl⟩ := hlx.form
  have hfit : Fit d t := hl.fit
  obtain ⟨W0, hW0⟩ : ∃ W0, W0 = ((w.alloc (.cells #[.string t.kind, .string t.data, .bool t.exec, .slice ta t.kids.length tc] 24)).alloc (.cells #[.string X.kind, .string X.data, .bool X.exec, .slice xa X.kids.length xc] 24)).alloc (.cells #[.string { data := #[] }, .string { data := #[] }, .bool false, .slice none 0 0] 24) := ⟨_, rfl⟩
  have hz : W0.heap.size = w.heap.size + 3 := by rw [hW0]; simp
  have hA : Below w.heap.size w W0 := by rw [hW0]; exact (((Below.refl _ _).alloc (Nat.le_refl _) _).alloc (by simp) _).alloc (by simp; omega) _
  have hbox : W0.heap[w.heap.size]? = some (.cells #[.string t.kind, .string t.data, .bool t.exec, .slice ta t.kids.length tc] 24 (0, 0)) := by
    rw [hW0, Below.heap_alloc _ _ _ (by simp; omega), Below.heap_alloc _ _ _ (by simp)]; exact row_alloc' _ _ _
  have hxb : W0.heap[w.heap.size + 1]? = some (.cells #[.string X.kind, .string X.data, .bool X.exec, .slice xa X.kids.length xc] 24 (0, 0)) := by
    rw [hW0, Below.heap_alloc _ _ _ (by simp)]
    have := row_alloc' (w.alloc (.cells #[.string t.kind, .string t.data, .bool t.exec, .slice ta t.kids.length tc] 24)) #[.string X.kind, .string X.data, .bool X.exec, .slice xa X.kids.length xc] 24
    simpa using this
  have hres : W0.heap[w.heap.size + 2]? = some (.cells #[.string { data := #[] }, .string { data := #[] }, .bool false, .slice none 0 0] 24 (0, 0)) := by
    rw [hW0]
    have := row_alloc' ((w.alloc (.cells #[.string t.kind, .string t.data, .bool t.exec, .slice ta t.kids.length tc] 24)).alloc (.cells #[.string X.kind, .string X.data, .bool X.exec, .slice xa X.kids.length xc] 24)) #[.string { data := #[] }, .string { data := #[] }, .bool false, .slice none 0 0] 24
    simpa using this
  have hE := treeError_any B d d2 t (.slice ta t.kids.length tc) W0 (by rw [hz]; omega) (hl.below hA hB) hdat hM
  rw [list_errs hfit, hW0] at hE
  have HE : Hid _ := hE
  have HSO : Hid (∀ w', Calls Tryz.prog 9 #[.string s] w' (SplitOfPost s w')) := fun w' => splitOf_any s w' hs
  have HDY : Hid _ := hdY
  have HA : Hid _ := hA
  have HLI : Hid (Lies w B d t.kids (.slice ta t.kids.length tc)) := hl
  have HLX : Hid (Lies w B dX X.kids (.slice xa X.kids.length xc)) := hlx
  have HBOX : Hid _ := hbox
  have HXB : Hid _ := hxb
  have HRES : Hid _ := hres
  have HFIT : Hid (Fit d t) := hfit
  have HW0 : Hid (W0 = ((w.alloc (.cells #[.string t.kind, .string t.data, .bool t.exec, .slice ta t.kids.length tc] 24)).alloc (.cells #[.string X.kind, .string X.data, .bool X.exec, .slice xa X.kids.length xc] 24)).alloc (.cells #[.string { data := #[] }, .string { data := #[] }, .bool false, .slice none 0 0] 24)) := hW0
  clear hA hl hlx hdat hbox hxb hres hfit hE hW0 hdY
  go_enter Tryz.func16, Tryz.ntmps16
  go_wp2_with fail
  refine Calls.mono HE.out ?_
  rw [← HW0.out]
  clear HE HW0
  rintro e w1 ⟨rfl, hb1⟩
  have HB1 : Hid (Below w.heap.size w w1) := HA.out.trans (hb1.mono (by omega))
  have hz1 := hb1.size
  rw [hz] at hz1
  have hres1 := (hb1.block (w.heap.size + 2) (by omega)).trans HRES.out
  have HR1 : Hid _ := hres1
  have HX1 : Hid _ := (hb1.block w.heap.size (by omega)).trans HBOX.out
  have HY1 : Hid _ := (hb1.block (w.heap.size + 1) (by omega)).trans HXB.out
  cases ht : treeErr d t with
  | some er =>
    have HF : Hid (putR d (d + 1 + dX) t s X = .error er) := putR_tree ht
    obtain ⟨⟨q0, q1, q2, q3⟩, g0, g1, g2, g3⟩ := row4b hres1
    simp only [num]
    clear ht hb1 hres1
    go_wp2_with fail
    refine bodyPost_ret (v := .tuple #[.agg #[.string { data := #[] }, .string { data := #[] }, .bool false, .slice none 0 0], .int .i64 ((er : Int) + 1)]) (by simp [results, Tryz.results16, go_sem, q0, q1, q2, q3]) rfl ?_
    have hS := ((((But1.refl (w.heap.size + 2) w1).set 0 (.string { data := #[] })).set 1 (.string { data := #[] })).set 2 (.bool false)).set 3 (.slice none 0 0)
    exact ⟨hS.below HB1.out (by omega), .inl ⟨er, HF.out, rfl⟩⟩
  | none =>
    have HT : Hid (treeErr d t = none) := ht
    simp only [num]
    clear ht hb1 hres1
    go_wp2_with fail
    refine Calls.mono (HSO.out _) ?_
    rintro e w2 ⟨hb2, ⟨h2, rfl⟩ | ⟨m, v, h2, rfl, htx, hrm⟩⟩
    · have HF : Hid (putR d (d + 1 + dX) t s X = .error 4) := putR_split HT.out h2
      have HB2 : Hid (Below w.heap.size w w2) := HB1.out.trans (hb2.mono HB1.out.size)
      have hz2 := hb2.size
      have hres2 := (hb2.block (w.heap.size + 2) (by omega)).trans HR1.out
      obtain ⟨⟨q0, q1, q2, q3⟩, g0, g1, g2, g3⟩ := row4b hres2
      clear hb2 h2 hres2
      go_wp2_with fail
      refine bodyPost_ret (v := .tuple #[.agg #[.string { data := #[] }, .string { data := #[] }, .bool false, .slice none 0 0], .int .i64 5]) (by simp [results, Tryz.results16, go_sem, q0, q1, q2, q3]) rfl ?_
      have hS := ((((But1.refl (w.heap.size + 2) w2).set 0 (.string { data := #[] })).set 1 (.string { data := #[] })).set 2 (.bool false)).set 3 (.slice none 0 0)
      exact ⟨hS.below HB2.out (by omega), .inl ⟨4, HF.out, rfl⟩⟩
    · have H2 : Hid (splitR s = some m) := h2
      have HB2 : Hid (Below w.heap.size w w2) := HB1.out.trans (hb2.mono HB1.out.size)
      have hz2 := hb2.size
      have hw2 : w.heap.size ≤ w2.heap.size := by omega
      have HR2 : Hid _ := (hb2.block (w.heap.size + 2) (by omega)).trans HR1.out
      obtain ⟨⟨y0, y1, y2, y3⟩, _⟩ := row4b ((hb2.block w.heap.size (by omega)).trans HX1.out)
      obtain ⟨⟨x0, x1, x2, x3⟩, _⟩ := row4b ((hb2.block (w.heap.size + 1) (by omega)).trans HY1.out)
      have HST : Hid _ := setOf_any B dX X (.slice xa X.kids.length xc) false m d t (.slice ta t.kids.length tc) v w2 (by omega) (HLI.out.below HB2.out hB) (HLX.out.below HB2.out hB) (rises_well HFIT.out HT.out) (kids_well HFIT.out HT.out) (names_b htx hrm) (by have := splitR_len h2; omega) (names_short h2)
      obtain ⟨va, vc, rfl, _⟩ := hrm
      clear hb2 h2 htx HSO
      go_wp2_with fail
      refine Calls.mono HST.out ?_
      clear HST x0 x1 x2 x3 y0 y1 y2 y3
      rintro e w3 ⟨hb3, ⟨kd, dd, ex, sa, sn, sc, h3, rfl⟩ | ⟨Y, uY, h3, rfl, hlY⟩⟩
      · rw [setS_put X m (dirs_well HFIT.out HT.out)] at h3
        have HF : Hid (putR d (d + 1 + dX) t s X = .error 5) := putR_none HT.out H2.out (by
          cases hrb : roomB m t with
          | false => rfl
          | true => rw [if_pos hrb] at h3; cases h3)
        have hz3 := hb3.size
        have HB3 : Hid (Below w.heap.size w w3) := HB2.out.trans (hb3.mono HB2.out.size)
        obtain ⟨W4, hW4⟩ : ∃ W4, W4 = w3.alloc (.cells #[.string kd, .string dd, .bool ex, .slice sa sn sc] 24) := ⟨_, rfl⟩
        have hb4 : Below w3.heap.size w3 W4 := by rw [hW4]; exact (Below.refl _ _).alloc (Nat.le_refl _) _
        have hz4 := hb4.size
        have hres4 := (hb4.block (w.heap.size + 2) (by omega)).trans ((hb3.block (w.heap.size + 2) (by omega)).trans HR2.out)
        have HB4 : Hid (Below w.heap.size w W4) := HB3.out.trans (hb4.mono HB3.out.size)
        rw [hW4] at hres4
        obtain ⟨⟨q0, q1, q2, q3⟩, g0, g1, g2, g3⟩ := row4b hres4
        have HW4 : Hid (W4 = w3.alloc (.cells #[.string kd, .string dd, .bool ex, .slice sa sn sc] 24)) := hW4
        clear h3 hb3 hres4 hb4 hW4
        go_wp2_with fail
        refine bodyPost_ret (v := .tuple #[.agg #[.string { data := #[] }, .string { data := #[] }, .bool false, .slice none 0 0], .int .i64 6]) (by simp [results, Tryz.results16, go_sem, q0, q1, q2, q3]) rfl ?_
        rw [← HW4.out]
        have hS := ((((But1.refl (w.heap.size + 2) W4).set 0 (.string { data := #[] })).set 1 (.string { data := #[] })).set 2 (.bool false)).set 3 (.slice none 0 0)
        exact ⟨hS.below HB4.out (by omega), .inl ⟨5, HF.out, rfl⟩⟩
      · rw [setS_put X m (dirs_well HFIT.out HT.out)] at h3
        have hrb : roomB m t = true := by
          cases hrb : roomB m t with
          | true => rfl
          | false => rw [hrb] at h3; cases h3
        rw [if_pos hrb] at h3
        injection h3 with h3
        obtain ⟨eY, hdY⟩ := HDY.out m H2.out hrb
        rw [h3] at hdY
        have hz3 := hb3.size
        have HB3 : Hid (Below w.heap.size w w3) := HB2.out.trans (hb3.mono HB2.out.size)
        have hlY3 : Lies w3 w3.heap.size (d + 1 + dX) Y.kids uY := (hlY.lies (B := w3.heap.size) fun k hk => by rcases hk with hk | hk <;> omega).up (Nat.le_refl _) (by omega)
        obtain ⟨ya, yc, rfl⟩ := hlY3.form
        obtain ⟨W4, hW4⟩ : ∃ W4, W4 = w3.alloc (.cells #[.string Y.kind, .string Y.data, .bool Y.exec, .slice ya Y.kids.length yc] 24) := ⟨_, rfl⟩
        have hb4 : Below w3.heap.size w3 W4 := by rw [hW4]; exact (Below.refl _ _).alloc (Nat.le_refl _) _
        have hz4 : W4.heap.size = w3.heap.size + 1 := by rw [hW4]; simp
        have hy4 : W4.heap[w3.heap.size]? = some (.cells #[.string Y.kind, .string Y.data, .bool Y.exec, .slice ya Y.kids.length yc] 24 (0, 0)) := by rw [hW4]; exact row_alloc' _ _ _
        have HR4 : Hid _ := (hb4.block (w.heap.size + 2) (by omega)).trans ((hb3.block (w.heap.size + 2) (by omega)).trans HR2.out)
        have HB4 : Hid (Below w.heap.size w W4) := HB3.out.trans (hb4.mono HB3.out.size)
        have hlY4 : Lies W4 w3.heap.size (d + 1 + dX) Y.kids (.slice ya Y.kids.length yc) := hlY3.below hb4 (Nat.le_refl _)
        have HQ4 : Hid (LiesQ W4 (fun b => b < B ∨ (w2.heap.size ≤ b ∧ b < w3.heap.size)) (d + dX) Y.kids (.slice ya Y.kids.length yc)) := hlY.kept (fun k hk => hb4.block k (by rcases hk with hk | hk <;> omega)) fun _ h => h
        have hE2 := treeError_any w3.heap.size (d + 1 + dX) eY Y (.slice ya Y.kids.length yc) W4 (by omega) hlY4 hdY hM
        rw [list_errs hlY4.fit] at hE2
        have HRB : Hid (roomB m t = true) := hrb
        have H3 : Hid (setAt X m t = Y) := h3
        have HY4 : Hid _ := hy4
        have HE2 : Hid _ := hE2
        rw [hW4] at hy4
        obtain ⟨⟨v0, v1, v2, v3⟩, _⟩ := row4b hy4
        have HW4 : Hid (W4 = w3.alloc (.cells #[.string Y.kind, .string Y.data, .bool Y.exec, .slice ya Y.kids.length yc] 24)) := hW4
        clear h3 hb3 hb4 hW4 hlY hlY3 hlY4 hE2 hdY hrb hy4
        go_wp2_with fail
        rw [← HW4.out]
        refine Calls.mono HE2.out ?_
        clear HE2 HW4 v0 v1 v2 v3
        rintro e w5 ⟨rfl, hb5⟩
        have hz5 := hb5.size
        have HB5 : Hid (Below w.heap.size w w5) := HB4.out.trans (hb5.mono HB4.out.size)
        obtain ⟨⟨q0, q1, q2, q3⟩, g0, g1, g2, g3⟩ := row4b ((hb5.block (w.heap.size + 2) (by omega)).trans HR4.out)
        cases ht : treeErr (d + 1 + dX) Y with
        | some er =>
          have HF : Hid (putR d (d + 1 + dX) t s X = .error er) := putR_bad HT.out H2.out HRB.out (by rw [H3.out]; exact ht)
          simp only [num]
          clear ht hb5
          go_wp2_with fail
          refine bodyPost_ret (v := .tuple #[.agg #[.string { data := #[] }, .string { data := #[] }, .bool false, .slice none 0 0], .int .i64 ((er : Int) + 1)]) (by simp [results, Tryz.results16, go_sem, q0, q1, q2, q3]) rfl ?_
          have hS := ((((But1.refl (w.heap.size + 2) w5).set 0 (.string { data := #[] })).set 1 (.string { data := #[] })).set 2 (.bool false)).set 3 (.slice none 0 0)
          exact ⟨hS.below HB5.out (by omega), .inl ⟨er, HF.out, rfl⟩⟩
        | none =>
          have HF : Hid (putR d (d + 1 + dX) t s X = .ok Y) := by rw [← H3.out]; exact putR_ok HT.out H2.out HRB.out (by rw [H3.out]; exact ht)
          obtain ⟨⟨v0, v1, v2, v3⟩, _⟩ := row4b ((hb5.block w3.heap.size (by omega)).trans HY4.out)
          have HL5 : Hid (LiesQ w5 (fun b => b < B ∨ (w2.heap.size ≤ b ∧ b < w3.heap.size)) (d + dX) Y.kids (.slice ya Y.kids.length yc)) := HQ4.out.kept (fun k hk => hb5.block k (by rcases hk with hk | hk <;> omega)) fun _ h => h
          simp only [num]
          clear ht hb5
          go_wp2_with fail
          refine bodyPost_ret (v := .tuple #[.agg #[.string Y.kind, .string Y.data, .bool Y.exec, .slice ya Y.kids.length yc], .int .i64 0]) (by simp [results, Tryz.results16, go_sem, q0, q1, q2, q3]) rfl ?_
          have hS := ((((But1.refl (w.heap.size + 2) w5).set 0 (.string Y.kind)).set 1 (.string Y.data)).set 2 (.bool Y.exec)).set 3 (.slice ya Y.kids.length yc)
          exact ⟨hS.below HB5.out (by omega), .inr ⟨Y, _, HF.out, rfl, HL5.out.kept (fun k hk => hS.block k (by rcases hk with hk | hk <;> omega)) (fun k hk => hk.elim .inl fun hk => .inr ⟨by omega, Nat.lt_of_lt_of_le (show k < w5.heap.size by omega) (Nat.le_of_eq hS.size.symm)⟩)⟩⟩

set_option maxRecDepth 100000 in
set_option maxHeartbeats 4000000 in
theorem dropOf_any {M : Nat} (B d d2 : Nat) (t : Tree) (u : Value) (s : ByteArray) (w : World) (hB : B ≤ w.heap.size) (hl : Lies w B d t.kids u) (hdat : DatM M d2 t) (hM : M ≤ 1000000) (hs : s.size ≤ 1000000) :
    Calls Tryz.prog 18 #[.agg #[.string t.kind, .string t.data, .bool t.exec, u], .string s] w (NdQ B (d + 1) (dropR d t s) w) := by
  obtain ⟨ta, tc, rfl⟩ := hl.form
  have hfit : Fit d t := hl.fit
  obtain ⟨W0, hW0⟩ : ∃ W0, W0 = (w.alloc (.cells #[.string t.kind, .string t.data, .bool t.exec, .slice ta t.kids.length tc] 24)).alloc (.cells #[.string { data := #[] }, .string { data := #[] }, .bool false, .slice none 0 0] 24) := ⟨_, rfl⟩
  have hz : W0.heap.size = w.heap.size + 2 := by rw [hW0]; simp
  have hA : Below w.heap.size w W0 := by rw [hW0]; exact ((Below.refl _ _).alloc (Nat.le_refl _) _).alloc (by simp) _
  have hbox : W0.heap[w.heap.size]? = some (.cells #[.string t.kind, .string t.data, .bool t.exec, .slice ta t.kids.length tc] 24 (0, 0)) := by
    rw [hW0, Below.heap_alloc _ _ _ (by simp)]; exact row_alloc' _ _ _
  have hres : W0.heap[w.heap.size + 1]? = some (.cells #[.string { data := #[] }, .string { data := #[] }, .bool false, .slice none 0 0] 24 (0, 0)) := by
    rw [hW0]
    have := row_alloc' (w.alloc (.cells #[.string t.kind, .string t.data, .bool t.exec, .slice ta t.kids.length tc] 24)) #[.string { data := #[] }, .string { data := #[] }, .bool false, .slice none 0 0] 24
    simpa using this
  have hE := treeError_any B d d2 t (.slice ta t.kids.length tc) W0 (by rw [hz]; omega) (hl.below hA hB) hdat hM
  rw [list_errs hfit, hW0] at hE
  have HE : Hid _ := hE
  have HSO : Hid (∀ w', Calls Tryz.prog 9 #[.string s] w' (SplitOfPost s w')) := fun w' => splitOf_any s w' hs
  have HA : Hid _ := hA
  have HLI : Hid (Lies w B d t.kids (.slice ta t.kids.length tc)) := hl
  have HBOX : Hid _ := hbox
  have HRES : Hid _ := hres
  have HFIT : Hid (Fit d t) := hfit
  have HW0 : Hid (W0 = (w.alloc (.cells #[.string t.kind, .string t.data, .bool t.exec, .slice ta t.kids.length tc] 24)).alloc (.cells #[.string { data := #[] }, .string { data := #[] }, .bool false, .slice none 0 0] 24)) := hW0
  clear hA hl hdat hbox hres hfit hE hW0
  go_enter Tryz.func18, Tryz.ntmps18
  go_wp2_with fail
  refine Calls.mono HE.out ?_
  rw [← HW0.out]
  clear HE HW0
  rintro e w1 ⟨rfl, hb1⟩
  have HB1 : Hid (Below w.heap.size w w1) := HA.out.trans (hb1.mono (by omega))
  have hz1 := hb1.size
  rw [hz] at hz1
  have hres1 := (hb1.block (w.heap.size + 1) (by omega)).trans HRES.out
  have HR1 : Hid _ := hres1
  have HX1 : Hid _ := (hb1.block w.heap.size (by omega)).trans HBOX.out
  cases ht : treeErr d t with
  | some er =>
    have HF : Hid (dropR d t s = .error er) := dropR_tree ht
    obtain ⟨⟨q0, q1, q2, q3⟩, g0, g1, g2, g3⟩ := row4b hres1
    simp only [num]
    clear ht hb1 hres1
    go_wp2_with fail
    refine bodyPost_ret (v := .tuple #[.agg #[.string { data := #[] }, .string { data := #[] }, .bool false, .slice none 0 0], .int .i64 ((er : Int) + 1)]) (by simp [results, Tryz.results18, go_sem, q0, q1, q2, q3]) rfl ?_
    have hS := ((((But1.refl (w.heap.size + 1) w1).set 0 (.string { data := #[] })).set 1 (.string { data := #[] })).set 2 (.bool false)).set 3 (.slice none 0 0)
    exact ⟨hS.below HB1.out (by omega), .inl ⟨er, HF.out, rfl⟩⟩
  | none =>
    have HT : Hid (treeErr d t = none) := ht
    simp only [num]
    clear ht hb1 hres1
    go_wp2_with fail
    refine Calls.mono (HSO.out _) ?_
    rintro e w2 ⟨hb2, ⟨h2, rfl⟩ | ⟨m, v, h2, rfl, htx, hrm⟩⟩
    · have HF : Hid (dropR d t s = .error 4) := dropR_split HT.out h2
      have HB2 : Hid (Below w.heap.size w w2) := HB1.out.trans (hb2.mono HB1.out.size)
      have hz2 := hb2.size
      have hres2 := (hb2.block (w.heap.size + 1) (by omega)).trans HR1.out
      obtain ⟨⟨q0, q1, q2, q3⟩, g0, g1, g2, g3⟩ := row4b hres2
      clear hb2 h2 hres2
      go_wp2_with fail
      refine bodyPost_ret (v := .tuple #[.agg #[.string { data := #[] }, .string { data := #[] }, .bool false, .slice none 0 0], .int .i64 5]) (by simp [results, Tryz.results18, go_sem, q0, q1, q2, q3]) rfl ?_
      have hS := ((((But1.refl (w.heap.size + 1) w2).set 0 (.string { data := #[] })).set 1 (.string { data := #[] })).set 2 (.bool false)).set 3 (.slice none 0 0)
      exact ⟨hS.below HB2.out (by omega), .inl ⟨4, HF.out, rfl⟩⟩
    · have H2 : Hid (splitR s = some m) := h2
      have HB2 : Hid (Below w.heap.size w w2) := HB1.out.trans (hb2.mono HB1.out.size)
      have hz2 := hb2.size
      have hw2 : w.heap.size ≤ w2.heap.size := by omega
      have hres2 := (hb2.block (w.heap.size + 1) (by omega)).trans HR1.out
      have HR2 : Hid _ := hres2
      obtain ⟨⟨y0, y1, y2, y3⟩, _⟩ := row4b ((hb2.block w.heap.size (by omega)).trans HX1.out)
      have HST : Hid _ := setOf_any B 1 zeroT (.slice none 0 0) true m d t (.slice ta t.kids.length tc) v w2 (by omega) (HLI.out.below HB2.out hB) (lies_nil _ _) (rises_well HFIT.out HT.out) (kids_well HFIT.out HT.out) (names_b htx hrm) (by have := splitR_len h2; omega) (names_short h2)
      obtain ⟨va, vc, rfl, _⟩ := hrm
      clear hb2 h2 htx HSO
      rcases List.eq_nil_or_concat m with rfl | ⟨m', x, hm⟩
      · have HF : Hid (dropR d t s = .error 2) := dropR_top HT.out H2.out
        obtain ⟨⟨q0, q1, q2, q3⟩, g0, g1, g2, g3⟩ := row4b hres2
        clear hres2 HST
        simp only [List.length_nil]
        go_wp2_with fail
        refine bodyPost_ret (v := .tuple #[.agg #[.string { data := #[] }, .string { data := #[] }, .bool false, .slice none 0 0], .int .i64 3]) (by simp [results, Tryz.results18, go_sem, q0, q1, q2, q3]) rfl ?_
        have hS := ((((But1.refl (w.heap.size + 1) w2).set 0 (.string { data := #[] })).set 1 (.string { data := #[] })).set 2 (.bool false)).set 3 (.slice none 0 0)
        exact ⟨hS.below HB2.out (by omega), .inl ⟨2, HF.out, rfl⟩⟩
      clear hres2
      rw [List.concat_eq_append] at hm
      have hne : m ≠ [] := by rw [hm]; simp
      have hm0 : ((m.length : Int) == 0) = false := by rw [hm]; simp; omega
      have HM : Hid (m = m' ++ [x]) := hm
      clear hm
      have HNE : Hid (m ≠ []) := hne
      clear hne
      go_wp2_with fail
      refine Calls.mono HST.out ?_
      clear HST y0 y1 y2 y3
      rintro e w3 ⟨hb3, ⟨kd, dd, ex, sa, sn, sc, h3, rfl⟩ | ⟨Y, uY, h3, rfl, hlY⟩⟩
      · rw [setS_drop zeroT m HNE.out (dirs_well HFIT.out HT.out)] at h3
        have HF : Hid (dropR d t s = .error 5) := by
          have h4 : atR m t = none := by
            cases hrb : atR m t with
            | none => rfl
            | some k => rw [hrb] at h3; simp at h3
          rw [HM.out] at h4
          exact dropR_none HT.out (by rw [← HM.out]; exact H2.out) h4
        have hz3 := hb3.size
        have HB3 : Hid (Below w.heap.size w w3) := HB2.out.trans (hb3.mono HB2.out.size)
        obtain ⟨W4, hW4⟩ : ∃ W4, W4 = w3.alloc (.cells #[.string kd, .string dd, .bool ex, .slice sa sn sc] 24) := ⟨_, rfl⟩
        have hb4 : Below w3.heap.size w3 W4 := by rw [hW4]; exact (Below.refl _ _).alloc (Nat.le_refl _) _
        have hz4 := hb4.size
        have hres4 := (hb4.block (w.heap.size + 1) (by omega)).trans ((hb3.block (w.heap.size + 1) (by omega)).trans HR2.out)
        have HB4 : Hid (Below w.heap.size w W4) := HB3.out.trans (hb4.mono HB3.out.size)
        rw [hW4] at hres4
        obtain ⟨⟨q0, q1, q2, q3⟩, g0, g1, g2, g3⟩ := row4b hres4
        have HW4 : Hid (W4 = w3.alloc (.cells #[.string kd, .string dd, .bool ex, .slice sa sn sc] 24)) := hW4
        clear h3 hb3 hres4 hb4 hW4
        go_wp2_with fail
        refine bodyPost_ret (v := .tuple #[.agg #[.string { data := #[] }, .string { data := #[] }, .bool false, .slice none 0 0], .int .i64 6]) (by simp [results, Tryz.results18, go_sem, q0, q1, q2, q3]) rfl ?_
        rw [← HW4.out]
        have hS := ((((But1.refl (w.heap.size + 1) W4).set 0 (.string { data := #[] })).set 1 (.string { data := #[] })).set 2 (.bool false)).set 3 (.slice none 0 0)
        exact ⟨hS.below HB4.out (by omega), .inl ⟨5, HF.out, rfl⟩⟩
      · rw [setS_drop zeroT m HNE.out (dirs_well HFIT.out HT.out)] at h3
        have HF : Hid (dropR d t s = .ok Y) := by
          cases hrb : atR m t with
          | none => rw [hrb] at h3; cases h3
          | some k =>
            rw [hrb] at h3
            simp only [Option.isSome_some, if_true, Option.some.injEq] at h3
            rw [← h3, HM.out]
            exact dropR_ok HT.out (by rw [← HM.out]; exact H2.out) (by rw [← HM.out]; exact hrb)
        have hz3 := hb3.size
        have HB3 : Hid (Below w.heap.size w w3) := HB2.out.trans (hb3.mono HB2.out.size)
        have hlY3 : Lies w3 w3.heap.size (d + 1) Y.kids uY := hlY.lies (B := w3.heap.size) fun k hk => by rcases hk with hk | hk <;> omega
        obtain ⟨ya, yc, rfl⟩ := hlY3.form
        obtain ⟨W4, hW4⟩ : ∃ W4, W4 = w3.alloc (.cells #[.string Y.kind, .string Y.data, .bool Y.exec, .slice ya Y.kids.length yc] 24) := ⟨_, rfl⟩
        have hb4 : Below w3.heap.size w3 W4 := by rw [hW4]; exact (Below.refl _ _).alloc (Nat.le_refl _) _
        have hz4 : W4.heap.size = w3.heap.size + 1 := by rw [hW4]; simp
        have hy4 : W4.heap[w3.heap.size]? = some (.cells #[.string Y.kind, .string Y.data, .bool Y.exec, .slice ya Y.kids.length yc] 24 (0, 0)) := by rw [hW4]; exact row_alloc' _ _ _
        have hr4 := (hb4.block (w.heap.size + 1) (by omega)).trans ((hb3.block (w.heap.size + 1) (by omega)).trans HR2.out)
        have HB4 : Hid (Below w.heap.size w W4) := HB3.out.trans (hb4.mono HB3.out.size)
        have HQ4 : Hid (LiesQ W4 (fun b => b < B ∨ (w2.heap.size ≤ b ∧ b < w3.heap.size)) (d + 1) Y.kids (.slice ya Y.kids.length yc)) := hlY.kept (fun k hk => hb4.block k (by rcases hk with hk | hk <;> omega)) fun _ h => h
        rw [hW4] at hy4 hr4
        obtain ⟨⟨v0, v1, v2, v3⟩, _⟩ := row4b hy4
        obtain ⟨⟨q0, q1, q2, q3⟩, g0, g1, g2, g3⟩ := row4b hr4
        have HW4 : Hid (W4 = w3.alloc (.cells #[.string Y.kind, .string Y.data, .bool Y.exec, .slice ya Y.kids.length yc] 24)) := hW4
        clear h3 hb3 hb4 hW4 hlY hlY3 hy4 hr4
        go_wp2_with fail
        refine bodyPost_ret (v := .tuple #[.agg #[.string Y.kind, .string Y.data, .bool Y.exec, .slice ya Y.kids.length yc], .int .i64 0]) (by simp [results, Tryz.results18, go_sem, q0, q1, q2, q3]) rfl ?_
        rw [← HW4.out]
        have hS := ((((But1.refl (w.heap.size + 1) W4).set 0 (.string Y.kind)).set 1 (.string Y.data)).set 2 (.bool Y.exec)).set 3 (.slice ya Y.kids.length yc)
        exact ⟨hS.below HB4.out (by omega), .inr ⟨Y, _, HF.out, rfl, HQ4.out.kept (fun k hk => hS.block k (by rcases hk with hk | hk <;> omega)) (fun k hk => hk.elim .inl fun hk => .inr ⟨by omega, Nat.lt_of_lt_of_le (show k < W4.heap.size by omega) (Nat.le_of_eq hS.size.symm)⟩)⟩⟩
end Go.Proofs.YtpjjpmikhjlgnaaGreatDoor
namespace Go.Proofs.YtpjjpmikhjlgnaaGreatDoor
open Go.RowKit
attribute [local go_sem ↓] Go.wp_at_zero Go.wp_at_succ

set_option maxRecDepth 100000 in
set_option maxHeartbeats 2000000 in
theorem joined_any (v : Value) (l : List ByteArray) (w : World) (hv : Texts w v l) (hl : l.length ≤ 1000) (hn : ∀ x ∈ l, x.size ≤ 1000) : Calls Tryz.prog 50 #[v] w fun e w' => e = .returned (.string (tellP l)) ∧ Below w.heap.size w w' := by
  obtain ⟨ad, cap, rfl, hv⟩ := hv
  have HV : Hid _ := hv
  have hsz : ∀ j, (joinB (l.take j)).size ≤ 1001000 := fun j => by
    have h1 := joinB_size (l := l.take j) (n := 1000) fun x hx => hn x (List.mem_of_mem_take hx)
    have h2 : (l.take j).length ≤ 1000 := by rw [List.length_take]; omega
    have h3 := Nat.mul_le_mul_right (1000 + 1) h2
    omega
  have HSZ : Hid _ := hsz
  have HN : Hid _ := hn
  clear hv hsz hn
  go_enter Tryz.func50, Tryz.ntmps50
  go_wp2_with fail
  go_loopw [3, 4] (fun o i wr => ∃ k m : Nat, k ≤ l.length ∧ i = .int .i64 k ∧ o = .string (joinB (l.take k)) ∧ wr = w.drewN m) (fun _ i _ => l.length - (intOf i).toNat)
  case atStart => exact ⟨0, 0, Nat.zero_le _, rfl, rfl, rfl⟩
  case round =>
    obtain ⟨k, m, hk, rfl, rfl, rfl⟩ := hrel
    by_cases hlt : k < l.length
    · obtain ⟨x, hx⟩ : ∃ x, l[k]? = some x := ⟨l[k], List.getElem?_eq_getElem hlt⟩
      obtain ⟨b1, o1, rfl, c1⟩ := HV.out k x hx
      have HJ : Hid _ := joinB_snoc hx
      have hxs := HN.out x (List.mem_of_getElem? hx)
      have hjs := HSZ.out k
      have hms : (joinB (l.take k)).size + 1 + x.size ≤ maxLen := by unfold maxLen; omega
      clear hx
      go_wp2_with fail
      go_roundw
      case rel => exact ⟨k + 1, _, by omega, by go_num, by rw [HJ.out]; rfl, rfl⟩
      case measure => simp [intOf]; omega
    · have hkl : k = l.length := by omega
      subst hkl
      have HT : Hid (joinB (l.take l.length) = joinB l) := show _ = _ by rw [List.take_length]
      rw [HT.out]
      clear HV HT
      cases he : (joinB l).toList.isEmpty with
      | true =>
        have HP : Hid (tellP l = { data := #[47] }) := show _ = _ by unfold tellP; rw [if_pos he]; rfl
        go_wp2_with fail
        go_ret
        exact ⟨by rw [HP.out]; rfl, below_drewN (Below.refl _ _) _⟩
      | false =>
        have HP : Hid (tellP l = joinB l) := show _ = _ by unfold tellP; rw [if_neg (by simp [he])]
        go_wp2_with fail
        go_ret
        exact ⟨by rw [HP.out]; rfl, below_drewN (Below.refl _ _) _⟩
end Go.Proofs.YtpjjpmikhjlgnaaGreatDoor
namespace Go.Proofs
open Go.Shelf
def Tryz.lays99_ren : Go.Shelf.Ren := ⟨fun | 99 => 98 | 206 => 82 | n => n, fun | 9 => 9 | 4 => 4 | 3 => 3 | n => n, fun | n => n⟩
theorem Tryz.lays99 : Go.Proofs.Lays.n99 Tryz.prog Tryz.lays99_ren := {
  mixed := by kernel_rfl
  f99 := Tryz.func98.trans (congrArg some (by kernel_rfl))
  f206 := Tryz.func82.trans (congrArg some (by kernel_rfl))
  t3 := Tryz.underlying3
  a3 := Tryz.isAgg3
  z3 := Tryz.sizeOf3
  v3 := Tryz.zeroValue3
  t4 := Tryz.underlying4
  a4 := Tryz.isAgg4
  z4 := Tryz.sizeOf4
  v4 := Tryz.zeroValue4
  t9 := Tryz.underlying9
  a9 := Tryz.isAgg9
  z9 := Tryz.sizeOf9
  v9 := Tryz.zeroValue9 }
open Go.RowKit Go.Lib in
theorem Tryz.strings_HasPrefix (s p : ByteArray) (w : World) :
    Calls Tryz.prog 98 #[.string s, .string p] w fun e w' => e = .returned (.bool (Lib.hasPrefix s.data.toList p.data.toList)) ∧ w' = w := Any.strings_HasPrefix Tryz.lays99 s p w
def Tryz.lays146_ren : Go.Shelf.Ren := ⟨fun | 146 => 99 | 221 => 58 | 268 => 83 | 138 => 84 | 143 => 85 | 195 => 102 | 197 => 103 | 218 => 104 | 219 => 105 | 260 => 112 | 217 => 113 | 225 => 114 | 224 => 115 | 267 => 116 | 266 => 118 | 314 => 119 | n => n, fun | 9 => 9 | 31 => 28 | 3 => 3 | 4 => 4 | 0 => 0 | 105 => 153 | 21 => 21 | 5 => 5 | 46 => 149 | 119 => 174 | 139 => 177 | 138 => 176 | 146 => 179 | 51 => 178 | n => n, fun | 1 => 14 | 3 => 15 | 4 => 16 | n => n⟩
theorem Tryz.lays146 : Go.Proofs.Lays.n146 Tryz.prog Tryz.lays146_ren := {
  mixed := by kernel_rfl
  f138 := Tryz.func84.trans (congrArg some (by kernel_rfl))
  f143 := Tryz.func85.trans (congrArg some (by kernel_rfl))
  f146 := Tryz.func99.trans (congrArg some (by kernel_rfl))
  f195 := Tryz.func102.trans (congrArg some (by kernel_rfl))
  f197 := Tryz.func103.trans (congrArg some (by kernel_rfl))
  f217 := Tryz.func113.trans (congrArg some (by kernel_rfl))
  f218 := Tryz.func104.trans (congrArg some (by kernel_rfl))
  f219 := Tryz.func105.trans (congrArg some (by kernel_rfl))
  f221 := Tryz.func58.trans (congrArg some (by kernel_rfl))
  f224 := Tryz.func115.trans (congrArg some (by kernel_rfl))
  f225 := Tryz.func114.trans (congrArg some (by kernel_rfl))
  f260 := Tryz.func112.trans (congrArg some (by kernel_rfl))
  f266 := Tryz.func118.trans (congrArg some (by kernel_rfl))
  f267 := Tryz.func116.trans (congrArg some (by kernel_rfl))
  f268 := Tryz.func83.trans (congrArg some (by kernel_rfl))
  f314 := Tryz.func119.trans (congrArg some (by kernel_rfl))
  t0 := Tryz.underlying0
  a0 := Tryz.isAgg0
  z0 := Tryz.sizeOf0
  v0 := Tryz.zeroValue0
  t3 := Tryz.underlying3
  a3 := Tryz.isAgg3
  z3 := Tryz.sizeOf3
  v3 := Tryz.zeroValue3
  t4 := Tryz.underlying4
  a4 := Tryz.isAgg4
  z4 := Tryz.sizeOf4
  v4 := Tryz.zeroValue4
  t5 := Tryz.underlying5
  a5 := Tryz.isAgg5
  z5 := Tryz.sizeOf5
  v5 := Tryz.zeroValue5
  t9 := Tryz.underlying9
  a9 := Tryz.isAgg9
  z9 := Tryz.sizeOf9
  v9 := Tryz.zeroValue9
  t21 := Tryz.underlying21
  a21 := Tryz.isAgg21
  z21 := Tryz.sizeOf21
  v21 := Tryz.zeroValue21
  t31 := Tryz.underlying28
  a31 := Tryz.isAgg28
  z31 := Tryz.sizeOf28
  v31 := Tryz.zeroValue28
  t46 := Tryz.underlying149
  a46 := Tryz.isAgg149
  z46 := Tryz.sizeOf149
  v46 := Tryz.zeroValue149
  t51 := Tryz.underlying178
  a51 := Tryz.isAgg178
  z51 := Tryz.sizeOf178
  v51 := Tryz.zeroValue178
  t105 := Tryz.underlying153
  a105 := Tryz.isAgg153
  z105 := Tryz.sizeOf153
  v105 := Tryz.zeroValue153
  t119 := Tryz.underlying174
  a119 := Tryz.isAgg174
  z119 := Tryz.sizeOf174
  t138 := Tryz.underlying176
  a138 := Tryz.isAgg176
  z138 := Tryz.sizeOf176
  v138 := Tryz.zeroValue176
  t139 := Tryz.underlying177
  a139 := Tryz.isAgg177
  z139 := Tryz.sizeOf177
  v139 := Tryz.zeroValue177
  t146 := Tryz.underlying179
  a146 := Tryz.isAgg179
  z146 := Tryz.sizeOf179
  v146 := Tryz.zeroValue179
  g1 := by kernel_rfl
  g3 := by kernel_rfl
  g4 := by kernel_rfl }
open Go.RowKit Go.Lib in
theorem Tryz.strings_Split (s sep : ByteArray) (m : Int) (w : World) (hs : s.size < 4294967281) (hm : w.cell? ⟨14, 0, none⟩ = some (.int .i64 m)) (h1 : 1 ≤ sep.size) :
    Calls Tryz.prog 99 #[.string s, .string sep] w fun e w' =>
      e = .returned (.slice (some ⟨w.heap.size, 0, none⟩) (Lib.countB s sep + 1) (Lib.countB s sep + 1)) ∧ w' = w.alloc (.cells ((Lib.splitB sep 0 (Lib.countB s sep) s).map Value.string).toArray 9) := Any.strings_Split Tryz.lays146 (by kernel_rfl) s sep m w hs hm h1
end Go.Proofs
