/-
  The contract of diff.Diff.
  Conditions: the sentinels hold what the program's text lays; both trees lie in memory below block B, with room told, and can be checked.
-/
import Derived.Test.YtilkjafggfdjeabDoorDNode
import Derived.Test.YtilkjafggfdjeabDoorCheck
namespace Go.Proofs.YtilkjafggfdjeabDoor
open Go.RowKit
attribute [local go_sem ↓] Go.wp_at_zero Go.wp_at_succ

/-- As many levels as there are. -/
theorem LiesC.levels {w : World} {B : Nat} : ∀ {n d : Nat} {t : Tree} {v : Value}, Fit n t → LiesC w B d t.kids v → LiesC w B n t.kids v
  | 0, _, _, _, h, _ => h.elim
  | _ + 1, 0, _, _, _, h => h.elim
  | n + 1, d + 1, t, v, hf, ⟨ad, cap, e, hc, hm, hlen, hk⟩ => ⟨ad, cap, e, hc, hm, hlen, fun i x hx => by
    obtain ⟨b, off, u, e, h1, h2, h3, h4, h5, h6, h7, h8⟩ := hk i x hx
    exact ⟨b, off, u, e, h1, h2, h3, h4, h5, h6, h7, LiesC.levels (hf x (List.mem_of_getElem? hx)) h8⟩⟩
theorem Lies.levels {w : World} {B : Nat} : ∀ {n d : Nat} {t : Tree} {v : Value}, Fit n t → Lies w B d t.kids v → Lies w B n t.kids v
  | 0, _, _, _, h, _ => h.elim
  | _ + 1, 0, _, _, _, h => h.elim
  | n + 1, d + 1, t, v, hf, ⟨ad, cap, e, hlen, hk⟩ => ⟨ad, cap, e, hlen, fun i x hx => by
    obtain ⟨b, off, u, e, h1, h2, h3, h4, h5, h6, h7, h8⟩ := hk i x hx
    exact ⟨b, off, u, e, h1, h2, h3, h4, h5, h6, h7, Lies.levels (hf x (List.mem_of_getElem? hx)) h8⟩⟩
theorem WN.pos {n : Nat} {t : Tree} (h : WN n t) : 1 ≤ cnt n t := by
  cases n with
  | zero => exact h.elim
  | succ n => rw [cnt_succ]; omega
theorem diffK_len {f : ByteArray → Tree → Tree → List Chg} {ns : List ByteArray} {d : Nat} (hf : ∀ x s t, WN d s → WN d t → (f x s t).length ≤ cnt d s + cnt d t) : ∀ (a b : List (ByteArray × Tree)), (∀ x ∈ a, WN d x.2) → (∀ x ∈ b, WN d x.2) → (diffK f ns a b).length ≤ cnts d a + cnts d b
  | [], [], _, _ => by rw [diffK]; simp
  | x :: a, [], ha, hb => by
    have h1 := diffK_len (ns := ns) hf a [] (fun y hy => ha y (List.mem_cons_of_mem _ hy)) hb
    have h2 := (ha x (by simp)).pos
    rw [diffK, List.length_cons, cnts_cons]
    omega
  | [], y :: b, ha, hb => by
    have h1 := diffK_len (ns := ns) hf [] b ha (fun z hz => hb z (List.mem_cons_of_mem _ hz))
    have h2 := (hb y (by simp)).pos
    rw [diffK, List.length_cons, cnts_cons]
    omega
  | x :: a, y :: b, ha, hb => by
    have p1 := (ha x (by simp)).pos
    have p2 := (hb y (by simp)).pos
    rw [diffK]
    split
    · have h1 := diffK_len (ns := ns) hf a (y :: b) (fun z hz => ha z (List.mem_cons_of_mem _ hz)) hb
      rw [List.length_cons, cnts_cons (x := x)]
      omega
    · split
      · have h1 := diffK_len (ns := ns) hf (x :: a) b ha (fun z hz => hb z (List.mem_cons_of_mem _ hz))
        rw [List.length_cons, cnts_cons (x := y)]
        omega
      · have h1 := diffK_len (ns := ns) hf a b (fun z hz => ha z (List.mem_cons_of_mem _ hz)) (fun z hz => hb z (List.mem_cons_of_mem _ hz))
        have h2 := hf x.1 x.2 y.2 (ha x (by simp)) (hb y (by simp))
        rw [List.length_append, cnts_cons, cnts_cons]
        omega
termination_by a b => a.length + b.length
theorem diffN_len : ∀ (d : Nat) (ns : List ByteArray) (a b : Tree), WN d a → WN d b → (diffN d ns a b).length ≤ cnt d a + cnt d b
  | 0, _, _, _, h, _ => h.elim
  | d + 1, ns, a, b, ha, hb => by
    rw [diffN]
    split
    · have := diffK_len (ns := ns) (f := fun x s t => diffN d (ns ++ [x]) s t) (fun x s t hs ht => diffN_len d (ns ++ [x]) s t hs ht) a.kids b.kids ha.2 hb.2
      rw [cnt_succ, cnt_succ]
      omega
    · split
      · simp
      · have := ha.pos
        simp only [List.length_singleton]
        omega
/-- A list of changes in memory below block B. -/
def ChgsAt (w : World) (B d : Nat) (l : List Chg) (v : Value) : Prop := ∃ ad cap, v = .slice ad l.length cap ∧ l.length ≤ 1000000 ∧ ∀ i c, l[i]? = some c → ∃ b off u, ad = some ⟨b, off, none⟩ ∧ b < B ∧
  w.cell? ⟨b, off + i * 6, none⟩ = some (.string c.kind) ∧ w.cell? ⟨b, off + i * 6 + 1, none⟩ = some (.string c.path) ∧ w.cell? ⟨b, off + i * 6 + 2, none⟩ = some (.string c.node.kind) ∧ w.cell? ⟨b, off + i * 6 + 3, none⟩ = some (.string c.node.data) ∧ w.cell? ⟨b, off + i * 6 + 4, none⟩ = some (.bool c.node.exec) ∧ w.cell? ⟨b, off + i * 6 + 5, none⟩ = some u ∧ Lies w B d c.node.kids u
theorem ChgsAt.below {w w' : World} {B d : Nat} {l : List Chg} {v : Value} (h : ChgsAt w B d l v) {C : Nat} (hb : Below C w w') (hC : B ≤ C) : ChgsAt w' B d l v := by
  obtain ⟨ad, cap, e, hl, hk⟩ := h
  refine ⟨ad, cap, e, hl, fun i c hc => ?_⟩
  obtain ⟨b, off, u, e, h1, h2, h3, h4, h5, h6, h7, h8⟩ := hk i c hc
  have hc : ∀ o, w'.cell? ⟨b, o, none⟩ = w.cell? ⟨b, o, none⟩ := fun o => hb.cell (p := ⟨b, o, none⟩) (show b < C by omega)
  exact ⟨b, off, u, e, h1, by rw [hc]; exact h2, by rw [hc]; exact h3, by rw [hc]; exact h4, by rw [hc]; exact h5, by rw [hc]; exact h6, by rw [hc]; exact h7, h8.below hb hC⟩
theorem ChgsAt.up {w : World} {B B' d : Nat} {l : List Chg} {v : Value} (h : ChgsAt w B d l v) (hB : B ≤ B') : ChgsAt w B' d l v := by
  obtain ⟨ad, cap, e, hl, hk⟩ := h
  refine ⟨ad, cap, e, hl, fun i c hc => ?_⟩
  obtain ⟨b, off, u, e, h1, h2, h3, h4, h5, h6, h7, h8⟩ := hk i c hc
  exact ⟨b, off, u, e, by omega, h2, h3, h4, h5, h6, h7, h8.up hB (Nat.le_refl _)⟩
theorem chCells_at : ∀ {l : List Chg} {us : List Value} {i : Nat} {c : Chg} {u : Value}, l[i]? = some c → us[i]? = some u →
    (chCells l us)[i * 6]? = some (.string c.kind) ∧ (chCells l us)[i * 6 + 1]? = some (.string c.path) ∧ (chCells l us)[i * 6 + 2]? = some (.string c.node.kind) ∧ (chCells l us)[i * 6 + 3]? = some (.string c.node.data) ∧ (chCells l us)[i * 6 + 4]? = some (.bool c.node.exec) ∧ (chCells l us)[i * 6 + 5]? = some u
  | [], _, i, c, u, h, _ => by simp at h
  | _ :: _, [], i, c, u, _, h => by simp at h
  | y :: l, v :: us, 0, c, u, h, h' => by
    simp only [List.getElem?_cons_zero, Option.some.injEq] at h h'
    subst h; subst h'
    exact ⟨rfl, rfl, rfl, rfl, rfl, rfl⟩
  | y :: l, v :: us, i + 1, c, u, h, h' => by
    simp only [List.getElem?_cons_succ] at h h'
    have := chCells_at h h'
    have e : ∀ k, (i + 1) * 6 + k = (i * 6 + k) + 1 + 1 + 1 + 1 + 1 + 1 := fun k => by omega
    simp only [chCells]
    refine ⟨?_, ?_, ?_, ?_, ?_, ?_⟩
    · rw [show (i + 1) * 6 = (i * 6) + 1 + 1 + 1 + 1 + 1 + 1 from by omega]; simpa using this.1
    · rw [e]; simpa using this.2.1
    · rw [e]; simpa using this.2.2.1
    · rw [e]; simpa using this.2.2.2.1
    · rw [e]; simpa using this.2.2.2.2.1
    · rw [e]; simpa using this.2.2.2.2.2
theorem ChSt.at {lb d : Nat} {l : List Chg} {v : Value} {us : List Value} {w : World} (C : ChSt lb d l v us w) (hl : l.length ≤ 1000000) : ChgsAt w w.heap.size d l v := by
  rcases C.own.2 with ⟨e, e0⟩ | ⟨g, cap, cur, e, _⟩
  · refine ⟨none, 0, by rw [e, e0], hl, fun i c hc => ?_⟩
    have := (List.getElem?_eq_some_iff.1 hc).1
    omega
  · refine ⟨some ⟨g, 0, none⟩, cap, e, hl, fun i c hc => ?_⟩
    have hi := (List.getElem?_eq_some_iff.1 hc).1
    obtain ⟨u, hu⟩ : ∃ u, us[i]? = some u := ⟨us[i]'(by have := C.len; omega), List.getElem?_eq_getElem (by have := C.len; omega)⟩
    have hcs := C.own.cells (g := g) (by rw [e]; rfl)
    have hadd : ∀ j, (⟨g, 0, none⟩ : Addr).add j = ⟨g, j, none⟩ := fun j => by unfold Addr.add; split <;> simp_all
    obtain ⟨k0, k1, k2, k3, k4, k5⟩ := chCells_at hc hu
    have c0 := hcs _ _ k0
    have c1 := hcs _ _ k1
    have c2 := hcs _ _ k2
    have c3 := hcs _ _ k3
    have c4 := hcs _ _ k4
    have c5 := hcs _ _ k5
    rw [hadd] at c0 c1 c2 c3 c4 c5
    exact ⟨g, 0, u, rfl, (C.own.lt g (by rw [e]; rfl)).2, by rw [Nat.zero_add]; exact c0, by rw [Nat.zero_add]; exact c1, by rw [Nat.zero_add]; exact c2, by rw [Nat.zero_add]; exact c3, by rw [Nat.zero_add]; exact c4, by rw [Nat.zero_add]; exact c5, (C.kids i c u hc hu).lies fun k hk => hk.2.1⟩
/-- What Diff hands back. -/
def DiffPost (a : Nat → Addr) (d : Nat) (s t : Tree) (w : World) (e : Ending) (w' : World) : Prop := Below w.heap.size w w' ∧
  ((∃ er, (treeErr d s = some er ∨ (treeErr d s = none ∧ treeErr d t = some er)) ∧ e = .returned (.tuple #[.slice none 0 0, .iface 153 (.pointer (some (a er)))])) ∨
   (treeErr d s = none ∧ treeErr d t = none ∧ ∃ v, e = .returned (.tuple #[v, .nilIface]) ∧ ChgsAt w' w'.heap.size 9 (diffN 9 [] s t) v))

set_option maxRecDepth 100000 in
set_option maxHeartbeats 4000000 in
theorem diff_any (a : Nat → Addr) (d B : Nat) (s t : Tree) (ua ub : Value) (w : World) (S : PSen a w) (hB : B ≤ w.heap.size) (hs : LiesC w B d s.kids ua) (ht : LiesC w B d t.kids ub) (hal : Alive ck ckOk 0 (pre d ByteArray.empty 0 s)) (hal2 : Alive ck ckOk 0 (pre d ByteArray.empty 0 t)) :
    Calls Tryd.prog 21 #[.agg #[.string s.kind, .string s.data, .bool s.exec, ua], .agg #[.string t.kind, .string t.data, .bool t.exec, ub]] w (DiffPost a d s t w) := by
  obtain ⟨sa, sc, rfl⟩ := hs.form
  obtain ⟨ta, tc, rfl⟩ := ht.form
  have hW : Below w.heap.size w ((w.alloc (.cells #[.string s.kind, .string s.data, .bool s.exec, .slice sa s.kids.length sc] 24)).alloc (.cells #[.string t.kind, .string t.data, .bool t.exec, .slice ta t.kids.length tc] 24)) := ((Below.refl _ _).alloc (Nat.le_refl _) _).alloc (by simp) _
  have hra : ((w.alloc (.cells #[.string s.kind, .string s.data, .bool s.exec, .slice sa s.kids.length sc] 24)).alloc (.cells #[.string t.kind, .string t.data, .bool t.exec, .slice ta t.kids.length tc] 24)).heap[w.heap.size]? = some (.cells #[.string s.kind, .string s.data, .bool s.exec, .slice sa s.kids.length sc] 24 (0, 0)) := by rw [Below.heap_alloc _ _ _ (by simp)]; exact row_alloc' _ _ _
  have hrb : ((w.alloc (.cells #[.string s.kind, .string s.data, .bool s.exec, .slice sa s.kids.length sc] 24)).alloc (.cells #[.string t.kind, .string t.data, .bool t.exec, .slice ta t.kids.length tc] 24)).heap[w.heap.size + 1]? = some (.cells #[.string t.kind, .string t.data, .bool t.exec, .slice ta t.kids.length tc] 24 (0, 0)) := by
    have := row_alloc' (w.alloc (.cells #[.string s.kind, .string s.data, .bool s.exec, .slice sa s.kids.length sc] 24)) #[.string t.kind, .string t.data, .bool t.exec, .slice ta t.kids.length tc] 24
    simpa using this
  have hz : ((w.alloc (.cells #[.string s.kind, .string s.data, .bool s.exec, .slice sa s.kids.length sc] 24)).alloc (.cells #[.string t.kind, .string t.data, .bool t.exec, .slice ta t.kids.length tc] 24)).heap.size = w.heap.size + 2 := by simp
  obtain ⟨⟨x0, x1, x2, x3⟩, _⟩ := row4b hra
  have hc1 := check_any a d _ s (.slice sa s.kids.length sc) _ (S.below hW).is.atB (Nat.le_refl _) ((hs.lies.below hW hB).up (by omega) (Nat.le_refl _)) hal
  have HC1 : Hid _ := hc1
  have HC2 : Hid (∀ w', Below w.heap.size w w' → Calls Tryd.prog 27 #[.agg #[.string t.kind, .string t.data, .bool t.exec, .slice ta t.kids.length tc]] w' fun e w'' => e = .returned (errV a (treeErr d t)) ∧ Below w'.heap.size w' w'') := fun w' h => check_any a d w'.heap.size t _ w' (S.below h).is.atB (Nat.le_refl _) ((ht.lies.below h hB).up (by have := h.size; omega) (Nat.le_refl _)) hal2
  have HS : Hid _ := hs
  have HT : Hid _ := ht
  have HW : Hid _ := hW
  have HRA : Hid _ := hra
  have HRB : Hid _ := hrb
  clear hc1 hra hrb hW hs ht hal hal2
  go_enter Tryd.func21, Tryd.ntmps21
  go_wp2_with fail
  refine Calls.mono HC1.out ?_
  clear HC1 x0 x1 x2 x3
  rintro e w1 ⟨rfl, hb1⟩
  have HB1 : Hid (Below w.heap.size w w1) := HW.out.trans (hb1.mono (by omega))
  have hz1 := hb1.size
  rw [hz] at hz1
  cases hs1 : treeErr d s with
  | some er =>
    have HP : Hid (DiffPost a d s t w (.returned (.tuple #[.slice none 0 0, .iface 153 (.pointer (some (a er)))])) w1) := ⟨HB1.out, .inl ⟨er, .inl hs1, rfl⟩⟩
    unfold errV
    clear hb1 hs1 HC2
    go_wp2_with fail
    go_ret2
    exact HP.out
  | none =>
    have HR1 : Hid _ := (hb1.block (w.heap.size + 1) (by omega)).trans HRB.out
    have HA1 : Hid _ := (hb1.block w.heap.size (by omega)).trans HRA.out
    obtain ⟨⟨y0, y1, y2, y3⟩, _⟩ := row4b HR1.out
    have HS1 : Hid _ := hs1
    unfold errV
    clear hb1 hs1
    go_wp2_with fail
    refine Calls.mono (HC2.out _ HB1.out) ?_
    clear HC2 y0 y1 y2 y3
    rintro e w2 ⟨rfl, hb2⟩
    have HB2 : Hid (Below w.heap.size w w2) := HB1.out.trans (hb2.mono HB1.out.size)
    have hz2 := hb2.size
    cases ht1 : treeErr d t with
    | some er =>
      have HP : Hid (DiffPost a d s t w (.returned (.tuple #[.slice none 0 0, .iface 153 (.pointer (some (a er)))])) w2) := ⟨HB2.out, .inl ⟨er, .inr ⟨HS1.out, ht1⟩, rfl⟩⟩
      unfold errV
      clear hb2 ht1
      go_wp2_with fail
      go_ret2
      exact HP.out
    | none =>
      have hws := (well_iff HS.out.lies.fit).1 HS1.out
      have hwt := (well_iff HT.out.lies.fit).1 ht1
      have hA3 : Below w2.heap.size w2 (w2.alloc (.cells #[.slice none 0 0] 46)) := (Below.refl _ _).alloc (Nat.le_refl _) _
      have hW3 : Below w.heap.size w (w2.alloc (.cells #[.slice none 0 0] 46)) := HB2.out.trans (hA3.mono HB2.out.size)
      have hlen := diffN_len 9 [] s t hws.1 hwt.1
      have hst : ChSt w2.heap.size 9 [] (.slice none 0 0) [] (w2.alloc (.cells #[.slice none 0 0] 46)) := ⟨row_alloc' _ _ _, rfl, World.ownsRow_nil _ _ _ _, fun i c u h _ => by simp at h⟩
      have hls := ((HS.out.below hW3 hB).up (show B ≤ w2.heap.size by have := HB2.out.size; omega)).levels hws.1.fit
      have hlt := ((HT.out.below hW3 hB).up (show B ≤ w2.heap.size by have := HB2.out.size; omega)).levels hwt.1.fit
      have htn := tellNode_any w2.heap.size 9 (Nat.le_refl _) [] s t _ _ [] (.slice none 0 0) [] _ hst hls hlt hws.1 hwt.1 (by rw [joinB_nil]; decide) (by rw [List.nil_append]; omega)
      rw [List.nil_append] at htn
      have HTN : Hid (Calls Tryd.prog 37 #[.pointer (some ⟨w2.heap.size, 0, none⟩), .string { data := #[] }, .agg #[.string s.kind, .string s.data, .bool s.exec, .slice sa s.kids.length sc], .agg #[.string t.kind, .string t.data, .bool t.exec, .slice ta t.kids.length tc]] (w2.alloc (.cells #[.slice none 0 0] 46)) fun e w' => e = .returned (.tuple #[]) ∧ (∃ v' us', ChSt w2.heap.size 9 (diffN 9 [] s t) v' us' w') ∧ Below w2.heap.size (w2.alloc (.cells #[.slice none 0 0] 46)) w') := htn
      have hr2 := (hA3.block (w.heap.size + 1) (by omega)).trans ((hb2.block (w.heap.size + 1) (by omega)).trans HR1.out)
      have ha2 := (hA3.block w.heap.size (by omega)).trans ((hb2.block w.heap.size (by omega)).trans HA1.out)
      obtain ⟨⟨x0, x1, x2, x3⟩, _⟩ := row4b ha2
      obtain ⟨⟨y0, y1, y2, y3⟩, _⟩ := row4b hr2
      have HT1 : Hid _ := ht1
      have HLEN : Hid ((diffN 9 [] s t).length ≤ 1000000) := show _ ≤ _ by omega
      have HA3 : Hid _ := hA3
      unfold errV
      clear hb2 ht1 hws hwt hA3 hW3 hlen hst hls hlt htn hr2 ha2
      go_wp2_with fail
      refine Calls.mono HTN.out ?_
      clear HTN x0 x1 x2 x3 y0 y1 y2 y3
      rintro e w3 ⟨rfl, ⟨v, us, hst⟩, hb3⟩
      have HP : Hid (DiffPost a d s t w (.returned (.tuple #[v, .nilIface])) w3) := ⟨(HB2.out.trans (HA3.out.mono HB2.out.size)).trans (hb3.mono HB2.out.size), .inr ⟨HS1.out, HT1.out, v, rfl, hst.at HLEN.out⟩⟩
      have c0 : w3.cell? ⟨w2.heap.size, 0, none⟩ = some v := by rw [cell_of_row w3 _ _ _ _ _ hst.cell]; rfl
      obtain ⟨va, vc, rfl⟩ : ∃ va vc, v = .slice va (diffN 9 [] s t).length vc := by
        obtain ⟨ad, cap, e, _⟩ := hst.at HLEN.out
        exact ⟨ad, cap, e⟩
      clear hst hb3
      go_wp2_with fail
      go_ret2
      exact HP.out
end Go.Proofs.YtilkjafggfdjeabDoor
