/-
  The contracts of path.Get, and of package path's begin.
  Conditions: the sentinels hold what the program's text lays; the library's MaxLen holds a number; the tree lies in memory below block B and can be checked; the text is shorter than four thousand million bytes.
-/
import Derived.Test.YtpjjpmikhjlgnaaGreatDoorPAt
import Derived.Test.YtpjjpmikhjlgnaaGreatDoorOCopy
import Derived.Test.YtpjjpmikhjlgnaaGreatDoorCheck
import Derived.Test.YtpjjpmikhjlgnaaGreatDoorSums
import Derived.Test.YtpjjpmikhjlgnaaGreatDoorBoxes
namespace Go.Proofs.YtpjjpmikhjlgnaaGreatDoor
open Go.RowKit
attribute [local go_sem ↓] Go.wp_at_zero Go.wp_at_succ

/-- A well tree's names rise. -/
theorem rises_dir {t : Tree} (h : nodeErr t = none) : Rises t.kids := by
  obtain ⟨kd, da, ex, ki⟩ := t
  unfold nodeErr at h
  have nil : ki.length = 0 → Rises ki := fun e => by
    rw [List.eq_nil_of_length_eq_zero e]
    intro i j x y _ hx
    simp at hx
  split at h
  · unfold fileErr at h
    split at h
    · cases h
    · rename_i h1
      exact nil (by simp only at h1; omega)
  · split at h
    · unfold dirErr at h
      split at h
      · cases h
      · split at h
        · split at h
          · rename_i h3
            exact rises_of h3
          · cases h
        · cases h
    · split at h
      · unfold linkErr at h
        split at h
        · cases h
        · rename_i h1
          simp only [not_or] at h1
          exact nil (by have := h1.2; omega)
      · cases h
theorem rises_tree : ∀ {d : Nat} {p : ByteArray} {k : Nat} {t : Tree}, Fit d t → (∀ x ∈ pre d p k t, nodeErr x.2.2 = none) → RisesD d t
  | 0, _, _, _, h, _ => h
  | d + 1, p, k, t, h, ho => by
    simp only [pre] at ho
    exact ⟨rises_dir (ho (p, k, t) List.mem_cons_self), fun y hy => rises_tree (p := p ++ slash ++ y.1) (k := k + 1) (h y hy) fun x hx => ho x (List.mem_cons_of_mem _ (List.mem_flatMap.2 ⟨y, hy, hx⟩))⟩
theorem rises_well {d : Nat} {t : Tree} (hf : Fit d t) (h : treeErr d t = none) : RisesD d t := rises_tree (p := ByteArray.empty) (k := 0) hf fun x hx => ((treeErr_none.1 h).2 x hx).2
/-- What Get tells: an error's number, or a node. -/
def getR (d : Nat) (t : Tree) (s : ByteArray) : Except Nat Tree := match treeErr d t with
  | some e => .error e
  | none => match splitR s with
    | none => .error 4
    | some l => match atR l t with
      | none => .error 5
      | some k => .ok k
/-- What begin hands back. -/
def PBegPost (a : Nat → Addr) (d : Nat) (t : Tree) (s : ByteArray) (w : World) (e : Ending) (w' : World) : Prop := Below w.heap.size w w' ∧
  ((∃ er, treeErr d t = some er ∧ e = .returned (.tuple #[.slice none 0 0, .iface 181 (.pointer (some (a er)))])) ∨
   (treeErr d t = none ∧ splitR s = none ∧ e = .returned (.tuple #[.slice none 0 0, .iface 181 (.pointer (some (a 4)))])) ∨
   (∃ l v, treeErr d t = none ∧ splitR s = some l ∧ e = .returned (.tuple #[v, .nilIface]) ∧ Texts w' v l ∧ RoomR v l.length))

set_option maxRecDepth 100000 in
set_option maxHeartbeats 2000000 in
theorem pbegin_any (a : Nat → Addr) (d B : Nat) (t : Tree) (u : Value) (s : ByteArray) (w : World) (S : PSen a w) (hB : B ≤ w.heap.size) (hl : Lies w B d t.kids u) (hal : Alive ck ckOk 0 (pre d ByteArray.empty 0 t)) (hs : s.size < 4294967281) :
    Calls Tryz.prog 37 #[.agg #[.string t.kind, .string t.data, .bool t.exec, u], .string s] w (PBegPost a d t s w) := by
  obtain ⟨ta, tc, rfl⟩ := hl.form
  have hA : ∀ o, Below w.heap.size w (w.alloc o) := fun o => (Below.refl _ _).alloc (Nat.le_refl _) o
  have HCK : Hid (∀ o, Calls Tryz.prog 44 #[.agg #[.string t.kind, .string t.data, .bool t.exec, .slice ta t.kids.length tc]] (w.alloc o) fun e w' => e = .returned (errV a (treeErr d t)) ∧ Below (w.alloc o).heap.size (w.alloc o) w') := fun o =>
    check_any a d w.heap.size t _ (w.alloc o) (S.is.atB.below (hA o) (Nat.le_refl _)) (by simp) ((hl.below (hA o) hB).up hB (Nat.le_refl _)) hal
  have HA : Hid _ := hA
  have HSE : Hid (PSen a w) := S
  clear hA S hl hal
  go_enter Tryz.func37, Tryz.ntmps37
  go_wp2_with fail
  refine Calls.mono (HCK.out _) ?_
  rintro e w1 ⟨rfl, hb1⟩
  have HB1 : Hid (Below w.heap.size w w1) := (HA.out _).trans (hb1.mono (by simp))
  clear hb1 HCK HA
  cases ht : treeErr d t with
  | some er =>
    have HP : Hid (PBegPost a d t s w (.returned (.tuple #[.slice none 0 0, .iface 181 (.pointer (some (a er)))])) w1) := ⟨HB1.out, .inl ⟨er, ht, rfl⟩⟩
    unfold errV
    clear ht
    go_wp2_with fail
    go_ret2
    exact HP.out
  | none =>
    have HT : Hid (treeErr d t = none) := ht
    have HSP : Hid _ := split_any a s w1 (HSE.out.below HB1.out) hs
    unfold errV
    clear ht
    go_wp2_with fail
    refine Calls.mono HSP.out ?_
    rintro e w2 ⟨hb2, ⟨h1, rfl⟩ | ⟨l, v, h1, rfl, hv⟩⟩
    · have HP : Hid (PBegPost a d t s w (.returned (.tuple #[.slice none 0 0, .iface 181 (.pointer (some (a 4)))])) w2) := ⟨HB1.out.trans (hb2.mono HB1.out.size), .inr (.inl ⟨HT.out, h1, rfl⟩)⟩
      clear h1 hb2 HSP
      go_wp2_with fail
      go_ret2
      exact HP.out
    · have HP : Hid (PBegPost a d t s w (.returned (.tuple #[v, .nilIface])) w2) := ⟨HB1.out.trans (hb2.mono HB1.out.size), .inr (.inr ⟨l, v, HT.out, h1, rfl, hv⟩)⟩
      clear h1 hb2 HSP hv
      go_wp2_with fail
      go_ret2
      exact HP.out

/-- What Get hands back. -/
def GetPost (a : Nat → Addr) (d : Nat) (t : Tree) (s : ByteArray) (w : World) (e : Ending) (w' : World) : Prop := Below w.heap.size w w' ∧
  ((∃ er, getR d t s = .error er ∧ e = .returned (.tuple #[.agg #[.string { data := #[] }, .string { data := #[] }, .bool false, .slice none 0 0], .iface 181 (.pointer (some (a er)))])) ∨
   (∃ k u d', getR d t s = .ok k ∧ d' ≤ d ∧ e = .returned (.tuple #[.agg #[.string k.kind, .string k.data, .bool k.exec, u], .nilIface]) ∧ LiesQ w' (fun b => w.heap.size ≤ b ∧ b < w'.heap.size) d' k.kids u))
theorem getR_tree {d er : Nat} {t : Tree} {s : ByteArray} (h : treeErr d t = some er) : getR d t s = .error er := by unfold getR; rw [h]
theorem getR_split {d : Nat} {t : Tree} {s : ByteArray} (h : treeErr d t = none) (h2 : splitR s = none) : getR d t s = .error 4 := by unfold getR; rw [h]; simp only [h2]
theorem getR_none {d : Nat} {t : Tree} {s : ByteArray} {l : List ByteArray} (h : treeErr d t = none) (h2 : splitR s = some l) (h3 : atR l t = none) : getR d t s = .error 5 := by unfold getR; rw [h]; simp only [h2, h3]
theorem getR_some {d : Nat} {t k : Tree} {s : ByteArray} {l : List ByteArray} (h : treeErr d t = none) (h2 : splitR s = some l) (h3 : atR l t = some k) : getR d t s = .ok k := by unfold getR; rw [h]; simp only [h2, h3]
theorem splitR_len {s : ByteArray} {l : List ByteArray} (h : splitR s = some l) : l.length ≤ 8 := by
  unfold splitR at h
  split at h
  · injection h with h; subst h; simp
  · split at h
    · cases h
    · split at h
      · rename_i h2
        injection h with h
        subst h
        simpa using h2.2.1
      · cases h

set_option maxRecDepth 100000 in
set_option maxHeartbeats 4000000 in
theorem get_any (a : Nat → Addr) (d B : Nat) (t : Tree) (u : Value) (s : ByteArray) (w : World) (S : PSen a w) (hB : B ≤ w.heap.size) (hl : Lies w B d t.kids u) (hal : Alive ck ckOk 0 (pre d ByteArray.empty 0 t)) (hs : s.size < 4294967281) :
    Calls Tryz.prog 12 #[.agg #[.string t.kind, .string t.data, .bool t.exec, u], .string s] w (GetPost a d t s w) := by
  obtain ⟨ta, tc, rfl⟩ := hl.form
  have hfit : Fit d t := hl.fit
  have hA : Below w.heap.size w ((w.alloc (.cells #[.string t.kind, .string t.data, .bool t.exec, .slice ta t.kids.length tc] 24)).alloc (.cells #[.string { data := #[] }, .string { data := #[] }, .bool false, .slice none 0 0] 24)) := ((Below.refl _ _).alloc (Nat.le_refl _) _).alloc (by simp) _
  have hz : ((w.alloc (.cells #[.string t.kind, .string t.data, .bool t.exec, .slice ta t.kids.length tc] 24)).alloc (.cells #[.string { data := #[] }, .string { data := #[] }, .bool false, .slice none 0 0] 24)).heap.size = w.heap.size + 2 := by simp
  have hbox : ((w.alloc (.cells #[.string t.kind, .string t.data, .bool t.exec, .slice ta t.kids.length tc] 24)).alloc (.cells #[.string { data := #[] }, .string { data := #[] }, .bool false, .slice none 0 0] 24)).heap[w.heap.size]? = some (.cells #[.string t.kind, .string t.data, .bool t.exec, .slice ta t.kids.length tc] 24 (0, 0)) := by
    rw [Below.heap_alloc _ _ _ (by simp)]; exact row_alloc' _ _ _
  have hres : ((w.alloc (.cells #[.string t.kind, .string t.data, .bool t.exec, .slice ta t.kids.length tc] 24)).alloc (.cells #[.string { data := #[] }, .string { data := #[] }, .bool false, .slice none 0 0] 24)).heap[w.heap.size + 1]? = some (.cells #[.string { data := #[] }, .string { data := #[] }, .bool false, .slice none 0 0] 24 (0, 0)) := by
    have := row_alloc' (w.alloc (.cells #[.string t.kind, .string t.data, .bool t.exec, .slice ta t.kids.length tc] 24)) #[.string { data := #[] }, .string { data := #[] }, .bool false, .slice none 0 0] 24
    simpa using this
  have HBG : Hid _ := pbegin_any a d B t (.slice ta t.kids.length tc) s _ (S.below hA) (by rw [hz]; omega) (hl.below hA hB) hal hs
  have HSE : Hid (PSen a w) := S
  have HA : Hid _ := hA
  have HLI : Hid (Lies w B d t.kids (.slice ta t.kids.length tc)) := hl
  have HBOX : Hid _ := hbox
  have HRES : Hid _ := hres
  have HFIT : Hid _ := hfit
  clear hA S hl hal hbox hres hfit
  go_enter Tryz.func12, Tryz.ntmps12
  go_wp2_with fail
  refine Calls.mono HBG.out ?_
  clear HBG
  rintro e w1 ⟨hb1, h1⟩
  have HB1 : Hid (Below w.heap.size w w1) := HA.out.trans (hb1.mono (by omega))
  have hz1 := hb1.size
  rw [hz] at hz1
  have hres1 := (hb1.block (w.heap.size + 1) (by omega)).trans HRES.out
  have hbox1 := (hb1.block w.heap.size (by omega)).trans HBOX.out
  have HR1 : Hid _ := hres1
  obtain ⟨⟨q0, q1, q2, q3⟩, g0, g1, g2, g3⟩ := row4b hres1
  rcases h1 with ⟨er, ht, rfl⟩ | ⟨ht, h2, rfl⟩ | ⟨l, v, ht, h2, rfl, hv, _⟩
  · have HF : Hid (getR d t s = .error er) := getR_tree ht
    clear ht hb1 hres1 hbox1
    go_wp2_with fail
    refine bodyPost_ret (v := .tuple #[.agg #[.string { data := #[] }, .string { data := #[] }, .bool false, .slice none 0 0], .iface 181 (.pointer (some (a er)))]) (by simp [results, Tryz.results12, go_sem, q0, q1, q2, q3]) rfl ?_
    have hS := ((((But1.refl (w.heap.size + 1) w1).set 0 (.string { data := #[] })).set 1 (.string { data := #[] })).set 2 (.bool false)).set 3 (.slice none 0 0)
    exact ⟨hS.below HB1.out (by omega), .inl ⟨er, HF.out, rfl⟩⟩
  · have HF : Hid (getR d t s = .error 4) := getR_split ht h2
    clear ht h2 hb1 hres1 hbox1
    go_wp2_with fail
    refine bodyPost_ret (v := .tuple #[.agg #[.string { data := #[] }, .string { data := #[] }, .bool false, .slice none 0 0], .iface 181 (.pointer (some (a 4)))]) (by simp [results, Tryz.results12, go_sem, q0, q1, q2, q3]) rfl ?_
    have hS := ((((But1.refl (w.heap.size + 1) w1).set 0 (.string { data := #[] })).set 1 (.string { data := #[] })).set 2 (.bool false)).set 3 (.slice none 0 0)
    exact ⟨hS.below HB1.out (by omega), .inl ⟨4, HF.out, rfl⟩⟩
  · obtain ⟨⟨y0, y1, y2, y3⟩, _⟩ := row4b hbox1
    have HNA : Hid (NodeAt w1 (w.heap.size + 1) d w.heap.size 0 t) := ⟨by omega, _, y0, y1, y2, y3, (HLI.out.below HB1.out hB).up (by omega) (Nat.le_refl _)⟩
    have HAT : Hid _ := at_any (w.heap.size + 1) d w.heap.size 0 t l v w1 (by omega) HNA.out (rises_well HFIT.out ht) hv (by have := splitR_len h2; omega)
    obtain ⟨va, vc, rfl⟩ : ∃ va vc, v = .slice va l.length vc := by
      obtain ⟨va, vc, e, _⟩ := hv
      exact ⟨va, vc, e⟩
    have HT : Hid (treeErr d t = none) := ht
    have H2 : Hid (splitR s = some l) := h2
    clear ht h2 hb1 hres1 hbox1 hv y0 y1 y2 y3 q0 q1 q2 q3 g0 g1 g2 g3
    go_wp2_with fail
    refine Calls.mono HAT.out ?_
    clear HAT
    rintro e w2 ⟨hb2, ⟨h3, rfl⟩ | ⟨k, d', kb, ko, h3, rfl, hk, hd', _⟩⟩
    · have HF : Hid (getR d t s = .error 5) := getR_none HT.out H2.out h3
      have HB2 : Hid (Below w.heap.size w w2) := HB1.out.trans (hb2.mono HB1.out.size)
      have hres2 := (hb2.block (w.heap.size + 1) (by omega)).trans HR1.out
      have hz2 := hb2.size
      obtain ⟨⟨q0, q1, q2, q3⟩, g0, g1, g2, g3⟩ := row4b hres2
      have c5 := (HSE.out.below HB2.out).no
      have z5 := lt_of_cell c5
      have z5' : 1 < w.heap.size := lt_of_cell HSE.out.no
      have hne5 : 1 ≠ w.heap.size + 1 := by omega
      clear hb2 h3 hres2
      go_wp2_with fail
      go_region
      go_wp2_with fail
      refine bodyPost_ret (v := .tuple #[.agg #[.string { data := #[] }, .string { data := #[] }, .bool false, .slice none 0 0], .iface 181 (.pointer (some (a 5)))]) (by simp [results, Tryz.results12, go_sem, q0, q1, q2, q3]) rfl ?_
      have hS := ((((But1.refl (w.heap.size + 1) w2).set 0 (.string { data := #[] })).set 1 (.string { data := #[] })).set 2 (.bool false)).set 3 (.slice none 0 0)
      exact ⟨(hS.below HB2.out (by omega)).drew, .inl ⟨5, HF.out, rfl⟩⟩
    · have HF : Hid (getR d t s = .ok k) := getR_some HT.out H2.out h3
      have HB2 : Hid (Below w.heap.size w w2) := HB1.out.trans (hb2.mono HB1.out.size)
      have hz2 := hb2.size
      have HR2 : Hid _ := (hb2.block (w.heap.size + 1) (by omega)).trans HR1.out
      obtain ⟨hkb, uk, c0, c1, c2, c3, hlk⟩ := hk.below hb2 (by omega)
      obtain ⟨ka, kc, rfl⟩ := hlk.form
      have HCP : Hid _ := copy_any (w.heap.size + 1) d' k (.slice ka k.kids.length kc) w2 (by omega) hlk
      clear hb2 h3 hk hlk
      go_wp2_with fail
      refine Calls.mono HCP.out ?_
      clear HCP c0 c1 c2 c3
      rintro e w3 ⟨u3, rfl, hq3, hb3⟩
      obtain ⟨ra, rc, rfl⟩ := hq3.form
      have HB3 : Hid (Below w.heap.size w w3) := HB2.out.trans (hb3.mono HB2.out.size)
      have hz3 := hb3.size
      have hres3 := (hb3.block (w.heap.size + 1) (by omega)).trans HR2.out
      obtain ⟨⟨q0, q1, q2, q3⟩, g0, g1, g2, g3⟩ := row4b hres3
      have HQ : Hid (LiesQ w3 (fun b => w.heap.size + 2 ≤ b ∧ b < w3.heap.size) d' k.kids (.slice ra k.kids.length rc)) := LiesQ.kept (fun _ _ => rfl) (fun b hb => ⟨by omega, hb.2⟩) hq3
      clear hb3 hq3 hres3
      go_wp2_with fail
      refine bodyPost_ret (v := .tuple #[.agg #[.string k.kind, .string k.data, .bool k.exec, .slice ra k.kids.length rc], .nilIface]) (by simp [results, Tryz.results12, go_sem, q0, q1, q2, q3]) rfl ?_
      have hS := ((((But1.refl (w.heap.size + 1) w3).set 0 (.string k.kind)).set 1 (.string k.data)).set 2 (.bool k.exec)).set 3 (.slice ra k.kids.length rc)
      exact ⟨hS.below HB3.out (by omega), .inr ⟨k, _, d', HF.out, hd', rfl, LiesQ.kept (fun b hb => hS.block b (by omega)) (fun b hb => ⟨by omega, by rw [hS.size]; exact hb.2⟩) HQ.out⟩⟩
end Go.Proofs.YtpjjpmikhjlgnaaGreatDoor
