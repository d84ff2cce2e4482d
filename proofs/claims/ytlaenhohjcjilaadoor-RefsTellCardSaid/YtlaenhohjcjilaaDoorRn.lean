/-
  The contracts of the document's PacksFault and find, of stillroomref1's Bare and Fine, and of the law's faulted.
  Conditions: the packs lie in memory.
-/
import Derived.Test.YtlaenhohjcjilaaDoorRl
import Derived.Test.YtlaenhohjcjilaaDoorRefA
import Derived.Deep.DeepCutAuto
import Derived.Deep.CutBlock
namespace Go.Proofs.YtlaenhohjcjilaaDoor
open Go.RowKit Go.Maps
attribute [local go_sem ↓] Go.wp_at_zero Go.wp_at_succ

theorem row2 {w : World} {h : Nat} {x0 x1 : Value} {t : TypeId} (hr : w.heap[h]? = some (.cells #[x0, x1] t (0, 0))) : (w.cell? ⟨h, 0, none⟩ = some x0 ∧ w.cell? ⟨h, 1, none⟩ = some x1) ∧ w.frozen? ⟨h, 0, none⟩ = false ∧ w.frozen? ⟨h, 1, none⟩ = false := by
  refine ⟨⟨?_, ?_⟩, by simp [World.frozen?, hr], by simp [World.frozen?, hr]⟩
  all_goals (rw [cell_of_row w _ _ _ _ _ hr]; rfl)
/-- An error's number and place are those that Code tells. -/
theorem faulted_any (ev : Value) (c p : Int) (w : World) (H : ∀ w', Below w.heap.size w w' → Calls Tryd.prog 23 #[ev] w' fun e w'' => e = .returned (.tuple #[.int .i64 c, .int .i64 p]) ∧ Below w'.heap.size w' w'') :
    Calls Tryd.prog 10 #[ev, .agg #[.int .i64 c, .int .i64 p]] w fun e w' => e = .returned (.bool true) ∧ Below w.heap.size w w' := by
  have hA : Below w.heap.size w (w.alloc (.cells #[.int .i64 c, .int .i64 p] 33)) := (Below.refl _ _).alloc (Nat.le_refl _) _
  have HC : Hid _ := H _ hA
  have HX : Hid ((w.alloc (.cells #[.int .i64 c, .int .i64 p] 33)).heap[w.heap.size]? = some (.cells #[.int .i64 c, .int .i64 p] 33 (0, 0))) := heap_alloc_last _ _
  have HA : Hid _ := hA
  clear H hA
  go_enter Tryd.func10, Tryd.ntmps10
  go_wp2_with fail
  refine Calls.mono HC.out ?_
  clear HC
  rintro e w1 ⟨rfl, hb1⟩
  have HB1 : Hid (Below w.heap.size w w1) := HA.out.trans (hb1.mono HA.out.size)
  obtain ⟨⟨x0, x1⟩, _⟩ := row2 ((hb1.block w.heap.size (by simp)).trans HX.out)
  clear hb1
  have h1 : (c == c) = true := by simp
  have h2 : (p == p) = true := by simp
  cases h0 : (c == 0) with
  | true =>
    go_wp2_with fail
    go_ret
    exact ⟨rfl, HB1.out⟩
  | false =>
    go_wp2_with fail
    go_ret
    exact ⟨rfl, HB1.out⟩
theorem bare_any (c : Int) (w : World) : Calls Tryd.prog 26 #[.int .i64 c] w fun e w' => e = .returned (.agg #[.int .i64 c, .int .i64 (-1)]) ∧ Below w.heap.size w w' := by
  have HX : Hid ((w.alloc (.cells #[.int .i64 c, .int .i64 (-1)] 33)).heap[w.heap.size]? = some (.cells #[.int .i64 c, .int .i64 (-1)] 33 (0, 0))) := heap_alloc_last _ _
  go_enter Tryd.func26, Tryd.ntmps26
  go_wp2_with fail
  obtain ⟨⟨x0, x1⟩, _⟩ := row2 HX.out
  refine bodyPost_ret (v := .agg #[.int .i64 c, .int .i64 (-1)]) (by simp [results, Tryd.results26, go_sem, x0, x1]) rfl ?_
  exact ⟨rfl, (Below.refl _ _).alloc (Nat.le_refl _) _⟩
theorem fine_any (w : World) : Calls Tryd.prog 28 #[] w fun e w' => e = .returned (.agg #[.int .i64 0, .int .i64 (-1)]) ∧ Below w.heap.size w w' := by
  have HX : Hid ((w.alloc (.cells #[.int .i64 0, .int .i64 (-1)] 33)).heap[w.heap.size]? = some (.cells #[.int .i64 0, .int .i64 (-1)] 33 (0, 0))) := heap_alloc_last _ _
  go_enter Tryd.func28, Tryd.ntmps28
  go_wp2_with fail
  obtain ⟨⟨x0, x1⟩, _⟩ := row2 HX.out
  refine bodyPost_ret (v := .agg #[.int .i64 0, .int .i64 (-1)]) (by simp [results, Tryd.results28, go_sem, x0, x1]) rfl ?_
  exact ⟨rfl, (Below.refl _ _).alloc (Nat.le_refl _) _⟩
/-- A fault as the document tells it: its number, and its place. -/
def flC : Option (Option Nat × Nat) → Int
  | none => 0
  | some (_, e) => (e : Int) + 1
def flA : Option (Option Nat × Nat) → Int
  | some (some i, _) => (i : Int)
  | _ => -1
/-- What the program answers is told so. -/
theorem faulted_flt (a : Nat → Addr) (o : Option (Option Nat × Nat)) (ev : Value) (w : World) (T : Sents a w) (h : FltV a w o ev) (ho : ∀ x e, o = some (x, e) → e < 13) :
    Calls Tryd.prog 10 #[ev, .agg #[.int .i64 (flC o), .int .i64 (flA o)]] w fun e w' => e = .returned (.bool true) ∧ Below w.heap.size w w' := by
  refine faulted_any ev _ _ w fun w' hb => ?_
  have T' := T.below hb
  have h' := h.below hb
  rcases o with _ | ⟨_ | i, e⟩
  · obtain rfl : ev = .nilIface := h'
    refine (code_nil w').mono ?_
    rintro e w2 ⟨rfl, rfl⟩
    exact ⟨rfl, Below.refl _ _⟩
  · obtain rfl : ev = .iface _ (.pointer (some (a e))) := h'
    have he := ho none e rfl
    have := code_plain a (a e) e w' T' (Nat.le_of_lt he) (fun k hk => T'.ne e k he (by omega) (by omega)) (fun _ => rfl) (T'.row e he)
    rw [if_pos he] at this
    exact this
  · obtain ⟨pb, rfl, h0, h1⟩ := h'
    exact code_fault a pb 0 (i : Int) e w' T' (ho (some i) e rfl) h0 h1
theorem chk_lts {l : List Pk} : ∀ x e, chk l = some (x, e) → e < 13 := fun _ _ h => chk_lt h
theorem knw_lts {l : List Pk} {names : List ByteArray} : ∀ x e, knw l names = some (x, e) → e < 13 := fun x e h => by
  unfold knw at h
  cases hc : chk l with
  | some f => rw [hc] at h; obtain rfl := Option.some.inj h; exact chk_lt hc
  | none =>
    rw [hc] at h
    simp only at h
    split at h
    · cases h
    · simp only [Option.some.injEq, Prod.mk.injEq] at h; omega

/-! ### PacksFault -/
def nm : Option Nat → Int
  | none => 0
  | some i => (i : Int) + 1
/-- What is wrong with a pack, step by step. -/
def pe1 (A : List ByteArray) (p : Pk) : Option Nat := if nameB p.name = false then some 4 else if memB p.name A = true then some 6 else if 20 < p.refs.length then some 7 else none
def pe2 (A : List ByteArray) (p : Pk) : Option Nat := match pe1 A p with
  | some e => some e
  | none => if riseTo p.refs p.refs.length = false then some 9 else none
theorem pe3 (A : List ByteArray) (p : Pk) : pkErr A p = match pe2 A p with
    | some e => some e
    | none => if p.refs.any (lacks A p) = true then some 5 else none := by
  unfold pkErr pe2 pe1
  split
  · rfl
  · split
    · rfl
    · split
      · rfl
      · simp only
        split
        · rfl
        · rfl
theorem pe1_val {A : List ByteArray} {p : Pk} {e : Nat} (h : pe1 A p = some e) : pe2 A p = some e ∧ pkErr A p = some e := by
  have h2 : pe2 A p = some e := by unfold pe2; rw [h]
  exact ⟨h2, by rw [pe3, h2]⟩
theorem pe_start (A : List ByteArray) (p : Pk) : ∃ e2, nm (pe1 A p) = nm e2 ∧ ((e2 = none ∧ pe1 A p = none ∧ riseTo p.refs 1 = true) ∨ ∃ y, e2 = some y ∧ pe2 A p = some y) := by
  cases h : pe1 A p with
  | none => exact ⟨none, rfl, .inl ⟨rfl, rfl, riseTo_one _ _ (Nat.le_refl _)⟩⟩
  | some y => exact ⟨some y, rfl, .inr ⟨y, rfl, (pe1_val h).1⟩⟩
theorem pe_start2 (A : List ByteArray) (p : Pk) : ∃ e2, nm (pe2 A p) = nm e2 ∧ ((e2 = none ∧ pe2 A p = none ∧ (p.refs.take 0).any (lacks A p) = false) ∨ ∃ y, e2 = some y ∧ pkErr A p = some y) := by
  cases h : pe2 A p with
  | none => exact ⟨none, rfl, .inl ⟨rfl, rfl, rfl⟩⟩
  | some y => exact ⟨some y, rfl, .inr ⟨y, rfl, by rw [pe3, h]⟩⟩
theorem any_succ {l : List ByteArray} {k : Nat} {x : ByteArray} {g : ByteArray → Bool} (h : l[k]? = some x) (h2 : (l.take k).any g = false) : (l.take (k + 1)).any g = g x := by
  have hk := List.getElem?_eq_some_iff.1 h
  rw [List.take_succ_eq_append_getElem hk.1, hk.2, List.any_append, h2]
  simp
set_option maxRecDepth 100000 in
theorem find_any (v : Value) (l : List Pk) (s : ByteArray) (w : World) (hv : PksIn w v l) (hl : l.length ≤ 100) :
    Calls Tryd.prog 34 #[v, .string s] w fun e w' => (∃ z : Int, e = .returned (.int .i64 z) ∧ (decide (z < 0) = !(memB s (l.map Pk.name)))) ∧ w' = w := by
  obtain ⟨vs, el, ad, cap, rfl, hc⟩ := hv
  have HVL : Hid (vs.length = l.length) := show _ = _ by rw [← el, List.length_map]
  have hvn : vs.length ≤ 100 := by rw [HVL.out]; exact hl
  have HC : Hid (∀ i (x : PkV w), vs[i]? = some x → ∃ b off, ad = some ⟨b, off, none⟩ ∧ w.cell? ⟨b, off + i * 6, none⟩ = some (.string x.pk.name)) := fun i x hx => by
    obtain ⟨b, off, e, k0, _⟩ := hc i x hx
    exact ⟨b, off, e, k0⟩
  have HEL : Hid (l.map Pk.name = vs.map fun x => x.pk.name) := show _ = _ by rw [← el, List.map_map]; rfl
  clear hc el
  go_enter Tryd.func34, Tryd.ntmps34
  go_wp2_with fail
  go_loop [5] (fun i => ∃ k : Nat, k ≤ vs.length ∧ i = .int .i64 k ∧ Hid (memB s ((vs.take k).map fun x => x.pk.name) = false)) (fun i => vs.length - (intOf i).toNat)
  case atStart => exact ⟨0, Nat.zero_le _, rfl, rfl⟩
  case round =>
    obtain ⟨k, hk, rfl, HI⟩ := hrel
    by_cases hlt : k < vs.length
    · obtain ⟨x, hx⟩ : ∃ x, vs[k]? = some x := ⟨vs[k], List.getElem?_eq_getElem hlt⟩
      obtain ⟨b1, o1, rfl, c1⟩ := HC.out k x hx
      have hkk := List.getElem?_eq_some_iff.1 hx
      have HT : Hid (memB s ((vs.take (k + 1)).map fun x => x.pk.name) = (x.pk.name.toList == s.toList)) := show _ = _ by rw [List.take_succ_eq_append_getElem hkk.1, hkk.2, List.map_append]; simp only [List.map_cons, List.map_nil]; rw [memB_snoc, HI.out]; rfl
      have HX : Hid (x.pk.name ∈ vs.map fun x => x.pk.name) := List.mem_map_of_mem (f := fun x : PkV w => x.pk.name) (List.mem_of_getElem? hx)
      clear hkk hx
      cases hg : (x.pk.name.toList == s.toList) with
      | true =>
        have HA : Hid (memB s (l.map Pk.name) = true) := by show _ = _; rw [HEL.out]; exact memB_iff.2 (by rw [← ba_beq.1 hg]; exact HX.out)
        go_wp2_with fail
        go_ret
        exact ⟨⟨_, rfl, by rw [HA.out]; exact decide_eq_false (by omega)⟩, rfl⟩
      | false =>
        have HU : Hid (memB s ((vs.take (k + 1)).map fun x => x.pk.name) = false) := by show _ = _; rw [HT.out]; exact hg
        go_wp2_with fail
        go_round
        case rel => exact ⟨k + 1, by omega, by go_num, HU⟩
        case measure => simp [intOf]; omega
    · have e : k = vs.length := by omega
      have HE : Hid (memB s (l.map Pk.name) = false) := by have := HI.out; rw [e, List.take_length] at this; rw [HEL.out]; exact this
      clear e
      go_wp2_with fail
      go_ret
      exact ⟨⟨_, rfl, by rw [HE.out]; rfl⟩, rfl⟩

set_option maxRecDepth 100000 in
set_option maxHeartbeats 4000000 in
theorem packsFault_any (v : Value) (l : List Pk) (w : World) (hv : PksIn w v l) (hl : l.length ≤ 100) :
    Calls Tryd.prog 12 #[v] w fun e w' => e = .returned (.agg #[.int .i64 (flC (chk l)), .int .i64 (flA (chk l))]) ∧ Below w.heap.size w w' := by
  obtain ⟨vs, el, ad, cap, rfl, hc⟩ := hv
  have HVL : Hid (vs.length = l.length) := show _ = _ by rw [← el, List.length_map]
  have HL : Hid (∀ (i : Nat) (x : PkV w), vs[i]? = some x → l[i]? = some x.pk) := fun i x hx => by rw [← el, List.getElem?_map, hx]; rfl
  have HC : Hid (∀ i (x : PkV w), vs[i]? = some x → ∃ b off, ad = some ⟨b, off, none⟩ ∧
    w.cell? ⟨b, off + i * 6, none⟩ = some (.string x.pk.name) ∧ w.cell? ⟨b, off + i * 6 + 1, none⟩ = some (.slice x.ua x.pk.refs.length x.uc) ∧ w.cell? ⟨b, off + i * 6 + 2, none⟩ = some (.string x.kd) ∧ w.cell? ⟨b, off + i * 6 + 3, none⟩ = some (.string x.dt) ∧ w.cell? ⟨b, off + i * 6 + 4, none⟩ = some (.bool x.ex) ∧ w.cell? ⟨b, off + i * 6 + 5, none⟩ = some (.slice x.ka x.kn x.kc)) := hc
  rw [HVL.out]
  clear hc el
  have HX0 : Hid ((w.alloc (.cells #[.int .i64 0, .int .i64 0] 33)).heap[w.heap.size]? = some (.cells #[.int .i64 0, .int .i64 0] 33 (0, 0))) := heap_alloc_last _ _
  have HB0 : Hid (Below w.heap.size w (w.alloc (.cells #[.int .i64 0, .int .i64 0] 33))) := (Below.refl _ _).alloc (Nat.le_refl _) _
  obtain ⟨W0, hW0⟩ : ∃ W0, W0 = w.alloc (.cells #[.int .i64 0, .int .i64 0] 33) := ⟨_, rfl⟩
  rw [← hW0] at HX0 HB0
  have hws : w.heap.size < W0.heap.size := by rw [hW0]; simp
  have HW0 : Hid (W0 = w.alloc (.cells #[.int .i64 0, .int .i64 0] 33)) := hW0
  clear hW0
  by_cases h40 : 40 < l.length
  · have HE : Hid (chk l = some (none, 7)) := chk_full h40
    have h40' : (40 : Int) < (l.length : Int) := by omega
    clear h40
    go_enter Tryd.func12, Tryd.ntmps12
    go_wp2_with fail
    rw [← HW0.out]
    refine Calls.mono (bare_any 8 W0) ?_
    rintro e w1 ⟨rfl, hb1⟩
    have q1 := (hb1.block _ hws).trans HX0.out
    obtain ⟨⟨y0, y1⟩, f0, f1⟩ := row2 q1
    have HB1 : Hid (Below w.heap.size w w1) := HB0.out.trans (hb1.mono HB0.out.size)
    have HQ1 : Hid _ := q1
    clear hb1 q1
    go_wp2_with fail
    have r0 : (((w1.setCell ⟨w.heap.size, 0, none⟩ (.int .i64 8)).setCell ⟨w.heap.size, 1, none⟩ (.int .i64 (-1)))).heap[w.heap.size]? = some (.cells #[.int .i64 8, .int .i64 (-1)] 33 (0, 0)) := by
      simp [World.setCell, Array.getElem?_modify, HQ1.out]
    obtain ⟨⟨x0, x1⟩, _⟩ := row2 r0
    refine bodyPost_ret (v := .agg #[.int .i64 8, .int .i64 (-1)]) (by simp [results, Tryd.results12, go_sem, x0, x1]) rfl ?_
    exact ⟨by rw [HE.out]; rfl, (HB1.out.setCell (Nat.le_refl _) _).setCell (Nat.le_refl _) _⟩
  have h40' : (l.length : Int) ≤ 40 := by omega
  have hl40 : l.length ≤ 40 := by omega
  clear h40
  go_enter Tryd.func12, Tryd.ntmps12
  go_wp2_with fail
  rw [← HW0.out]
  go_loopw [3, 4] (fun o i wr => ∃ k : Nat, k ≤ l.length ∧ i = .int .i64 k ∧ (∃ va vc, o = .slice va k vc ∧ Hid (OwnS wr W0.heap.size (.slice va k vc) (aheadN l k))) ∧ Hid (Below W0.heap.size W0 wr ∧ PkOk l k)) (fun _ i _ => l.length - (intOf i).toNat)
  case atStart => exact ⟨0, Nat.zero_le _, rfl, ⟨none, 0, rfl, OwnS.nil _ _⟩, Below.refl _ _, fun j hj => absurd hj (Nat.not_lt_zero _)⟩
  case round =>
    obtain ⟨k, hk, rfl, ⟨va, vc, rfl, HO⟩, HI⟩ := hrel
    have HAL : Hid ((aheadN l k).length = k) := show _ = _ by unfold aheadN; rw [List.length_map, List.length_take]; omega
    have HBr : Hid (Below w.heap.size w wr) := HB0.out.trans (HI.out.1.mono HB0.out.size)
    by_cases hlt : k < l.length
    · obtain ⟨x, hx⟩ : ∃ x, vs[k]? = some x := ⟨vs[k]'(by rw [HVL.out]; exact hlt), List.getElem?_eq_getElem _⟩
      obtain ⟨b, off, rfl, k0, k1, k2, k3, k4, k5⟩ := HC.out k x hx
      have hbw := lt_of_cell k0
      have up : ∀ j, wr.cell? ⟨b, j, none⟩ = w.cell? ⟨b, j, none⟩ := fun j => HBr.out.cell (p := ⟨b, j, none⟩) hbw
      rw [← up] at k0 k1 k2 k3 k4 k5
      have HX := HL.out k x hx
      have HER : Hid (errAt l k = pkErr (aheadN l k) x.pk) := errAt_some HX
      have HAH : Hid (aheadN l (k + 1) = aheadN l k ++ [x.pk.name]) := aheadN_succ HX
      obtain ⟨A, HA⟩ : ∃ A, Hid (A = aheadN l k) := ⟨_, (rfl : aheadN l k = _)⟩
      rw [← HA.out] at HER HAH HO HAL
      obtain ⟨W1, hW1⟩ : ∃ W1, W1 = wr.alloc (.cells #[.string x.pk.name, .slice x.ua x.pk.refs.length x.uc, .string x.kd, .string x.dt, .bool x.ex, .slice x.ka x.kn x.kc] 49) := ⟨_, rfl⟩
      have hbr : Below wr.heap.size wr W1 := by rw [hW1]; exact (Below.refl _ _).alloc (Nat.le_refl _) _
      have q0 : W1.heap[wr.heap.size]? = some (.cells #[.string x.pk.name, .slice x.ua x.pk.refs.length x.uc, .string x.kd, .string x.dt, .bool x.ex, .slice x.ka x.kn x.kc] 49 (0, 0)) := by rw [hW1]; exact heap_alloc_last _ _
      have d0 : W1.cell? ⟨wr.heap.size, 0, none⟩ = some (.string x.pk.name) := by rw [cell_of_row _ _ _ _ _ _ q0]; rfl
      have d1 : W1.cell? ⟨wr.heap.size, 1, none⟩ = some (.slice x.ua x.pk.refs.length x.uc) := by rw [cell_of_row _ _ _ _ _ _ q0]; rfl
      have HB01 : Hid (Below W0.heap.size W0 W1) := HI.out.1.trans (hbr.mono HI.out.1.size)
      have HB1 : Hid (Below w.heap.size w W1) := HBr.out.trans (hbr.mono HBr.out.size)
      have HO1 : Hid (OwnS W1 W0.heap.size (.slice va k vc) A) := HO.out.below hbr
      have HTX : Hid (∀ i y, x.pk.refs[i]? = some y → ∃ b off, x.ua = some ⟨b, off, none⟩ ∧ W1.cell? ⟨b, off + i, none⟩ = some (.string y)) := by
        have h := x.tx.below HB1.out
        obtain ⟨ad', cap', e, h⟩ := h
        simp only [Value.slice.injEq] at e
        obtain ⟨rfl, _, rfl⟩ := e
        exact h
      have HNS : Hid (x.pk.name.size ≤ maxLen) := by have := x.sn; unfold maxLen; show _ ≤ _; omega
      have hrl := x.sl
      have HWA : Hid (W1 = wr.alloc (.cells #[.string x.pk.name, .slice x.ua x.pk.refs.length x.uc, .string x.kd, .string x.dt, .bool x.ex, .slice x.ka x.kn x.kc] 49)) := hW1
      have HIT : Hid (Calls Tryd.prog 20 #[.string x.pk.name, .slice va k vc] W1 fun e w' => e = .returned (.bool (memB x.pk.name A)) ∧ w' = W1) := inTexts_any x.pk.name (.slice va k vc) A W1 (by have := HO1.out.texts; exact this) (by have := HAL.out; omega)
      clear hx up HX hW1 hbr q0
      go_wp2_with fail
      rw [← HWA.out]
      refine Calls.mono (isName_any x.pk.name W1 HNS.out) ?_
      rintro e W1' ⟨rfl, hE⟩
      obtain rfl := hE
      clear k0 k1 k2 k3 k4 k5
      go_upto_if 28 with fail
      go_cut [6, 7] (fun cc _ wz => cc = .int .i64 (nm (pe1 A x.pk)) ∧ wz = W1')
      case first =>
        cases hn1 : nameB x.pk.name with
        | false =>
          have HE : Hid (pe1 A x.pk = some 4) := show _ = _ by unfold pe1; rw [if_pos hn1]
          go_wp2_with fail
          go_meet
          case rel => exact ⟨by rw [HE.out]; rfl, rfl⟩
        | true =>
          go_wp2_with fail
          refine Calls.mono HIT.out ?_
          rintro e w2 ⟨rfl, hw2⟩
          obtain rfl := hw2
          cases hm : memB x.pk.name A with
          | true =>
            have HE : Hid (pe1 A x.pk = some 6) := show _ = _ by unfold pe1; rw [if_neg (by rw [hn1]; simp), if_pos hm]
            go_wp2_with fail
            go_meet
            case rel => exact ⟨by rw [HE.out]; rfl, rfl⟩
          | false =>
            by_cases h20 : 20 < x.pk.refs.length
            · have HE : Hid (pe1 A x.pk = some 7) := show _ = _ by unfold pe1; rw [if_neg (by rw [hn1]; simp), if_neg (by rw [hm]; simp), if_pos h20]
              have h20' : (20 : Int) < (x.pk.refs.length : Int) := by omega
              clear h20
              go_wp2_with fail
              go_meet
              case rel => exact ⟨by rw [HE.out]; rfl, rfl⟩
            · have HE : Hid (pe1 A x.pk = none) := show _ = _ by unfold pe1; rw [if_neg (by rw [hn1]; simp), if_neg (by rw [hm]; simp), if_neg h20]
              have h20' : ¬ (20 : Int) < (x.pk.refs.length : Int) := by omega
              clear h20
              go_wp2_with fail
              go_meet
              case rel => exact ⟨by rw [HE.out]; rfl, rfl⟩
      case rest =>
      obtain ⟨rfl, hcw⟩ := hcut
      rw [hcw]
      clear hcw HIT
      go_upto_block 2 with fail
      go_cut [6] (fun cc wz => cc = .int .i64 (nm (pe2 A x.pk)) ∧ ∃ m, wz = W1'.drewN m)
      case first =>
        go_wp2_with fail
        go_loopw [6, 8] (fun ev iv wz => ∃ (q : Nat) (e2 : Option Nat) (m : Nat), 1 ≤ q ∧ (q ≤ x.pk.refs.length ∨ q = 1) ∧ iv = .int .i64 q ∧ ev = .int .i64 (nm e2) ∧ wz = W1'.drewN m ∧ Hid ((e2 = none ∧ pe1 A x.pk = none ∧ riseTo x.pk.refs q = true) ∨ (∃ y, e2 = some y ∧ pe2 A x.pk = some y))) (fun _ iv _ => x.pk.refs.length + 1 - (intOf iv).toNat)
        case atStart =>
          obtain ⟨e2, h1, h2⟩ := pe_start A x.pk
          exact ⟨1, e2, 0, Nat.le_refl _, .inr rfl, rfl, by rw [h1], rfl, h2⟩
        case round =>
          obtain ⟨q, e2, m, hq1, hq2, rfl, rfl, rfl, HQ⟩ := hrel
          cases e2 with
          | some y =>
            have HE : Hid (pe2 A x.pk = some y) := by
              rcases HQ.out with ⟨h, _⟩ | ⟨z, h, h2⟩
              · cases h
              · obtain rfl := Option.some.inj h
                exact h2
            have he0 : ((((y : Nat) : Int) + 1) == 0) = false := beq_eq_false_iff_ne.2 (by omega)
            simp only [nm]
            clear HQ
            by_cases hlq : q < x.pk.refs.length
            · have hlq' : (q : Int) < (x.pk.refs.length : Int) := by omega
              go_wp2_with fail
              go_meet
              case rel => exact ⟨by rw [HE.out]; rfl, _, rfl⟩
            · have hlq' : ¬ (q : Int) < (x.pk.refs.length : Int) := by omega
              go_wp2_with fail
              go_meet
              case rel => exact ⟨by rw [HE.out]; rfl, _, rfl⟩
          | none =>
            have HE : Hid (pe1 A x.pk = none ∧ riseTo x.pk.refs q = true) := by
              rcases HQ.out with ⟨_, h⟩ | ⟨z, h, _⟩
              · exact h
              · cases h
            simp only [nm]
            clear HQ
            by_cases hlq : q < x.pk.refs.length
            · obtain ⟨j, rfl⟩ : ∃ j, q = j + 1 := ⟨q - 1, by omega⟩
              obtain ⟨u, hu⟩ : ∃ u, x.pk.refs[j]? = some u := ⟨x.pk.refs[j], List.getElem?_eq_getElem (by omega)⟩
              obtain ⟨y, hy⟩ : ∃ y, x.pk.refs[j + 1]? = some y := ⟨x.pk.refs[j + 1], List.getElem?_eq_getElem hlq⟩
              obtain ⟨b1, o1, eu, c1⟩ := HTX.out j u hu
              obtain ⟨b2, o2, e2, c2⟩ := HTX.out (j + 1) y hy
              rw [eu] at e2 d1
              simp only [Option.some.injEq, Addr.mk.injEq, and_true] at e2
              obtain ⟨rfl, rfl⟩ := e2
              have HS : Hid _ := riseTo_succ hu hy
              clear hu hy hq2 eu
              have hj1 : (j : Int) + 1 < (x.pk.refs.length : Int) := by omega
              have hj0 : (0 : Int) ≤ (j : Int) := by omega
              have hjl : (j : Int) < (x.pk.refs.length : Int) := by omega
              cases hb : bl u y with
              | true =>
                have h1 : Op.bytesLess u.toList y.toList = true := hb
                have h2 : Op.bytesLess y.toList u.toList = false := bl_asymm hb
                have h3 : (y.toList == u.toList) = false := ba_bne.2 fun e => bl_ne hb e.symm
                have h4 : (u.toList == y.toList) = false := ba_bne.2 (bl_ne hb)
                have HT : Hid (riseTo x.pk.refs (j + 2) = true) := show _ = _ by rw [HS.out, HE.out.2, hb]; rfl
                clear hb
                go_wp2_with fail
                go_quiet (fail)
                go_wp2_with fail
                go_roundw
                case rel => exact ⟨j + 2, none, _, by omega, .inl (by omega), by go_num, rfl, rfl, .inl ⟨rfl, HE.out.1, HT.out⟩⟩
                case measure => simp [intOf]; omega
              | false =>
                have HF : Hid (pe2 A x.pk = some 9) := show _ = _ by
                  unfold pe2
                  rw [HE.out.1]
                  simp only
                  rw [if_pos (riseTo_mono (k := j + 2) (by omega) (by rw [HS.out, hb, Bool.and_false]))]
                have h1 : Op.bytesLess u.toList y.toList = false := hb
                by_cases e : u = y
                · subst e
                  have h4 : (u.toList == u.toList) = true := by simp
                  clear hb
                  go_wp2_with fail
                  go_quiet (fail)
                  go_wp2_with fail
                  go_roundw
                  case rel => exact ⟨j + 2, some 9, _, by omega, .inl (by omega), by go_num, rfl, rfl, .inr ⟨9, rfl, HF.out⟩⟩
                  case measure => simp [intOf]; omega
                · have h2 : Op.bytesLess y.toList u.toList = true := bl_of_not hb (fun h => e h.symm)
                  have h3 : (y.toList == u.toList) = false := ba_bne.2 fun h => e h.symm
                  have h4 : (u.toList == y.toList) = false := ba_bne.2 e
                  clear hb
                  go_wp2_with fail
                  go_quiet (fail)
                  go_wp2_with fail
                  go_roundw
                  case rel => exact ⟨j + 2, some 9, _, by omega, .inl (by omega), by go_num, rfl, rfl, .inr ⟨9, rfl, HF.out⟩⟩
                  case measure => simp [intOf]; omega
            · have hlq' : ¬ (q : Int) < (x.pk.refs.length : Int) := by omega
              have HF : Hid (pe2 A x.pk = none) := show _ = _ by
                unfold pe2
                rw [HE.out.1]
                simp only
                have h1 : riseTo x.pk.refs x.pk.refs.length = true := by
                  rcases hq2 with h | h
                  · have e : x.pk.refs.length = q := by omega
                    rw [e]; exact HE.out.2
                  · exact riseTo_one _ _ (by omega)
                rw [if_neg (by rw [h1]; simp)]
              clear hq2
              go_wp2_with fail
              go_meet
              case rel => exact ⟨by rw [HF.out]; rfl, _, rfl⟩
      case rest =>
      obtain ⟨rfl, m0, hcw⟩ := hcut
      obtain ⟨W2, HW2⟩ : ∃ W2, Hid (W2 = W1'.drewN m0) := ⟨_, (rfl : W1'.drewN m0 = _)⟩
      have HB12 : Hid (Below W1'.heap.size W1' W2) := by rw [HW2.out]; exact below_drewN (Below.refl _ _) _
      rw [hcw, ← HW2.out]
      clear hcw
      have D0 : Hid (∀ W, Below W1'.heap.size W1' W → W.cell? ⟨wr.heap.size, 0, none⟩ = some (.string x.pk.name) ∧ W.cell? ⟨wr.heap.size, 1, none⟩ = some (.slice x.ua x.pk.refs.length x.uc)) := fun W hb => ⟨(hb.cell (p := ⟨wr.heap.size, 0, none⟩) (lt_of_cell d0)).trans d0, (hb.cell (p := ⟨wr.heap.size, 1, none⟩) (lt_of_cell d1)).trans d1⟩
      have HTW : Hid (∀ W, Below W1'.heap.size W1' W → ∀ i y, x.pk.refs[i]? = some y → ∃ b off, x.ua = some ⟨b, off, none⟩ ∧ W.cell? ⟨b, off + i, none⟩ = some (.string y)) := fun W hb i y hy => by
        obtain ⟨b, off, e, h⟩ := HTX.out i y hy
        exact ⟨b, off, e, (hb.cell (p := ⟨b, off + i, none⟩) (lt_of_cell h)).trans h⟩
      clear d0 d1
      go_upto_block 4 with fail
      go_cut [6] (fun cc wz => cc = .int .i64 (nm (pkErr A x.pk)) ∧ Hid (Below W1'.heap.size W1' wz))
      case first =>
        go_wp2_with fail
        go_loopw [6, 9] (fun ev iv wz => ∃ (q : Nat) (e2 : Option Nat), q ≤ x.pk.refs.length ∧ iv = .int .i64 q ∧ ev = .int .i64 (nm e2) ∧ Hid (Below W1'.heap.size W1' wz) ∧ Hid ((e2 = none ∧ pe2 A x.pk = none ∧ (x.pk.refs.take q).any (lacks A x.pk) = false) ∨ (∃ y, e2 = some y ∧ pkErr A x.pk = some y))) (fun _ iv _ => x.pk.refs.length - (intOf iv).toNat)
        case atStart =>
          obtain ⟨e2, h1, h2⟩ := pe_start2 A x.pk
          exact ⟨0, e2, Nat.zero_le _, rfl, by rw [h1], HB12, h2⟩
        case round =>
          obtain ⟨q, e2, hq, rfl, rfl, HZ, HQ⟩ := hrel
          rename World => wz
          obtain ⟨z0, z1⟩ := D0.out wz HZ.out
          cases e2 with
          | some y =>
            have HE : Hid (pkErr A x.pk = some y) := by
              rcases HQ.out with ⟨h, _⟩ | ⟨z, h, h2⟩
              · cases h
              · obtain rfl := Option.some.inj h
                exact h2
            have he0 : ((((y : Nat) : Int) + 1) == 0) = false := beq_eq_false_iff_ne.2 (by omega)
            simp only [nm]
            clear HQ
            by_cases hlq : q < x.pk.refs.length
            · have hlq' : (q : Int) < (x.pk.refs.length : Int) := by omega
              go_wp2_with fail
              go_meet
              case rel => exact ⟨by rw [HE.out]; rfl, HZ⟩
            · have hlq' : ¬ (q : Int) < (x.pk.refs.length : Int) := by omega
              go_wp2_with fail
              go_meet
              case rel => exact ⟨by rw [HE.out]; rfl, HZ⟩
          | none =>
            have HE : Hid (pe2 A x.pk = none ∧ (x.pk.refs.take q).any (lacks A x.pk) = false) := by
              rcases HQ.out with ⟨_, h⟩ | ⟨z, h, _⟩
              · exact h
              · cases h
            simp only [nm]
            clear HQ
            by_cases hlq : q < x.pk.refs.length
            · obtain ⟨r, hr⟩ : ∃ r, x.pk.refs[q]? = some r := ⟨x.pk.refs[q], List.getElem?_eq_getElem hlq⟩
              have HZd : Hid (Below W1'.heap.size W1' wz.drew) := HZ.out.drew
              obtain ⟨b1, o1, eu, c1⟩ := HTW.out wz.drew HZd.out q r hr
              obtain ⟨y0, y1⟩ := D0.out wz.drew HZd.out
              rw [eu] at z1 y1
              have HSX : Hid (wz.drew.cell? ⟨wr.heap.size, 0, none⟩ = some (.string x.pk.name) ∧ wz.drew.cell? ⟨wr.heap.size, 1, none⟩ = some (.slice (some ⟨b1, o1, none⟩) x.pk.refs.length x.uc) ∧ wz.drew.cell? ⟨b1, o1 + q, none⟩ = some (.string r)) := ⟨y0, y1, c1⟩
              have HAS : Hid ((x.pk.refs.take (q + 1)).any (lacks A x.pk) = lacks A x.pk r) := any_succ hr HE.out.2
              have HRM : Hid (r ∈ x.pk.refs) := List.mem_of_getElem? hr
              have HIT : Hid (Calls Tryd.prog 20 #[.string r, .slice va k vc] wz.drew fun e w' => e = .returned (.bool (memB r A)) ∧ w' = wz.drew) := inTexts_any r (.slice va k vc) A wz.drew (HO1.out.texts.below HZd.out) (by have := HAL.out; omega)
              clear hr c1 y0 y1
              have hq0 : (0 : Int) ≤ (q : Int) := by omega
              have hql : (q : Int) < (x.pk.refs.length : Int) := by omega
              cases hrn : (r.toList == x.pk.name.toList) with
              | true =>
                have HLK : Hid (lacks A x.pk r = false) := show _ = _ by unfold lacks; rw [hrn]; rfl
                rw [HLK.out] at HAS
                go_wp2_with fail
                refine wp_region_held_drew (S := fun w' => w'.cell? ⟨wr.heap.size, 0, none⟩ = some (.string x.pk.name) ∧ w'.cell? ⟨wr.heap.size, 1, none⟩ = some (.slice (some ⟨b1, o1, none⟩) x.pk.refs.length x.uc) ∧ w'.cell? ⟨b1, o1 + q, none⟩ = some (.string r)) (by kernel_rfl) (HSX.out) (fun hHeld => ?_)
                refine wpAnyH_take (i := 0) (v := (.pointer (some ⟨wr.heap.size, 1, none⟩))) rfl (by kernel_rfl) (by kernel_rfl) (by kernel_rfl) (fun _ _ _ h => h) (Or.inl ⟨by rfl, ?_⟩) hHeld ?_
                · intro w hSw; (try dsimp only at hSw); simp only [List.getElem_toArray, List.getElem_cons_zero]; go_simp
                simp only [List.getElem_toArray, List.getElem_cons_zero, Act.put, List.setIfInBounds_toArray, List.set_cons_zero, List.set_cons_succ]
                refine wpAnyH_take (i := 1) (v := (.slice (some ⟨b1, o1, none⟩) x.pk.refs.length x.uc)) rfl (by kernel_rfl) (by kernel_rfl) (by kernel_rfl) (fun _ _ _ h => h) (Or.inl ⟨by rfl, ?_⟩) hHeld ?_
                · intro w hSw; (try dsimp only at hSw); simp only [List.getElem_toArray, List.getElem_cons_zero, List.getElem_cons_succ]; go_simp
                simp only [List.getElem_toArray, List.getElem_cons_zero, List.getElem_cons_succ, Act.put, List.setIfInBounds_toArray, List.set_cons_zero, List.set_cons_succ]
                refine wpAnyH_take (i := 2) (v := (.int .i64 (q : Int))) rfl (by kernel_rfl) (by kernel_rfl) (by kernel_rfl) (fun _ _ _ h => h) (Or.inl ⟨by rfl, ?_⟩) hHeld ?_
                · intro w hSw; (try dsimp only at hSw); simp only [List.getElem_toArray, List.getElem_cons_zero, List.getElem_cons_succ]; go_simp
                simp only [List.getElem_toArray, List.getElem_cons_zero, List.getElem_cons_succ, Act.put, List.setIfInBounds_toArray, List.set_cons_zero, List.set_cons_succ]
                refine wpAnyH_take (i := 3) (v := (.pointer (some ⟨b1, o1 + q, none⟩))) rfl (by kernel_rfl) (by kernel_rfl) (by kernel_rfl) (fun _ _ _ h => h) (Or.inl ⟨by rfl, ?_⟩) hHeld ?_
                · intro w hSw; (try dsimp only at hSw); simp only [List.getElem_toArray, List.getElem_cons_zero, List.getElem_cons_succ]; go_simp
                simp only [List.getElem_toArray, List.getElem_cons_zero, List.getElem_cons_succ, Act.put, List.setIfInBounds_toArray, List.set_cons_zero, List.set_cons_succ]
                refine wpAnyH_take (i := 4) (v := (.string r)) rfl (by kernel_rfl) (by kernel_rfl) (by kernel_rfl) (fun _ _ _ h => h) (Or.inl ⟨by rfl, ?_⟩) hHeld ?_
                · intro w hSw; (try dsimp only at hSw); simp only [List.getElem_toArray, List.getElem_cons_zero, List.getElem_cons_succ]; go_simp
                simp only [List.getElem_toArray, List.getElem_cons_zero, List.getElem_cons_succ, Act.put, List.setIfInBounds_toArray, List.set_cons_zero, List.set_cons_succ]
                refine wpAnyH_take (i := 5) (v := (.pointer (some ⟨wr.heap.size, 0, none⟩))) rfl (by kernel_rfl) (by kernel_rfl) (by kernel_rfl) (fun _ _ _ h => h) (Or.inl ⟨by rfl, ?_⟩) hHeld ?_
                · intro w hSw; (try dsimp only at hSw); simp only [List.getElem_toArray, List.getElem_cons_zero, List.getElem_cons_succ]; go_simp
                simp only [List.getElem_toArray, List.getElem_cons_zero, List.getElem_cons_succ, Act.put, List.setIfInBounds_toArray, List.set_cons_zero, List.set_cons_succ]
                refine wpAnyH_take (i := 6) (v := (.string x.pk.name)) rfl (by kernel_rfl) (by kernel_rfl) (by kernel_rfl) (fun _ _ _ h => h) (Or.inl ⟨by rfl, ?_⟩) hHeld ?_
                · intro w hSw; (try dsimp only at hSw); simp only [List.getElem_toArray, List.getElem_cons_zero, List.getElem_cons_succ]; go_simp
                simp only [List.getElem_toArray, List.getElem_cons_zero, List.getElem_cons_succ, Act.put, List.setIfInBounds_toArray, List.set_cons_zero, List.set_cons_succ]
                refine wpAnyH_take (i := 7) (v := (.bool false)) rfl (by kernel_rfl) (by kernel_rfl) (by kernel_rfl) (fun _ _ _ h => h) (Or.inl ⟨by rfl, ?_⟩) hHeld ?_
                · intro w hSw; (try dsimp only at hSw); simp only [List.getElem_toArray, List.getElem_cons_zero, List.getElem_cons_succ]; go_simp
                simp only [List.getElem_toArray, List.getElem_cons_zero, List.getElem_cons_succ, Act.put, List.setIfInBounds_toArray, List.set_cons_zero, List.set_cons_succ]
                refine wpAnyH_take (i := 8) (v := (.bool false)) rfl (by kernel_rfl) (by kernel_rfl) (by kernel_rfl) (fun _ _ _ h => h) (Or.inl ⟨by rfl, ?_⟩) hHeld ?_
                · intro w hSw; (try dsimp only at hSw); simp only [List.getElem_toArray, List.getElem_cons_zero, List.getElem_cons_succ]; go_simp
                simp only [List.getElem_toArray, List.getElem_cons_zero, List.getElem_cons_succ, Act.put, List.setIfInBounds_toArray, List.set_cons_zero, List.set_cons_succ]
                refine wpAnyH_take (i := 9) (v := undef) rfl (by kernel_rfl) (by kernel_rfl) (by kernel_rfl) (fun _ _ _ h => h) (Or.inr ⟨by rfl, rfl⟩) hHeld ?_
                simp only [List.getElem_toArray, List.getElem_cons_zero, List.getElem_cons_succ, Act.put, List.setIfInBounds_toArray, List.set_cons_zero, List.set_cons_succ]
                refine wpAnyH_take (i := 10) (v := undef) rfl (by kernel_rfl) (by kernel_rfl) (by kernel_rfl) (fun _ _ _ h => h) (Or.inr ⟨by rfl, rfl⟩) hHeld ?_
                simp only [List.getElem_toArray, List.getElem_cons_zero, List.getElem_cons_succ, Act.put, List.setIfInBounds_toArray, List.set_cons_zero, List.set_cons_succ]
                refine wpAnyH_take (i := 11) (v := undef) rfl (by kernel_rfl) (by kernel_rfl) (by kernel_rfl) (fun _ _ _ h => h) (Or.inr ⟨by rfl, rfl⟩) hHeld ?_
                simp only [List.getElem_toArray, List.getElem_cons_zero, List.getElem_cons_succ, Act.put, List.setIfInBounds_toArray, List.set_cons_zero, List.set_cons_succ]
                refine wpAnyH_take (i := 12) (v := undef) rfl (by kernel_rfl) (by kernel_rfl) (by kernel_rfl) (fun _ _ _ h => h) (Or.inr ⟨by rfl, rfl⟩) hHeld ?_
                simp only [List.getElem_toArray, List.getElem_cons_zero, List.getElem_cons_succ, Act.put, List.setIfInBounds_toArray, List.set_cons_zero, List.set_cons_succ]
                refine wpAnyH_take (i := 13) (v := undef) rfl (by kernel_rfl) (by kernel_rfl) (by kernel_rfl) (fun _ _ _ h => h) (Or.inr ⟨by rfl, rfl⟩) hHeld ?_
                simp only [List.getElem_toArray, List.getElem_cons_zero, List.getElem_cons_succ, Act.put, List.setIfInBounds_toArray, List.set_cons_zero, List.set_cons_succ]
                refine wpAnyH_take (i := 14) (v := undef) rfl (by kernel_rfl) (by kernel_rfl) (by kernel_rfl) (fun _ _ _ h => h) (Or.inr ⟨by rfl, rfl⟩) hHeld ?_
                simp only [List.getElem_toArray, List.getElem_cons_zero, List.getElem_cons_succ, Act.put, List.setIfInBounds_toArray, List.set_cons_zero, List.set_cons_succ]
                refine wpAnyH_take (i := 15) (v := undef) rfl (by kernel_rfl) (by kernel_rfl) (by kernel_rfl) (fun _ _ _ h => h) (Or.inr ⟨by rfl, rfl⟩) hHeld ?_
                simp only [List.getElem_toArray, List.getElem_cons_zero, List.getElem_cons_succ, Act.put, List.setIfInBounds_toArray, List.set_cons_zero, List.set_cons_succ]
                refine wpAnyH_take (i := 16) (v := undef) rfl (by kernel_rfl) (by kernel_rfl) (by kernel_rfl) (fun _ _ _ h => h) (Or.inr ⟨by rfl, rfl⟩) hHeld ?_
                simp only [List.getElem_toArray, List.getElem_cons_zero, List.getElem_cons_succ, Act.put, List.setIfInBounds_toArray, List.set_cons_zero, List.set_cons_succ]
                refine wpAnyH_take (i := 17) (v := (.bool false)) rfl (by kernel_rfl) (by kernel_rfl) (by kernel_rfl) (fun _ _ _ h => h) (Or.inl ⟨by rfl, ?_⟩) hHeld ?_
                · intro w hSw; (try dsimp only at hSw); simp only [List.getElem_toArray, List.getElem_cons_zero, List.getElem_cons_succ]; go_simp
                simp only [List.getElem_toArray, List.getElem_cons_zero, List.getElem_cons_succ, Act.put, List.setIfInBounds_toArray, List.set_cons_zero, List.set_cons_succ]
                refine wpAnyH_done (by kernel_rfl) ?_ _
                go_wp2_with fail
                go_roundw
                case rel => exact ⟨q + 1, none, by omega, by go_num, rfl, HZd, .inl ⟨rfl, HE.out.1, HAS.out⟩⟩
                case measure => simp [intOf]; omega
              | false =>
                have HLK : Hid (lacks A x.pk r = !(memB r A)) := show _ = _ by unfold lacks; rw [hrn]; rfl
                go_wp2_with fail
                refine wp_region_held_drew (S := fun w' => w'.cell? ⟨wr.heap.size, 0, none⟩ = some (.string x.pk.name) ∧ w'.cell? ⟨wr.heap.size, 1, none⟩ = some (.slice (some ⟨b1, o1, none⟩) x.pk.refs.length x.uc) ∧ w'.cell? ⟨b1, o1 + q, none⟩ = some (.string r)) (by kernel_rfl) (HSX.out) (fun hHeld => ?_)
                refine wpAnyH_take (i := 0) (v := (.pointer (some ⟨wr.heap.size, 1, none⟩))) rfl (by kernel_rfl) (by kernel_rfl) (by kernel_rfl) (fun _ _ _ h => h) (Or.inl ⟨by rfl, ?_⟩) hHeld ?_
                · intro w hSw; (try dsimp only at hSw); simp only [List.getElem_toArray, List.getElem_cons_zero]; go_simp
                simp only [List.getElem_toArray, List.getElem_cons_zero, Act.put, List.setIfInBounds_toArray, List.set_cons_zero, List.set_cons_succ]
                refine wpAnyH_take (i := 1) (v := (.slice (some ⟨b1, o1, none⟩) x.pk.refs.length x.uc)) rfl (by kernel_rfl) (by kernel_rfl) (by kernel_rfl) (fun _ _ _ h => h) (Or.inl ⟨by rfl, ?_⟩) hHeld ?_
                · intro w hSw; (try dsimp only at hSw); simp only [List.getElem_toArray, List.getElem_cons_zero, List.getElem_cons_succ]; go_simp
                simp only [List.getElem_toArray, List.getElem_cons_zero, List.getElem_cons_succ, Act.put, List.setIfInBounds_toArray, List.set_cons_zero, List.set_cons_succ]
                refine wpAnyH_take (i := 2) (v := (.int .i64 (q : Int))) rfl (by kernel_rfl) (by kernel_rfl) (by kernel_rfl) (fun _ _ _ h => h) (Or.inl ⟨by rfl, ?_⟩) hHeld ?_
                · intro w hSw; (try dsimp only at hSw); simp only [List.getElem_toArray, List.getElem_cons_zero, List.getElem_cons_succ]; go_simp
                simp only [List.getElem_toArray, List.getElem_cons_zero, List.getElem_cons_succ, Act.put, List.setIfInBounds_toArray, List.set_cons_zero, List.set_cons_succ]
                refine wpAnyH_take (i := 3) (v := (.pointer (some ⟨b1, o1 + q, none⟩))) rfl (by kernel_rfl) (by kernel_rfl) (by kernel_rfl) (fun _ _ _ h => h) (Or.inl ⟨by rfl, ?_⟩) hHeld ?_
                · intro w hSw; (try dsimp only at hSw); simp only [List.getElem_toArray, List.getElem_cons_zero, List.getElem_cons_succ]; go_simp
                simp only [List.getElem_toArray, List.getElem_cons_zero, List.getElem_cons_succ, Act.put, List.setIfInBounds_toArray, List.set_cons_zero, List.set_cons_succ]
                refine wpAnyH_take (i := 4) (v := (.string r)) rfl (by kernel_rfl) (by kernel_rfl) (by kernel_rfl) (fun _ _ _ h => h) (Or.inl ⟨by rfl, ?_⟩) hHeld ?_
                · intro w hSw; (try dsimp only at hSw); simp only [List.getElem_toArray, List.getElem_cons_zero, List.getElem_cons_succ]; go_simp
                simp only [List.getElem_toArray, List.getElem_cons_zero, List.getElem_cons_succ, Act.put, List.setIfInBounds_toArray, List.set_cons_zero, List.set_cons_succ]
                refine wpAnyH_take (i := 5) (v := (.pointer (some ⟨wr.heap.size, 0, none⟩))) rfl (by kernel_rfl) (by kernel_rfl) (by kernel_rfl) (fun _ _ _ h => h) (Or.inl ⟨by rfl, ?_⟩) hHeld ?_
                · intro w hSw; (try dsimp only at hSw); simp only [List.getElem_toArray, List.getElem_cons_zero, List.getElem_cons_succ]; go_simp
                simp only [List.getElem_toArray, List.getElem_cons_zero, List.getElem_cons_succ, Act.put, List.setIfInBounds_toArray, List.set_cons_zero, List.set_cons_succ]
                refine wpAnyH_take (i := 6) (v := (.string x.pk.name)) rfl (by kernel_rfl) (by kernel_rfl) (by kernel_rfl) (fun _ _ _ h => h) (Or.inl ⟨by rfl, ?_⟩) hHeld ?_
                · intro w hSw; (try dsimp only at hSw); simp only [List.getElem_toArray, List.getElem_cons_zero, List.getElem_cons_succ]; go_simp
                simp only [List.getElem_toArray, List.getElem_cons_zero, List.getElem_cons_succ, Act.put, List.setIfInBounds_toArray, List.set_cons_zero, List.set_cons_succ]
                refine wpAnyH_take (i := 7) (v := (.bool true)) rfl (by kernel_rfl) (by kernel_rfl) (by kernel_rfl) (fun _ _ _ h => h) (Or.inl ⟨by rfl, ?_⟩) hHeld ?_
                · intro w hSw; (try dsimp only at hSw); simp only [List.getElem_toArray, List.getElem_cons_zero, List.getElem_cons_succ]; go_simp
                simp only [List.getElem_toArray, List.getElem_cons_zero, List.getElem_cons_succ, Act.put, List.setIfInBounds_toArray, List.set_cons_zero, List.set_cons_succ]
                refine wpAnyH_take (i := 8) (v := (.bool true)) rfl (by kernel_rfl) (by kernel_rfl) (by kernel_rfl) (fun _ _ _ h => h) (Or.inl ⟨by rfl, ?_⟩) hHeld ?_
                · intro w hSw; (try dsimp only at hSw); simp only [List.getElem_toArray, List.getElem_cons_zero, List.getElem_cons_succ]; go_simp
                simp only [List.getElem_toArray, List.getElem_cons_zero, List.getElem_cons_succ, Act.put, List.setIfInBounds_toArray, List.set_cons_zero, List.set_cons_succ]
                refine wpAnyH_take (i := 9) (v := (.pointer (some ⟨wr.heap.size, 1, none⟩))) rfl (by kernel_rfl) (by kernel_rfl) (by kernel_rfl) (fun _ _ _ h => h) (Or.inl ⟨by rfl, ?_⟩) hHeld ?_
                · intro w hSw; (try dsimp only at hSw); simp only [List.getElem_toArray, List.getElem_cons_zero, List.getElem_cons_succ]; go_simp
                simp only [List.getElem_toArray, List.getElem_cons_zero, List.getElem_cons_succ, Act.put, List.setIfInBounds_toArray, List.set_cons_zero, List.set_cons_succ]
                refine wpAnyH_take (i := 10) (v := (.slice (some ⟨b1, o1, none⟩) x.pk.refs.length x.uc)) rfl (by kernel_rfl) (by kernel_rfl) (by kernel_rfl) (fun _ _ _ h => h) (Or.inl ⟨by rfl, ?_⟩) hHeld ?_
                · intro w hSw; (try dsimp only at hSw); simp only [List.getElem_toArray, List.getElem_cons_zero, List.getElem_cons_succ]; go_simp
                simp only [List.getElem_toArray, List.getElem_cons_zero, List.getElem_cons_succ, Act.put, List.setIfInBounds_toArray, List.set_cons_zero, List.set_cons_succ]
                refine wpAnyH_take (i := 11) (v := (.int .i64 (q : Int))) rfl (by kernel_rfl) (by kernel_rfl) (by kernel_rfl) (fun _ _ _ h => h) (Or.inl ⟨by rfl, ?_⟩) hHeld ?_
                · intro w hSw; (try dsimp only at hSw); simp only [List.getElem_toArray, List.getElem_cons_zero, List.getElem_cons_succ]; go_simp
                simp only [List.getElem_toArray, List.getElem_cons_zero, List.getElem_cons_succ, Act.put, List.setIfInBounds_toArray, List.set_cons_zero, List.set_cons_succ]
                refine wpAnyH_take (i := 12) (v := (.pointer (some ⟨b1, o1 + q, none⟩))) rfl (by kernel_rfl) (by kernel_rfl) (by kernel_rfl) (fun _ _ _ h => h) (Or.inl ⟨by rfl, ?_⟩) hHeld ?_
                · intro w hSw; (try dsimp only at hSw); simp only [List.getElem_toArray, List.getElem_cons_zero, List.getElem_cons_succ]; go_simp
                simp only [List.getElem_toArray, List.getElem_cons_zero, List.getElem_cons_succ, Act.put, List.setIfInBounds_toArray, List.set_cons_zero, List.set_cons_succ]
                refine wpAnyH_take (i := 13) (v := (.string r)) rfl (by kernel_rfl) (by kernel_rfl) (by kernel_rfl) (fun _ _ _ h => h) (Or.inl ⟨by rfl, ?_⟩) hHeld ?_
                · intro w hSw; (try dsimp only at hSw); simp only [List.getElem_toArray, List.getElem_cons_zero, List.getElem_cons_succ]; go_simp
                simp only [List.getElem_toArray, List.getElem_cons_zero, List.getElem_cons_succ, Act.put, List.setIfInBounds_toArray, List.set_cons_zero, List.set_cons_succ]
                refine wpAnyH_take (i := 14) (v := (.slice va k vc)) rfl (by kernel_rfl) (by kernel_rfl) (by kernel_rfl) (fun _ _ _ h => h) (Or.inl ⟨by rfl, ?_⟩) hHeld ?_
                · intro w hSw; (try dsimp only at hSw); simp only [List.getElem_toArray, List.getElem_cons_zero, List.getElem_cons_succ]; go_simp
                simp only [List.getElem_toArray, List.getElem_cons_zero, List.getElem_cons_succ, Act.put, List.setIfInBounds_toArray, List.set_cons_zero, List.set_cons_succ]
                refine wpAnyH_ready (rs := [15]) (by kernel_rfl) (by simp) ?_
                refine AllReadyH.cons rfl (fun K' hK => ?_) AllReadyH.nil
                simp only [List.getElem_toArray, List.getElem_cons_zero, List.getElem_cons_succ]
                go_simp
                refine Calls.mono (HIT.out) ?_
                rintro e wx ⟨rfl, rfl⟩
                go_wp2_with fail
                refine hK.out _ _ (HSX.out) (fun hHeld' => ?_)
                clear hK K' hHeld
                have hHeld := hHeld'
                clear hHeld'
                refine wpAnyH_take (i := 16) (v := (.bool !(memB r A))) rfl (by kernel_rfl) (by kernel_rfl) (by kernel_rfl) (fun _ _ _ h => h) (Or.inl ⟨by rfl, ?_⟩) hHeld ?_
                · intro w hSw; (try dsimp only at hSw); simp only [List.getElem_toArray, List.getElem_cons_zero, List.getElem_cons_succ]; go_simp
                simp only [List.getElem_toArray, List.getElem_cons_zero, List.getElem_cons_succ, Act.put, List.setIfInBounds_toArray, List.set_cons_zero, List.set_cons_succ]
                refine wpAnyH_take (i := 17) (v := (.bool !(memB r A))) rfl (by kernel_rfl) (by kernel_rfl) (by kernel_rfl) (fun _ _ _ h => h) (Or.inl ⟨by rfl, ?_⟩) hHeld ?_
                · intro w hSw; (try dsimp only at hSw); simp only [List.getElem_toArray, List.getElem_cons_zero, List.getElem_cons_succ]; go_simp
                simp only [List.getElem_toArray, List.getElem_cons_zero, List.getElem_cons_succ, Act.put, List.setIfInBounds_toArray, List.set_cons_zero, List.set_cons_succ]
                refine wpAnyH_done (by kernel_rfl) ?_ _
                cases hm : memB r A with
                | true =>
                  rw [HLK.out, hm] at HAS
                  go_wp2_with fail
                  go_roundw
                  case rel => exact ⟨q + 1, none, by omega, by go_num, rfl, HZd, .inl ⟨rfl, HE.out.1, HAS.out⟩⟩
                  case measure => simp [intOf]; omega
                | false =>
                  have HER2 : Hid (pkErr A x.pk = some 5) := show _ = _ by
                    rw [pe3, HE.out.1]
                    simp only
                    rw [if_pos (List.any_eq_true.2 ⟨r, HRM.out, by rw [HLK.out, hm]; rfl⟩)]
                  go_wp2_with fail
                  go_roundw
                  case rel => exact ⟨q + 1, some 5, by omega, by go_num, rfl, HZd, .inr ⟨5, rfl, HER2.out⟩⟩
                  case measure => simp [intOf]; omega
            · have hlq' : ¬ (q : Int) < (x.pk.refs.length : Int) := by omega
              have HF : Hid (pkErr A x.pk = none) := show _ = _ by
                have e : q = x.pk.refs.length := by omega
                have h2 := HE.out.2
                rw [e, List.take_length] at h2
                rw [pe3, HE.out.1]
                simp only
                rw [if_neg (by rw [h2]; simp)]
              go_wp2_with fail
              go_meet
              case rel => exact ⟨by rw [HF.out]; rfl, HZ⟩
      case rest =>
      obtain ⟨rfl, HZ⟩ := hcut
      rename World => W3
      have HB03 : Hid (Below W0.heap.size W0 W3) := HB01.out.trans (HZ.out.mono HB01.out.size)
      have HB3 : Hid (Below w.heap.size w W3) := HB1.out.trans (HZ.out.mono HB1.out.size)
      obtain ⟨z0, z1⟩ := D0.out W3 HZ.out
      cases hE : pkErr A x.pk with
      | some e =>
        rw [hE] at HER
        have HCH : Hid (chk l = some (some k, e)) := chk_at hl40 HI.out.2 hlt HER.out
        have q3 := (HB03.out.block _ hws).trans HX0.out
        obtain ⟨⟨y0, y1⟩, f0, f1⟩ := row2 q3
        have HQ3 : Hid _ := q3
        have he0 : (0 : Int) < ((e : Nat) : Int) + 1 := by omega
        simp only [nm]
        clear hE q3 z0 z1
        go_wp2_with fail
        have r0 : ((W3.setCell ⟨w.heap.size, 0, none⟩ (.int .i64 ((e : Int) + 1))).setCell ⟨w.heap.size, 1, none⟩ (.int .i64 (k : Int))).heap[w.heap.size]? = some (.cells #[.int .i64 ((e : Int) + 1), .int .i64 (k : Int)] 33 (0, 0)) := by
          simp [World.setCell, Array.getElem?_modify, HQ3.out]
        obtain ⟨⟨x0, x1⟩, _⟩ := row2 r0
        refine bodyPost_ret (v := .agg #[.int .i64 ((e : Int) + 1), .int .i64 (k : Int)]) (by simp [results, Tryd.results12, go_sem, x0, x1]) rfl ?_
        exact ⟨by rw [HCH.out]; rfl, (HB3.out.setCell (Nat.le_refl _) _).setCell (Nat.le_refl _) _⟩
      | none =>
        rw [hE] at HER
        simp only [nm]
        obtain ⟨W4, hW4⟩ : ∃ W4, W4 = W3.alloc (.cells #[.string x.pk.name] 9) := ⟨_, rfl⟩
        have hb4 : Below W3.heap.size W3 W4 := by rw [hW4]; exact (Below.refl _ _).alloc (Nat.le_refl _) _
        have q4 : W4.heap[W3.heap.size]? = some (.cells #[.string x.pk.name] 9 (0, 0)) := by rw [hW4]; exact heap_alloc_last _ _
        have HT4 : Hid (Texts W4 (.slice (some ⟨W3.heap.size, 0, none⟩) 1 1) [x.pk.name]) := one_text q4 1
        have HO4 : Hid (OwnS W4 W0.heap.size (.slice va k vc) A) := (HO1.out.below HZ.out).below hb4
        have HB04 : Hid (Below W0.heap.size W0 W4) := HB03.out.trans (hb4.mono HB03.out.size)
        have HS4 : Hid (W0.heap.size ≤ W4.heap.size) := HB04.out.size
        have HW4 : Hid (W4 = W3.alloc (.cells #[.string x.pk.name] 9)) := hW4
        have HLN : Hid (A.length + [x.pk.name].length ≤ 100000) := by show _ ≤ _; rw [HAL.out]; show _ + 1 ≤ _; omega
        have HK1 : Hid (A.length + [x.pk.name].length = k + 1) := show _ = _ by rw [HAL.out]; rfl
        have HOK : Hid (PkOk l (k + 1)) := fun j hj => by
          rcases Nat.lt_or_ge j k with h | h
          · exact HI.out.2 j h
          · obtain rfl : j = k := by omega
            exact HER.out
        clear hE hb4 q4 hW4
        go_wp2_with (at_builtin; go_must (rw [← HW4.out]; refine wpList_appS _ (by rfl) _ _ (by rfl) W0.heap.size (.slice va k vc) (.slice (some ⟨W3.heap.size, 0, none⟩) 1 1) A [x.pk.name] (by rfl) (by rfl) HO4.out HT4.out HLN.out HS4.out ?_; intro va5 vc5 w5 h5 g5; (have H5 : Hid (OwnS w5 W0.heap.size (.slice va5 (k + 1) vc5) (aheadN l (k + 1))) := by (rw [HK1.out] at h5; rw [HAH.out]; exact h5)); (have G5 : Hid (Below W0.heap.size W0 w5) := HB04.out.grown g5 HS4.out (fun j e => (HO4.out.block e).1)); clear h5 g5; rw [HK1.out]))
        go_roundw
        case rel => exact ⟨k + 1, by omega, by go_num, ⟨va5, vc5, rfl, H5⟩, G5.out, HOK.out⟩
        case measure => simp [intOf]; omega
    · have hge : ¬ (k : Int) < (l.length : Int) := by omega
      have HE : Hid (chk l = none) := chk_ok hl40 (by have e : k = l.length := by omega
                                                      rw [← e]; exact HI.out.2)
      go_wp2_with fail
      refine Calls.mono (fine_any wr) ?_
      rintro e w1 ⟨rfl, hb1⟩
      have HB01 : Hid (Below W0.heap.size W0 w1) := HI.out.1.trans (hb1.mono HI.out.1.size)
      have q1 := (HB01.out.block _ hws).trans HX0.out
      obtain ⟨⟨y0, y1⟩, f0, f1⟩ := row2 q1
      have HB1 : Hid (Below w.heap.size w w1) := HBr.out.trans (hb1.mono HBr.out.size)
      have HQ1 : Hid _ := q1
      clear hb1 q1
      go_wp2_with fail
      have r0 : ((w1.setCell ⟨w.heap.size, 0, none⟩ (.int .i64 0)).setCell ⟨w.heap.size, 1, none⟩ (.int .i64 (-1))).heap[w.heap.size]? = some (.cells #[.int .i64 0, .int .i64 (-1)] 33 (0, 0)) := by
        simp [World.setCell, Array.getElem?_modify, HQ1.out]
      obtain ⟨⟨x0, x1⟩, _⟩ := row2 r0
      refine bodyPost_ret (v := .agg #[.int .i64 0, .int .i64 (-1)]) (by simp [results, Tryd.results12, go_sem, x0, x1]) rfl ?_
      exact ⟨by rw [HE.out]; rfl, (HB1.out.setCell (Nat.le_refl _) _).setCell (Nat.le_refl _) _⟩
end Go.Proofs.YtlaenhohjcjilaaDoor
