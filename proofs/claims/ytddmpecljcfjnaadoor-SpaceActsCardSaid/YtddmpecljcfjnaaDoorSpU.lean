/-
  The contracts of the document's SameInts (for the same numbers) and NeedOf, and of the law's closed fact of a space.
  Conditions: package api's errors are some values.
-/
import Derived.Test.YtddmpecljcfjnaaDoorSpE
namespace Go.Proofs.YtddmpecljcfjnaaDoor
open Go.RowKit

set_option maxRecDepth 100000 in
set_option maxHeartbeats 2000000 in
theorem sameInts_any (v1 v2 : Value) (l : List Int) (w : World) (h1 : IntsAt w v1 l) (h2 : IntsAt w v2 l) (hl : l.length ≤ 100000) :
    Calls Tryd.prog 15 #[v1, v2] w fun e w' => e = .returned (.bool true) ∧ Below w.heap.size w w' := by
  obtain ⟨a1, c1, rfl, hc1⟩ := h1
  obtain ⟨a2, c2, rfl, hc2⟩ := h2
  have HC1 : Hid (∀ i x, l[i]? = some x → ∃ b off, a1 = some ⟨b, off, none⟩ ∧ w.cell? ⟨b, off + i, none⟩ = some (.int .i64 x)) := hc1
  have HC2 : Hid (∀ i x, l[i]? = some x → ∃ b off, a2 = some ⟨b, off, none⟩ ∧ w.cell? ⟨b, off + i, none⟩ = some (.int .i64 x)) := hc2
  clear hc1 hc2
  go_enter Tryd.func15, Tryd.ntmps15
  go_wp2_with fail
  go_loopw [5] (fun i wr => ∃ j : Nat, j ≤ l.length ∧ i = .int .i64 j ∧ Below w.heap.size w wr) (fun i _ => l.length - (intOf i).toNat)
  case atStart => exact ⟨0, Nat.zero_le _, rfl, Below.refl _ _⟩
  case round =>
    obtain ⟨j, hj, rfl, hb⟩ := hrel
    have HB : Hid (Below w.heap.size w wr) := hb
    by_cases hlt : j < l.length
    · obtain ⟨x, hx⟩ : ∃ x, l[j]? = some x := ⟨_, List.getElem?_eq_getElem hlt⟩
      obtain ⟨b1, o1, rfl, k1⟩ := HC1.out j x hx
      obtain ⟨b2, o2, rfl, k2⟩ := HC2.out j x hx
      have d1 : wr.cell? ⟨b1, o1 + j, none⟩ = some (.int .i64 x) := by rw [hb.cell (p := ⟨b1, o1 + j, none⟩) (World.block_lt_of_cell? w _ k1)]; exact k1
      have d2 : wr.cell? ⟨b2, o2 + j, none⟩ = some (.int .i64 x) := by rw [hb.cell (p := ⟨b2, o2 + j, none⟩) (World.block_lt_of_cell? w _ k2)]; exact k2
      clear hb hx k1 k2
      go_wp2_with fail
      go_quiet (fail)
      go_wp2_with fail
      exact ⟨⟨j + 1, by omega, by simp, ⟨HB.out.os, HB.out.tape, HB.out.output, HB.out.size, HB.out.block⟩⟩, by simp [intOf]; omega⟩
    · clear hb
      go_wp2_with fail
      go_ret
      exact ⟨rfl, HB.out⟩
theorem built_t (W : World) (l : List Int) (a : Array Value) (ha : a = (l.map (Value.int .i64)).toArray) : IntsT (W.alloc (.cells a 3)) (.slice (some ⟨W.heap.size, 0, none⟩) l.length l.length) l :=
  ⟨_, _, rfl, fun _ => ⟨_, _, a, rfl, heap_alloc_last _ _, fun i x hx => by rw [ha, Nat.zero_add, List.getElem?_toArray, List.getElem?_map, hx]; rfl⟩⟩
set_option maxRecDepth 100000 in
set_option maxHeartbeats 2000000 in
theorem roomy_any (eb en : Value) (w : World) (hEb : w.cell? ⟨0, 0, none⟩ = some eb) (hEn : w.cell? ⟨2, 0, none⟩ = some en) : Calls Tryd.prog 5 #[] w fun e w' => e = .returned (.bool true) ∧ Below w.heap.size w w' := by
  have hgb : 0 < w.heap.size := World.block_lt_of_cell? w _ hEb
  have hgn : 2 < w.heap.size := World.block_lt_of_cell? w _ hEn
  have HN : Hid (Calls Tryd.prog 6 #[.int .i64 4] w fun e w' => e = .returned (.tuple #[.pointer (some ⟨w.heap.size + 1, 0, none⟩), .nilIface]) ∧ SpAt w' (w.heap.size + 1) w.heap.size 4 [false, false, false, false] ∧ Below w.heap.size w w') := sp_new 4 (by omega) (by omega) w
  obtain ⟨p, HP⟩ : ∃ p, Hid (p = w.heap.size + 1) := ⟨_, (rfl : w.heap.size + 1 = _)⟩
  have HT : Hid (∀ W, SpAt W p w.heap.size 4 [false, false, false, false] → Below w.heap.size w W → Calls Tryd.prog 8 #[.pointer (some ⟨p, 0, none⟩), .int .i64 2] W fun e w' => ∃ ad c, e = .returned (.tuple #[.slice ad 2 c, .nilIface]) ∧ IntsT w' (.slice ad 2 c) [0, 1] ∧ SpAt w' p w.heap.size 4 [true, true, false, false] ∧ Below w.heap.size w w') := fun W S hb =>
    (sp_take 2 (by decide) W S (by decide)).mono fun e w' ⟨v, he, ho, hS, hg⟩ => by
      obtain ⟨ad, c, rfl⟩ := own_form ho
      exact ⟨ad, c, he, ho.t, hS, hb.grown hg hb.size (fun k hk => by cases hk; exact Nat.le_refl _)⟩
  have HG : Hid (∀ W v, SpAt W p w.heap.size 4 [true, true, false, false] → Below w.heap.size w W → IntsT W v [0] → Calls Tryd.prog 9 #[.pointer (some ⟨p, 0, none⟩), v] W fun e w' => e = .returned .nilIface ∧ SpAt w' p w.heap.size 4 [false, true, false, false] ∧ Below w.heap.size w w') := fun W v S hb hv =>
    (sp_give v [0] eb en W S (by decide) hv (by decide) (by rw [hb.cell (p := ⟨0, 0, none⟩) hgb]; exact hEb) (by rw [hb.cell (p := ⟨2, 0, none⟩) hgn]; exact hEn) (by decide) (by decide)).mono fun e w' ⟨he, hS, hg⟩ => ⟨he, hS, hb.grown hg hb.size (fun k hk => by cases hk; exact Nat.le_refl _)⟩
  have HU : Hid (∀ W, SpAt W p w.heap.size 4 [false, true, false, false] → Below w.heap.size w W → Calls Tryd.prog 12 #[.pointer (some ⟨p, 0, none⟩)] W fun e w' => ∃ ad c, e = .returned (.slice ad 1 c) ∧ IntsT w' (.slice ad 1 c) [1] ∧ Below w.heap.size w w') := fun W S hb =>
    (sp_used W S (by decide)).mono fun e w' ⟨v, he, ho, hb'⟩ => by
      obtain ⟨ad, c, rfl⟩ := own_form ho
      exact ⟨ad, c, he, ho.t, hb.trans (hb'.mono hb.size)⟩
  have HS2 : Hid (∀ W v a, IntsT W v [0, 1] → a = #[Value.int .i64 0, Value.int .i64 1] → Calls Tryd.prog 15 #[v, .slice (some ⟨W.heap.size, 0, none⟩) 2 2] (W.alloc (.cells a 3)) fun e w' => e = .returned (.bool true) ∧ Below (W.alloc (.cells a 3)).heap.size (W.alloc (.cells a 3)) w') := fun W v a h ha =>
    sameInts_any v _ [0, 1] _ (h.below ((Below.refl _ _).alloc (Nat.le_refl _) _)).at (built_t W [0, 1] a ha).at (by decide)
  have HS1 : Hid (∀ W v a, IntsT W v [1] → a = #[Value.int .i64 1] → Calls Tryd.prog 15 #[v, .slice (some ⟨W.heap.size, 0, none⟩) 1 1] (W.alloc (.cells a 3)) fun e w' => e = .returned (.bool true) ∧ Below (W.alloc (.cells a 3)).heap.size (W.alloc (.cells a 3)) w') := fun W v a h ha =>
    sameInts_any v _ [1] _ (h.below ((Below.refl _ _).alloc (Nat.le_refl _) _)).at (built_t W [1] a ha).at (by decide)
  have HND : Hid (∀ W, Calls Tryd.prog 13 #[.int .i64 17] W fun e w' => e = .returned (.int .i64 2) ∧ w' = W) := fun W => sp_need 17 W (by decide)
  rw [← HP.out] at HN
  have HUP : Hid (∀ W W1, Below w.heap.size w W → Below W.heap.size W W1 → Below w.heap.size w W1) := fun W W1 h h1 => h.trans (h1.mono h.size)
  clear hEb hEn
  go_enter Tryd.func5, Tryd.ntmps5
  go_wp2_with (first
    | (go_at_call 6; refine HN.out.mono ?_; rintro e w1 ⟨rfl, S1, b1⟩; clear HN)
    | (go_at_call 8; refine (HT.out _ S1 b1).mono ?_; rintro e w2 ⟨ad, c, rfl, t2, S2, b2⟩; clear HT S1 b1)
    | (go_at_call 15; refine (HS2.out _ _ _ t2 rfl).mono ?_; rintro e w3 ⟨rfl, b3⟩; (have S3 := (S2.below ((Below.refl _ _).alloc (Nat.le_refl _) _)).below b3); (have c3 := HUP.out _ _ (b2.alloc b2.size _) b3); clear HS2 t2 S2 b2 b3)
    | (go_at_call 9; refine (HG.out _ _ (S3.below ((Below.refl _ _).alloc (Nat.le_refl _) _)) (c3.alloc c3.size _) (built_t w3 [0] _ rfl)).mono ?_; rintro e w4 ⟨rfl, S4, b4⟩; clear HG S3 c3)
    | (go_at_call 12; refine (HU.out _ S4 b4).mono ?_; rintro e w5 ⟨ad5, c5, rfl, t5, b5⟩; clear HU S4 b4)
    | (go_at_call 15; refine (HS1.out _ _ _ t5 rfl).mono ?_; rintro e w6 ⟨rfl, b6⟩; (have c6 := HUP.out _ _ (b5.alloc b5.size _) b6); clear HS1 t5 b5 b6)
    | (go_at_call 13; refine (HND.out _).mono ?_; rintro e w7 ⟨rfl, hw⟩; rw [hw]; clear hw))
  go_ret
  exact ⟨rfl, c6⟩
end Go.Proofs.YtddmpecljcfjnaaDoor
