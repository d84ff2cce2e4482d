/-
  The walk of the law SpaceKeeps.
  Conditions: the numbers lie in memory; package api's errors are as they are laid.
-/
import Derived.Test.YtddmpecljcfjnaaDoorSpU
import Derived.Test.YtddmpecljcfjnaaDoorSpK
import Derived.Test.YtddmpecljcfjnaaDoorCode
import Derived.Deep.RegionHeld3
namespace Go.Proofs.YtddmpecljcfjnaaDoor
open Go.RowKit

/-- A space, and a queue of what was taken. -/
structure KAt (B p b cap : Nat) (u : List Bool) (ow : List (List Nat)) (vs : List Value) (ov : Value) (w : World) : Prop where
  sp : SpAt w p b cap u
  q : QAt w B ov vs
  len : vs.length = ow.length
  it : ∀ (i : Nat) (x : Value) (y : List Nat), vs[i]? = some x → ow[i]? = some y → IntsT w x (ints y)
namespace KAt
variable {B p b cap : Nat} {u : List Bool} {ow : List (List Nat)} {vs : List Value} {ov : Value} {w w' : World}
theorem below (K : KAt B p b cap u ow vs ov w) (hb : Below w.heap.size w w') : KAt B p b cap u ow vs ov w' :=
  ⟨K.sp.below hb, K.q.keep fun k _ hk => hb.block k (Array.getElem?_eq_some_iff.1 hk).1, K.len, fun i x y h1 h2 => (K.it i x y h1 h2).below hb⟩
theorem grown (K : KAt B p b cap u ow vs ov w) {u' : List Bool} (hS : SpAt w' p b cap u') (hg : w.grownBy w' (some b)) : KAt B p b cap u' ow vs ov w' :=
  have hne : ∀ (k : Nat) (cur : Array Value) (t : TypeId), t ≠ 4 → w.heap[k]? = some (.cells cur t (0, 0)) → w'.heap[k]? = w.heap[k]? := fun k cur t ht hk =>
    hg.block k (Array.getElem?_eq_some_iff.1 hk).1 (by simpa using K.sp.own.ne hk ht)
  ⟨hS, K.q.keep fun k cur hk => hne k cur _ (by decide) hk, K.len, fun i x y h1 h2 => (K.it i x y h1 h2).keep fun k cur hk => hne k cur _ (by decide) hk⟩
theorem push (K : KAt B p b cap u ow vs ov w) {v nv : Value} {x : List Nat} (hx : IntsT w v (ints x)) (hq : QAt w' B nv (vs ++ [v])) (hk : KeepQ w w') : KAt B p b cap u (ow ++ [x]) (vs ++ [v]) nv w' := by
  have hne : ∀ (k : Nat) (cur : Array Value) (t : TypeId), t ≠ 22 → w.heap[k]? = some (.cells cur t (0, 0)) → w'.heap[k]? = w.heap[k]? := fun k cur t ht h =>
    hk k _ h (fun cur' f e => by simp only [Obj.cells.injEq] at e; exact ht e.2.1)
  obtain ⟨cur, hr, _⟩ := K.sp.row
  refine ⟨K.sp.keep (hne p _ _ (by decide) K.sp.box) (hne b _ _ (by decide) hr), hq, by simp [K.len], fun i y z h1 h2 => ?_⟩
  by_cases hi : i < vs.length
  · rw [List.getElem?_append_left hi] at h1
    rw [List.getElem?_append_left (by rw [← K.len]; exact hi)] at h2
    exact (K.it i y z h1 h2).keep fun k cur hk => hne k cur _ (by decide) hk
  · have hl := (List.getElem?_eq_some_iff.1 h1).1
    simp only [List.length_append, List.length_cons, List.length_nil] at hl
    obtain rfl : i = vs.length := by omega
    rw [List.getElem?_append_right (Nat.le_refl _)] at h1
    rw [K.len, List.getElem?_append_right (Nat.le_refl _)] at h2
    simp only [Nat.sub_self, List.getElem?_cons_zero, Option.some.injEq] at h1 h2
    subst h1; subst h2
    exact hx.keep fun k cur hk => hne k cur _ (by decide) hk
theorem form (K : KAt B p b cap u ow vs ov w) {i : Nat} {y : List Nat} (h : ow[i]? = some y) : ∃ ad c, vs[i]? = some (.slice ad y.length c) ∧ IntsT w (.slice ad y.length c) (ints y) := by
  have hi := (List.getElem?_eq_some_iff.1 h).1
  obtain ⟨x, hx⟩ : ∃ x, vs[i]? = some x := ⟨_, List.getElem?_eq_getElem (by rw [K.len]; exact hi)⟩
  have := K.it i _ y hx h
  obtain ⟨ad, c, e, h1⟩ := this
  rw [ints_len] at e
  exact ⟨ad, c, by rw [hx, e], ⟨ad, c, by rw [ints_len], h1⟩⟩
end KAt
theorem ints_at {w : World} {ad : Option Addr} {n c : Nat} {l : List Nat} (h : IntsT w (.slice ad n c) (ints l)) {i k : Nat} (hk : l[i]? = some k) : ∃ b off, ad = some ⟨b, off, none⟩ ∧ w.cell? ⟨b, off + i, none⟩ = some (.int .i64 (k : Int)) := by
  obtain ⟨ad', c', e, h1⟩ := h.at
  simp only [Value.slice.injEq] at e
  obtain ⟨rfl, _, _⟩ := e
  exact h1 i k (by simp [ints, hk])
theorem infoIs : (Tryd.prog.info? 22).map (fun i => (i.zero, i.size, i.bytes)) = some (some (.slice none 0 0), 1, 24) := by kernel_rfl
/-- Blocks of the first i, and of the next one's first k. -/
def preL (ow : List (List Nat)) (i k : Nat) : List Nat := (ow.take i).flatten ++ ((ow[i]?.getD []).take k)
theorem preL_zero (ow : List (List Nat)) (i : Nat) : preL ow i 0 = (ow.take i).flatten := by simp [preL]
theorem preL_next {ow : List (List Nat)} {i k : Nat} {y : List Nat} {x : Nat} (hy : ow[i]? = some y) (hx : y[k]? = some x) : preL ow i (k + 1) = preL ow i k ++ [x] := by
  obtain ⟨hk, e⟩ := List.getElem?_eq_some_iff.1 hx
  unfold preL
  rw [hy, Option.getD_some, List.take_succ_eq_append_getElem hk, e, List.append_assoc]
theorem preL_row {ow : List (List Nat)} {i : Nat} {y : List Nat} (hy : ow[i]? = some y) : preL ow i y.length = (ow.take (i + 1)).flatten := by
  obtain ⟨hi, e⟩ := List.getElem?_eq_some_iff.1 hy
  unfold preL
  rw [hy, Option.getD_some, List.take_length, List.take_succ_eq_append_getElem hi, e]; simp
theorem preL_all {ow : List (List Nat)} {i k : Nat} {y : List Nat} {x : Nat} (hy : ow[i]? = some y) (hx : y[k]? = some x) : ∃ r, ow.flatten = preL ow i k ++ (x :: r) := by
  obtain ⟨hi, e⟩ := List.getElem?_eq_some_iff.1 hy
  obtain ⟨hk, e2⟩ := List.getElem?_eq_some_iff.1 hx
  refine ⟨y.drop (k + 1) ++ (ow.drop (i + 1)).flatten, ?_⟩
  have h1 : ow = ow.take i ++ (y :: ow.drop (i + 1)) := by
    conv => lhs; rw [← List.take_append_drop i ow, List.drop_eq_getElem_cons hi, e]
  have h2 : y = y.take k ++ (x :: y.drop (k + 1)) := by
    conv => lhs; rw [← List.take_append_drop k y, List.drop_eq_getElem_cons hk, e2]
  unfold preL
  rw [hy, Option.getD_some]
  conv => lhs; rw [h1]
  rw [List.flatten_append, List.flatten_cons]
  conv => lhs; rw [h2]
  simp
theorem seen_new {n : Nat} {u : List Bool} {ow : List (List Nat)} (I : Inv n u ow) {i k : Nat} {y : List Nat} {x : Nat} (hy : ow[i]? = some y) (hx : y[k]? = some x) : x < n ∧ (markR (List.replicate n false) true (preL ow i k))[x]? = some false := by
  obtain ⟨r, e⟩ := preL_all hy hx
  have hxn : x < n := by
    rw [← I.len]
    exact (List.getElem?_eq_some_iff.1 ((I.own x).2 (by rw [e]; simp))).1
  have hnd := I.nd
  rw [e, List.nodup_append] at hnd
  refine ⟨hxn, ?_⟩
  rw [markR_not (fun h => hnd.2.2 x h x List.mem_cons_self rfl), List.getElem?_replicate, if_pos hxn]

set_option maxRecDepth 100000 in
set_option maxHeartbeats 8000000 in
theorem spaceKeeps_any (n : Int) (l : List Int) (v : Value) (a : Nat → Addr) (w : World) (hv : IntsAt w v l) (hS : Sents a w) :
    Calls Tryd.prog 3 #[.int .i64 n, v] w fun e w' => e = .returned (.bool true) ∧ Below w.heap.size w w' := by
  have HSE : Hid (Sents a w) := hS
  have HRO := roomy_any _ _ w hS.c1 hS.c5
  obtain ⟨la, lc, rfl, hcs⟩ := hv
  have HCS : Hid (∀ i x, l[i]? = some x → ∃ b off, la = some ⟨b, off, none⟩ ∧ w.cell? ⟨b, off + i, none⟩ = some (.int .i64 x)) := hcs
  clear hcs hS
  by_cases g1 : n < 1
  · go_enter Tryd.func3, Tryd.ntmps3
    go_wp2_with (go_at_call 5; refine HRO.mono ?_; rintro e w0 ⟨rfl, hb0⟩)
    go_ret
    exact ⟨rfl, hb0⟩
  by_cases g2 : 60 < n
  · go_enter Tryd.func3, Tryd.ntmps3
    go_wp2_with (go_at_call 5; refine HRO.mono ?_; rintro e w0 ⟨rfl, hb0⟩)
    go_ret
    exact ⟨rfl, hb0⟩
  by_cases g3 : 60 < (l.length : Int)
  · go_enter Tryd.func3, Tryd.ntmps3
    go_wp2_with (go_at_call 5; refine HRO.mono ?_; rintro e w0 ⟨rfl, hb0⟩)
    go_ret
    exact ⟨rfl, hb0⟩
  obtain ⟨N, rfl⟩ : ∃ N : Nat, n = N := ⟨n.toNat, by omega⟩
  have hN1 : 1 ≤ N := by omega
  have hN2 : N ≤ 60 := by omega
  have hll : l.length ≤ 60 := by omega
  go_enter Tryd.func3, Tryd.ntmps3
  go_wp2_with (first
    | (go_at_call 5; refine HRO.mono ?_; rintro e w0 ⟨rfl, hb0⟩; clear HRO)
    | (go_at_call 6; refine (sp_new N hN1 (by omega) w0).mono ?_; rintro e w1 ⟨rfl, S1, hb1⟩))
  obtain ⟨b, HBB⟩ : ∃ b, Hid (b = w0.heap.size) := ⟨_, (rfl : w0.heap.size = _)⟩
  obtain ⟨p, HPP⟩ : ∃ p, Hid (p = w0.heap.size + 1) := ⟨_, (rfl : w0.heap.size + 1 = _)⟩
  rw [← HPP.out]
  have hbw : w.heap.size ≤ b := by rw [HBB.out]; exact hb0.size
  have HI : Hid (SpAt w1 p b N (List.replicate N false) ∧ Below w.heap.size w w1) := ⟨by rw [HBB.out, HPP.out]; exact S1, hb0.trans (hb1.mono hb0.size)⟩
  clear S1 hb0 hb1 g1 g2 g3 HBB HPP
  go_loopw [8, 9] (fun ov i wr => ∃ j : Nat, j ≤ l.length ∧ i = .int .i64 j ∧ ∃ cap u ow vs, KAt w.heap.size p b cap u ow vs ov wr ∧ Inv N u ow ∧ vs.length ≤ j ∧ Below w.heap.size w wr) (fun _ i _ => l.length - (intOf i).toNat)
  case atStart => exact ⟨0, Nat.zero_le _, rfl, N, _, [], [], ⟨HI.out.1, QAt.nil _ _, rfl, fun i x y h => by simp at h⟩, Inv.start N, Nat.le_refl _, HI.out.2⟩
  case round =>
    clear HI
    obtain ⟨j, hj, rfl, cap, u, ow, vs, K, I, hvl, hB⟩ := hrel
    have HK : Hid (KAt w.heap.size p b cap u ow vs u8 wr) := K
    have HIv : Hid (Inv N u ow) := I
    have HB : Hid (Below w.heap.size w wr) := hB
    have hul : u.length ≤ 512 := by rw [I.len]; omega
    have HUP : Hid (∀ W W', Below w.heap.size w W → W.grownBy W' (some b) → Below w.heap.size w W') := fun W W' h hg => h.grown hg h.size (fun k hk => by cases hk; exact hbw)
    have HUP2 : Hid (∀ W W', Below w.heap.size w W → Below W.heap.size W W' → Below w.heap.size w W') := fun W W' h hg => h.trans (hg.mono h.size)
    obtain ⟨oa, oc, rfl⟩ := K.q.form
    by_cases hlt : j < l.length
    · obtain ⟨x, hx⟩ : ∃ x, l[j]? = some x := ⟨_, List.getElem?_eq_getElem hlt⟩
      obtain ⟨lb, lo, rfl, cx⟩ := HCS.out j x hx
      have HCX0 : Hid (∀ W, Below w.heap.size w W → W.cell? ⟨lb, lo + j, none⟩ = some (.int .i64 x)) := fun W hW => by rw [hW.cell (p := ⟨lb, lo + j, none⟩) (World.block_lt_of_cell? w _ cx)]; exact cx
      have c1 := HCX0.out wr hB
      clear hx cx
      by_cases hx0 : 0 ≤ x
      · obtain ⟨k, rfl⟩ : ∃ k : Nat, x = k := ⟨x.toNat, by omega⟩
        have HCX : Hid (∀ W, Below w.heap.size w W → W.cell? ⟨lb, lo + j, none⟩ = some (.int .i64 (k : Int))) := HCX0.out
        obtain ⟨F, HF⟩ : ∃ F, Hid (F = (freeR u).length) := ⟨_, (rfl : (freeR u).length = _)⟩
        have HFr : Hid (Calls Tryd.prog 7 #[.pointer (some ⟨p, 0, none⟩)] wr fun e w' => e = .returned (.int .i64 (F : Int)) ∧ KAt w.heap.size p b cap u ow vs (.slice oa vs.length oc) w' ∧ Below w.heap.size w w' ∧ w'.cell? ⟨lb, lo + j, none⟩ = some (.int .i64 (k : Int))) :=
          (sp_Free wr K.sp hul).mono fun e w' ⟨he, hb⟩ => ⟨by rw [HF.out]; exact he, K.below hb, HUP2.out _ _ hB hb, HCX.out _ (HUP2.out _ _ hB hb)⟩
        have hF60 : F ≤ 60 := by rw [HF.out]; have := whereR_len (fun b => !b) u u.length; rw [I.len] at this; exact Nat.le_trans (by rw [freeR, I.len]; exact this) hN2
        clear K I hB HCX0
        by_cases hkf : k ≤ F
        · have hkz : (k : Int) ≤ (F : Int) := by omega
          have HTK : Hid (∀ W, KAt w.heap.size p b cap u ow vs (.slice oa vs.length oc) W → Below w.heap.size w W → Calls Tryd.prog 8 #[.pointer (some ⟨p, 0, none⟩), .int .i64 (k : Int)] W fun e w' => ∃ va vc, e = .returned (.tuple #[.slice va k vc, .nilIface]) ∧ IntsT w' (.slice va k vc) (ints ((freeR u).take k)) ∧ KAt w.heap.size p b cap (markR u true ((freeR u).take k)) ow vs (.slice oa vs.length oc) w' ∧ Below w.heap.size w w' ∧ w'.cell? ⟨lb, lo + j, none⟩ = some (.int .i64 (k : Int))) := fun W K hB =>
            (sp_take k (by rw [← HF.out]; exact hkf) W K.sp hul).mono fun e w' ⟨v, he, ho, hS, hg⟩ => by
              obtain ⟨va, vc, rfl⟩ := own_form ho
              have hlk : ((freeR u).take k).length = k := by rw [List.length_take, ← HF.out]; omega
              have ht := ho.t
              rw [hlk] at ht he
              exact ⟨va, vc, he, ht, K.grown hS hg, HUP.out _ _ hB hg, HCX.out _ (HUP.out _ _ hB hg)⟩
          have HFR2 : Hid (∀ W va vc, KAt w.heap.size p b cap (markR u true ((freeR u).take k)) ow vs (.slice oa vs.length oc) W → IntsT W (.slice va k vc) (ints ((freeR u).take k)) → Below w.heap.size w W → Calls Tryd.prog 7 #[.pointer (some ⟨p, 0, none⟩)] W fun e w' => e = .returned (.int .i64 ((F : Int) - (k : Int))) ∧ KAt w.heap.size p b cap (markR u true ((freeR u).take k)) ow vs (.slice oa vs.length oc) w' ∧ IntsT w' (.slice va k vc) (ints ((freeR u).take k)) ∧ Below w.heap.size w w') := fun W va vc K ht hB =>
            (sp_Free W K.sp (by rw [markR_len]; exact hul)).mono fun e w' ⟨he, hb⟩ => by
              have h1 := (HIv.out.take k).free
              have h2 := HIv.out.free
              rw [List.flatten_append, List.length_append] at h1
              simp only [List.flatten_cons, List.flatten_nil, List.append_nil, List.length_take] at h1
              have e1 : ((freeR (markR u true ((freeR u).take k))).length : Int) = (F : Int) - (k : Int) := by rw [← HF.out] at h1 h2; omega
              rw [e1] at he
              exact ⟨he, K.below hb, ht.below hb, HUP2.out _ _ hB hb⟩
          have wk : IntKind.i64.wrap ((F : Int) - (k : Int)) = (F : Int) - (k : Int) := by rw [IntKind.wrap_i64]; omega
          go_wp2_with (first
            | (go_at_call 7; refine HFr.out.mono ?_; rintro e w2 ⟨rfl, K2, B2, c2⟩; clear HFr c1)
            | (go_at_call 8; refine (HTK.out _ K2 B2).mono ?_; rintro e w3 ⟨va, vc, rfl, IT3, K3, B3, c3⟩; clear HTK K2 B2 c2))
          have HK3 : Hid _ := K3
          have HIT3 : Hid _ := IT3
          have HB3 : Hid _ := B3
          clear K3 IT3 B3
          go_quiet (fail)
          obtain ⟨W4, HW4⟩ : ∃ W4, Hid (W4 = w3.drewN nq) := ⟨_, (rfl : w3.drewN nq = _)⟩
          rw [← HW4.out]
          have hb4 : Below w3.heap.size w3 W4 := by rw [HW4.out]; exact ⟨rfl, rfl, rfl, Nat.le_refl _, fun _ _ => rfl⟩
          have HB4 : Hid (Below w.heap.size w W4) := HUP2.out _ _ HB3.out hb4
          have HFR : Hid (∀ W, W = W4.drew → Calls Tryd.prog 7 #[.pointer (some ⟨p, 0, none⟩)] W fun e w' => e = .returned (.int .i64 ((F : Int) - (k : Int))) ∧ KAt w.heap.size p b cap (markR u true ((freeR u).take k)) ow vs (.slice oa vs.length oc) w' ∧ IntsT w' (.slice va k vc) (ints ((freeR u).take k)) ∧ Below w.heap.size w w') := fun W hW => by
            have hb5 : Below w3.heap.size w3 W := by rw [hW]; exact hb4.drew
            exact HFR2.out W va vc (HK3.out.below hb5) (IntsT.below HIT3.out hb5) (HUP2.out _ _ HB3.out hb5)
          clear hb4 HW4 HK3 HIT3 HB3 HFR2 c3
          go_wp2_with fail
          refine wp_region_held_drew (S := fun w' => w'.cell? ⟨lb, lo + j, none⟩ = some (.int .i64 (k : Int))) (by kernel_rfl) (HCX.out _ HB4.out.drew) (fun hHeld => ?_)
          refine wpAnyH_take (i := 0) (v := (.slice va k vc)) rfl (by kernel_rfl) (by kernel_rfl) (by kernel_rfl) (fun _ _ _ h => h) (Or.inl ⟨by rfl, ?_⟩) hHeld ?_
          · intro w hSw; (try dsimp only at hSw); simp only [List.getElem_toArray, List.getElem_cons_zero]; go_simp
          simp only [List.getElem_toArray, List.getElem_cons_zero, Act.put, List.setIfInBounds_toArray, List.set_cons_zero, List.set_cons_succ]
          refine wpAnyH_take (i := 1) (v := (.int .i64 (k : Int))) rfl (by kernel_rfl) (by kernel_rfl) (by kernel_rfl) (fun _ _ _ h => h) (Or.inl ⟨by rfl, ?_⟩) hHeld ?_
          · intro w hSw; (try dsimp only at hSw); simp only [List.getElem_toArray, List.getElem_cons_zero, List.getElem_cons_succ]; go_simp
          simp only [List.getElem_toArray, List.getElem_cons_zero, List.getElem_cons_succ, Act.put, List.setIfInBounds_toArray, List.set_cons_zero, List.set_cons_succ]
          refine wpAnyH_take (i := 2) (v := (.slice (some ⟨lb, lo, none⟩) l.length lc)) rfl (by kernel_rfl) (by kernel_rfl) (by kernel_rfl) (fun _ _ _ h => h) (Or.inl ⟨by rfl, ?_⟩) hHeld ?_
          · intro w hSw; (try dsimp only at hSw); simp only [List.getElem_toArray, List.getElem_cons_zero, List.getElem_cons_succ]; go_simp
          simp only [List.getElem_toArray, List.getElem_cons_zero, List.getElem_cons_succ, Act.put, List.setIfInBounds_toArray, List.set_cons_zero, List.set_cons_succ]
          refine wpAnyH_take (i := 3) (v := (.int .i64 (j : Int))) rfl (by kernel_rfl) (by kernel_rfl) (by kernel_rfl) (fun _ _ _ h => h) (Or.inl ⟨by rfl, ?_⟩) hHeld ?_
          · intro w hSw; (try dsimp only at hSw); simp only [List.getElem_toArray, List.getElem_cons_zero, List.getElem_cons_succ]; go_simp
          simp only [List.getElem_toArray, List.getElem_cons_zero, List.getElem_cons_succ, Act.put, List.setIfInBounds_toArray, List.set_cons_zero, List.set_cons_succ]
          refine wpAnyH_take (i := 4) (v := (.pointer (some ⟨lb, lo + j, none⟩))) rfl (by kernel_rfl) (by kernel_rfl) (by kernel_rfl) (fun _ _ _ h => h) (Or.inl ⟨by rfl, ?_⟩) hHeld ?_
          · intro w hSw; (try dsimp only at hSw); simp only [List.getElem_toArray, List.getElem_cons_zero, List.getElem_cons_succ]; go_simp
          simp only [List.getElem_toArray, List.getElem_cons_zero, List.getElem_cons_succ, Act.put, List.setIfInBounds_toArray, List.set_cons_zero, List.set_cons_succ]
          refine wpAnyH_take (i := 5) (v := (.int .i64 (k : Int))) rfl (by kernel_rfl) (by kernel_rfl) (by kernel_rfl) (fun _ _ _ h => h) (Or.inl ⟨by rfl, ?_⟩) hHeld ?_
          · intro w hSw; (try dsimp only at hSw); simp only [List.getElem_toArray, List.getElem_cons_zero, List.getElem_cons_succ]; go_simp
          simp only [List.getElem_toArray, List.getElem_cons_zero, List.getElem_cons_succ, Act.put, List.setIfInBounds_toArray, List.set_cons_zero, List.set_cons_succ]
          refine wpAnyH_take (i := 6) (v := (.bool false)) rfl (by kernel_rfl) (by kernel_rfl) (by kernel_rfl) (fun _ _ _ h => h) (Or.inl ⟨by rfl, ?_⟩) hHeld ?_
          · intro w hSw; (try dsimp only at hSw); simp only [List.getElem_toArray, List.getElem_cons_zero, List.getElem_cons_succ]; go_simp
          simp only [List.getElem_toArray, List.getElem_cons_zero, List.getElem_cons_succ, Act.put, List.setIfInBounds_toArray, List.set_cons_zero, List.set_cons_succ]
          refine wpAnyH_take (i := 7) (v := (.bool false)) rfl (by kernel_rfl) (by kernel_rfl) (by kernel_rfl) (fun _ _ _ h => h) (Or.inl ⟨by rfl, ?_⟩) hHeld ?_
          · intro w hSw; (try dsimp only at hSw); simp only [List.getElem_toArray, List.getElem_cons_zero, List.getElem_cons_succ]; go_simp
          simp only [List.getElem_toArray, List.getElem_cons_zero, List.getElem_cons_succ, Act.put, List.setIfInBounds_toArray, List.set_cons_zero, List.set_cons_succ]
          refine wpAnyH_take (i := 8) (v := (.pointer (some ⟨p, 0, none⟩))) rfl (by kernel_rfl) (by kernel_rfl) (by kernel_rfl) (fun _ _ _ h => h) (Or.inl ⟨by rfl, ?_⟩) hHeld ?_
          · intro w hSw; (try dsimp only at hSw); simp only [List.getElem_toArray, List.getElem_cons_zero, List.getElem_cons_succ]; go_simp
          simp only [List.getElem_toArray, List.getElem_cons_zero, List.getElem_cons_succ, Act.put, List.setIfInBounds_toArray, List.set_cons_zero, List.set_cons_succ]
          refine wpAnyH_take (i := 10) (v := (.int .i64 (F : Int))) rfl (by kernel_rfl) (by kernel_rfl) (by kernel_rfl) (fun _ _ _ h => h) (Or.inl ⟨by rfl, ?_⟩) hHeld ?_
          · intro w hSw; (try dsimp only at hSw); simp only [List.getElem_toArray, List.getElem_cons_zero, List.getElem_cons_succ]; go_simp
          simp only [List.getElem_toArray, List.getElem_cons_zero, List.getElem_cons_succ, Act.put, List.setIfInBounds_toArray, List.set_cons_zero, List.set_cons_succ]
          refine wpAnyH_take (i := 11) (v := (.slice (some ⟨lb, lo, none⟩) l.length lc)) rfl (by kernel_rfl) (by kernel_rfl) (by kernel_rfl) (fun _ _ _ h => h) (Or.inl ⟨by rfl, ?_⟩) hHeld ?_
          · intro w hSw; (try dsimp only at hSw); simp only [List.getElem_toArray, List.getElem_cons_zero, List.getElem_cons_succ]; go_simp
          simp only [List.getElem_toArray, List.getElem_cons_zero, List.getElem_cons_succ, Act.put, List.setIfInBounds_toArray, List.set_cons_zero, List.set_cons_succ]
          refine wpAnyH_take (i := 12) (v := (.int .i64 (j : Int))) rfl (by kernel_rfl) (by kernel_rfl) (by kernel_rfl) (fun _ _ _ h => h) (Or.inl ⟨by rfl, ?_⟩) hHeld ?_
          · intro w hSw; (try dsimp only at hSw); simp only [List.getElem_toArray, List.getElem_cons_zero, List.getElem_cons_succ]; go_simp
          simp only [List.getElem_toArray, List.getElem_cons_zero, List.getElem_cons_succ, Act.put, List.setIfInBounds_toArray, List.set_cons_zero, List.set_cons_succ]
          refine wpAnyH_take (i := 13) (v := (.pointer (some ⟨lb, lo + j, none⟩))) rfl (by kernel_rfl) (by kernel_rfl) (by kernel_rfl) (fun _ _ _ h => h) (Or.inl ⟨by rfl, ?_⟩) hHeld ?_
          · intro w hSw; (try dsimp only at hSw); simp only [List.getElem_toArray, List.getElem_cons_zero, List.getElem_cons_succ]; go_simp
          simp only [List.getElem_toArray, List.getElem_cons_zero, List.getElem_cons_succ, Act.put, List.setIfInBounds_toArray, List.set_cons_zero, List.set_cons_succ]
          refine wpAnyH_take (i := 14) (v := (.int .i64 (k : Int))) rfl (by kernel_rfl) (by kernel_rfl) (by kernel_rfl) (fun _ _ _ h => h) (Or.inl ⟨by rfl, ?_⟩) hHeld ?_
          · intro w hSw; (try dsimp only at hSw); simp only [List.getElem_toArray, List.getElem_cons_zero, List.getElem_cons_succ]; go_simp
          simp only [List.getElem_toArray, List.getElem_cons_zero, List.getElem_cons_succ, Act.put, List.setIfInBounds_toArray, List.set_cons_zero, List.set_cons_succ]
          refine wpAnyH_take (i := 15) (v := (.int .i64 ((F : Int) - (k : Int)))) rfl (by kernel_rfl) (by kernel_rfl) (by kernel_rfl) (fun _ _ _ h => h) (Or.inl ⟨by rfl, ?_⟩) hHeld ?_
          · intro w hSw; (try dsimp only at hSw); simp only [List.getElem_toArray, List.getElem_cons_zero, List.getElem_cons_succ]; go_simp
          simp only [List.getElem_toArray, List.getElem_cons_zero, List.getElem_cons_succ, Act.put, List.setIfInBounds_toArray, List.set_cons_zero, List.set_cons_succ]
          refine wpAnyH_ready (rs := [9]) (by kernel_rfl) (by simp) ?_
          refine AllReadyH.cons rfl (fun K' hK => ?_) AllReadyH.nil
          simp only [List.getElem_toArray, List.getElem_cons_zero, List.getElem_cons_succ]
          go_simp
          refine Calls.mono (HFR.out _ rfl) ?_
          rintro e wx ⟨rfl, K5, IT5, B5⟩
          have HK5 : Hid _ := K5
          have HIT5 : Hid _ := IT5
          have HB5 : Hid _ := B5
          clear K5 IT5 B5
          go_wp2_with fail
          refine hK.out _ _ (HCX.out _ HB5.out) (fun hHeld' => ?_)
          clear hK K' hHeld
          have hHeld := hHeld'
          clear hHeld'
          refine wpAnyH_take (i := 16) (v := (.bool false)) rfl (by kernel_rfl) (by kernel_rfl) (by kernel_rfl) (fun _ _ _ h => h) (Or.inl ⟨by rfl, ?_⟩) hHeld ?_
          · intro w hSw; (try dsimp only at hSw); simp only [List.getElem_toArray, List.getElem_cons_zero, List.getElem_cons_succ]; go_simp
          simp only [List.getElem_toArray, List.getElem_cons_zero, List.getElem_cons_succ, Act.put, List.setIfInBounds_toArray, List.set_cons_zero, List.set_cons_succ]
          refine wpAnyH_take (i := 17) (v := (.bool false)) rfl (by kernel_rfl) (by kernel_rfl) (by kernel_rfl) (fun _ _ _ h => h) (Or.inl ⟨by rfl, ?_⟩) hHeld ?_
          · intro w hSw; (try dsimp only at hSw); simp only [List.getElem_toArray, List.getElem_cons_zero, List.getElem_cons_succ]; go_simp
          simp only [List.getElem_toArray, List.getElem_cons_zero, List.getElem_cons_succ, Act.put, List.setIfInBounds_toArray, List.set_cons_zero, List.set_cons_succ]
          refine wpAnyH_done (by kernel_rfl) ?_ _
          have hsz5 := HB5.out.size
          have HQ : Hid (∀ X, QAt (wx.alloc X) w.heap.size (.slice oa vs.length oc) vs) := fun X => HK5.out.q.alloc X
          obtain ⟨i0, hi0, hz0, hz1, hz2⟩ := info_parts infoIs
          go_wp2_with (at_builtin; refine wpList_append_q _ (by rfl) (.tmp 99) (.tmp 101) 29 (by rfl) i0 _ 24 Tryd.underlying29 hi0 hz0 hz1 hz2 rfl w.heap.size _ vs (by rfl) (HQ.out _) (by rw [World.size_alloc]; omega) ⟨wx.heap.size, 0, none⟩ 1 (.slice va k vc) (by rfl) (cell_one_new _ _ _) rfl (by unfold maxLen; omega) (by omega) ?_; intro v' w6 hq6 hb6 hk6)
          have hba : Below wx.heap.size wx (wx.alloc (.cells #[.slice va k vc] 22)) := (Below.refl _ _).alloc (Nat.le_refl _) _
          exact ⟨⟨j + 1, by omega, by simp, cap, _, _, _, (HK5.out.below hba).push (IntsT.below HIT5.out hba) hq6 hk6, HIv.out.take k, by simp; omega, (HUP2.out _ _ HB5.out hba).trans hb6⟩, by simp [intOf]; omega⟩
        · have hkz : ¬ (k : Int) ≤ (F : Int) := by omega
          have HTK : Hid (∀ W, KAt w.heap.size p b cap u ow vs (.slice oa vs.length oc) W → Below w.heap.size w W → Calls Tryd.prog 8 #[.pointer (some ⟨p, 0, none⟩), .int .i64 (k : Int)] W fun e w' => e = .returned (.tuple #[.slice none 0 0, .iface 94 (.pointer (some (a 7)))]) ∧ KAt w.heap.size p b cap u ow vs (.slice oa vs.length oc) w' ∧ Below w.heap.size w w' ∧ w'.cell? ⟨lb, lo + j, none⟩ = some (.int .i64 (k : Int))) := fun W K hB =>
            (sp_take_full (k : Int) (by rw [← HF.out]; omega) _ W K.sp hul (HSE.out.below hB).c7).mono fun e w' ⟨he, hb⟩ => ⟨he, K.below hb, HUP2.out _ _ hB hb, HCX.out _ (HUP2.out _ _ hB hb)⟩
          go_wp2_with (first
            | (go_at_call 7; refine HFr.out.mono ?_; rintro e w2 ⟨rfl, K2, B2, c2⟩; clear HFr c1)
            | (go_at_call 8; refine (HTK.out _ K2 B2).mono ?_; rintro e w3 ⟨rfl, K3, B3, c3⟩; clear HTK K2 B2 c2))
          have HK3 : Hid _ := K3
          have HB3 : Hid _ := B3
          clear K3 B3
          go_quiet (fail)
          go_wp2_with fail
          have hb4 : Below w3.heap.size w3 (w3.drewN nq) := ⟨rfl, rfl, rfl, Nat.le_refl _, fun _ _ => rfl⟩
          exact ⟨⟨j + 1, by omega, by simp, cap, _, _, _, HK3.out.below hb4, HIv.out, by omega, HUP2.out _ _ HB3.out hb4⟩, by simp [intOf]; omega⟩
      · have hxn : x < 0 := by omega
        clear HCX0
        cases ow with
        | nil =>
          have hv0 : vs.length = 0 := by rw [K.len]; rfl
          have hvs : vs = [] := List.eq_nil_of_length_eq_zero hv0
          subst hvs
          clear K I hB
          go_wp2_with fail
          exact ⟨⟨j + 1, by omega, by simp, cap, _, _, _, HK.out, HIv.out, by simp, HB.out⟩, by simp [intOf]; omega⟩
        | cons x0 ow =>
          obtain ⟨va, vc, hv0, ht0⟩ := K.form (i := 0) (y := x0) rfl
          obtain ⟨g, off, rfl, cq0⟩ := K.q.at hv0
          rw [Nat.add_zero] at cq0
          obtain ⟨vr, rfl⟩ : ∃ vr, vs = .slice va x0.length vc :: vr := by
            cases vs with
            | nil => simp at hv0
            | cons y vr => exact ⟨vr, by simp only [List.getElem?_cons_zero, Option.some.injEq] at hv0; rw [hv0]⟩
          have hvr : (Value.slice va x0.length vc :: vr).length = vr.length + 1 := rfl
          have hx60 : x0.length ≤ 60 := by
            have h := I.free
            rw [List.flatten_cons, List.length_append] at h
            omega
          obtain ⟨ov, HOV⟩ : ∃ ov, Hid (ov = Value.slice (some ⟨g, off, none⟩) (Value.slice va x0.length vc :: vr).length oc) := ⟨_, (rfl : Value.slice (some ⟨g, off, none⟩) (Value.slice va x0.length vc :: vr).length oc = _)⟩
          have HKO : Hid (KAt w.heap.size p b cap u (x0 :: ow) (.slice va x0.length vc :: vr) ov wr) := by rw [HOV.out]; exact K
          have HQC : Hid (∀ W u', KAt w.heap.size p b cap u' (x0 :: ow) (.slice va x0.length vc :: vr) ov W → W.cell? ⟨g, off, none⟩ = some (.slice va x0.length vc)) := fun W u' K' => by
            rw [HOV.out] at K'
            obtain ⟨g', off', e, h⟩ := K'.q.at (i := 0) rfl
            simp only [Option.some.injEq, Addr.mk.injEq, and_true] at e
            obtain ⟨rfl, rfl⟩ := e
            exact h
          have HOI : Hid (∀ W u', KAt w.heap.size p b cap u' (x0 :: ow) (.slice va x0.length vc :: vr) ov W → Below w.heap.size w W → Calls Tryd.prog 10 #[.slice va x0.length vc] W fun e w' => ∃ v', e = .returned v' ∧ IntsT w' v' (ints x0) ∧ KAt w.heap.size p b cap u' (x0 :: ow) (.slice va x0.length vc :: vr) ov w' ∧ Below w.heap.size w w') := fun W u' K' hB' =>
            (ownInts_own (.slice va x0.length vc) (ints x0) W (K'.it 0 _ _ rfl rfl).at (by rw [ints_len]; omega)).mono fun e w' ⟨v', he, h1, h2⟩ => ⟨v', he, h1, K'.below h2, HUP2.out _ _ hB' h2⟩
          have HGI : Hid (∀ W v', KAt w.heap.size p b cap u (x0 :: ow) (.slice va x0.length vc :: vr) ov W → Below w.heap.size w W → IntsT W v' (ints x0) → Calls Tryd.prog 9 #[.pointer (some ⟨p, 0, none⟩), v'] W fun e w' => e = .returned .nilIface ∧ KAt w.heap.size p b cap (markR u false x0) (x0 :: ow) (.slice va x0.length vc :: vr) ov w' ∧ Below w.heap.size w w' ∧ w'.cell? ⟨g, off, none⟩ = some (.slice va x0.length vc)) := fun W v' K' hB' hv' => by
            obtain ⟨k1, k2, _⟩ := HIv.out.give
            exact (sp_give v' x0 _ _ W K'.sp hul hv' (by omega) (HSE.out.below hB').c1 (HSE.out.below hB').c5 (by rw [HIv.out.len]; exact k2) k1).mono fun e w' ⟨he, hS, hg⟩ => ⟨he, K'.grown hS hg, HUP.out _ _ hB' hg, HQC.out _ _ (K'.grown hS hg)⟩
          have HTL : Hid (∀ W, KAt w.heap.size p b cap (markR u false x0) (x0 :: ow) (.slice va x0.length vc :: vr) ov W → KAt w.heap.size p b cap (markR u false x0) ow vr (.slice (if oc = 1 then some ⟨g, off, none⟩ else (some (⟨g, off, none⟩ : Addr)).map fun a => a.add 1) vr.length (oc - 1)) W) := fun W K' => by
            rw [HOV.out] at K'
            exact ⟨K'.sp, K'.q.tail, by simpa using K'.len, fun i y z h1 h2 => K'.it (i + 1) y z (by simpa using h1) (by simpa using h2)⟩
          have hoc : vr.length + 1 ≤ oc := by
            rcases K.q with ⟨_, e, _⟩ | ⟨_, _, c', _, e, _, _, _, h, _⟩
            · simp at e
            · simp only [Value.slice.injEq] at e
              rw [e.2.2]; simpa using h
          clear K I hB
          by_cases hx00 : x0.length = 0
          · have hx0z : ¬ (0 : Int) < (x0.length : Int) := by omega
            clear hx00
            go_wp2_with (first
              | (go_at_call 10; refine (HOI.out _ _ HKO.out HB.out).mono ?_; rintro e w2 ⟨v2, rfl, t2, K2, B2⟩; (obtain ⟨va2, vc2, rfl, _⟩ := id t2))
              | (go_at_call 9; refine (HGI.out _ _ K2 B2 t2).mono ?_; rintro e w3 ⟨rfl, K3, B3, c3⟩; (have HK3 : Hid _ := K3); (have HB3 : Hid _ := B3); clear t2 K2 B2 K3 B3))
            exact ⟨⟨j + 1, by omega, by simp, cap, _, ow, vr, HTL.out _ HK3.out, HIv.out.give.2.2, by simp only [List.length_cons] at hvl; omega, HB3.out⟩, by simp [intOf]; omega⟩
          · have hx0z : (0 : Int) < (x0.length : Int) := by omega
            have HG2 : Hid (∀ W v', KAt w.heap.size p b cap (markR u false x0) (x0 :: ow) (.slice va x0.length vc :: vr) ov W → Below w.heap.size w W → IntsT W v' (ints x0) → Calls Tryd.prog 9 #[.pointer (some ⟨p, 0, none⟩), v'] W fun e w' => e = .returned (.iface 94 (.pointer (some (a 5)))) ∧ KAt w.heap.size p b cap (markR u false x0) (x0 :: ow) (.slice va x0.length vc :: vr) ov w' ∧ Below w.heap.size w w') := fun W v' K' hB' hv' => by
              have hag := HIv.out.again (fun h => hx00 (by rw [h]; rfl))
              obtain ⟨_, k2, _⟩ := HIv.out.give
              refine (sp_give_not v' (ints x0) _ _ W K'.sp (by rw [markR_len]; exact hul) hv'.at (by rw [ints_len]; omega) (HSE.out.below hB').c1 (HSE.out.below hB').c5 (.inr (by rw [ints_toNat]; exact hag))).mono fun e w' ⟨he, hb⟩ => ⟨?_, K'.below hb, HUP2.out _ _ hB' hb⟩
              rw [he]
              have ha : (ints x0).any (offB (markR u false x0).length) = false := by
                rw [List.any_eq_false]
                intro x hx
                obtain ⟨k, hk, rfl⟩ := List.mem_map.1 hx
                have := k2 k hk
                unfold offB
                rw [markR_len, HIv.out.len]
                simp only [decide_eq_true_eq]
                intro h
                have : (Int.ofNat k) = (k : Int) := rfl
                omega
              unfold giveE
              rw [ha, ints_toNat, hag]; rfl
            have HCD : Hid (∀ W, KAt w.heap.size p b cap (markR u false x0) (x0 :: ow) (.slice va x0.length vc :: vr) ov W → Below w.heap.size w W → Calls Tryd.prog 11 #[.iface 94 (.pointer (some (a 5))), .int .i64 6] W fun e w' => e = .returned (.bool true) ∧ KAt w.heap.size p b cap (markR u false x0) (x0 :: ow) (.slice va x0.length vc :: vr) ov w' ∧ Below w.heap.size w w') := fun W K' hB' =>
              (coded_sent a 5 6 W (HSE.out.below hB') (by decide)).mono fun e w' ⟨he, hb⟩ => ⟨he, K'.below hb, HUP2.out _ _ hB' hb⟩
            go_wp2_with (first
              | (go_at_call 10; refine (HOI.out _ _ HKO.out HB.out).mono ?_; rintro e w2 ⟨v2, rfl, t2, K2, B2⟩; clear HKO; (obtain ⟨va2, vc2, rfl, _⟩ := id t2))
              | (go_at_call 9; refine (HGI.out _ _ K2 B2 t2).mono ?_; rintro e w3 ⟨rfl, K3, B3, c3⟩; clear HGI t2 K2 B2)
              | (go_at_call 10; refine (HOI.out _ _ K3 B3).mono ?_; rintro e w4 ⟨v4, rfl, t4, K4, B4⟩; clear K3 B3 c3; (obtain ⟨va4, vc4, rfl, _⟩ := id t4))
              | (go_at_call 9; refine (HG2.out _ _ K4 B4 t4).mono ?_; rintro e w5 ⟨rfl, K5, B5⟩; clear K4 B4 t4)
              | (go_at_call 11; refine (HCD.out _ K5 B5).mono ?_; rintro e w6 ⟨rfl, K6, B6⟩; (have HK6 : Hid _ := K6); (have HB6 : Hid _ := B6); clear K5 B5 K6 B6))
            exact ⟨⟨j + 1, by omega, by simp, cap, _, ow, vr, HTL.out _ HK6.out, HIv.out.give.2.2, by simp only [List.length_cons] at hvl; omega, HB6.out⟩, by simp [intOf]; omega⟩
    · obtain rfl : j = l.length := by omega
      have HMK : Hid (∀ W, (Instr.makeSlice 36 (.int .i64 (N : Int)) (.int .i64 (N : Int))).run Tryd.prog W = .ok (.slice (some ⟨W.heap.size, 0, none⟩) N N) (W.alloc (.cells ((List.replicate N false).map Value.bool).toArray 4))) := fun W => run_make_bools N (by omega) W
      have hfl : ow.flatten.length ≤ N := by have := I.free; omega
      have hol : ow.length ≤ 60 := by rw [← K.len]; omega
      have HM0 := HMK.out wr
      clear K I hB HMK
      obtain ⟨C0, HC0⟩ : ∃ C0, Hid (C0 = ((List.replicate N false).map Value.bool).toArray) := ⟨_, (rfl : ((List.replicate N false).map Value.bool).toArray = _)⟩
      rw [← HC0.out] at HM0
      go_wp2_with fail
      clear HM0
      obtain ⟨sb, HSB⟩ : ∃ sb, Hid (sb = wr.heap.size) := ⟨_, (rfl : wr.heap.size = _)⟩
      rw [← HSB.out]
      go_loopw [14, 15] (fun m i ws => ∃ q : Nat, q ≤ ow.length ∧ i = .int .i64 q ∧ m = .int .i64 (((ow.take q).flatten).length : Int) ∧ RowB ws sb N (markR (List.replicate N false) true ((ow.take q).flatten)) ∧ Below sb wr ws) (fun _ i _ => ow.length - (intOf i).toNat)
      case atStart => exact ⟨0, Nat.zero_le _, rfl, rfl, by rw [HSB.out]; exact made_bools N (by omega) wr C0 HC0.out, by rw [HSB.out]; exact (Below.refl _ _).alloc (Nat.le_refl _) _⟩
      case round =>
        rename World => ws
        obtain ⟨q, hq, rfl, rfl, R, hbs⟩ := hrel
        have HR : Hid (RowB ws sb N (markR (List.replicate N false) true ((ow.take q).flatten))) := R
        have HBS : Hid (Below sb wr ws) := hbs
        clear R hbs
        by_cases hqo : q < ow.length
        · obtain ⟨y, hy⟩ : ∃ y, ow[q]? = some y := ⟨_, List.getElem?_eq_getElem hqo⟩
          have HY : Hid (ow[q]? = some y) := hy
          obtain ⟨ya, yc, hvq, hyt⟩ := HK.out.form hy
          obtain ⟨g, off, rfl, cq⟩ := HK.out.q.at hvq
          have HCQ : Hid (∀ W, Below sb wr W → W.cell? ⟨g, off + q, none⟩ = some (.slice ya y.length yc)) := fun W h => by
            rw [h.cell (p := ⟨g, off + q, none⟩) (by rw [HSB.out]; exact World.block_lt_of_cell? wr _ cq)]; exact cq
          have HCY : Hid (∀ (W : World) (k x : Nat), Below sb wr W → y[k]? = some x → ∃ yb yo, ya = some ⟨yb, yo, none⟩ ∧ W.cell? ⟨yb, yo + k, none⟩ = some (.int .i64 (x : Int))) := fun W k x h hx => by
            obtain ⟨yb, yo, e, c⟩ := ints_at hyt hx
            exact ⟨yb, yo, e, by rw [h.cell (p := ⟨yb, yo + k, none⟩) (by rw [HSB.out]; exact World.block_lt_of_cell? wr _ c)]; exact c⟩
          have hqv : (q : Int) < (vs.length : Int) := by rw [HK.out.len]; omega
          have hy60 : y.length ≤ 60 := by
            have h1 := preL_row hy
            have h2 : (preL ow q y.length).length ≤ ow.flatten.length := by
              rw [h1]
              conv => rhs; rw [← List.take_append_drop (q + 1) ow, List.flatten_append, List.length_append]
              omega
            unfold preL at h2
            rw [hy, Option.getD_some, List.take_length, List.length_append] at h2
            omega
          have hpre : ∀ k, (preL ow q k).length ≤ 200 := fun k => by
            unfold preL
            rw [List.length_append, List.length_take, hy, Option.getD_some]
            have : ((ow.take q).flatten).length ≤ ow.flatten.length := by
              conv => rhs; rw [← List.take_append_drop q ow, List.flatten_append, List.length_append]
              omega
            omega
          have HPRE : Hid (∀ k, (preL ow q k).length ≤ 200) := hpre
          clear hy hvq hyt cq hpre
          go_wp2_with fail
          go_loopw [14, 16] (fun m i ws => ∃ k : Nat, k ≤ y.length ∧ i = .int .i64 k ∧ m = .int .i64 ((preL ow q k).length : Int) ∧ RowB ws sb N (markR (List.replicate N false) true (preL ow q k)) ∧ Below sb wr ws) (fun _ i _ => y.length - (intOf i).toNat)
          case atStart => exact ⟨0, Nat.zero_le _, rfl, by rw [preL_zero], by rw [preL_zero]; exact HR.out, HBS.out⟩
          case round =>
            clear HR HBS
            rename World => wt
            obtain ⟨k, hk, rfl, rfl, R, hbs⟩ := hrel
            have HR : Hid (RowB wt sb N (markR (List.replicate N false) true (preL ow q k))) := R
            have HBS : Hid (Below sb wr wt) := hbs
            have cq := HCQ.out wt hbs
            have hp2 := HPRE.out k
            by_cases hky : k < y.length
            · obtain ⟨x, hx⟩ : ∃ x, y[k]? = some x := ⟨_, List.getElem?_eq_getElem hky⟩
              obtain ⟨yb, yo, rfl, cy⟩ := HCY.out wt k x hbs hx
              obtain ⟨hxn, hxf⟩ := seen_new HIv.out HY.out hx
              have cm := R.mark hxf
              have fm := R.frozen x
              have hxz : (x : Int) < (N : Int) := by omega
              have HN : Hid (preL ow q (k + 1) = preL ow q k ++ [x]) := preL_next HY.out hx
              obtain ⟨M, HM⟩ : ∃ M, Hid (M = (preL ow q k).length) := ⟨_, (rfl : (preL ow q k).length = _)⟩
              rw [← HM.out] at hp2 ⊢
              clear R hbs hx hxf
              go_wp2_with fail
              refine ⟨⟨k + 1, by omega, by simp, by rw [HN.out, List.length_append, ← HM.out]; simp, ?_, HBS.out.setCell (p := ⟨sb, x, none⟩) (Nat.le_refl _) _⟩, by simp [intOf]; omega⟩
              rw [HN.out, markR_snoc]
              exact HR.out.set x true
            · obtain rfl : k = y.length := by omega
              clear R hbs
              have HPR : Hid (preL ow q y.length = (ow.take (q + 1)).flatten) := preL_row HY.out
              go_wp2_with fail
              exact ⟨⟨q + 1, by omega, by simp, by rw [HPR.out], by rw [← HPR.out]; exact HR.out, HBS.out⟩, by simp [intOf]; omega⟩
        · obtain rfl : q = ow.length := by omega
          rw [List.take_length] at HR ⊢
          have hqv : ¬ ((ow.length : Int) < (vs.length : Int)) := by rw [HK.out.len]; omega
          have hbr : Below wr.heap.size wr ws := by rw [← HSB.out]; exact HBS.out
          have KS := HK.out.below hbr
          have HBw : Hid (Below w.heap.size w ws) := HUP2.out _ _ HB.out hbr
          have HUL : Hid ((usedR u).length = ow.flatten.length) := HIv.out.used
          have HFL : Hid ((freeR u).length + ow.flatten.length = N) := HIv.out.free
          have HUS := sp_used ws KS.sp hul
          have HFR : Hid (∀ W, Below ws.heap.size ws W → Calls Tryd.prog 7 #[.pointer (some ⟨p, 0, none⟩)] W fun e w' => e = .returned (.int .i64 ((N : Int) - (ow.flatten.length : Int))) ∧ Below w.heap.size w w') := fun W hW =>
            (sp_Free W (KS.sp.below hW) hul).mono fun e w' ⟨he, hb⟩ => ⟨by rw [he]; congr 2; have := HFL.out; omega, HUP2.out _ _ (HUP2.out _ _ HBw.out hW) hb⟩
          have HSN : Hid (∀ k, k ∈ usedR u → k < N ∧ (markR (List.replicate N false) true ow.flatten)[k]? = some true) := fun k hk => by
            have h1 := mem_used.1 hk
            have hkn : k < N := by rw [← HIv.out.len]; exact (List.getElem?_eq_some_iff.1 h1).1
            exact ⟨hkn, markR_in ((HIv.out.own k).1 h1) (by simpa using hkn)⟩
          clear KS hbr
          obtain ⟨M, HM⟩ : ∃ M, Hid (M = ow.flatten.length) := ⟨_, (rfl : ow.flatten.length = _)⟩
          rw [← HM.out] at hfl HUL HFR ⊢
          go_wp2_with (go_at_call 12; refine HUS.mono ?_; rintro e w5 ⟨uv, rfl, ho, hb5⟩; (have HO : Hid (OwnI w5 ws.heap.size uv (usedR u)) := ho); (have HB5 : Hid (Below ws.heap.size ws w5) := hb5); (obtain ⟨ua, uc, rfl⟩ := own_form ho); rw [HUL.out]; clear ho hb5)
          clear HUS
          go_loopw [19] (fun i wz => ∃ z : Nat, z ≤ M ∧ i = .int .i64 z ∧ wz = w5) (fun i _ => M - (intOf i).toNat)
          case atStart => exact ⟨0, Nat.zero_le _, rfl, rfl⟩
          case round =>
            rename World => wz
            obtain ⟨z, hz, rfl, rfl⟩ := hrel
            by_cases hzm : z < M
            · obtain ⟨k, hk⟩ : ∃ k, (usedR u)[z]? = some k := ⟨_, List.getElem?_eq_getElem (by rw [HUL.out]; exact hzm)⟩
              obtain ⟨ub, uo, rfl, cu⟩ := ints_at HO.out.t hk
              obtain ⟨hkn, hks⟩ := HSN.out k (List.mem_of_getElem? hk)
              have hkz : (k : Int) < (N : Int) := by omega
              have cs := (HR.out.below HB5.out).mark hks
              clear hk hks
              go_wp2_with fail
              exact ⟨⟨z + 1, by omega, by simp, by first | rfl | trivial⟩, by simp [intOf]; omega⟩
            · obtain rfl : z = M := by omega
              have wk : IntKind.i64.wrap ((N : Int) - (z : Int)) = (N : Int) - (z : Int) := by rw [IntKind.wrap_i64]; omega
              go_wp2_with (go_at_call 7; refine (HFR.out _ HB5.out).mono ?_; rintro e w6 ⟨rfl, hb6⟩)
              go_ret
              exact ⟨by simp, hb6⟩
end Go.Proofs.YtddmpecljcfjnaaDoor
