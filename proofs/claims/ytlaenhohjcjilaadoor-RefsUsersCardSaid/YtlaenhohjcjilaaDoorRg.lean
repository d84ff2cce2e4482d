/-
  The contract of package refs' lastFirst.
  Conditions: the packs lie in memory; what is asked of a pack is answered.
-/
import Derived.Test.YtlaenhohjcjilaaDoorRf
import Derived.Test.YtlaenhohjcjilaaDoorAppS
namespace Go.Proofs.YtlaenhohjcjilaaDoor
open Go.RowKit Go.Maps Go.Shelf
attribute [local go_sem] Oper.semAt_some

/-- lastFirst's round: the names so far lie in memory of their own. -/
structure LfI (w : World) (fv : Value) (s : Nat) (L : List ByteArray) (va : Option Addr) (n vc : Nat) (W : World) : Prop where
  low : Below w.heap.size w W
  fb : W.heap[s]? = some (.cells #[fv] 67 (0, 0))
  nb : ∃ na nc, W.heap[s + 1]? = some (.cells #[.slice na L.length nc] 23 (0, 0)) ∧ OwnS W (s + 3) (.slice na L.length nc) L
  bs : W.heap[s + 2]? = some (.cells #[.slice va n vc] 22 (0, 0))
theorem LfI.grown {w W W' : World} {fv : Value} {s n vc : Nat} {L : List ByteArray} {va : Option Addr} {row : Option Nat} (h : LfI w fv s L va n vc W) (hg : W.grownBy W' row) (hr : ∀ r, row = some r → s + 3 ≤ r ∧ ∃ o : Obj, W.heap[r]? = some o ∧ o.isCells = false) (h1 : w.heap.size ≤ s) (h2 : s + 3 ≤ W.heap.size) : LfI w fv s L va n vc W' := by
  have k : ∀ j, j < s + 3 → W'.heap[j]? = W.heap[j]? := fun j hj => hg.block j (by omega) (fun e => by have := (hr j e.symm).1; omega)
  obtain ⟨na, nc, e1, e2⟩ := h.nb
  refine ⟨h.low.grown hg (by omega) (fun r e => by have := (hr r e).1; omega), (k _ (by omega)).trans h.fb, ⟨na, nc, (k _ (by omega)).trans e1, e2.ext fun g cur _ _ hh => ?_⟩, (k _ (by omega)).trans h.bs⟩
  exact grownBy_keeps_cells hg (fun r e => (hr r e).2) hh rfl
theorem LfI.below {w W W' : World} {fv : Value} {s n vc : Nat} {L : List ByteArray} {va : Option Addr} (h : LfI w fv s L va n vc W) (hb : Below W.heap.size W W') (h1 : w.heap.size ≤ s) (h2 : s + 3 ≤ W.heap.size) : LfI w fv s L va n vc W' := by
  obtain ⟨na, nc, e1, e2⟩ := h.nb
  exact ⟨h.low.trans (hb.mono (by omega)), (hb.block _ (by omega)).trans h.fb, ⟨na, nc, (hb.block _ (by omega)).trans e1, e2.below hb⟩, (hb.block _ (by omega)).trans h.bs⟩
def lfL (f : Pk → Bool) (l : List Pk) : List ByteArray := (l.filter f).map Pk.name
theorem lfL_snoc (f : Pk → Bool) {w : World} (pre : List (Nat × PkV w)) (x : Nat × PkV w) : lfL f (pkL (pre ++ [x])) = lfL f (pkL pre) ++ if f x.2.pk = true then [x.2.pk.name] else [] := by
  unfold lfL pkL
  rw [List.map_append, List.filter_append, List.map_append]
  congr 1
  cases hf : f x.2.pk <;> simp [hf]
theorem lfL_len (f : Pk → Bool) {w : World} (pre : List (Nat × PkV w)) : (lfL f (pkL pre)).length ≤ pre.length := by
  unfold lfL pkL
  rw [List.length_map]
  exact Nat.le_trans (List.length_filter_le _ _) (by rw [List.length_map]; exact Nat.le_refl _)

set_option maxRecDepth 100000 in
set_option maxHeartbeats 2000000 in
theorem lastFirst_any (g c : Nat) (f : Pk → Bool) (v : Value) (l : List Pk) (w : World) (hv : PksIn w v l) (hl : l.length ≤ 100) (eg : ∀ args w, (callFunc g args).run Tryd.prog w = .ok (.enter g args) w)
    (hf : ∀ (vs : List (PkV w)), vs.map PkV.pk = l → ∀ x : PkV w, ∀ W, Below w.heap.size w W → Calls Tryd.prog g #[.agg #[.string x.pk.name, .slice x.ua x.pk.refs.length x.uc, .string x.kd, .string x.dt, .bool x.ex, .slice x.ka x.kn x.kc], .pointer (some ⟨c, 0, none⟩)] W fun e w' => e = .returned (.bool (f x.pk)) ∧ Below W.heap.size W w') :
    Calls Tryd.prog 30 #[v, .func (.func g) #[] #[.pointer (some ⟨c, 0, none⟩)]] w fun e w' => ∃ va vc, e = .returned (.slice va (lf l f).length vc) ∧ OwnS w' w.heap.size (.slice va (lf l f).length vc) (lf l f) ∧ Below w.heap.size w w' := by
  refine (callsIn_wide (n := 5)).1 ?_
  obtain ⟨vs, el, ad, cap, rfl, hc⟩ := hv
  have HF : Hid (∀ x : PkV w, ∀ W, Below w.heap.size w W → Calls Tryd.prog g #[.agg #[.string x.pk.name, .slice x.ua x.pk.refs.length x.uc, .string x.kd, .string x.dt, .bool x.ex, .slice x.ka x.kn x.kc], .pointer (some ⟨c, 0, none⟩)] W fun e w' => e = .returned (.bool (f x.pk)) ∧ Below W.heap.size W w') := hf vs el
  have HVL : Hid (vs.length = l.length) := show _ = _ by rw [← el, List.length_map]
  have HC : Hid (PksAt w (.slice ad vs.length cap) vs) := ⟨ad, cap, rfl, hc⟩
  have HEL : Hid (vs.map PkV.pk = l) := el
  clear hc el hf
  refine callsIn_of_wp_marks Tryd.func30 rfl trivial ?_ rfl
  simp only [Tryd.ntmps30, List.size_toArray, List.length_cons, List.length_nil, Nat.reduceAdd, Nat.reduceSub, Array.replicate_succ, Array.replicate_zero, List.push_toArray, List.append_toArray, List.nil_append, List.cons_append]
  obtain ⟨fv, hfv⟩ : ∃ fv, fv = Value.func (.func g) #[] #[.pointer (some ⟨c, 0, none⟩)] := ⟨_, rfl⟩
  rw [← hfv]
  obtain ⟨s, hs⟩ : ∃ s, s = w.heap.size := ⟨_, rfl⟩
  obtain ⟨w3, hw3⟩ : ∃ w3, w3 = (w.alloc (.cells #[fv] 67)).alloc (.cells #[.slice none 0 0] 23) := ⟨_, rfl⟩
  have z3 : w3.heap.size = s + 2 := by rw [hw3, hs]; simp
  have b3 : Below w.heap.size w w3 := by rw [hw3]; exact ((Below.refl _ _).alloc (Nat.le_refl _) _).alloc (by simp) _
  have q0 : w3.heap[s]? = some (.cells #[fv] 67 (0, 0)) := by
    rw [hw3, hs, Below.heap_alloc _ _ _ (by simp)]; exact heap_alloc_last _ _
  have q1 : w3.heap[s + 1]? = some (.cells #[.slice none 0 0] 23 (0, 0)) := by
    have h := heap_alloc_last (w.alloc (.cells #[fv] 67)) (.cells #[.slice none 0 0] 23)
    rw [World.size_alloc, ← hs, ← hw3] at h
    exact h
  have HS : Hid (s = w.heap.size) := hs
  have HW3 : Hid (w3 = (w.alloc (.cells #[fv] 67)).alloc (.cells #[.slice none 0 0] 23)) := hw3
  have HFV : Hid (fv = Value.func (.func g) #[] #[.pointer (some ⟨c, 0, none⟩)]) := hfv
  have HB := pback_in Fence.wide 4 trivial rfl ad vs.length cap w3
  have HQ0 : Hid _ := q0
  have HQ1 : Hid _ := q1
  have HB3 : Hid _ := b3
  have HZ3 : Hid _ := z3
  clear hs hw3 hfv q0 q1 b3 z3
  gi_wp2_with fail
  rw [← HW3.out, ← HS.out]
  refine ⟨trivial, ?_⟩
  refine CallsIn.mono HB ?_
  rintro e w4 ⟨rfl, hw4⟩
  rw [HZ3.out]
  have z4 : w4.heap.size = s + 3 := by rw [hw4, World.size_alloc, HZ3.out]
  have b4 : Below w3.heap.size w3 w4 := by rw [hw4]; exact (Below.refl _ _).alloc (Nat.le_refl _) _
  have r2 : w4.heap[s + 2]? = some (.cells #[.slice ad vs.length cap] 22 (0, 0)) := by
    rw [hw4, ← HZ3.out]; exact heap_alloc_last _ _
  have HR2 : Hid _ := r2
  have H0I : Hid (LfI w fv s [] ad vs.length cap w4) := ⟨HB3.out.trans (b4.mono HB3.out.size), (b4.block _ (by rw [HZ3.out]; omega)).trans HQ0.out, ⟨none, 0, (b4.block _ (by rw [HZ3.out]; omega)).trans HQ1.out, OwnS.nil _ _⟩, r2⟩
  have hws : w.heap.size ≤ s := by rw [HS.out]; exact Nat.le_refl _
  clear hw4 HB b4 r2 HQ0 HQ1 HB3 HZ3 HW3
  gi_wp2_with fail
  refine wpIn_rangeFunc_ownH rfl (by omega) (gf := 58) (lb := #[.pointer (some ⟨s + 2, 0, none⟩)]) rfl trivial (enters_of Tryd.func58 (by kernel_rfl) rfl)
    (pback_stops Fence.wide 4 trivial rfl (by omega) (s + 2) ad cap vs (by rw [HVL.out]; exact hl) HC.out w4 H0I.out.low HR2.out) KpP.trans
    (fun W l' o o' hl' h1 h2 h3 => ⟨belowK_b (w := w4) (by omega) W l' o o' hl' h1 h2 h3, World.putObj_heap_other (by omega)⟩) (Below.refl _ _) (fun _ => rfl)
    (fun pre W => LfI w fv s (lfL f (pkL pre)) ad vs.length cap W ∧ s + 3 ≤ W.heap.size) (fun _ _ _ => False)
    (fun pre W W' row h hg hr => ⟨h.1.grown hg (fun r e => by rw [← z4]; exact hr r e) hws h.2, Nat.le_trans h.2 hg.size⟩) (fun _ _ _ _ _ h _ _ => h) ⟨H0I.out, by omega⟩
    (fun x a' W => ∃ Bx, s + 3 ≤ Bx ∧ W.heap[Bx]? = some (.cells #[.string x.2.pk.name, .slice x.2.ua x.2.pk.refs.length x.2.uc, .string x.2.kd, .string x.2.dt, .bool x.2.ex, .slice x.2.ka x.2.kn x.2.kc] 49 (0, 0)) ∧ a' = { tmps := #[.slice ad vs.length cap, fv, undef, .pointer (some ⟨s, 0, none⟩), .slice none 0 0, .pointer (some ⟨s + 1, 0, none⟩), undef, .pointer (some ⟨Bx, 0, none⟩), .slice ad vs.length cap, .func (.func 58) #[] #[.pointer (some ⟨s + 2, 0, none⟩)], .int .i64 (x.1 : Int), .agg #[.string x.2.pk.name, .slice x.2.ua x.2.pk.refs.length x.2.uc, .string x.2.kd, .string x.2.dt, .bool x.2.ex, .slice x.2.ka x.2.kn x.2.kc], undef, undef, undef, undef, undef, undef, undef, undef, undef], defers := [] })
    (fun x a' _ X Y row hs hg hr => by obtain ⟨Bx, h1, h2, h3⟩ := hs; exact ⟨Bx, h1, (grownBy_keeps_cells hg (fun r e => (hr r e).2) h2 rfl).trans h2, h3⟩)
    ?assign ?body ?done ?stop
  case assign =>
    rintro l' pre x W K ⟨hI, hsz⟩ hK
    have HII : Hid _ := hI
    clear hI
    dsimp only [encP]
    gi_wp2
    have hbA : Below W.heap.size W (W.alloc (.cells #[.string x.2.pk.name, .slice x.2.ua x.2.pk.refs.length x.2.uc, .string x.2.kd, .string x.2.dt, .bool x.2.ex, .slice x.2.ka x.2.kn x.2.kc] 49)) := (Below.refl _ W).alloc (Nat.le_refl _) _
    exact hK _ _ ((KeepsOthers.alloc _ _).from _) ⟨hbA.mono (by omega), hbA.block _ (by omega)⟩ ⟨HII.out.below hbA hws hsz, Nat.le_trans hsz hbA.size⟩ ⟨W.heap.size, hsz, heap_alloc_last W _, rfl⟩
  case body =>
    rintro l' pre x a' W hl' ⟨r, hr⟩ ⟨hI, hsz⟩ ⟨Bx, hBx, bX, rfl⟩ hlt
    have c0 : W.cell? ⟨Bx, 0, none⟩ = some (.string x.2.pk.name) := by rw [cell_of_row _ _ _ _ _ _ bX]; rfl
    have c1 : W.cell? ⟨Bx, 1, none⟩ = some (.slice x.2.ua x.2.pk.refs.length x.2.uc) := by rw [cell_of_row _ _ _ _ _ _ bX]; rfl
    have c2 : W.cell? ⟨Bx, 2, none⟩ = some (.string x.2.kd) := by rw [cell_of_row _ _ _ _ _ _ bX]; rfl
    have c3 : W.cell? ⟨Bx, 3, none⟩ = some (.string x.2.dt) := by rw [cell_of_row _ _ _ _ _ _ bX]; rfl
    have c4 : W.cell? ⟨Bx, 4, none⟩ = some (.bool x.2.ex) := by rw [cell_of_row _ _ _ _ _ _ bX]; rfl
    have c5 : W.cell? ⟨Bx, 5, none⟩ = some (.slice x.2.ka x.2.kn x.2.kc) := by rw [cell_of_row _ _ _ _ _ _ bX]; rfl
    have ck : W.cell? ⟨s, 0, none⟩ = some (Value.func (.func g) #[] #[.pointer (some ⟨c, 0, none⟩)]) := by rw [← HFV.out, cell_of_row _ _ _ _ _ _ hI.fb]; rfl
    obtain ⟨L, HL⟩ : ∃ L, Hid (L = lfL f (pkL pre)) := ⟨_, (rfl : lfL f (pkL pre) = _)⟩
    rw [← HL.out] at hI
    have HLen : Hid (L.length ≤ pre.length) := by rw [HL.out]; exact lfL_len f pre
    have HSn : Hid (lfL f (pkL (pre ++ [x])) = L ++ if f x.2.pk = true then [x.2.pk.name] else []) := by rw [HL.out]; exact lfL_snoc f pre x
    have HH : Hid _ := HF.out x.2 W hI.low
    have HII : Hid (LfI w fv s L ad vs.length cap W) := hI
    have HBX : Hid _ := bX
    have HLT : Hid (pre.length < vs.length) := hlt
    clear hI bX hr hlt hl'
    gi_wp2_with fail
    refine ⟨trivial, ?_⟩
    refine CallsIn.mono (CallsIn.inRound _ (callsIn_wide.2 HH.out)) ?_
    rintro e w5 ⟨rfl, hb5⟩
    have HI5 : Hid (LfI w fv s L ad vs.length cap w5) := HII.out.below hb5 hws hsz
    have hX5 := (hb5.block _ (lt_of_row HBX.out)).trans HBX.out
    have d0 : w5.cell? ⟨Bx, 0, none⟩ = some (.string x.2.pk.name) := by rw [cell_of_row _ _ _ _ _ _ hX5]; rfl
    have HB5 : Hid (Below W.heap.size W w5) := hb5
    clear hb5 hX5 c0 c1 c2 c3 c4 c5 ck
    have h5s := HB5.out.size
    cases hm : f x.2.pk with
    | false =>
      rw [hm] at HSn
      clear hm
      gi_wp2_with fail
      refine ⟨keepsFrom_below HB5.out, ⟨HB5.out.mono (by omega), HB5.out.block _ (by omega)⟩, ?_, by omega⟩
      rw [HSn.out]
      simp only [Bool.false_eq_true, if_false, List.append_nil]
      exact HI5.out
    | true =>
      rw [hm] at HSn
      clear hm
      obtain ⟨na, nc, hnb, hown⟩ := HI5.out.nb
      have ck : w5.cell? ⟨s + 1, 0, none⟩ = some (.slice na L.length nc) := by rw [cell_of_row _ _ _ _ _ _ hnb]; rfl
      obtain ⟨w6, hw6⟩ : ∃ w6, w6 = w5.alloc (.cells #[.string x.2.pk.name] 9) := ⟨_, rfl⟩
      have b6 : Below w5.heap.size w5 w6 := by rw [hw6]; exact (Below.refl _ _).alloc (Nat.le_refl _) _
      have q6 : w6.heap[w5.heap.size]? = some (.cells #[.string x.2.pk.name] 9 (0, 0)) := by rw [hw6]; exact heap_alloc_last _ _
      have z6 : w6.heap.size = w5.heap.size + 1 := by rw [hw6]; simp
      have HT6 : Hid (Texts w6 (.slice (some ⟨w5.heap.size, 0, none⟩) 1 1) [x.2.pk.name]) := one_text q6 1
      have HO6 : Hid (OwnS w6 (s + 3) (.slice na L.length nc) L) := hown.below b6
      have HNB6 : Hid (w6.heap[s + 1]? = some (.cells #[.slice na L.length nc] 23 (0, 0))) := (b6.block _ (by omega)).trans hnb
      have HI6 : Hid (LfI w fv s L ad vs.length cap w6) := HI5.out.below b6 hws (by omega)
      have HB6 : Hid (Below W.heap.size W w6) := HB5.out.trans (b6.mono h5s)
      have HW6 : Hid (w6 = w5.alloc (.cells #[.string x.2.pk.name] 9)) := hw6
      have HL1 : Hid (L.length + [x.2.pk.name].length ≤ 100000) := by have := HLen.out; have := HLT.out; have := HVL.out; show _ + 1 ≤ _; omega
      have HS6 : Hid (s + 3 ≤ w6.heap.size) := by show _ ≤ _; omega
      clear hw6 b6 q6 hown hnb z6
      gi_wp2_with (gi_at_builtin; rw [← HW6.out]; refine wpListIn_appS _ (by rfl) _ _ (by rfl) (s + 3) (.slice na L.length nc) (.slice (some ⟨w5.heap.size, 0, none⟩) 1 1) L [x.2.pk.name] (by rfl) (by rfl) HO6.out HT6.out HL1.out HS6.out ?_; intro va7 vc7 w7 h7 g7; (have H7 : Hid (OwnS w7 (s + 3) (.slice va7 (L.length + [x.2.pk.name].length) vc7) (L ++ [x.2.pk.name])) := h7); (have G7 : Hid (w6.grownBy w7 (Value.slice na L.length nc).ownBlock) := g7); (have n7 : w7.heap[s + 1]? = some (.cells #[.slice na L.length nc] 23 (0, 0)) := ((g7.block (s + 1) (by have := HS6.out; omega) (fun e => by have := (HO6.out.block e.symm).1; omega)).trans HNB6.out)); (have k7 : w7.cell? ⟨s + 1, 0, none⟩ = some (.slice na L.length nc) := by rw [cell_of_row _ _ _ _ _ _ n7]; rfl); (have f7 : w7.frozen? ⟨s + 1, 0, none⟩ = false := by simp [World.frozen?, n7]); (have N7 : Hid (w7.heap[s + 1]? = some (.cells #[.slice na L.length nc] 23 (0, 0))) := n7); clear h7 g7 n7)
      have gb : ∀ k, k < w6.heap.size → k < s + 3 → w7.heap[k]? = w6.heap[k]? := fun k h1 h2 => G7.out.block k h1 (fun e => by have := (HO6.out.block e.symm).1; omega)
      have s6 := HS6.out
      have s67 := G7.out.size
      have s56 := HB6.out.size
      have sc : ∀ k, k ≠ s + 1 → (w7.setCell ⟨s + 1, 0, none⟩ (.slice va7 (L.length + 1) vc7)).heap[k]? = w7.heap[k]? := fun k hk => Below.heap_setCell _ _ _ _ hk
      have hsz8 : (w7.setCell ⟨s + 1, 0, none⟩ (.slice va7 (L.length + 1) vc7)).heap.size = w7.heap.size := by simp [World.setCell]
      have hlow : ∀ {B : Nat} {X : World}, Below B X w6 → B ≤ s → Below B X (w7.setCell ⟨s + 1, 0, none⟩ (.slice va7 (L.length + 1) vc7)) := fun hX hB => (hX.grown G7.out (by omega) (fun k e => by have := (HO6.out.block e).1; omega)).setCell (by simp only; omega) _
      refine ⟨((keepsFrom_below HB6.out).trans ((KeepsOthers.of_grownBy G7.out (fun j o e ho => ?_)).from _)).trans ((KeepsOthers.setCell _ _ _).from _), ⟨hlow (HB6.out.mono (by omega)) (by omega), ?_⟩, ?_, by omega⟩
      · obtain ⟨cur, hc⟩ := (HO6.out.block e).2
        rw [hc] at ho
        obtain rfl := Option.some.inj ho
        rfl
      · rw [sc _ (by omega), gb _ (by omega) (by omega)]
        exact HB6.out.block _ (by omega)
      · rw [HSn.out]
        simp only [if_true]
        refine ⟨hlow HI6.out.low hws, ?_, ⟨va7, vc7, ?_, ?_⟩, ?_⟩
        · rw [sc _ (by omega), gb _ (by omega) (by omega)]; exact HI6.out.fb
        · rw [List.length_append]
          have := N7.out
          simp [World.setCell, Array.getElem?_modify, this]
        · rw [List.length_append]
          exact H7.out.ext fun k cur _ hk _ => sc k (by omega)
        · rw [sc _ (by omega), gb _ (by omega) (by omega)]; exact HI6.out.bs
  case done =>
    rintro Dd ys W hD rfl ⟨hI, hsz⟩ hK
    have e1 : lfL f (pkL (comesP vs vs.length)) = lf l f := by
      unfold lfL pkL lf
      rw [comesP_pk, HEL.out, HVL.out, List.take_of_length_le (by simp)]
    rw [e1] at hI
    obtain ⟨na, nc, hnb, hown⟩ := hI.nb
    have ck : W.cell? ⟨s + 1, 0, none⟩ = some (.slice na (lf l f).length nc) := by rw [cell_of_row _ _ _ _ _ _ hnb]; rfl
    have HII : Hid _ := hI
    have HK : Hid _ := hK
    have HO : Hid (OwnS W (s + 3) (.slice na (lf l f).length nc) (lf l f)) := hown
    clear hI hK e1 hown hnb
    gi_wp2
    refine ⟨by simp, .inl ⟨_, _, rfl, run_takeDeferred HK.out, ?_⟩⟩
    have hgp := grownBy_putObj' W Dd (.deferred none)
    refine ⟨_, results_tmp rfl _ _ _, na, nc, rfl, (HO.out.ext fun k cur _ _ hh => ?_).base (by omega), belowK_b (w := w) (Nat.le_refl _) W Dd _ _ (by omega) HK.out rfl rfl |> fun h => HII.out.low.trans h⟩
    exact grownBy_keeps_cells hgp (fun r e => by cases e; exact ⟨_, HK.out, rfl⟩) hh rfl
  case stop =>
    rintro Dd c pre W hD _ h _
    exact h.elim
end Go.Proofs.YtlaenhohjcjilaaDoor
