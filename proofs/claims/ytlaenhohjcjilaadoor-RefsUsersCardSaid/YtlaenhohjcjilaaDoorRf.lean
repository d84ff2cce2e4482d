/-
  The contracts of package refs' need and lastFirst.
  Conditions: the packs and the names lie in memory, the sentinels hold what the program's text lays.
-/
import Derived.Test.YtlaenhohjcjilaaDoorRe
namespace Go.Proofs.YtlaenhohjcjilaaDoor
open Go.RowKit Go.Maps Go.Shelf
attribute [local go_sem] Oper.semAt_some

/-- What need answers. -/
def NeedPost (a : Nat → Addr) (l : List Pk) (names : List ByteArray) (w : World) (e : Ending) (w' : World) : Prop := Below w.heap.size w w' ∧
  ((∃ f ev, knw l names = some f ∧ e = .returned (.tuple #[.map none, ev]) ∧ FltV a w' (some f) ev) ∨ (knw l names = none ∧ ∃ mb, e = .returned (.tuple #[.map (some mb), .nilIface]) ∧ w.heap.size ≤ mb ∧ SetAt w' mb (needR l names)))
/-- need's round. -/
structure NdI (w : World) (mb bx Bs : Nat) (S : List ByteArray) (va : Option Addr) (n vc : Nat) (W : World) : Prop where
  low : Below w.heap.size w W
  set : SetAt W mb S
  box : W.heap[bx]? = some (.cells #[.map (some mb)] 55 (0, 0))
  bs : W.heap[Bs]? = some (.cells #[.slice va n vc] 22 (0, 0))
theorem NdI.ext {w W W' : World} {mb bx Bs B n vc : Nat} {S : List ByteArray} {va : Option Addr} (h : NdI w mb bx Bs S va n vc W) (hb : Below B W W') (h1 : w.heap.size ≤ B) (h2 : mb < B) (h3 : bx < B) (h4 : Bs < B) : NdI w mb bx Bs S va n vc W' :=
  ⟨h.low.trans (hb.mono h1), h.set.keep (hb.block _ h2), (hb.block _ h3).trans h.box, (hb.block _ h4).trans h.bs⟩
theorem ownFrom_ext {β : Type} {B : Nat} {I : β → World → Prop} (h : ∀ s W W', I s W → Below B W W' → B ≤ W.heap.size → I s W') (hs : ∀ s W, I s W → B ≤ W.heap.size) : OwnFrom B I := fun s W W' _ hI hg hr =>
  h s W W' hI ((Below.refl B W).grown hg (hs s W hI) (fun k e => (hr k e).1)) (hs s W hI)

def pkL {w : World} (pre : List (Nat × PkV w)) : List Pk := pre.map fun p => p.2.pk
theorem ndl_len {w : World} (names : List ByteArray) : ∀ (pre : List (Nat × PkV w)), ((pkL pre).foldl nd names).length ≤ names.length + 25 * pre.length := fun pre => by
  unfold pkL
  induction pre generalizing names with
  | nil => simp
  | cons x pre ih =>
    rw [List.map_cons, List.foldl_cons, List.length_cons]
    have h1 := ih (nd names x.2.pk)
    have h2 : (nd names x.2.pk).length ≤ names.length + 25 := by
      unfold nd
      split
      · rw [List.length_append]; have := x.2.sl; omega
      · omega
    omega
theorem ndl_snoc {w : World} (names : List ByteArray) (pre : List (Nat × PkV w)) (x : Nat × PkV w) : (pkL (pre ++ [x])).foldl nd names = nd ((pkL pre).foldl nd names) x.2.pk := by
  unfold pkL
  rw [List.map_append, List.foldl_append]
  rfl
theorem keepsFrom_below {B : Nat} {W W' : World} (hb : Below W.heap.size W W') : KeepsFrom B W W' := ⟨hb.size, fun k _ _ hk _ => (hb.block k (lt_of_row hk)).trans hk⟩

set_option maxRecDepth 100000 in
set_option maxHeartbeats 2000000 in
theorem need_any (a : Nat → Addr) (v nv : Value) (l : List Pk) (names : List ByteArray) (w : World) (T : Sents a w) (hv : PksIn w v l) (hl : l.length ≤ 100) (hn : Texts w nv names) (hz : ∀ x ∈ names, x.size ≤ 1000) (hnl : names.length ≤ 10000) :
    Calls Tryd.prog 29 #[v, nv] w (NeedPost a l names w) := by
  have HKN : Hid (CallsIn Fence.wide 4 Tryd.prog 35 #[v, nv] w fun e w' => ∃ ev, e = .returned ev ∧ FltV a w' (knw l names) ev ∧ Below w.heap.size w w') := callsIn_wide.2 (known_any a v nv l names w T hv hl hn hz hnl)
  refine (callsIn_wide (n := 5)).1 ?_
  obtain ⟨na, nc, rfl, _⟩ := id hn
  obtain ⟨vs, el, ad, cap, rfl, hc⟩ := hv
  refine callsIn_of_wp_marks Tryd.func29 rfl trivial ?_ rfl
  simp only [Tryd.ntmps29, List.size_toArray, List.length_cons, List.length_nil, Nat.reduceAdd, Nat.reduceSub, Array.replicate_succ, Array.replicate_zero, List.push_toArray, List.append_toArray, List.nil_append, List.cons_append]
  have HVL : Hid (vs.length = l.length) := show _ = _ by rw [← el, List.length_map]
  have hmm := @run_makeMap Tryd.prog
  have HN : Hid (Texts w (.slice na names.length nc) names) := hn
  have HZ : Hid (∀ x ∈ names, x.size ≤ 1000) := hz
  have HC : Hid (PksAt w (.slice ad vs.length cap) vs) := ⟨ad, cap, rfl, hc⟩
  have HEL : Hid (vs.map PkV.pk = l) := el
  clear hn hz hc T el
  gi_wp2_with fail
  refine ⟨trivial, ?_⟩
  refine CallsIn.mono HKN.out ?_
  clear HKN
  rintro e w1 ⟨ev, rfl, hf, hb1⟩
  have HB1 : Hid (Below w.heap.size w w1) := hb1
  have HF : Hid (FltV a w1 (knw l names) ev) := hf
  clear hb1 hf
  cases hck : knw l names with
  | some f =>
    have HKW : Hid (knw l names = some f) := hck
    have HFF : Hid (∃ t p, ev = .iface t (.pointer p)) := by
      have := HF.out
      rw [hck] at this
      obtain ⟨_ | i, e⟩ := f
      · exact ⟨_, _, this⟩
      · obtain ⟨pb, h, _⟩ := this
        exact ⟨_, _, h⟩
    rw [hck] at HF
    obtain ⟨t, p, rfl⟩ := HFF.out
    clear hck HFF
    gi_wp2_with fail
    exact ⟨_, results_tmp2 rfl _ _ _, HB1.out, .inl ⟨f, _, HKW.out, rfl, HF.out⟩⟩
  | none =>
  have HKW : Hid (knw l names = none) := hck
  rw [hck] at HF
  obtain rfl : ev = .nilIface := HF.out
  clear HF hck
  have hw1 := HB1.out.size
  obtain ⟨s, hs⟩ : ∃ s, s = w1.heap.size := ⟨_, rfl⟩
  obtain ⟨W2, hW2⟩ : ∃ W2, W2 = (w1.alloc (.map #[] 0)).alloc (.cells #[.map (some w1.heap.size)] 55) := ⟨_, rfl⟩
  have z2 : W2.heap.size = s + 2 := by rw [hW2, hs]; simp
  have b2 : Below w1.heap.size w1 W2 := by rw [hW2]; exact ((Below.refl _ _).alloc (Nat.le_refl _) _).alloc (by simp) _
  have q1 : W2.heap[s + 1]? = some (.cells #[.map (some s)] 55 (0, 0)) := by
    have h := heap_alloc_last (w1.alloc (.map #[] 0)) (.cells #[.map (some w1.heap.size)] 55)
    rw [World.size_alloc, ← hW2, ← hs] at h
    exact h
  have m2 : SetAt W2 s [] := by
    rw [hW2, hs]
    exact (SetAt.made w1).keep (Below.heap_alloc _ _ _ (by simp))
  have HAD : Hid (CallsIn Fence.wide 4 Tryd.prog 25 #[.map (some s), .slice na names.length nc] W2 fun e w' => e = .returned (.tuple #[]) ∧ SetAt w' s ([] ++ names) ∧ W2.grownBy w' (some s) ∧ w'.heap.size = W2.heap.size) := callsIn_wide.2 (add_any _ names W2 m2 (HN.out.below (HB1.out.trans (b2.mono hw1))) HZ.out (by simp; omega))
  have HB2 : Hid (Below w.heap.size w W2) := HB1.out.trans (b2.mono hw1)
  have HQ1 : Hid _ := q1
  have hc1 : W2.cell? ⟨s + 1, 0, none⟩ = some (.map (some s)) := by rw [cell_of_row _ _ _ _ _ _ q1]; rfl
  have HS : Hid (s = w1.heap.size) := hs
  have HW2 : Hid (W2 = (w1.alloc (.map #[] 0)).alloc (.cells #[.map (some w1.heap.size)] 55)) := hW2
  clear m2 q1 b2 hs hW2
  gi_wp2_with fail
  rw [← HW2.out, ← HS.out]
  refine ⟨trivial, ?_⟩
  refine CallsIn.mono HAD.out ?_
  rintro e w3 ⟨rfl, hm3, hg3, hz3⟩
  have hq3 := (hg3.block (s + 1) (by omega) (by simp)).trans HQ1.out
  have HB3 : Hid (Below w.heap.size w w3) := below_by HB2.out hg3 (by rw [HS.out]; exact hw1) HB2.out.size
  rw [List.nil_append] at hm3
  have z3 : w3.heap.size = s + 2 := hz3.trans z2
  have hws : Hid (w.heap.size ≤ s) := by rw [HS.out]; exact hw1
  have HM3 : Hid (SetAt w3 s names) := hm3
  have HQ3 : Hid (w3.heap[s + 1]? = some (.cells #[.map (some s)] 55 (0, 0))) := hq3
  have HZ3 : Hid (w3.heap.size = s + 2) := z3
  clear hm3 hg3 hz3 hq3 z3 z2 HAD HW2 HS hc1 HQ1 HB2 HB1 hw1
  have HB := pback_in Fence.wide 4 trivial rfl ad vs.length cap w3
  gi_wp2_with fail
  refine ⟨trivial, ?_⟩
  refine CallsIn.mono HB ?_
  rintro e w4 ⟨rfl, hw4⟩
  rw [HZ3.out]
  have z4 : w4.heap.size = s + 3 := by rw [hw4, World.size_alloc, HZ3.out]
  have b4 : Below w3.heap.size w3 w4 := by rw [hw4]; exact (Below.refl _ _).alloc (Nat.le_refl _) _
  have r2 : w4.heap[s + 2]? = some (.cells #[.slice ad vs.length cap] 22 (0, 0)) := by
    rw [hw4, ← HZ3.out]; exact heap_alloc_last _ _
  have h0I : NdI w s (s + 1) (s + 2) names ad vs.length cap w4 := ⟨HB3.out.trans (b4.mono HB3.out.size), HM3.out.below b4, (b4.block _ (by rw [HZ3.out]; omega)).trans HQ3.out, r2⟩
  have HR2 : Hid _ := r2
  have H0I : Hid _ := h0I
  have hB : w.heap.size ≤ s + 3 := by have := hws.out; omega
  clear hw4 HB b4 r2
  gi_wp2_with fail
  refine wpIn_rangeFunc_ownH rfl (by omega) (gf := 58) (lb := #[.pointer (some ⟨s + 2, 0, none⟩)]) rfl trivial (enters_of Tryd.func58 (by kernel_rfl) rfl)
    (pback_stops Fence.wide 4 trivial rfl (by omega) (s + 2) ad cap vs (by rw [HVL.out]; exact hl) HC.out w4 H0I.out.low HR2.out) KpP.trans
    (fun W l' o o' hl' h1 h2 h3 => ⟨belowK_b (w := w4) (by omega) W l' o o' hl' h1 h2 h3, World.putObj_heap_other (by omega)⟩) (Below.refl _ _) (fun _ => rfl)
    (fun pre W => NdI w s (s + 1) (s + 2) ((pkL pre).foldl nd names) ad vs.length cap W ∧ s + 3 ≤ W.heap.size) (fun _ _ _ => False)
    (ownFrom_ext (fun pre W W' h hb hs => ⟨h.1.ext hb (by omega) (by omega) (by omega) (by omega), Nat.le_trans h.2 hb.size⟩) (fun pre W h => by rw [z4]; exact h.2)) (fun _ _ _ _ _ h _ _ => h) ⟨H0I.out, by omega⟩
    (fun x a' W => ∃ Bx, s + 3 ≤ Bx ∧ W.heap[Bx]? = some (.cells #[.string x.2.pk.name, .slice x.2.ua x.2.pk.refs.length x.2.uc, .string x.2.kd, .string x.2.dt, .bool x.2.ex, .slice x.2.ka x.2.kn x.2.kc] 49 (0, 0)) ∧ a' = { tmps := #[.slice ad vs.length cap, .slice na names.length nc, undef, undef, .map none, .nilIface, .nilIface, .pointer (some ⟨s + 1, 0, none⟩), undef, .pointer (some ⟨Bx, 0, none⟩), .slice ad vs.length cap, .slice na names.length nc, .nilIface, .nilIface, .bool false, undef, .map (some s), .map (some s), .slice na names.length nc, .tuple #[], .slice ad vs.length cap, .func (.func 58) #[] #[.pointer (some ⟨s + 2, 0, none⟩)], .int .i64 (x.1 : Int), .agg #[.string x.2.pk.name, .slice x.2.ua x.2.pk.refs.length x.2.uc, .string x.2.kd, .string x.2.dt, .bool x.2.ex, .slice x.2.ka x.2.kn x.2.kc], undef, undef, undef, undef, undef, undef, undef, undef, undef], defers := [] })
    (fun x a' _ X Y row hs hg hr => by obtain ⟨Bx, h1, h2, h3⟩ := hs; exact ⟨Bx, h1, (grownBy_keeps_cells hg (fun r e => (hr r e).2) h2 rfl).trans h2, h3⟩)
    ?assign ?body ?done ?stop
  case assign =>
    rintro l' pre x W K ⟨hI, hsz⟩ hK
    have HII : Hid _ := hI
    clear hI h0I
    dsimp only [encP]
    gi_wp2
    have hbA : Below W.heap.size W (W.alloc (.cells #[.string x.2.pk.name, .slice x.2.ua x.2.pk.refs.length x.2.uc, .string x.2.kd, .string x.2.dt, .bool x.2.ex, .slice x.2.ka x.2.kn x.2.kc] 49)) := (Below.refl _ W).alloc (Nat.le_refl _) _
    exact hK _ _ ((KeepsOthers.alloc _ _).from _) ⟨hbA.mono (by omega), hbA.block _ (by omega)⟩ ⟨HII.out.ext hbA (by omega) (by omega) (by omega) (by omega), Nat.le_trans hsz hbA.size⟩ ⟨W.heap.size, hsz, heap_alloc_last W _, rfl⟩
  case body =>
    rintro l' pre x a' W hl' ⟨r, hr⟩ ⟨hI, hsz⟩ ⟨Bx, hBx, bX, rfl⟩ hlt
    have cx : W.cell? ⟨Bx, 0, none⟩ = some (.string x.2.pk.name) := by rw [cell_of_row _ _ _ _ _ _ bX]; rfl
    have ck : W.cell? ⟨s + 1, 0, none⟩ = some (.map (some s)) := by rw [cell_of_row _ _ _ _ _ _ hI.box]; rfl
    obtain ⟨S0, HS0⟩ : ∃ S0, Hid (S0 = (pkL pre).foldl nd names) := ⟨_, (rfl : (pkL pre).foldl nd names = _)⟩
    rw [← HS0.out] at hI
    have HLen : Hid (S0.length ≤ names.length + 25 * pre.length) := by rw [HS0.out]; exact ndl_len names pre
    have HSn : Hid ((pkL (pre ++ [x])).foldl nd names = nd S0 x.2.pk) := by rw [HS0.out]; exact ndl_snoc names pre x
    have HH : Hid _ := has_any x.2.pk.name W hI.set (by have := x.2.sn; omega)
    have HII : Hid (NdI w s (s + 1) (s + 2) S0 ad vs.length cap W) := hI
    have HBX : Hid _ := bX
    have HLT : Hid (pre.length < vs.length) := hlt
    clear hI h0I bX hr hlt hl'
    gi_wp2_with fail
    refine ⟨trivial, ?_⟩
    refine CallsIn.mono (CallsIn.inRound _ (callsIn_wide.2 HH.out)) ?_
    rintro e w5 ⟨rfl, hb5⟩
    have HI5 : Hid (NdI w s (s + 1) (s + 2) S0 ad vs.length cap w5) := HII.out.ext hb5 (by omega) (by omega) (by omega) (by omega)
    have hX5 := (hb5.block _ (lt_of_row HBX.out)).trans HBX.out
    have cr : w5.cell? ⟨Bx, 1, none⟩ = some (.slice x.2.ua x.2.pk.refs.length x.2.uc) := by rw [cell_of_row _ _ _ _ _ _ hX5]; rfl
    have ck5 : w5.cell? ⟨s + 1, 0, none⟩ = some (.map (some s)) := by rw [cell_of_row _ _ _ _ _ _ HI5.out.box]; rfl
    have HB5 : Hid _ := hb5
    clear hb5 hX5 cx ck
    cases hm : memB x.2.pk.name S0 with
    | false =>
      have HE : Hid (nd S0 x.2.pk = S0) := show _ = _ by unfold nd; rw [if_neg (by rw [hm]; simp)]
      clear hm
      gi_wp2_with fail
      refine ⟨keepsFrom_below HB5.out, ⟨HB5.out.mono (by omega), HB5.out.block _ (by omega)⟩, ?_, Nat.le_trans hsz HB5.out.size⟩
      rw [HSn.out, HE.out]; exact HI5.out
    | true =>
      have HE : Hid (nd S0 x.2.pk = S0 ++ x.2.pk.refs) := show _ = _ by unfold nd; rw [if_pos hm]
      have HAD : Hid _ := add_any (.slice x.2.ua x.2.pk.refs.length x.2.uc) x.2.pk.refs w5 HI5.out.set (x.2.tx.below HI5.out.low) (fun y hy => by have := x.2.sr y hy; omega) (by have := HLen.out; have := x.2.sl; have := HLT.out; have := HVL.out; omega)
      clear hm
      gi_wp2_with fail
      refine ⟨trivial, ?_⟩
      refine CallsIn.mono (CallsIn.inRound _ (callsIn_wide.2 HAD.out)) ?_
      rintro e w6 ⟨rfl, hm6, hg6, hz6⟩
      have H6 : Hid (KeepsFrom w4.heap.size W w6 ∧ KpP w.heap.size (s + 2) W w6 ∧ NdI w s (s + 1) (s + 2) (nd S0 x.2.pk) ad vs.length cap w6 ∧ s + 3 ≤ w6.heap.size) := by
        have h5 := HB5.out.size
        have hw := hws.out
        refine ⟨(keepsFrom_below HB5.out).trans (KeepsFrom.of_grownBy hg6 (fun j e => by cases e; omega)), ⟨below_by (HB5.out.mono (by omega)) hg6 hw (by omega), ?_⟩, ⟨below_by HI5.out.low hg6 hw (by omega), by rw [HE.out]; exact hm6, (hg6.block _ (by omega) (by simp)).trans HI5.out.box, (hg6.block _ (by omega) (by simp)).trans HI5.out.bs⟩, by omega⟩
        exact (hg6.block _ (by omega) (by simp)).trans (HB5.out.block _ (by omega))
      clear hm6 hg6 hz6
      gi_wp2_with fail
      refine ⟨H6.out.1, H6.out.2.1, ?_, H6.out.2.2.2⟩
      rw [HSn.out]; exact H6.out.2.2.1
  case done =>
    rintro Dd ys W hD rfl ⟨hI, hsz⟩ hK
    have ck : W.cell? ⟨s + 1, 0, none⟩ = some (.map (some s)) := by rw [cell_of_row _ _ _ _ _ _ hI.box]; rfl
    have e1 : (pkL (comesP vs vs.length)).foldl nd names = needR l names := by
      unfold pkL
      rw [comesP_pk, HEL.out, HVL.out, ← needTo_all]; rfl
    rw [e1] at hI
    have HII : Hid _ := hI
    have HK : Hid _ := hK
    clear hI hK h0I e1
    gi_wp2
    refine ⟨by simp, .inl ⟨_, _, rfl, run_takeDeferred HK.out, ?_⟩⟩
    have hbp : Below (s + 3) W (W.putObj Dd (.deferred none)) := belowK_b (w := w4) (by omega) W Dd _ _ hD HK.out rfl rfl
    have hE := HII.out.ext hbp (by omega) (by omega) (by omega) (by omega)
    exact ⟨_, results_tmp2 rfl _ _ _, hE.low, .inr ⟨HKW.out, s, rfl, hws.out, hE.set⟩⟩
  case stop =>
    rintro Dd c pre W hD _ h _
    exact h.elim
end Go.Proofs.YtlaenhohjcjilaaDoor
