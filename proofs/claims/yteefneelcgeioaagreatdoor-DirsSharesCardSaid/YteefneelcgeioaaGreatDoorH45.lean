/-
  The walk of the law DirsShares.
  A row's wrap that keeps both what the listed variables hold and the world's shape; the library's MaxLen; a row of texts among the arguments; the first of the listed variables.
  What the rows' condition on the listed variables gives the laws of package dirs: ten sentinels, each in a row of its own.
  Conditions: those that each states.
-/
import Derived.Test.YteefneelcgeioaaGreatDoorH44
import Derived.Deep.RegionHeld3
import Derived.Test.YteefneelcgeioaaGreatDoorH20
import Derived.Test.YteefneelcgeioaaGreatDoorH01
import Derived.Handed
import Derived.SizedLaws
import Derived.Shelf.Vars
import Derived.Deep.Strs
import Derived.ProofKit
import Derived.Stop.LaidErr
import Derived.Test.YteefneelcgeioaaGreatDoorRows
import Derived.Test.YteefneelcgeioaaGreatDoorH39
namespace Go.Proofs.YteefneelcgeioaaGreatDoor
open Go.RowKit Go.Maps

/-- Boxes of nodes stay. -/
def NdKeep (W W' : World) : Prop := ∀ (k : Nat) (cs : Array Value), W.heap[k]? = some (.cells cs 32 (0, 0)) → W'.heap[k]? = some (.cells cs 32 (0, 0))
theorem NdKeep.of_below {W W' : World} (h : Below W.heap.size W W') : NdKeep W W' := fun k _ hk => (h.block k (Array.getElem?_eq_some_iff.1 hk).1).trans hk
theorem NdKeep.trans {W W' W'' : World} (h : NdKeep W W') (h' : NdKeep W' W'') : NdKeep W W'' := fun k cs hk => h' k cs (h k cs hk)
section
variable {a : Nat → Addr} {w0 W : World} {N dp tb bb sp sb cap mb m1 m2 j : Nat} {s : TSt} {tr : List (Option NTree)} {pt : List Tree}
theorem sh_put (E : DSn a w0) (S : DSt w0 N 11 dp tb bb sp sb cap mb m1 m2 j s tr pt W) (hj : j ≤ 900) (t : Tree) (ua : Option Addr) (uc : Nat) (hl : Lies w0 w0.heap.size 12 t.kids (.slice ua t.kids.length uc)) (hs : SmT 11 t) :
    Calls Tryz.prog 10 #[.agg #[.string t.kind, .string t.data, .bool t.exec, .slice ua t.kids.length uc]] W fun e w2 => ∃ xa xc, e = .returned (.agg #[.string t.kind, .string t.data, .bool t.exec, .slice xa t.kids.length xc]) ∧ Calls Tryz.prog 9 #[.pointer (some ⟨dp, 0, none⟩), .agg #[.string t.kind, .string t.data, .bool t.exec, .slice xa t.kids.length xc]] w2 fun e3 w3 => NdKeep W w3 ∧
      ((∃ p, e3 = .returned (.tuple #[.int .i64 0, .iface 235 p]) ∧ DSt w0 N 11 dp tb bb sp sb cap mb m1 m2 (j + 1) s tr pt w3) ∨ (e3 = .returned (.tuple #[.int .i64 (pt.length : Int), .nilIface]) ∧ ∃ s' x, DSt w0 N 11 dp tb bb sp sb cap mb m1 m2 (j + 1) s' (tr ++ [some x]) (pt ++ [t]) w3)) := by
  refine (own_own w0.heap.size 12 t _ W S.low.size (hl.below S.low (Nat.le_refl _))).mono ?_
  rintro e w2 ⟨u', he, hO, hb⟩
  obtain ⟨xa, xc, rfl⟩ := hO.form
  have S2 := S.below hb
  refine ⟨xa, xc, he, ?_⟩
  refine (ds_put E S2 (by omega) (by omega) t xa xc _ hO (fun b hb => hb.2) hs).mono ?_
  rintro e3 w3 ⟨hP, h⟩
  refine ⟨(NdKeep.of_below hb).trans fun k cs hk => hP.keeps S2 hk rfl (by decide), ?_⟩
  rcases h with ⟨p, he3, S3⟩ | ⟨he3, _, S3⟩
  · exact .inl ⟨p, he3, S3⟩
  · exact .inr ⟨he3, _, _, S3⟩
end
set_option maxRecDepth 100000 in
set_option maxHeartbeats 4000000 in
theorem dirsShares_any (a : Nat → Addr) (nA nB : Nat) (A B : Tree) (u v : Value) (w : World) (hA : Lies w w.heap.size nA A.kids u) (hB : Lies w w.heap.size nB B.kids v) (E : DSn a w) :
    Calls Tryz.prog 4 #[.agg #[.string A.kind, .string A.data, .bool A.exec, u], .agg #[.string B.kind, .string B.data, .bool B.exec, v]] w fun e w' => e = .returned (.bool true) ∧ Below w.heap.size w w' := by
  obtain ⟨ua, uc, rfl⟩ := hA.form
  obtain ⟨va, vc, rfl⟩ := hB.form
  obtain ⟨W2, HW2⟩ : ∃ W2, Hid (W2 = (w.alloc (.cells #[.string A.kind, .string A.data, .bool A.exec, .slice ua A.kids.length uc] 32)).alloc (.cells #[.string B.kind, .string B.data, .bool B.exec, .slice va B.kids.length vc] 32)) := ⟨_, (rfl : _ = _)⟩
  have hb2 : Below w.heap.size w W2 := by rw [HW2.out]; exact ((Below.refl _ w).alloc (Nat.le_refl _) _).trans (((Below.refl _ _).alloc (Nat.le_refl _) _).mono (by simp))
  have HB2 : Hid (Below w.heap.size w W2) := hb2
  have HX2 : Hid (W2.heap[w.heap.size]? = some (.cells #[.string A.kind, .string A.data, .bool A.exec, .slice ua A.kids.length uc] 32 (0, 0)) ∧ W2.heap[w.heap.size + 1]? = some (.cells #[.string B.kind, .string B.data, .bool B.exec, .slice va B.kids.length vc] 32 (0, 0))) := by
    rw [HW2.out]
    have e : (w.alloc (.cells #[.string A.kind, .string A.data, .bool A.exec, .slice ua A.kids.length uc] 32)).heap.size = w.heap.size + 1 := by simp
    refine ⟨?_, by rw [← e]; exact heap_alloc_last _ _⟩
    rw [Below.heap_alloc _ _ _ (by simp)]
    exact heap_alloc_last w _
  have HDR : Hid (Calls Tryz.prog 6 #[] W2 fun e w' => e = .returned (.bool true) ∧ Below W2.heap.size W2 w') := by
    obtain ⟨es, hes⟩ := E.sum
    have P2 := E.P.below hb2
    refine dired_any a es P2 P2.is.atB ((hb2.cell (World.block_lt_of_cell? w _ hes)).trans hes) ?_ ?_
    · obtain ⟨cs, ty, h1, h2⟩ := E.gB
      exact ⟨cs, ty, (hb2.block _ (Array.getElem?_eq_some_iff.1 h1).1).trans h1, h2⟩
    · obtain ⟨cs, ty, h1, h2⟩ := E.gS
      exact ⟨cs, ty, (hb2.block _ (Array.getElem?_eq_some_iff.1 h1).1).trans h1, h2⟩
  have HLA : Hid (∀ W, Below w.heap.size w W → Calls Tryz.prog 21 #[(.agg #[.string A.kind, .string A.data, .bool A.exec, .slice ua A.kids.length uc]), .int .i64 30] W fun e w' => ∃ z : Int, e = .returned (.int .i64 z) ∧ ((z = 1 ∨ z = 0) ∧ (z = 0 → SmT 11 A)) ∧ Below W.heap.size W w') := fun W hW => by
    refine (large_any w.heap.size nA 30 A _ W hW.size (hA.below hW (Nat.le_refl _)) (by omega)).mono fun e w' ⟨he, hb'⟩ => ⟨largeN 30 A, he, ?_, hb'⟩
    cases hL : largeB 30 A with
    | true => rw [largeN_yes hL]; exact ⟨.inl rfl, fun h => absurd h (by decide)⟩
    | false => rw [largeN_no hL]; exact ⟨.inr rfl, fun _ => SmT.of hA.fit hL (by omega)⟩
  have HLB : Hid (∀ W, Below w.heap.size w W → Calls Tryz.prog 21 #[(.agg #[.string B.kind, .string B.data, .bool B.exec, .slice va B.kids.length vc]), .int .i64 30] W fun e w' => ∃ z : Int, e = .returned (.int .i64 z) ∧ ((z = 1 ∨ z = 0) ∧ (z = 0 → SmT 11 B)) ∧ Below W.heap.size W w') := fun W hW => by
    refine (large_any w.heap.size nB 30 B _ W hW.size (hB.below hW (Nat.le_refl _)) (by omega)).mono fun e w' ⟨he, hb'⟩ => ⟨largeN 30 B, he, ?_, hb'⟩
    cases hL : largeB 30 B with
    | true => rw [largeN_yes hL]; exact ⟨.inl rfl, fun h => absurd h (by decide)⟩
    | false => rw [largeN_no hL]; exact ⟨.inr rfl, fun _ => SmT.of hB.fit hL (by omega)⟩
  have HTO : Hid (∀ W, Below w.heap.size w W → Calls Tryz.prog 8 #[.int .i64 512] W fun e w' => ∃ dp tb bb sp sb cap mb m1 m2 mw, e = .returned (.tuple #[.pointer (some ⟨dp, 0, none⟩), .pointer (some ⟨mw, 0, none⟩), .bool true]) ∧ NdKeep W w' ∧ DSt w 512 11 dp tb bb sp sb cap mb m1 m2 0 ⟨List.replicate 512 zb, List.replicate 512 false, []⟩ [] [] w') := fun W hW =>
    (dirsOf_any w.heap.size 512 11 (fun _ => 0) (by omega) (by omega) W hW.size).mono fun e w' ⟨dp, tb, bb, sp, sb, cap, mb, m1, m2, md, mt, mw, he, D, T, _, hb⟩ =>
      ⟨dp, tb, bb, sp, sb, cap, mb, m1, m2, mw, he, .of_below hb, ⟨0, _, Nat.le_refl _, D⟩, ⟨0, Nat.zero_le _, T⟩, LInv.start 512 12, ⟨Nat.le_refl _, fun t ht => by cases ht⟩, hW.trans (hb.mono hW.size)⟩
  have HAA : Hid (SmT 11 A → Lies w w.heap.size 12 A.kids (.slice ua A.kids.length uc)) := fun h => lies_levels h.fit hA
  have HBB : Hid (SmT 11 B → Lies w w.heap.size 12 B.kids (.slice va B.kids.length vc)) := fun h => lies_levels h.fit hB
  have HE : Hid (DSn a w) := E
  have HRW : Hid (∀ W W', NdKeep W W' → W.heap[w.heap.size]? = some (.cells #[.string A.kind, .string A.data, .bool A.exec, .slice ua A.kids.length uc] 32 (0, 0)) ∧ W.heap[w.heap.size + 1]? = some (.cells #[.string B.kind, .string B.data, .bool B.exec, .slice va B.kids.length vc] 32 (0, 0)) → W'.heap[w.heap.size]? = some (.cells #[.string A.kind, .string A.data, .bool A.exec, .slice ua A.kids.length uc] 32 (0, 0)) ∧ W'.heap[w.heap.size + 1]? = some (.cells #[.string B.kind, .string B.data, .bool B.exec, .slice va B.kids.length vc] 32 (0, 0))) := fun W W' h hx => ⟨h _ _ hx.1, h _ _ hx.2⟩
  have HCL : Hid (∀ W : World, W.heap[w.heap.size]? = some (.cells #[.string A.kind, .string A.data, .bool A.exec, .slice ua A.kids.length uc] 32 (0, 0)) ∧ W.heap[w.heap.size + 1]? = some (.cells #[.string B.kind, .string B.data, .bool B.exec, .slice va B.kids.length vc] 32 (0, 0)) → (W.cell? ⟨w.heap.size, 0, none⟩ = some (.string A.kind) ∧ W.cell? ⟨w.heap.size, 1, none⟩ = some (.string A.data) ∧ W.cell? ⟨w.heap.size, 2, none⟩ = some (.bool A.exec) ∧ W.cell? ⟨w.heap.size, 3, none⟩ = some (.slice ua A.kids.length uc)) ∧ (W.cell? ⟨(w.heap.size + 1), 0, none⟩ = some (.string B.kind) ∧ W.cell? ⟨(w.heap.size + 1), 1, none⟩ = some (.string B.data) ∧ W.cell? ⟨(w.heap.size + 1), 2, none⟩ = some (.bool B.exec) ∧ W.cell? ⟨(w.heap.size + 1), 3, none⟩ = some (.slice va B.kids.length vc))) := fun W h => ⟨(row4b h.1).1, (row4b h.2).1⟩
  clear hA hB E hb2
  go_enter Tryz.func4, Tryz.ntmps4
  go_wp2_with fail
  rw [← HW2.out]
  refine Calls.mono HDR.out ?_
  rintro e w3 ⟨rfl, b3⟩
  have HB3 : Hid (Below w.heap.size w w3) := HB2.out.trans (b3.mono HB2.out.size)
  have HX3 : Hid (w3.heap[w.heap.size]? = some (.cells #[.string A.kind, .string A.data, .bool A.exec, .slice ua A.kids.length uc] 32 (0, 0)) ∧ w3.heap[w.heap.size + 1]? = some (.cells #[.string B.kind, .string B.data, .bool B.exec, .slice va B.kids.length vc] 32 (0, 0))) := HRW.out _ _ (.of_below b3) HX2.out
  clear b3 HB2 HX2 HDR HW2
  go_wp2_with fail
  have HS2 : Hid (∀ W, Below w3.heap.size w3 W → (W.cell? ⟨w.heap.size, 0, none⟩ = some (.string A.kind) ∧ W.cell? ⟨w.heap.size, 1, none⟩ = some (.string A.data) ∧ W.cell? ⟨w.heap.size, 2, none⟩ = some (.bool A.exec) ∧ W.cell? ⟨w.heap.size, 3, none⟩ = some (.slice ua A.kids.length uc)) ∧ (W.cell? ⟨(w.heap.size + 1), 0, none⟩ = some (.string B.kind) ∧ W.cell? ⟨(w.heap.size + 1), 1, none⟩ = some (.string B.data) ∧ W.cell? ⟨(w.heap.size + 1), 2, none⟩ = some (.bool B.exec) ∧ W.cell? ⟨(w.heap.size + 1), 3, none⟩ = some (.slice va B.kids.length vc))) := fun W h => HCL.out W (HRW.out _ _ (.of_below h) HX3.out)
  refine wp_region_held_drew (S := (fun W => (W.cell? ⟨w.heap.size, 0, none⟩ = some (.string A.kind) ∧ W.cell? ⟨w.heap.size, 1, none⟩ = some (.string A.data) ∧ W.cell? ⟨w.heap.size, 2, none⟩ = some (.bool A.exec) ∧ W.cell? ⟨w.heap.size, 3, none⟩ = some (.slice ua A.kids.length uc)) ∧ (W.cell? ⟨(w.heap.size + 1), 0, none⟩ = some (.string B.kind) ∧ W.cell? ⟨(w.heap.size + 1), 1, none⟩ = some (.string B.data) ∧ W.cell? ⟨(w.heap.size + 1), 2, none⟩ = some (.bool B.exec) ∧ W.cell? ⟨(w.heap.size + 1), 3, none⟩ = some (.slice va B.kids.length vc)))) (by kernel_rfl) (HS2.out _ (below_drew w3)) (fun hHeld => ?_)
  refine wpAnyH_take (i := 0) (v := (.bool true)) rfl (by kernel_rfl) (by kernel_rfl) (by kernel_rfl) (fun _ _ _ h => h) (Or.inl ⟨by rfl, ?_⟩) hHeld ?_
  · intro w hSw; (try dsimp only at hSw); simp only [List.getElem_toArray, List.getElem_cons_zero]; go_simp
  simp only [List.getElem_toArray, List.getElem_cons_zero, Act.put, List.setIfInBounds_toArray, List.set_cons_zero, List.set_cons_succ]
  refine wpAnyH_take (i := 1) (v := (.bool false)) rfl (by kernel_rfl) (by kernel_rfl) (by kernel_rfl) (fun _ _ _ h => h) (Or.inl ⟨by rfl, ?_⟩) hHeld ?_
  · intro w hSw; (try dsimp only at hSw); simp only [List.getElem_toArray, List.getElem_cons_zero, List.getElem_cons_succ]; go_simp
  simp only [List.getElem_toArray, List.getElem_cons_zero, List.getElem_cons_succ, Act.put, List.setIfInBounds_toArray, List.set_cons_zero, List.set_cons_succ]
  refine wpAnyH_take (i := 2) (v := (.bool false)) rfl (by kernel_rfl) (by kernel_rfl) (by kernel_rfl) (fun _ _ _ h => h) (Or.inl ⟨by rfl, ?_⟩) hHeld ?_
  · intro w hSw; (try dsimp only at hSw); simp only [List.getElem_toArray, List.getElem_cons_zero, List.getElem_cons_succ]; go_simp
  simp only [List.getElem_toArray, List.getElem_cons_zero, List.getElem_cons_succ, Act.put, List.setIfInBounds_toArray, List.set_cons_zero, List.set_cons_succ]
  refine wpAnyH_take (i := 3) (v := (.agg #[.string A.kind, .string A.data, .bool A.exec, .slice ua A.kids.length uc])) rfl (by kernel_rfl) (by kernel_rfl) (by kernel_rfl) (fun _ _ _ h => h) (Or.inl ⟨by rfl, ?_⟩) hHeld ?_
  · intro w hSw; (try dsimp only at hSw); simp only [List.getElem_toArray, List.getElem_cons_zero, List.getElem_cons_succ]; go_simp
  simp only [List.getElem_toArray, List.getElem_cons_zero, List.getElem_cons_succ, Act.put, List.setIfInBounds_toArray, List.set_cons_zero, List.set_cons_succ]
  refine wpAnyH_take (i := 5) (v := (.agg #[.string B.kind, .string B.data, .bool B.exec, .slice va B.kids.length vc])) rfl (by kernel_rfl) (by kernel_rfl) (by kernel_rfl) (fun _ _ _ h => h) (Or.inl ⟨by rfl, ?_⟩) hHeld ?_
  · intro w hSw; (try dsimp only at hSw); simp only [List.getElem_toArray, List.getElem_cons_zero, List.getElem_cons_succ]; go_simp
  simp only [List.getElem_toArray, List.getElem_cons_zero, List.getElem_cons_succ, Act.put, List.setIfInBounds_toArray, List.set_cons_zero, List.set_cons_succ]
  refine wpAnyH_ready (rs := [4]) (by kernel_rfl) (by simp) ?_
  refine AllReadyH.cons rfl (fun K' hK => ?_) AllReadyH.nil
  simp only [List.getElem_toArray, List.getElem_cons_zero, List.getElem_cons_succ]
  go_simp
  refine Calls.mono (HLA.out _ (HB3.out.trans ((below_drew w3).mono HB3.out.size))) ?_
  rintro e wy ⟨z1, rfl, hz1, hb⟩
  have HZ1 : Hid ((z1 = 1 ∨ z1 = 0) ∧ (z1 = 0 → SmT 11 A)) := hz1
  have HBY : Hid (Below w3.heap.size w3 wy) := (below_drew w3).trans (hb.mono (below_drew w3).size)
  clear hz1 hb
  go_wp2_with fail
  refine hK.out _ _ (HS2.out _ HBY.out) (fun hHeld' => ?_)
  clear hK K' hHeld
  have hHeld := hHeld'
  clear hHeld'
  refine wpAnyH_ready (rs := [6]) (by kernel_rfl) (by simp) ?_
  refine AllReadyH.cons rfl (fun K' hK => ?_) AllReadyH.nil
  simp only [List.getElem_toArray, List.getElem_cons_zero, List.getElem_cons_succ]
  go_simp
  refine Calls.mono (HLB.out _ (HB3.out.trans (HBY.out.mono HB3.out.size))) ?_
  rintro e wz ⟨z2, rfl, hz2, hb⟩
  have HZ2 : Hid ((z2 = 1 ∨ z2 = 0) ∧ (z2 = 0 → SmT 11 B)) := hz2
  have HBZ : Hid (Below w3.heap.size w3 wz) := HBY.out.trans (hb.mono HBY.out.size)
  clear hz2 hb HBY
  go_wp2_with fail
  refine hK.out _ _ (HS2.out _ HBZ.out) (fun hHeld' => ?_)
  clear hK K' hHeld
  have hHeld := hHeld'
  clear hHeld'
  obtain ⟨hz1, hs1⟩ := HZ1.out
  obtain ⟨hz2, hs2⟩ := HZ2.out
  have HB4 : Hid (Below w.heap.size w wz) := HB3.out.trans (HBZ.out.mono HB3.out.size)
  have HX4 : Hid (wz.heap[w.heap.size]? = some (.cells #[.string A.kind, .string A.data, .bool A.exec, .slice ua A.kids.length uc] 32 (0, 0)) ∧ wz.heap[w.heap.size + 1]? = some (.cells #[.string B.kind, .string B.data, .bool B.exec, .slice va B.kids.length vc] 32 (0, 0))) := HRW.out _ _ (.of_below HBZ.out) HX3.out
  clear HZ1 HZ2 HBZ HS2 HX3 HB3
  rcases hz1 with rfl | rfl
  · rcases hz2 with rfl | rfl
    · skip
      clear hs1 hs2
      refine wpAnyH_take (i := 7) (v := (.int .i64 2)) rfl (by kernel_rfl) (by kernel_rfl) (by kernel_rfl) (fun _ _ _ h => h) (Or.inl ⟨by rfl, ?_⟩) hHeld ?_
      · intro w hSw; (try dsimp only at hSw); simp only [List.getElem_toArray, List.getElem_cons_zero, List.getElem_cons_succ]; go_simp; decide
      simp only [List.getElem_toArray, List.getElem_cons_zero, List.getElem_cons_succ, Act.put, List.setIfInBounds_toArray, List.set_cons_zero, List.set_cons_succ]
      refine wpAnyH_take (i := 8) (v := (.bool true)) rfl (by kernel_rfl) (by kernel_rfl) (by kernel_rfl) (fun _ _ _ h => h) (Or.inl ⟨by rfl, ?_⟩) hHeld ?_
      · intro w hSw; (try dsimp only at hSw); simp only [List.getElem_toArray, List.getElem_cons_zero, List.getElem_cons_succ]; go_simp
      simp only [List.getElem_toArray, List.getElem_cons_zero, List.getElem_cons_succ, Act.put, List.setIfInBounds_toArray, List.set_cons_zero, List.set_cons_succ]
      refine wpAnyH_take (i := 9) (v := (.bool true)) rfl (by kernel_rfl) (by kernel_rfl) (by kernel_rfl) (fun _ _ _ h => h) (Or.inl ⟨by rfl, ?_⟩) hHeld ?_
      · intro w hSw; (try dsimp only at hSw); simp only [List.getElem_toArray, List.getElem_cons_zero, List.getElem_cons_succ]; go_simp
      simp only [List.getElem_toArray, List.getElem_cons_zero, List.getElem_cons_succ, Act.put, List.setIfInBounds_toArray, List.set_cons_zero, List.set_cons_succ]
      refine wpAnyH_done (by kernel_rfl) ?_ _
      go_wp2_with fail
      go_ret
      exact ⟨rfl, HB4.out⟩
    · skip
      clear hs1 hs2
      refine wpAnyH_take (i := 7) (v := (.int .i64 1)) rfl (by kernel_rfl) (by kernel_rfl) (by kernel_rfl) (fun _ _ _ h => h) (Or.inl ⟨by rfl, ?_⟩) hHeld ?_
      · intro w hSw; (try dsimp only at hSw); simp only [List.getElem_toArray, List.getElem_cons_zero, List.getElem_cons_succ]; go_simp; decide
      simp only [List.getElem_toArray, List.getElem_cons_zero, List.getElem_cons_succ, Act.put, List.setIfInBounds_toArray, List.set_cons_zero, List.set_cons_succ]
      refine wpAnyH_take (i := 8) (v := (.bool true)) rfl (by kernel_rfl) (by kernel_rfl) (by kernel_rfl) (fun _ _ _ h => h) (Or.inl ⟨by rfl, ?_⟩) hHeld ?_
      · intro w hSw; (try dsimp only at hSw); simp only [List.getElem_toArray, List.getElem_cons_zero, List.getElem_cons_succ]; go_simp
      simp only [List.getElem_toArray, List.getElem_cons_zero, List.getElem_cons_succ, Act.put, List.setIfInBounds_toArray, List.set_cons_zero, List.set_cons_succ]
      refine wpAnyH_take (i := 9) (v := (.bool true)) rfl (by kernel_rfl) (by kernel_rfl) (by kernel_rfl) (fun _ _ _ h => h) (Or.inl ⟨by rfl, ?_⟩) hHeld ?_
      · intro w hSw; (try dsimp only at hSw); simp only [List.getElem_toArray, List.getElem_cons_zero, List.getElem_cons_succ]; go_simp
      simp only [List.getElem_toArray, List.getElem_cons_zero, List.getElem_cons_succ, Act.put, List.setIfInBounds_toArray, List.set_cons_zero, List.set_cons_succ]
      refine wpAnyH_done (by kernel_rfl) ?_ _
      go_wp2_with fail
      go_ret
      exact ⟨rfl, HB4.out⟩
  · rcases hz2 with rfl | rfl
    · skip
      clear hs1 hs2
      refine wpAnyH_take (i := 7) (v := (.int .i64 1)) rfl (by kernel_rfl) (by kernel_rfl) (by kernel_rfl) (fun _ _ _ h => h) (Or.inl ⟨by rfl, ?_⟩) hHeld ?_
      · intro w hSw; (try dsimp only at hSw); simp only [List.getElem_toArray, List.getElem_cons_zero, List.getElem_cons_succ]; go_simp; decide
      simp only [List.getElem_toArray, List.getElem_cons_zero, List.getElem_cons_succ, Act.put, List.setIfInBounds_toArray, List.set_cons_zero, List.set_cons_succ]
      refine wpAnyH_take (i := 8) (v := (.bool true)) rfl (by kernel_rfl) (by kernel_rfl) (by kernel_rfl) (fun _ _ _ h => h) (Or.inl ⟨by rfl, ?_⟩) hHeld ?_
      · intro w hSw; (try dsimp only at hSw); simp only [List.getElem_toArray, List.getElem_cons_zero, List.getElem_cons_succ]; go_simp
      simp only [List.getElem_toArray, List.getElem_cons_zero, List.getElem_cons_succ, Act.put, List.setIfInBounds_toArray, List.set_cons_zero, List.set_cons_succ]
      refine wpAnyH_take (i := 9) (v := (.bool true)) rfl (by kernel_rfl) (by kernel_rfl) (by kernel_rfl) (fun _ _ _ h => h) (Or.inl ⟨by rfl, ?_⟩) hHeld ?_
      · intro w hSw; (try dsimp only at hSw); simp only [List.getElem_toArray, List.getElem_cons_zero, List.getElem_cons_succ]; go_simp
      simp only [List.getElem_toArray, List.getElem_cons_zero, List.getElem_cons_succ, Act.put, List.setIfInBounds_toArray, List.set_cons_zero, List.set_cons_succ]
      refine wpAnyH_done (by kernel_rfl) ?_ _
      go_wp2_with fail
      go_ret
      exact ⟨rfl, HB4.out⟩
    · skip
      refine wpAnyH_take (i := 7) (v := (.int .i64 0)) rfl (by kernel_rfl) (by kernel_rfl) (by kernel_rfl) (fun _ _ _ h => h) (Or.inl ⟨by rfl, ?_⟩) hHeld ?_
      · intro w hSw; (try dsimp only at hSw); simp only [List.getElem_toArray, List.getElem_cons_zero, List.getElem_cons_succ]; go_simp; decide
      simp only [List.getElem_toArray, List.getElem_cons_zero, List.getElem_cons_succ, Act.put, List.setIfInBounds_toArray, List.set_cons_zero, List.set_cons_succ]
      refine wpAnyH_take (i := 8) (v := (.bool false)) rfl (by kernel_rfl) (by kernel_rfl) (by kernel_rfl) (fun _ _ _ h => h) (Or.inl ⟨by rfl, ?_⟩) hHeld ?_
      · intro w hSw; (try dsimp only at hSw); simp only [List.getElem_toArray, List.getElem_cons_zero, List.getElem_cons_succ]; go_simp
      simp only [List.getElem_toArray, List.getElem_cons_zero, List.getElem_cons_succ, Act.put, List.setIfInBounds_toArray, List.set_cons_zero, List.set_cons_succ]
      refine wpAnyH_take (i := 9) (v := (.bool false)) rfl (by kernel_rfl) (by kernel_rfl) (by kernel_rfl) (fun _ _ _ h => h) (Or.inl ⟨by rfl, ?_⟩) hHeld ?_
      · intro w hSw; (try dsimp only at hSw); simp only [List.getElem_toArray, List.getElem_cons_zero, List.getElem_cons_succ]; go_simp
      simp only [List.getElem_toArray, List.getElem_cons_zero, List.getElem_cons_succ, Act.put, List.setIfInBounds_toArray, List.set_cons_zero, List.set_cons_succ]
      refine wpAnyH_done (by kernel_rfl) ?_ _
      have hsA : SmT 11 A := hs1 rfl
      have hsB : SmT 11 B := hs2 rfl
      have HSA : Hid (SmT 11 A) := hsA
      have HSB : Hid (SmT 11 B) := hsB
      have HLA2 : Hid (Lies w w.heap.size 12 A.kids (.slice ua A.kids.length uc)) := HAA.out hsA
      have HLB2 : Hid (Lies w w.heap.size 12 B.kids (.slice va B.kids.length vc)) := HBB.out hsB
      clear hs1 hs2 hsA hsB HAA HBB HLA HLB
      go_wp2_with fail
      refine Calls.mono (HTO.out _ HB4.out) ?_
      rintro e w5 ⟨dp, tb, bb, sp, sb, cap, mb, m1, m2, mw, rfl, hk5, S5⟩
      have HS5 : Hid (DSt w 512 11 dp tb bb sp sb cap mb m1 m2 0 ⟨List.replicate 512 zb, List.replicate 512 false, []⟩ [] [] w5) := S5
      have HX5 : Hid (w5.heap[w.heap.size]? = some (.cells #[.string A.kind, .string A.data, .bool A.exec, .slice ua A.kids.length uc] 32 (0, 0)) ∧ w5.heap[w.heap.size + 1]? = some (.cells #[.string B.kind, .string B.data, .bool B.exec, .slice va B.kids.length vc] 32 (0, 0))) := HRW.out _ _ hk5 HX4.out
      obtain ⟨⟨a0, a1, a2, a3⟩, _⟩ := HCL.out w5 HX5.out
      have HP1 := sh_put HE.out S5 (by omega) A ua uc HLA2.out HSA.out
      clear S5 hk5 HX4 HB4 HTO
      go_wp2_with (go_at_call 10; refine HP1.mono ?_; rintro e w6 ⟨xa, xc, rfl, HPP⟩; clear HP1 a0 a1 a2 a3)
      refine Calls.mono HPP ?_
      rintro e w7 ⟨hk7, h7⟩
      have HX7 : Hid (w7.heap[w.heap.size]? = some (.cells #[.string A.kind, .string A.data, .bool A.exec, .slice ua A.kids.length uc] 32 (0, 0)) ∧ w7.heap[w.heap.size + 1]? = some (.cells #[.string B.kind, .string B.data, .bool B.exec, .slice va B.kids.length vc] 32 (0, 0))) := HRW.out _ _ hk7 HX5.out
      obtain ⟨⟨a0, a1, a2, a3⟩, b0, b1, b2, b3⟩ := HCL.out w7 HX7.out
      clear hk7 HX5 HS5 HPP
      rcases h7 with ⟨p, rfl, S7⟩ | ⟨rfl, s7, x7, S7⟩
      · have HP2 := sh_put HE.out S7 (by omega) B va vc HLB2.out HSB.out
        clear S7
        go_wp2_with (go_at_call 10; refine HP2.mono ?_; rintro e w8 ⟨ya, yc, rfl, HPQ⟩; clear HP2)
        refine Calls.mono HPQ ?_
        rintro e w9 ⟨_, h9⟩
        rcases h9 with ⟨p9, rfl, S9⟩ | ⟨rfl, s9, x9, S9⟩
        · have HB9 : Hid (Below w.heap.size w w9) := S9.low
          clear S9 HPQ
          go_wp2_with fail
          go_ret
          exact ⟨rfl, HB9.out⟩
        · have HB9 : Hid (Below w.heap.size w w9) := S9.low
          clear S9 HPQ
          go_wp2_with fail
          go_ret
          exact ⟨rfl, HB9.out⟩
      · have HP2 := sh_put HE.out S7 (by omega) B va vc HLB2.out HSB.out
        clear S7
        go_wp2_with (go_at_call 10; refine HP2.mono ?_; rintro e w8 ⟨ya, yc, rfl, HPQ⟩; clear HP2)
        refine Calls.mono HPQ ?_
        rintro e w9 ⟨hk9, h9⟩
        rcases h9 with ⟨p9, rfl, S9⟩ | ⟨rfl, s9, x9, S9⟩
        · have HB9 : Hid (Below w.heap.size w w9) := S9.low
          clear S9 HPQ
          go_wp2_with fail
          go_ret
          exact ⟨rfl, HB9.out⟩
        · have HX9 := HRW.out _ _ hk9 HX7.out
          have HSH : Calls Tryz.prog 22 #[.pointer (some ⟨dp, 0, none⟩), (.agg #[.string A.kind, .string A.data, .bool A.exec, .slice ua A.kids.length uc]), .int .i64 0, .int .i64 1] w9 fun e w' => e = .returned (.bool true) ∧ Below w.heap.size w w' := sharedAll_any HE.out S9 rfl ((HLA2.out.below S9.low (Nat.le_refl _)).up S9.low.size (Nat.le_refl _))
          obtain ⟨⟨c0, c1, c2, c3⟩, _⟩ := HCL.out w9 HX9
          clear S9 HPQ hk9 HX9 HX7 a0 a1 a2 a3 b0 b1 b2 b3
          go_wp2_with (go_at_call 22; refine HSH.mono ?_; rintro e wa ⟨rfl, hba⟩; clear HSH)
          go_ret
          exact ⟨rfl, hba⟩
end Go.Proofs.YteefneelcgeioaaGreatDoor
namespace Go.Proofs.YteefneelcgeioaaGreatDoor
open Go.ChangeShapes Go.WideShapes Go.RowKit

theorem handed_and_shaped {H : Type} {enc : TypeId × Value → H} {a : Assume} {C : Checked} {os : Os} {f : FuncId} {fn : Func} {s : ChangeSpec} {conds : List PathCond} {apart fresh handsOn again : Bool} {X : World → Array Value → Prop}
    (hX : ∀ (w w' : World) (args : Array Value), w.heap = w'.heap → X w args → X w' args)
    (own : ownKnob C.prog.godebug = none) (started : os.Started) (noInit : C.prog.inits.idxOf? f = none) (hfn : C.prog.funcs[f]? = some fn)
    (witness : ∃ (w : World) (tape : Tape) (i : Input), w.os = os ∧ (w.forCall tape i).Shaped C.prog ∧ i.vars = [] ∧ Input.okWide C.prog (w.forCall tape i) .any w.heap.size f i ∧
      ((s.pre enc C.prog fn conds apart (w.forCall tape i).memory i.args ∧ X (w.forCall tape i).memory i.args) ∧ sizedMet enc C.prog fn (OpenSpec.ofChange s) apart (w.forCall tape i).memory i.args) ∧ a.holds C.prog (lone (Frame.enter C.prog f i.args .normal) [] (w.forCall tape i)))
    (contract : ∀ (W : World) (base : Nat) (args : Array Value) (ds gs : List (DataW H)) (before : List MemPlace),
      (∀ (j : Nat) t v, fn.params[j]? = some t → args[j]? = some v → Value.okWide C.prog W .any base t v) →
      DataW.Whole enc C.prog fn.params.toList s.vars apart W args.toList ds gs before →
      (DataW.weightsEach C.prog (fn.params.toList ++ s.plain.varTypes C.prog) (ds ++ gs)).all (· ≤ reachBytes) = true → X W args → W.ShapedOpen C.prog →
      Calls C.prog f args W fun e W' => ∃ v, e = .returned v ∧ s.post enc C.prog fn apart fresh handsOn again W args v W') :
    ReturnsInHanded a C os f .any (fun w args => (s.pre enc C.prog fn conds apart w args ∧ X w args) ∧ sizedMet enc C.prog fn (OpenSpec.ofChange s) apart w args) (s.post enc C.prog fn apart fresh handsOn again) := by
  refine returnsInHanded_of_calls own started noInit witness ?_
  intro w tape i _ hsh _ hok hpre _
  obtain ⟨_, _, _, fn', hfn', _, _, _, _, hval⟩ := hok
  obtain rfl : fn' = fn := Option.some.inj (hfn'.symm.trans hfn)
  obtain ⟨⟨⟨ds, gs, before, hw, _⟩, hx⟩, hz⟩ := hpre
  have hw' := DataW.Whole.of_heap (w' := w.forCall tape i) (by rfl) hw
  refine (contract (w.forCall tape i) w.heap.size i.args ds gs before hval hw' (hz.weights hw) (hX _ _ _ (by rfl) hx) hsh).mono fun e W' ⟨v, he, hp⟩ => ?_
  subst he
  exact ChangeSpec.post_blind hp

theorem max_of_shaped {W : World} (h : W.ShapedOpen Tryz.prog) : ∃ m, W.cell? ⟨10, 0, none⟩ = some (.int .i64 m) :=
  Go.Proofs.cell_of_shapedOpen_int (zero := #[.int .i64 0]) (t := 3) h (of_decide_eq_true (by kernel_rfl)) (by kernel_rfl) rfl (by kernel_rfl) (by kernel_rfl) Tryz.underlying3

set_option maxRecDepth 100000 in
/-- A row of texts among the arguments. -/
theorem texts_arg {H : Type} {enc : TypeId × Value → H} {W : World} {base : Nat} {v : Value} {d : DataW H} {p : List MemPlace} (hval : Value.okWide Tryz.prog W .any base 49 v) (h : DataW.Trod enc Tryz.prog W 0 (fun _ => true) true 49 v d p) :
    ∃ l, Texts W v l ∧ l.length ≤ maxLen ∧ ∀ x ∈ l, x.size ≤ maxLen := by
  obtain ⟨va, vn, vc, rfl⟩ := okWide_slice Tryz.underlying49 hval
  obtain ⟨fuel, hf⟩ := h
  rcases Deep.open_strs Tryz.underlying49 Tryz.underlying9 cellsStr hf with ⟨e, _⟩ | ⟨a, len, cap, m, Sx, e, _, hlc, hcm, hm, _, hcell⟩
  · have e' : [Value.slice va vn vc] = [.slice none 0 0] := e
    simp only [List.cons.injEq, Value.slice.injEq, and_true] at e'
    obtain ⟨rfl, rfl, rfl⟩ := e'
    exact ⟨[], ⟨none, 0, rfl, fun i x hx => by simp at hx⟩, by simp, fun x hx => by simp at hx⟩
  · have e' : [Value.slice va vn vc] = [.slice (some a) len cap] := e
    simp only [List.cons.injEq, Value.slice.injEq, and_true] at e'
    obtain ⟨rfl, rfl, rfl⟩ := e'
    have hmc : m = vc := by rw [hm]; rfl
    refine ⟨(List.range vn).map Sx, ⟨some a, vc, by simp, fun i x hx => ?_⟩, by simp; omega, fun x hx => ?_⟩
    · have hi : i < vn := by have := (List.getElem?_eq_some_iff.1 hx).1; simpa using this
      rw [List.getElem?_map, List.getElem?_range hi] at hx
      simp only [Option.map_some, Option.some.injEq] at hx
      subst hx
      have hc := (hcell i (by omega)).1
      have h0 := (hcell 0 (by omega)).1
      obtain ⟨b, off, spot⟩ := a
      have hsp : spot = none := by simpa [Addr.add] using World.cell?_spot h0
      subst hsp
      refine ⟨b, off, rfl, ?_⟩
      have hadd : (⟨b, off, none⟩ : Addr).add i = ⟨b, off + i, none⟩ := by unfold Addr.add; split <;> simp_all
      rw [hadd] at hc
      exact hc
    · obtain ⟨i, hi, rfl⟩ := List.mem_map.1 hx
      exact (hcell i (by have := List.mem_range.1 hi; omega)).2

theorem laidVars_init {P : Program} {w : World} : ∀ (l m : List (String × DataW Unit)) (ps : List MemPlace), DataW.LaidVars P w (l ++ m) ps → ∃ qs, DataW.LaidVars P w l qs ∧ qs.Sublist ps
  | [], _, ps, _ => ⟨[], rfl, List.nil_sublist ps⟩
  | (n, d) :: l, m, ps, h => by
    obtain ⟨g, t, cs, fuel, p, q, h1, h2, h3, h4, hq, rfl⟩ := h
    obtain ⟨qs, hqs, hsub⟩ := laidVars_init l m q hq
    exact ⟨_, ⟨g, t, cs, fuel, p, qs, h1, h2, h3, h4, hqs, rfl⟩, (List.append_sublist_append_left _).2 hsub⟩
theorem laidMet_init {P : Program} {w : World} {l m : List (String × DataW Unit)} (h : laidMet P (l ++ m) w) : laidMet P l w := by
  obtain ⟨ps, hv, hnd, hrows⟩ := h
  obtain ⟨qs, hqs, hsub⟩ := laidVars_init l m ps hv
  exact ⟨qs, hqs, List.Nodup.sublist hsub hnd, fun b off hm => hrows b off (hsub.subset hm)⟩
end Go.Proofs.YteefneelcgeioaaGreatDoor
namespace Go.Proofs.YteefneelcgeioaaGreatDoor
open Go.ChangeShapes Go.WideShapes Go.RowKit

def tenGs : List Nat := [9, 6, 3, 7, 5, 1, 0, 4, 8, 2]
/-- The ten, off the row's own list. -/
def tenTexts : List (String × Nat × List UInt8) := (((Rows.dirsLinksRow.laid.drop 1).take 10).zip tenGs).map fun x => (x.1.1, x.2, textIn x.1.2)
theorem ten_parts (W : World) : laidMetH Tryz.prog Rows.dirsLinksRow.laid W =
    laidMet Tryz.prog (("unicode/utf8.acceptRanges", Rows.laid_unicode_utf8_acceptRanges) :: ((tenTexts.map fun x => (x.1, .iface "*errors.errorString" (.ptr (.agg [.lit (.string x.2.2)])))) ++ [("unicode/utf8.first", Rows.laid_unicode_utf8_first)])) W := by kernel_rfl
theorem ten_globals : (tenTexts.all fun x => decide (Tryz.prog.globalNamed x.1 = some x.2.1) && decide ((Tryz.prog.globals[x.2.1]?).map (·.type) = some 36)) = true := by kernel_rfl
theorem ten_places : tenTexts.map (·.2.1) = tenGs := by kernel_rfl
theorem gB_of_shaped {W : World} (h : W.ShapedOpen Tryz.prog) : ∃ cs ty, W.heap[6]? = some (.cells cs ty (0, 0)) ∧ trTy (.cells cs ty (0, 0)) = false := by
  obtain ⟨cs, h1, _⟩ := h.1 6 #[.nilIface] 36 (of_decide_eq_true (by kernel_rfl)) (by kernel_rfl)
  exact ⟨cs, 36, h1, rfl⟩
theorem gS_of_shaped {W : World} (h : W.ShapedOpen Tryz.prog) : ∃ cs ty, W.heap[2]? = some (.cells cs ty (0, 0)) ∧ trTy (.cells cs ty (0, 0)) = false := by
  obtain ⟨cs, h1, _⟩ := h.1 2 #[.nilIface] 36 (of_decide_eq_true (by kernel_rfl)) (by kernel_rfl)
  exact ⟨cs, 36, h1, rfl⟩
theorem dsn_of_laid {W : World} (h : laidMetH Tryz.prog Rows.dirsLinksRow.laid W) (hsh : W.ShapedOpen Tryz.prog) : ∃ a, DSn a W := by
  rw [ten_parts] at h
  obtain ⟨ps, hv, hnd, hrows⟩ := laidMet_init h.tail
  have hx : ∀ x ∈ tenTexts, Tryz.prog.globalNamed x.1 = some x.2.1 ∧ (Tryz.prog.globals[x.2.1]?).map (·.type) = some 36 := fun x hx => by
    have := List.all_eq_true.1 ten_globals x hx
    simpa using this
  obtain ⟨la, h1, _⟩ := laid_list Tryz.underlying36 rowS Tryz.underlying235 Tryz.underlying257 rfl rfl Tryz.underlying9 cellsES cellsStr tenTexts hv hx hrows
  rw [ten_places] at h1
  obtain ⟨a0, _, c0, _⟩ := h1.at (i := 0) (g := 9) rfl
  obtain ⟨a1, _, c1, _⟩ := h1.at (i := 1) (g := 6) rfl
  obtain ⟨a2, _, c2, _⟩ := h1.at (i := 2) (g := 3) rfl
  obtain ⟨a3, _, c3, _⟩ := h1.at (i := 3) (g := 7) rfl
  obtain ⟨a4, _, c4, _⟩ := h1.at (i := 4) (g := 5) rfl
  obtain ⟨a5, _, c5, _⟩ := h1.at (i := 5) (g := 1) rfl
  obtain ⟨a7, _, c7, _⟩ := h1.at (i := 6) (g := 0) rfl
  obtain ⟨a8, _, c8, _⟩ := h1.at (i := 7) (g := 4) rfl
  obtain ⟨a9, _, c9, _⟩ := h1.at (i := 8) (g := 8) rfl
  obtain ⟨a10, _, c10, _⟩ := h1.at (i := 9) (g := 2) rfl
  exact ⟨fun | 0 => a0 | 1 => a1 | 2 => a2 | 3 => a3 | 4 => a4 | 5 => a5 | 7 => a7 | 8 => a8 | _ => a9, ⟨⟨c0, c1, c2, c3, c4, c7, c8, c9⟩, c5, max_of_shaped hsh⟩, ⟨_, c10⟩, gB_of_shaped hsh, gS_of_shaped hsh⟩
end Go.Proofs.YteefneelcgeioaaGreatDoor
