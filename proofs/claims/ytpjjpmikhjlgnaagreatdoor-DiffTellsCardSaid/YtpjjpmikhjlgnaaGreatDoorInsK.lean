/-
  The contract of slices.Insert at kids: one kid put into a row of one's own.
  Conditions: the row is owned; the kid lies in a block of its own.
-/
import Derived.Test.YtpjjpmikhjlgnaaGreatDoorOwn
import Derived.Test.YtpjjpmikhjlgnaaGreatDoorLists
import Derived.Shelf.Spec.SlicesInsertGrow
import Derived.Deep.AppendLies
import Derived.Deep.RegionHeld3
import Derived.Deep.DrawnRows
import Derived.Deep.DeepCutAuto
import Derived.Deep.DeepFit
namespace Go.Proofs.YtpjjpmikhjlgnaaGreatDoor
open Go.RowKit
attribute [local go_sem ↓] Go.wp_at_zero Go.wp_at_succ

/-- copy, whatever an element's cells. -/
theorem run_copy_rowN {P : Program} (w : World) (dT sT ty elem : TypeId) (i : TypeInfo) (g o dLen dCap : Nat) (a : Addr) (sLen sCap : Nat) (cur : Array Value) (t : TypeId) (cs : List Value)
    (hu : P.underlying dT = some (.slice elem)) (hi : P.info? elem = some i)
    (hg : w.heap[g]? = some (.cells cur t (0, 0))) (hn : cs.length = Nat.min sLen dLen * i.size)
    (hsrc : ∀ j v, cs[j]? = some v → w.cell? (a.add j) = some v) (hfit : o + cs.length ≤ cur.size) (h1 : ∀ v ∈ cs, v.oneCell' = true) :
    (Builtin.copy_ #[dT, sT] ty #[.slice (some ⟨g, o, none⟩) dLen dCap, .slice (some a) sLen sCap]).run P w =
      .ok (goInt (Nat.min sLen dLen)) (w.setRow g (cur.toList.take o ++ cs ++ cur.toList.drop (o + cs.length)).toArray) := by
  have hl := run_loadCells_list (P := P) w a cs hsrc
  have hst := run_storeCells_at P g o t cs 0 cur w hg (by simpa using hfit) h1
  simp [Builtin.copy_, run_underlying hu, Builtin.lenOf, Builtin.firstCells, sizeOf, typeInfo, hi, ← hn, hl, hst]
/-- What Insert hands back. -/
def InsPost (w : World) (v : Value) (n i : Nat) (xs vs : List Value) (e : Ending) (w' : World) : Prop :=
  ∃ g cap, e = .returned (.slice (some ⟨g, 0, none⟩) (n + 1) cap) ∧ w'.ownsRow 0 65 5 (.slice (some ⟨g, 0, none⟩) (n + 1) cap) (n + 1) (xs.take (i * 5) ++ vs ++ xs.drop (i * 5)) ∧ w.grownBy w' v.ownBlock ∧ (v.ownBlock = some g ∨ w.heap.size ≤ g)

set_option maxRecDepth 100000 in
set_option maxHeartbeats 4000000 in
theorem insert_end (w : World) (v : Value) (n vb : Nat) (xs : List Value) (vs : Array Value) (h : w.ownsRow 0 65 5 v n xs) (hv : w.heap[vb]? = some (.cells vs 65 (0, 0))) (hvs : vs.size = 5) (h1 : ∀ u ∈ vs.toList, u.oneCell' = true) (hn : n ≤ 1000000) :
    Calls Tryz.prog 64 #[v, .int .i64 (n : Int), .slice (some ⟨vb, 0, none⟩) 1 1] w (InsPost w v n n xs vs.toList) := by
  obtain ⟨i0, hi0, hz⟩ := Option.map_eq_some_iff.1 infoKid
  simp only [Prod.mk.injEq] at hz
  obtain ⟨hz0, hz1, hz2⟩ := hz
  obtain ⟨va, vc, rfl, hnc⟩ : ∃ va vc, v = .slice va n vc ∧ n ≤ vc := by
    rcases h.2 with ⟨e, e0⟩ | ⟨g, cap, cur, e, _, _, h2, _⟩
    · exact ⟨none, 0, by rw [e, e0], by omega⟩
    · exact ⟨_, _, e, h2⟩
  have HO : Hid _ := h
  have HV : Hid _ := World.news_of_block hv
  have HL : Hid (vs.toList.length = 1 * 5) := by show vs.toList.length = 1 * 5; simp [hvs]
  have H1 : Hid _ := h1
  have HXL : Hid (xs.length = n * 5) := h.1
  clear h hv h1 hvs
  go_enter Tryz.func64, Tryz.ntmps64
  go_wp2_with (at_builtin; go_must (refine wpList_append_lies _ (by rfl) _ _ 22 (by rfl) 0 65 i0 _ 5 80 Tryz.underlying22 hi0 hz0 hz1 hz2 rfl (by omega) (.slice va n vc) n xs (by rfl) HO.out ⟨vb, 0, none⟩ 1 1 vs.toList (by rfl) HL.out HV.out H1.out (by omega) (by unfold maxLen; omega) (by omega) (by omega) w.heap.size rfl ?_; intro g cap' w1 hown hgrow hat hlt; have HOW : Hid _ := hown; have HG : Hid _ := hgrow; have HAT : Hid _ := hat; clear hown hgrow hat))
  all_goals
    go_ret
    refine ⟨g, cap', rfl, ?_, ?_, ?_⟩
    · rw [List.take_of_length_le (by rw [HXL.out]; omega), List.drop_eq_nil_of_le (by rw [HXL.out]; omega), List.append_nil]
      exact HOW.out
    · cases va <;> exact HG.out
    · cases va <;> exact HAT.out.imp id fun e => by omega
theorem kid_over (w : World) (b vb i c : Nat) (cur vs : Array Value) (hb : w.heap[b]? = some (.cells cur 65 (0, 0))) (hc : cur.size = c * 5) (hc0 : 0 < c) (hv : w.heap[vb]? = some (.cells vs 65 (0, 0))) (hne : vb ≠ b) (lb cb : Nat) :
    (callFunc 92 #[.slice (some ⟨vb, 0, none⟩) 1 1, .slice (some ⟨b, i, none⟩) lb cb]).run Tryz.prog w = .ok (.value (.bool false)) w := by
  rw [run_callFunc_extern Tryz.func92 (by kernel_rfl) (by kernel_rfl) (by kernel_rfl) (e := Extern.SlicesOverlaps.overlaps #[22, 22] #[4]) (by kernel_rfl),
    Lib.run_overlaps_apart w 22 4 65 Tryz.underlying22 5 Tryz.sizeOf65 ⟨vb, 0, none⟩ ⟨b, i, none⟩ 1 1 lb cb hne 65 65 vs.size cur.size (by simp [World.shape?, hv]) (by simp [World.shape?, hb]) (by omega) (by simp [World.frozen?, hv]) (by simp [World.frozen?, hv])]
  rfl

theorem shift_rows {cur vs : List Value} {n c i : Nat} (hi : i < n) (hroom : n + 1 ≤ c) (hc : cur.length = c * 5) (hv : vs.length = 5) {row1 row2 : List Value}
    (e1 : row1 = cur.take ((i + 1) * 5) ++ (cur.take (n * 5)).drop (i * 5) ++ cur.drop ((i + 1) * 5 + ((cur.take (n * 5)).drop (i * 5)).length)) (e2 : row2 = row1.take (i * 5) ++ vs ++ row1.drop (i * 5 + vs.length)) :
    row1.length = c * 5 ∧ row2.length = c * 5 ∧ row2.take ((n + 1) * 5) = (cur.take (n * 5)).take (i * 5) ++ vs ++ (cur.take (n * 5)).drop (i * 5) := by
  have l1 : ((cur.take (n * 5)).drop (i * 5)).length = n * 5 - i * 5 := by rw [List.length_drop, List.length_take]; omega
  have l0 : (cur.take ((i + 1) * 5)).length = (i + 1) * 5 := by rw [List.length_take]; omega
  have r1 : row1.length = c * 5 := by
    rw [e1, List.length_append, List.length_append, l0, l1, List.length_drop]; omega
  have t1 : row1.take (i * 5) = cur.take (i * 5) := by
    rw [e1, List.append_assoc, List.take_append_of_le_length (by rw [l0]; omega), List.take_take, Nat.min_eq_left (by omega)]
  have d1 : row1.drop (i * 5 + vs.length) = (cur.take (n * 5)).drop (i * 5) ++ cur.drop ((i + 1) * 5 + ((cur.take (n * 5)).drop (i * 5)).length) := by
    rw [e1, hv, show i * 5 + 5 = (cur.take ((i + 1) * 5)).length by rw [l0]; omega, List.append_assoc, List.drop_left]
  refine ⟨r1, ?_, ?_⟩
  · rw [e2, List.length_append, List.length_append, hv, List.length_take, List.length_drop, r1]; omega
  · rw [e2, t1, d1, ← List.append_assoc, List.take_take, Nat.min_eq_left (by omega : i * 5 ≤ n * 5)]
    refine List.take_left' ?_
    rw [List.length_append, List.length_append, hv, l1, List.length_take]
    omega

set_option maxRecDepth 100000 in
set_option maxHeartbeats 4000000 in
theorem insert_shift (w : World) (n c i b vb : Nat) (cur vs : Array Value) (hi : i < n) (hroom : n + 1 ≤ c) (hcm : c ≤ maxLen) (hb : w.heap[b]? = some (.cells cur 65 (0, 0))) (hcs : cur.size = c * 5) (hv : w.heap[vb]? = some (.cells vs 65 (0, 0))) (hvs : vs.size = 5) (hvb : vb ≠ b) (h1c : ∀ u ∈ cur.toList.take (n * 5), u.oneCell' = true) (h1 : ∀ u ∈ vs.toList, u.oneCell' = true) :
    Calls Tryz.prog 64 #[.slice (some ⟨b, 0, none⟩) n c, .int .i64 (i : Int), .slice (some ⟨vb, 0, none⟩) 1 1] w (InsPost w (.slice (some ⟨b, 0, none⟩) n c) n i (cur.toList.take (n * 5)) vs.toList) := by
  unfold maxLen at hcm
  have hov := fun k => kid_over w b vb k c cur vs hb hcs (by omega) hv hvb
  have hin : i ≤ n := by omega
  have hz2 : ¬ ((i : Int) = (n : Int)) := by omega
  have hw1 : IntKind.i64.wrap ((i : Int) + 1) = (i : Int) + 1 := by rw [IntKind.wrap_i64]; omega
  have hw2 : IntKind.i64.wrap ((n : Int) + 1) = (n : Int) + 1 := by rw [IntKind.wrap_i64]; omega
  have hb1 : (0 : Int) ≤ (i : Int) + 1 := by omega
  have htn : ((i : Int) + 1).toNat = i + 1 := by omega
  have htn2 : ((n : Int) + 1).toNat = n + 1 := by omega
  have hb2 : ¬ (c = i + 1) := by omega
  have hb3 : (i : Int) ≤ (n : Int) + 1 := by omega
  have hb4 : ¬ (c = i) := by omega
  have hb5 : (i : Int) + 1 ≤ (n : Int) + 1 := by omega
  have hb6 : (n : Int) + 1 ≤ (c : Int) := by omega
  obtain ⟨i0, hi0, hz0', hz1', hz2'⟩ := info_parts infoKid
  obtain ⟨cs, hcsd⟩ : ∃ cs, cs = (cur.toList.take (n * 5)).drop (i * 5) := ⟨_, rfl⟩
  have hcl : cs.length = n * 5 - i * 5 := by rw [hcsd, List.length_drop, List.length_take, Array.length_toList]; omega
  obtain ⟨row1, hr1⟩ : ∃ row1, row1 = cur.toList.take ((i + 1) * 5) ++ cs ++ cur.toList.drop ((i + 1) * 5 + cs.length) := ⟨_, rfl⟩
  obtain ⟨row2, hr2⟩ : ∃ row2, row2 = row1.take (i * 5) ++ vs.toList ++ row1.drop (i * 5 + vs.toList.length) := ⟨_, rfl⟩
  obtain ⟨q1, q2, q3⟩ := shift_rows (cur := cur.toList) (vs := vs.toList) (n := n) (c := c) (i := i) hi hroom (by simpa using hcs) (by simpa using hvs) (by rw [← hcsd]; exact hr1) hr2
  have hbl := lt_of_row hb
  have hcp1 : ∀ ty, (Builtin.copy_ #[22, 22] ty #[.slice (some ⟨b, (i + 1) * 5, none⟩) (n - i) (c - (i + 1)), .slice (some ⟨b, i * 5, none⟩) (n + 1 - i) (c - i)]).run Tryz.prog w.drew = .ok (goInt (Nat.min (n + 1 - i) (n - i))) (w.drew.setRow b row1.toArray) := fun ty => by
    rw [hr1]
    exact run_copy_rowN w.drew 22 22 ty 65 i0 b ((i + 1) * 5) (n - i) (c - (i + 1)) ⟨b, i * 5, none⟩ (n + 1 - i) (c - i) cur 65 cs Tryz.underlying22 hi0 hb (by
        rw [hcl, hz1', show Nat.min (n + 1 - i) (n - i) = n - i from Nat.min_eq_right (by omega)]; omega)
      (fun j u hu => by
        have hadd : (⟨b, i * 5, none⟩ : Addr).add j = ⟨b, i * 5 + j, none⟩ := by unfold Addr.add; split <;> simp_all
        rw [hadd, cell_of_row w.drew b (i * 5 + j) cur 65 (0, 0) hb]
        rw [hcsd, List.getElem?_drop, List.getElem?_take] at hu
        split at hu
        · simpa using hu
        · cases hu)
      (by rw [hcl, hcs]; omega) (fun u hu => h1c u (by rw [hcsd] at hu; exact List.mem_of_mem_drop hu))
  have hb1r : (w.drew.setRow b row1.toArray).heap[b]? = some (.cells row1.toArray 65 (0, 0)) := setRow_heap w.drew b cur _ 65 _ hb
  have hv1r : (w.drew.setRow b row1.toArray).heap[vb]? = some (.cells vs 65 (0, 0)) := by rw [setRow_other w.drew b vb _ (by omega)]; exact hv
  have hcp2 : ∀ ty, (Builtin.copy_ #[22, 22] ty #[.slice (some ⟨b, i * 5, none⟩) (n + 1 - i) (c - i), .slice (some ⟨vb, 0, none⟩) 1 1]).run Tryz.prog (w.drew.setRow b row1.toArray) = .ok (goInt (Nat.min 1 (n + 1 - i))) ((w.drew.setRow b row1.toArray).setRow b row2.toArray) := fun ty => by
    have h := run_copy_rowN (P := Tryz.prog) (w.drew.setRow b row1.toArray) 22 22 ty 65 i0 b (i * 5) (n + 1 - i) (c - i) ⟨vb, 0, none⟩ 1 1 row1.toArray 65 vs.toList Tryz.underlying22 hi0 hb1r (by
        rw [hz1', show Nat.min 1 (n + 1 - i) = 1 from Nat.min_eq_left (by omega)]; simpa using hvs) (World.news_of_block hv1r) (by simp [q1, hvs]; omega) h1
    rw [hr2]
    exact h
  have HEND : Hid (InsPost w (.slice (some ⟨b, 0, none⟩) n c) n i (cur.toList.take (n * 5)) vs.toList (.returned (.slice (some ⟨b, 0, none⟩) (n + 1) c)) ((w.drew.setRow b row1.toArray).setRow b row2.toArray)) := by
    refine ⟨b, c, rfl, ⟨?_, .inr ⟨b, c, row2.toArray, rfl, Nat.zero_le _, setRow_heap _ b _ _ 65 _ hb1r, hroom, hcm, by simp [q2], by simpa using q3⟩⟩, ⟨rfl, rfl, rfl, by simp, fun k _ hk => ?_⟩, .inl rfl⟩
    · rw [← q3, List.length_take, q2]; omega
    · rw [setRow_other _ b k _ (fun e => hk (by rw [e]; rfl)), setRow_other _ b k _ (fun e => hk (by rw [e]; rfl))]
      rfl
  have HCP1 : Hid _ := hcp1
  have HCP2 : Hid _ := hcp2
  clear hcp1 hcp2 hr1 hr2 q1 q2 q3 hcsd hcl hb1r hv1r
  go_enter Tryz.func64, Tryz.ntmps64
  go_wp2_with (simp only [hov])
  refine wp_region_held_drew (S := fun _ => True) (by kernel_rfl) (trivial) (fun hHeld => ?_)
  refine wpAnyH_take (i := 0) (v := .slice (some ⟨b, 0, none⟩) (n + 1) c) rfl (by kernel_rfl) (by kernel_rfl) (by kernel_rfl) (fun _ _ _ h => h) (Or.inl ⟨by rfl, ?_⟩) hHeld ?_
  · intro w hSw; (try dsimp only at hSw); simp only [List.getElem_toArray, List.getElem_cons_zero]; go_simp
  simp only [List.getElem_toArray, List.getElem_cons_zero, Act.put, List.setIfInBounds_toArray, List.set_cons_zero, List.set_cons_succ]
  refine wpAnyH_take (i := 1) (v := .int .i64 (i : Int)) rfl (by kernel_rfl) (by kernel_rfl) (by kernel_rfl) (fun _ _ _ h => h) (Or.inl ⟨by rfl, ?_⟩) hHeld ?_
  · intro w hSw; (try dsimp only at hSw); simp only [List.getElem_toArray, List.getElem_cons_zero, List.getElem_cons_succ]; go_simp
  simp only [List.getElem_toArray, List.getElem_cons_zero, List.getElem_cons_succ, Act.put, List.setIfInBounds_toArray, List.set_cons_zero, List.set_cons_succ]
  refine wpAnyH_take (i := 2) (v := .int .i64 1) rfl (by kernel_rfl) (by kernel_rfl) (by kernel_rfl) (fun _ _ _ h => h) (Or.inl ⟨by rfl, ?_⟩) hHeld ?_
  · intro w hSw; (try dsimp only at hSw); simp only [List.getElem_toArray, List.getElem_cons_zero, List.getElem_cons_succ]; go_simp
  simp only [List.getElem_toArray, List.getElem_cons_zero, List.getElem_cons_succ, Act.put, List.setIfInBounds_toArray, List.set_cons_zero, List.set_cons_succ]
  refine wpAnyH_take (i := 3) (v := .int .i64 ((i : Int) + 1)) rfl (by kernel_rfl) (by kernel_rfl) (by kernel_rfl) (fun _ _ _ h => h) (Or.inl ⟨by rfl, ?_⟩) hHeld ?_
  · intro w hSw; (try dsimp only at hSw); simp only [List.getElem_toArray, List.getElem_cons_zero, List.getElem_cons_succ]; go_simp
  simp only [List.getElem_toArray, List.getElem_cons_zero, List.getElem_cons_succ, Act.put, List.setIfInBounds_toArray, List.set_cons_zero, List.set_cons_succ]
  refine wpAnyH_take (i := 4) (v := .slice (some ⟨b, (i + 1) * 5, none⟩) (n - i) (c - (i + 1))) rfl (by kernel_rfl) (by kernel_rfl) (by kernel_rfl) (fun _ _ _ h => h) (Or.inl ⟨by rfl, ?_⟩) hHeld ?_
  · intro w hSw; (try dsimp only at hSw); simp only [List.getElem_toArray, List.getElem_cons_zero, List.getElem_cons_succ]; go_simp
  simp only [List.getElem_toArray, List.getElem_cons_zero, List.getElem_cons_succ, Act.put, List.setIfInBounds_toArray, List.set_cons_zero, List.set_cons_succ]
  refine wpAnyH_take (i := 5) (v := .slice (some ⟨b, 0, none⟩) (n + 1) c) rfl (by kernel_rfl) (by kernel_rfl) (by kernel_rfl) (fun _ _ _ h => h) (Or.inl ⟨by rfl, ?_⟩) hHeld ?_
  · intro w hSw; (try dsimp only at hSw); simp only [List.getElem_toArray, List.getElem_cons_zero, List.getElem_cons_succ]; go_simp
  simp only [List.getElem_toArray, List.getElem_cons_zero, List.getElem_cons_succ, Act.put, List.setIfInBounds_toArray, List.set_cons_zero, List.set_cons_succ]
  refine wpAnyH_take (i := 6) (v := .int .i64 (i : Int)) rfl (by kernel_rfl) (by kernel_rfl) (by kernel_rfl) (fun _ _ _ h => h) (Or.inl ⟨by rfl, ?_⟩) hHeld ?_
  · intro w hSw; (try dsimp only at hSw); simp only [List.getElem_toArray, List.getElem_cons_zero, List.getElem_cons_succ]; go_simp
  simp only [List.getElem_toArray, List.getElem_cons_zero, List.getElem_cons_succ, Act.put, List.setIfInBounds_toArray, List.set_cons_zero, List.set_cons_succ]
  refine wpAnyH_take (i := 7) (v := .slice (some ⟨b, i * 5, none⟩) (n + 1 - i) (c - i)) rfl (by kernel_rfl) (by kernel_rfl) (by kernel_rfl) (fun _ _ _ h => h) (Or.inl ⟨by rfl, ?_⟩) hHeld ?_
  · intro w hSw; (try dsimp only at hSw); simp only [List.getElem_toArray, List.getElem_cons_zero, List.getElem_cons_succ]; go_simp
  simp only [List.getElem_toArray, List.getElem_cons_zero, List.getElem_cons_succ, Act.put, List.setIfInBounds_toArray, List.set_cons_zero, List.set_cons_succ]
  refine wpAnyH_ready (rs := [8]) (by kernel_rfl) (by simp) ?_
  refine AllReadyH.cons rfl (fun K' hK => ?_) AllReadyH.nil
  refine step_copy_runI (by rfl) _ _ 22 22 (by rfl) _ _ (by rfl) (by rfl) (HCP1.out _) ?_
  refine hK.out _ _ trivial (fun hHeld' => ?_)
  clear hK K' hHeld
  have hHeld := hHeld'
  clear hHeld'
  refine wpAnyH_done (by kernel_rfl) ?_ _
  go_wp2_with fail
  rw [HCP2.out]
  go_wp2_with fail
  go_ret
  exact HEND.out
theorem grow_rows {cur vs ROW : List Value} {n G i : Nat} (hi : i < n) (hG : n + 1 ≤ G) (hc : cur.length = n * 5) (hv : vs.length = 5) (hR : ROW.length = G * 5) (hRt : ROW.take (i * 5) = cur.take (i * 5)) {row1 row2 : List Value}
    (e1 : row1 = ROW.take (i * 5) ++ vs ++ ROW.drop (i * 5 + vs.length)) (e2 : row2 = row1.take ((i + 1) * 5) ++ cur.drop (i * 5) ++ row1.drop ((i + 1) * 5 + (cur.drop (i * 5)).length)) :
    row1.length = G * 5 ∧ row2.length = G * 5 ∧ row2.take ((n + 1) * 5) = cur.take (i * 5) ++ vs ++ cur.drop (i * 5) := by
  have l1 : (cur.drop (i * 5)).length = n * 5 - i * 5 := by rw [List.length_drop]; omega
  have l0 : (cur.take (i * 5)).length = i * 5 := by rw [List.length_take]; omega
  have r1 : row1.length = G * 5 := by
    rw [e1, hRt, List.length_append, List.length_append, l0, hv, List.length_drop]; omega
  have t1 : row1.take ((i + 1) * 5) = cur.take (i * 5) ++ vs := by
    rw [e1, hRt]
    refine List.take_left' ?_
    rw [List.length_append, l0, hv]; omega
  refine ⟨r1, ?_, ?_⟩
  · rw [e2, List.length_append, List.length_append, List.length_take, l1, List.length_drop, r1]; omega
  · rw [e2, t1]
    refine List.take_left' ?_
    rw [List.length_append, List.length_append, hv, l1, l0]
    omega

set_option maxRecDepth 100000 in
set_option maxHeartbeats 4000000 in
theorem insert_grow (w : World) (n i b vb : Nat) (cur vs : Array Value) (hi : i < n) (hn : n ≤ 1000000) (hb : w.heap[b]? = some (.cells cur 65 (0, 0))) (hcs : cur.size = n * 5) (hv : w.heap[vb]? = some (.cells vs 65 (0, 0))) (hvs : vs.size = 5) (h1c : ∀ u ∈ cur.toList, u.oneCell' = true) (h1 : ∀ u ∈ vs.toList, u.oneCell' = true) :
    Calls Tryz.prog 64 #[.slice (some ⟨b, 0, none⟩) n n, .int .i64 (i : Int), .slice (some ⟨vb, 0, none⟩) 1 1] w (InsPost w (.slice (some ⟨b, 0, none⟩) n n) n i cur.toList vs.toList) := by
  obtain ⟨i0, hi0, hz0', hz1', hz2'⟩ := info_parts infoKid
  have hin : i ≤ n := by omega
  have hz2 : ¬ ((i : Int) = (n : Int)) := by omega
  have hw1 : IntKind.i64.wrap ((i : Int) + 1) = (i : Int) + 1 := by rw [IntKind.wrap_i64]; omega
  have hw2 : IntKind.i64.wrap ((n : Int) + 1) = (n : Int) + 1 := by rw [IntKind.wrap_i64]; omega
  have hw3 : IntKind.i64.wrap ((n : Int) + 1 - (i : Int)) = (n : Int) + 1 - (i : Int) := by rw [IntKind.wrap_i64]; omega
  have hb1 : (0 : Int) ≤ (i : Int) + 1 := by omega
  have htn : ((i : Int) + 1).toNat = i + 1 := by omega
  have hb3 : (i : Int) ≤ (n : Int) + 1 := by omega
  have hb4 : ¬ (n = i) := by omega
  have hb5 : (i : Int) + 1 ≤ (n : Int) + 1 := by omega
  have hz3 : (n : Int) < (n : Int) + 1 := by omega
  have hkk : (n : Int) + 1 - (i : Int) = ((n + 1 - i : Nat) : Int) := by omega
  have hik : i + (n + 1 - i) = n + 1 := by omega
  have hold : (Builtin.firstCells i0.size i (.slice (some ⟨b, 0, none⟩) i n)).run Tryz.prog w.drew = .ok (cur.toList.take (i * 5)).toArray w.drew := by
    rw [hz1']
    refine run_firstCells_some w.drew 5 i ⟨b, 0, none⟩ i n (cur.toList.take (i * 5)) (by rw [List.length_take, Array.length_toList]; omega) (fun j u hu => ?_)
    have hadd : (⟨b, 0, none⟩ : Addr).add j = ⟨b, j, none⟩ := by unfold Addr.add; split <;> simp_all
    rw [hadd, cell_of_row w.drew b j cur 65 (0, 0) hb]
    rw [List.getElem?_take] at hu
    split at hu
    · simpa using hu
    · cases hu
  obtain ⟨z, hzz, hz0''⟩ : ∃ z : Value, z.cells.size = 5 ∧ i0.zero = some z := ⟨_, rfl, hz0'⟩
  obtain ⟨G, hG⟩ : ∃ G, G = grownCap w (n + 1) n 65 := ⟨_, rfl⟩
  obtain ⟨ROW, hROW⟩ : ∃ ROW : Array Value, ROW = (cur.toList.take (i * 5)).toArray ++ Builtin.zeroCells z.cells (n + 1 - i) ++ Builtin.zeroCells z.cells (G - (n + 1)) := ⟨_, rfl⟩
  have hrz : ∀ ty, (Builtin.append_ #[22, 3] ty #[.slice (some ⟨b, 0, none⟩) i n, .int .i64 ((n : Int) + 1 - (i : Int))]).run Tryz.prog w =
      .ok (.slice (some ⟨w.heap.size, 0, none⟩) (n + 1) G) (w.drew.alloc (.cells ROW 65)) := fun ty => by
    have h := Lib.run_append_grow_zeros w 22 3 ty 65 i0 z .i64 .i64 Tryz.underlying22 Tryz.underlying3 hi0 hz0'' (some ⟨b, 0, none⟩) i n (cur.toList.take (i * 5)) hold (n + 1 - i) (by omega) (by omega) (by omega) (by omega) (by rw [hz2']; omega) (by rw [hz2', hik]; exact growslice_fits (by omega) (by omega))
    rw [hik, ← hG] at h
    rw [hkk, hROW]
    exact h
  have hGn : n + 1 ≤ G := by rw [hG]; exact grownCap_ge w _ _ _
  have hGm : G ≤ maxLen := by rw [hG]; exact grownCap_le_maxLen w (n + 1) n 65 (by unfold maxLen; omega)
  have hGi : ¬ (G = i) := by omega
  have hGi1 : ¬ (G = i + 1) := by omega
  have hzc : ∀ k, (Builtin.zeroCells z.cells k).size = k * 5 := fun k => by rw [size_zeroCells, hzz]
  have hRl : ROW.size = G * 5 := by
    rw [hROW, Array.size_append, Array.size_append, hzc, hzc, List.size_toArray, List.length_take, Array.length_toList]; omega
  have hRt : ROW.toList.take (i * 5) = cur.toList.take (i * 5) := by
    rw [hROW, Array.toList_append, Array.toList_append, List.append_assoc]
    refine List.take_left' ?_
    simp; omega
  obtain ⟨row1, hr1⟩ : ∃ row1, row1 = ROW.toList.take (i * 5) ++ vs.toList ++ ROW.toList.drop (i * 5 + vs.toList.length) := ⟨_, rfl⟩
  obtain ⟨row2, hr2⟩ : ∃ row2, row2 = row1.take ((i + 1) * 5) ++ cur.toList.drop (i * 5) ++ row1.drop ((i + 1) * 5 + (cur.toList.drop (i * 5)).length) := ⟨_, rfl⟩
  obtain ⟨q1, q2, q3⟩ := grow_rows (cur := cur.toList) (vs := vs.toList) (ROW := ROW.toList) (n := n) (G := G) (i := i) hi hGn (by simpa using hcs) (by simpa using hvs) (by simpa using hRl) hRt hr1 hr2
  have hbl := lt_of_row hb
  have hvl := lt_of_row hv
  have hN : ((w.alloc (.cells ROW 65)).drew).heap[w.heap.size]? = some (.cells ROW 65 (0, 0)) := heap_alloc_new w _
  have hold2 : ∀ k, k < w.heap.size → ((w.alloc (.cells ROW 65)).drew).heap[k]? = w.heap[k]? := fun k hk => Below.heap_alloc _ _ _ hk
  have hcpA : ∀ ty, (Builtin.copy_ #[22, 22] ty #[.slice (some ⟨w.heap.size, i * 5, none⟩) (n + 1 - i) (G - i), .slice (some ⟨vb, 0, none⟩) 1 1]).run Tryz.prog ((w.alloc (.cells ROW 65)).drew) = .ok (goInt (Nat.min 1 (n + 1 - i))) (((w.alloc (.cells ROW 65)).drew).setRow w.heap.size row1.toArray) := fun ty => by
    rw [hr1]
    exact run_copy_rowN ((w.alloc (.cells ROW 65)).drew) 22 22 ty 65 i0 w.heap.size (i * 5) (n + 1 - i) (G - i) ⟨vb, 0, none⟩ 1 1 ROW 65 vs.toList Tryz.underlying22 hi0 hN (by
      rw [hz1', show Nat.min 1 (n + 1 - i) = 1 from Nat.min_eq_left (by omega)]; simpa using hvs) (World.news_of_block ((hold2 vb hvl).trans hv)) (by simp [hRl, hvs]; omega) h1
  have hN1 : ((((w.alloc (.cells ROW 65)).drew).setRow w.heap.size row1.toArray).drew).heap[w.heap.size]? = some (.cells row1.toArray 65 (0, 0)) := setRow_heap ((w.alloc (.cells ROW 65)).drew) w.heap.size ROW _ 65 _ hN
  have hb1r : ((((w.alloc (.cells ROW 65)).drew).setRow w.heap.size row1.toArray).drew).heap[b]? = some (.cells cur 65 (0, 0)) := (setRow_other ((w.alloc (.cells ROW 65)).drew) w.heap.size b row1.toArray (by omega)).trans ((hold2 b hbl).trans hb)
  have hcpB : ∀ ty, (Builtin.copy_ #[22, 22] ty #[.slice (some ⟨w.heap.size, (i + 1) * 5, none⟩) (n - i) (G - (i + 1)), .slice (some ⟨b, i * 5, none⟩) (n - i) (n - i)]).run Tryz.prog ((((w.alloc (.cells ROW 65)).drew).setRow w.heap.size row1.toArray).drew) = .ok (goInt (Nat.min (n - i) (n - i))) (((((w.alloc (.cells ROW 65)).drew).setRow w.heap.size row1.toArray).drew).setRow w.heap.size row2.toArray) := fun ty => by
    rw [hr2]
    exact run_copy_rowN ((((w.alloc (.cells ROW 65)).drew).setRow w.heap.size row1.toArray).drew) 22 22 ty 65 i0 w.heap.size ((i + 1) * 5) (n - i) (G - (i + 1)) ⟨b, i * 5, none⟩ (n - i) (n - i) row1.toArray 65 (cur.toList.drop (i * 5)) Tryz.underlying22 hi0 hN1 (by
        rw [hz1', List.length_drop, Array.length_toList, show Nat.min (n - i) (n - i) = n - i from Nat.min_self _]; omega)
      (fun j u hu => by
        have hadd : (⟨b, i * 5, none⟩ : Addr).add j = ⟨b, i * 5 + j, none⟩ := by unfold Addr.add; split <;> simp_all
        rw [hadd, cell_of_row _ b (i * 5 + j) cur 65 (0, 0) hb1r]
        rw [List.getElem?_drop] at hu
        simpa using hu)
      (by simp [q1, hcs]; omega) (fun u hu => h1c u (List.mem_of_mem_drop hu))
  have HEND : Hid (InsPost w (.slice (some ⟨b, 0, none⟩) n n) n i cur.toList vs.toList (.returned (.slice (some ⟨w.heap.size, 0, none⟩) (n + 1) G)) (((((w.alloc (.cells ROW 65)).drew).setRow w.heap.size row1.toArray).drew).setRow w.heap.size row2.toArray)) := by
    refine ⟨w.heap.size, G, rfl, ⟨?_, .inr ⟨w.heap.size, G, row2.toArray, rfl, Nat.zero_le _, setRow_heap _ w.heap.size _ _ 65 _ hN1, hGn, hGm, by simp [q2], by simpa using q3⟩⟩, ⟨rfl, rfl, rfl, by simp, fun k hk _ => ?_⟩, .inr (Nat.le_refl _)⟩
    · rw [← q3, List.length_take, q2]; omega
    · rw [setRow_other _ w.heap.size k _ (by omega)]
      exact (setRow_other ((w.alloc (.cells ROW 65)).drew) w.heap.size k row1.toArray (by omega)).trans (hold2 k hk)
  have HRZ : Hid _ := hrz
  have HCPA : Hid _ := hcpA
  have HCPB : Hid _ := hcpB
  clear hrz hold hkk hcpA hcpB hr1 hr2 q1 q2 q3 hN hold2 hN1 hb1r hRl hRt hzc hROW hG
  unfold maxLen at hGm
  go_enter Tryz.func64, Tryz.ntmps64
  go_wp2_with (at_builtin; go_must (refine Lib.wpList_append_run _ (by rfl) _ _ _ _ (by rfl) _ _ (by rfl) (by rfl) _ _ (HRZ.out _) ?_))
  rw [HCPA.out]
  go_wp2_with fail
  refine wp_region_held_drew (S := fun _ => True) (by kernel_rfl) (trivial) (fun hHeld => ?_)
  refine wpAnyH_take (i := 0) (v := .slice (some ⟨w.heap.size, 0, none⟩) (n + 1) G) rfl (by kernel_rfl) (by kernel_rfl) (by kernel_rfl) (fun _ _ _ h => h) (Or.inl ⟨by rfl, ?_⟩) hHeld ?_
  · intro w hSw; (try dsimp only at hSw); simp only [List.getElem_toArray, List.getElem_cons_zero]; go_simp
  simp only [List.getElem_toArray, List.getElem_cons_zero, Act.put, List.setIfInBounds_toArray, List.set_cons_zero, List.set_cons_succ]
  refine wpAnyH_take (i := 1) (v := .int .i64 (i : Int)) rfl (by kernel_rfl) (by kernel_rfl) (by kernel_rfl) (fun _ _ _ h => h) (Or.inl ⟨by rfl, ?_⟩) hHeld ?_
  · intro w hSw; (try dsimp only at hSw); simp only [List.getElem_toArray, List.getElem_cons_zero, List.getElem_cons_succ]; go_simp
  simp only [List.getElem_toArray, List.getElem_cons_zero, List.getElem_cons_succ, Act.put, List.setIfInBounds_toArray, List.set_cons_zero, List.set_cons_succ]
  refine wpAnyH_take (i := 2) (v := .int .i64 1) rfl (by kernel_rfl) (by kernel_rfl) (by kernel_rfl) (fun _ _ _ h => h) (Or.inl ⟨by rfl, ?_⟩) hHeld ?_
  · intro w hSw; (try dsimp only at hSw); simp only [List.getElem_toArray, List.getElem_cons_zero, List.getElem_cons_succ]; go_simp
  simp only [List.getElem_toArray, List.getElem_cons_zero, List.getElem_cons_succ, Act.put, List.setIfInBounds_toArray, List.set_cons_zero, List.set_cons_succ]
  refine wpAnyH_take (i := 3) (v := .int .i64 ((i : Int) + 1)) rfl (by kernel_rfl) (by kernel_rfl) (by kernel_rfl) (fun _ _ _ h => h) (Or.inl ⟨by rfl, ?_⟩) hHeld ?_
  · intro w hSw; (try dsimp only at hSw); simp only [List.getElem_toArray, List.getElem_cons_zero, List.getElem_cons_succ]; go_simp
  simp only [List.getElem_toArray, List.getElem_cons_zero, List.getElem_cons_succ, Act.put, List.setIfInBounds_toArray, List.set_cons_zero, List.set_cons_succ]
  refine wpAnyH_take (i := 4) (v := .slice (some ⟨w.heap.size, (i + 1) * 5, none⟩) (n - i) (G - (i + 1))) rfl (by kernel_rfl) (by kernel_rfl) (by kernel_rfl) (fun _ _ _ h => h) (Or.inl ⟨by rfl, ?_⟩) hHeld ?_
  · intro w hSw; (try dsimp only at hSw); simp only [List.getElem_toArray, List.getElem_cons_zero, List.getElem_cons_succ]; go_simp
  simp only [List.getElem_toArray, List.getElem_cons_zero, List.getElem_cons_succ, Act.put, List.setIfInBounds_toArray, List.set_cons_zero, List.set_cons_succ]
  refine wpAnyH_take (i := 5) (v := .slice (some ⟨b, 0, none⟩) n n) rfl (by kernel_rfl) (by kernel_rfl) (by kernel_rfl) (fun _ _ _ h => h) (Or.inl ⟨by rfl, ?_⟩) hHeld ?_
  · intro w hSw; (try dsimp only at hSw); simp only [List.getElem_toArray, List.getElem_cons_zero, List.getElem_cons_succ]; go_simp
  simp only [List.getElem_toArray, List.getElem_cons_zero, List.getElem_cons_succ, Act.put, List.setIfInBounds_toArray, List.set_cons_zero, List.set_cons_succ]
  refine wpAnyH_take (i := 6) (v := .int .i64 (i : Int)) rfl (by kernel_rfl) (by kernel_rfl) (by kernel_rfl) (fun _ _ _ h => h) (Or.inl ⟨by rfl, ?_⟩) hHeld ?_
  · intro w hSw; (try dsimp only at hSw); simp only [List.getElem_toArray, List.getElem_cons_zero, List.getElem_cons_succ]; go_simp
  simp only [List.getElem_toArray, List.getElem_cons_zero, List.getElem_cons_succ, Act.put, List.setIfInBounds_toArray, List.set_cons_zero, List.set_cons_succ]
  refine wpAnyH_take (i := 7) (v := .slice (some ⟨b, i * 5, none⟩) (n - i) (n - i)) rfl (by kernel_rfl) (by kernel_rfl) (by kernel_rfl) (fun _ _ _ h => h) (Or.inl ⟨by rfl, ?_⟩) hHeld ?_
  · intro w hSw; (try dsimp only at hSw); simp only [List.getElem_toArray, List.getElem_cons_zero, List.getElem_cons_succ]; go_simp
  simp only [List.getElem_toArray, List.getElem_cons_zero, List.getElem_cons_succ, Act.put, List.setIfInBounds_toArray, List.set_cons_zero, List.set_cons_succ]
  refine wpAnyH_ready (rs := [8]) (by kernel_rfl) (by simp) ?_
  refine AllReadyH.cons rfl (fun K' hK => ?_) AllReadyH.nil
  refine step_copy_runI (by rfl) _ _ 22 22 (by rfl) _ _ (by rfl) (by rfl) (HCPB.out _) ?_
  refine hK.out _ _ trivial (fun hHeld' => ?_)
  clear hK K' hHeld
  have hHeld := hHeld'
  clear hHeld'
  refine wpAnyH_done (by kernel_rfl) ?_ _
  go_wp2_with fail
  go_ret
  exact HEND.out

/-- One kid put into a row of one's own, wherever. -/
theorem insert_any (w : World) (v : Value) (n i vb : Nat) (xs : List Value) (vs : Array Value) (h : w.ownsRow 0 65 5 v n xs) (hi : i ≤ n) (hn : n ≤ 1000000) (hv : w.heap[vb]? = some (.cells vs 65 (0, 0))) (hvs : vs.size = 5) (hne : v.ownBlock ≠ some vb) (hx1 : ∀ u ∈ xs, u.oneCell' = true) (h1 : ∀ u ∈ vs.toList, u.oneCell' = true) :
    Calls Tryz.prog 64 #[v, .int .i64 (i : Int), .slice (some ⟨vb, 0, none⟩) 1 1] w (InsPost w v n i xs vs.toList) := by
  by_cases hin : i = n
  · subst hin
    exact insert_end w v i vb xs vs h hv hvs h1 hn
  · have hlt : i < n := by omega
    rcases h.2 with ⟨_, h0⟩ | ⟨b, c, cur, rfl, _, hb, hnc, hcm, hcs, htk⟩
    · omega
    · have hvb : vb ≠ b := fun e => hne (by rw [e]; rfl)
      subst htk
      by_cases hroom : n + 1 ≤ c
      · exact insert_shift w n c i b vb cur vs hlt hroom hcm hb hcs hv hvs hvb hx1 h1
      · obtain rfl : c = n := by omega
        have e : cur.toList.take (c * 5) = cur.toList := List.take_of_length_le (by rw [Array.length_toList]; omega)
        rw [e] at hx1 ⊢
        exact insert_grow w c i b vb cur vs hlt hn hb hcs hv hvs hx1 h1
end Go.Proofs.YtpjjpmikhjlgnaaGreatDoor
