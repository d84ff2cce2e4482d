/-
  The contract of dirs.need: how many blocks the files of a tree fill.
  Maps whose values are kept as they are: looked up, written, deleted, and written by entries.
  Files of a tree made into inodes, one by one: the table's state, what stays.
  The contracts of the document's SameInts (for the same numbers) and NeedOf, and of the law's closed fact of a space.
  Conditions: those that each states.
-/
import Derived.Test.YtcejpeohkgchdabGreatDoorM20
import Derived.Test.YtcejpeohkgchdabGreatDoorM05
import Derived.Test.YtcejpeohkgchdabGreatDoorM11
import Derived.Maps.OwnSet
import Derived.Maps.Range
import Derived.Below
import Derived.Test.YtcejpeohkgchdabGreatDoorProg
import Derived.Test.YtcejpeohkgchdabGreatDoorM01
import Derived.Test.YtcejpeohkgchdabGreatDoorM12
import Derived.Test.YtcejpeohkgchdabGreatDoorM06
namespace Go.Proofs.YtcejpeohkgchdabGreatDoor
open Go.RowKit

/-- The blocks that files fill. -/
def needL (l : List (ByteArray × Tree)) : Nat := (l.map fun x => needN x.2.data.size).sum
theorem needL_append (l m : List (ByteArray × Tree)) : needL (l ++ m) = needL l + needL m := by simp [needL]
theorem EFrame.of_blocks {Q : Nat → Prop} {b o c : Nat} {w w' : World} (h : ∀ k, k ≠ c → w'.heap[k]? = w.heap[k]?) (hc : ∀ obj, w.heap[c]? = some obj → trTy obj = false) (hb : ¬ b = c) : EFrame Q b o w w' :=
  ⟨fun k obj hk ht _ _ => (h k (fun e => by rw [e] at hk; rw [hc obj hk] at ht; cases ht)).trans hk, fun cur _ hr => ⟨cur, (h b hb).trans hr, rfl, fun _ _ => rfl⟩⟩
/-- The count, and what is as it was. -/
def NeedJ (w0 : World) (c N : Nat) (r : List (ByteArray × Tree)) (w : World) : Prop := w0.heap.size ≤ c ∧ needL r ≤ N ∧ w.heap[c]? = some (.cells #[.int .i64 ((N - needL r : Nat) : Int)] 3 (0, 0)) ∧ Below w0.heap.size w0 w ∧ (∀ x ∈ r, x.2.data.size ≤ 2000) ∧ N ≤ 1000000
set_option maxRecDepth 100000 in
set_option maxHeartbeats 1000000 in
theorem need_visit (w0 : World) (c N : Nat) : EVisit Tryz.prog 128 #[.pointer (some ⟨c, 0, none⟩)] 330 (fun _ t => t) (NeedJ w0 c N) (fun _ _ => False) 0 := by
  refine ⟨fun r w ⟨a1, a2, a3, a4, a5, a6⟩ => ⟨a1, a2, a3, a4.drew, a5, a6⟩, fun p t r w b o ad cap cur hJ hn hR hRs hf hk _ => ?_⟩
  obtain ⟨h1, h2, h3, h4, h5, h6⟩ := hJ
  have hd : t.data.size ≤ 2000 := h5 (p, t) List.mem_cons_self
  have HND : Hid (∀ W, Calls Tryz.prog 55 #[.int .i64 (t.data.size : Int)] W fun e w' => e = .returned (.int .i64 (needN t.data.size : Int)) ∧ w' = W) := fun W => by
    have h := sp_need (t.data.size : Int) W (by omega)
    rw [need_eq] at h
    exact h
  have hnl : needL ((p, t) :: r) = needN t.data.size + needL r := by simp [needL]
  rw [hnl] at h2 h3
  have hbc : ¬ b = c := fun e => by
    rcases hR with h | h <;> rw [e, h3] at h <;> simp only [Option.some.injEq, Obj.cells.injEq] at h <;> exact absurd h.2.1 (by decide)
  obtain ⟨K, HK⟩ : ∃ K : Int, Hid (K = ((N - (needN t.data.size + needL r) : Nat) : Int)) := ⟨_, (rfl : _ = _)⟩
  rw [← HK.out] at h3
  have hKb : 0 ≤ K ∧ K ≤ 1000000 := by rw [HK.out]; omega
  have hc : w.cell? ⟨c, 0, none⟩ = some (.int .i64 K) := by rw [cell_of_row _ _ _ _ _ _ h3]; rfl
  have hfz : w.frozen? ⟨c, 0, none⟩ = false := by simp [World.frozen?, h3]
  have nd := hn.data
  have hnb : needN t.data.size ≤ 1000 := by unfold needN; omega
  have HPO : Hid (∀ W', W' = w.drew.setCell ⟨c, 0, none⟩ (.int .i64 (K + (needN t.data.size : Int))) → NeedJ w0 c N r W' ∧ NodeC W' b o t (.slice ad 0 cap) ∧ EFrame (fun _ => False) b o w W') := fun W' hW' => by
    have hk2 : ∀ k, k ≠ c → W'.heap[k]? = w.heap[k]? := fun k hk => by rw [hW']; exact Below.heap_setCell _ _ _ _ hk
    refine ⟨⟨h1, by omega, ?_, ⟨by rw [hW']; exact h4.os, by rw [hW']; exact h4.tape, by rw [hW']; exact h4.output, by rw [hW']; simp [World.setCell]; exact h4.size, fun k hk => by rw [hk2 k (by omega)]; exact h4.block k hk⟩, fun x hx => h5 x (List.mem_cons_of_mem _ hx), h6⟩, hn.same (fun j _ _ => World.cell?_of_block (hk2 b hbc)), EFrame.of_blocks hk2 (fun obj ho => by rw [h3] at ho; cases ho; rfl) hbc⟩
    rw [hW', row_setCell (show w.drew.heap[c]? = _ from h3), HK.out]
    have e : ((N - (needN t.data.size + needL r) : Nat) : Int) + (needN t.data.size : Int) = ((N - needL r : Nat) : Int) := by omega
    rw [e]; rfl
  have hwr : IntKind.i64.wrap (K + (needN t.data.size : Int)) = K + (needN t.data.size : Int) := IntWalk.i64_in _ (by omega)
  have HAF : Hid ((w.drew.setCell ⟨c, 0, none⟩ (.int .i64 (K + (needN t.data.size : Int)))).cell? ⟨b, o + 1, none⟩ = some (.string t.data)) := by
    show _ = _
    rw [World.cell?_of_block (a := ⟨b, o + 1, none⟩) (Below.heap_setCell w.drew ⟨c, 0, none⟩ _ b hbc)]
    exact nd
  clear h1 h2 h3 h4 h5 h6 hR hRs hn hnl
  show Calls Tryz.prog 128 #[.string p, .pointer (some ⟨b, o, none⟩), .pointer (some ⟨c, 0, none⟩)] w _
  go_enter Tryz.func128, Tryz.ntmps128
  go_wp2_with fail
  refine wp_region_held_drew (S := fun w' => w'.cell? ⟨b, o + 1, none⟩ = some (.string t.data)) (by kernel_rfl) (nd) (fun hHeld => ?_)
  refine wpAnyH_take (i := 1) (v := (.pointer (some ⟨b, o, none⟩))) rfl (by kernel_rfl) (by kernel_rfl) (by kernel_rfl) (fun _ _ _ h => h) (Or.inl ⟨by rfl, ?_⟩) hHeld ?_
  · intro w hSw; (try dsimp only at hSw); simp only [List.getElem_toArray, List.getElem_cons_zero, List.getElem_cons_succ]; go_simp
  simp only [List.getElem_toArray, List.getElem_cons_zero, List.getElem_cons_succ, Act.put, List.setIfInBounds_toArray, List.set_cons_zero, List.set_cons_succ]
  refine wpAnyH_take (i := 2) (v := (.pointer (some ⟨b, o, none⟩))) rfl (by kernel_rfl) (by kernel_rfl) (by kernel_rfl) (fun _ _ _ h => h) (Or.inl ⟨by rfl, ?_⟩) hHeld ?_
  · intro w hSw; (try dsimp only at hSw); simp only [List.getElem_toArray, List.getElem_cons_zero, List.getElem_cons_succ]; go_simp
  simp only [List.getElem_toArray, List.getElem_cons_zero, List.getElem_cons_succ, Act.put, List.setIfInBounds_toArray, List.set_cons_zero, List.set_cons_succ]
  refine wpAnyH_take (i := 3) (v := (.pointer (some ⟨b, o + 1, none⟩))) rfl (by kernel_rfl) (by kernel_rfl) (by kernel_rfl) (fun _ _ _ h => h) (Or.inl ⟨by rfl, ?_⟩) hHeld ?_
  · intro w hSw; (try dsimp only at hSw); simp only [List.getElem_toArray, List.getElem_cons_zero, List.getElem_cons_succ]; go_simp
  simp only [List.getElem_toArray, List.getElem_cons_zero, List.getElem_cons_succ, Act.put, List.setIfInBounds_toArray, List.set_cons_zero, List.set_cons_succ]
  refine wpAnyH_take (i := 4) (v := (.string t.data)) rfl (by kernel_rfl) (by kernel_rfl) (by kernel_rfl) (fun _ _ _ h => h) (Or.inl ⟨by rfl, ?_⟩) hHeld ?_
  · intro w hSw; (try dsimp only at hSw); simp only [List.getElem_toArray, List.getElem_cons_zero, List.getElem_cons_succ]; go_simp
  simp only [List.getElem_toArray, List.getElem_cons_zero, List.getElem_cons_succ, Act.put, List.setIfInBounds_toArray, List.set_cons_zero, List.set_cons_succ]
  refine wpAnyH_take (i := 5) (v := (.int .i64 (t.data.size : Int))) rfl (by kernel_rfl) (by kernel_rfl) (by kernel_rfl) (fun _ _ _ h => h) (Or.inl ⟨by rfl, ?_⟩) hHeld ?_
  · intro w hSw; (try dsimp only at hSw); simp only [List.getElem_toArray, List.getElem_cons_zero, List.getElem_cons_succ]; go_simp
  simp only [List.getElem_toArray, List.getElem_cons_zero, List.getElem_cons_succ, Act.put, List.setIfInBounds_toArray, List.set_cons_zero, List.set_cons_succ]
  refine wpAnyH_ready (rs := [0, 6]) (by kernel_rfl) (by simp) ?_
  refine AllReadyH.cons rfl (fun K' hK => ?_) (AllReadyH.cons rfl (fun K' hK => ?_) AllReadyH.nil)
  · skip
    go_wp2_with fail
    refine hK.out _ _ (nd) (fun hHeld' => ?_)
    clear hK K' hHeld
    have hHeld := hHeld'
    clear hHeld'
    refine wpAnyH_ready (rs := [6]) (by kernel_rfl) (by simp) ?_
    refine AllReadyH.cons rfl (fun K' hK => ?_) AllReadyH.nil
    simp only [List.getElem_toArray, List.getElem_cons_zero, List.getElem_cons_succ]
    go_simp
    refine Calls.mono (HND.out _) ?_
    rintro e wx ⟨rfl, hw⟩
    rw [hw]
    clear hw
    go_wp2_with fail
    refine hK.out _ _ (nd) (fun hHeld' => ?_)
    clear hK K' hHeld
    have hHeld := hHeld'
    clear hHeld'
    refine wpAnyH_take (i := 7) (v := (.int .i64 (K + (needN t.data.size : Int)))) rfl (by kernel_rfl) (by kernel_rfl) (by kernel_rfl) (fun _ _ _ h => h) (Or.inl ⟨by rfl, ?_⟩) hHeld ?_
    · intro w hSw; (try dsimp only at hSw); simp only [List.getElem_toArray, List.getElem_cons_zero, List.getElem_cons_succ]; go_simp
    simp only [List.getElem_toArray, List.getElem_cons_zero, List.getElem_cons_succ, Act.put, List.setIfInBounds_toArray, List.set_cons_zero, List.set_cons_succ]
    refine wpAnyH_ready (rs := [8]) (by kernel_rfl) (by simp) ?_
    refine AllReadyH.cons rfl (fun K' hK => ?_) AllReadyH.nil
    simp only [List.getElem_toArray, List.getElem_cons_zero, List.getElem_cons_succ]
    go_simp
    go_wp2_with fail
    refine hK.out _ _ (HAF.out) (fun hHeld' => ?_)
    clear hK K' hHeld
    have hHeld := hHeld'
    clear hHeld'
    refine wpAnyH_done (by kernel_rfl) ?_ _
    go_wp2_with fail
    go_ret
    obtain ⟨a1, a2, a3⟩ := HPO.out _ rfl
    exact .inl ⟨rfl, a1, ⟨ad, cap, a2⟩, hk, a3⟩
  · skip
    simp only [List.getElem_toArray, List.getElem_cons_zero, List.getElem_cons_succ]
    go_simp
    refine Calls.mono (HND.out _) ?_
    rintro e wx ⟨rfl, hw⟩
    rw [hw]
    clear hw
    go_wp2_with fail
    refine hK.out _ _ (nd) (fun hHeld' => ?_)
    clear hK K' hHeld
    have hHeld := hHeld'
    clear hHeld'
    refine wpAnyH_ready (rs := [0]) (by kernel_rfl) (by simp) ?_
    refine AllReadyH.cons rfl (fun K' hK => ?_) AllReadyH.nil
    go_wp2_with fail
    refine hK.out _ _ (nd) (fun hHeld' => ?_)
    clear hK K' hHeld
    have hHeld := hHeld'
    clear hHeld'
    refine wpAnyH_take (i := 7) (v := (.int .i64 (K + (needN t.data.size : Int)))) rfl (by kernel_rfl) (by kernel_rfl) (by kernel_rfl) (fun _ _ _ h => h) (Or.inl ⟨by rfl, ?_⟩) hHeld ?_
    · intro w hSw; (try dsimp only at hSw); simp only [List.getElem_toArray, List.getElem_cons_zero, List.getElem_cons_succ]; go_simp
    simp only [List.getElem_toArray, List.getElem_cons_zero, List.getElem_cons_succ, Act.put, List.setIfInBounds_toArray, List.set_cons_zero, List.set_cons_succ]
    refine wpAnyH_ready (rs := [8]) (by kernel_rfl) (by simp) ?_
    refine AllReadyH.cons rfl (fun K' hK => ?_) AllReadyH.nil
    simp only [List.getElem_toArray, List.getElem_cons_zero, List.getElem_cons_succ]
    go_simp
    go_wp2_with fail
    refine hK.out _ _ (HAF.out) (fun hHeld' => ?_)
    clear hK K' hHeld
    have hHeld := hHeld'
    clear hHeld'
    refine wpAnyH_done (by kernel_rfl) ?_ _
    go_wp2_with fail
    go_ret
    obtain ⟨a1, a2, a3⟩ := HPO.out _ rfl
    exact .inl ⟨rfl, a1, ⟨ad, cap, a2⟩, hk, a3⟩
set_option maxRecDepth 100000 in
set_option maxHeartbeats 1000000 in
theorem need_any (d : Nat) (t : Tree) (u : Value) (Q : Nat → Prop) (w : World) (hO : OwnT w Q d t.kids u) (hQ : ∀ q, Q q → q < w.heap.size) (hG : GoodT d t) (hd : d * 20 ≤ 100000) (hs : ∀ x ∈ filesL d { data := #[] } t, x.2.data.size ≤ 2000) (hN : needL (filesL d { data := #[] } t) ≤ 1000000) :
    Calls Tryz.prog 79 #[.agg #[.string t.kind, .string t.data, .bool t.exec, u]] w fun e w' => e = .returned (.int .i64 (needL (filesL d { data := #[] } t) : Int)) ∧ Below w.heap.size w w' := by
  obtain ⟨ad, cap, rfl⟩ := hO.form
  obtain ⟨N, HN⟩ : ∃ N, Hid (N = needL (filesL d { data := #[] } t)) := ⟨_, (rfl : _ = _)⟩
  have HEA : Hid (Calls Tryz.prog 127 #[.pointer (some ⟨w.heap.size, 0, none⟩), .string { data := #[] }, .func (.func 128) #[] #[.pointer (some ⟨w.heap.size + 1, 0, none⟩)]] ((w.alloc (.cells #[.string t.kind, .string t.data, .bool t.exec, .slice ad t.kids.length cap] 32)).alloc (.cells #[.int .i64 0] 3)) fun e w' => e = .returned .nilIface ∧ w'.cell? ⟨w.heap.size + 1, 0, none⟩ = some (.int .i64 (N : Int)) ∧ Below w.heap.size w w') := by
    have hb1 : Below w.heap.size w ((w.alloc (.cells #[.string t.kind, .string t.data, .bool t.exec, .slice ad t.kids.length cap] 32)).alloc (.cells #[.int .i64 0] 3)) := ((Below.refl _ w).alloc (Nat.le_refl _) _).alloc (by simp) _
    have hrow : ((w.alloc (.cells #[.string t.kind, .string t.data, .bool t.exec, .slice ad t.kids.length cap] 32)).alloc (.cells #[.int .i64 0] 3)).heap[w.heap.size]? = some (.cells #[.string t.kind, .string t.data, .bool t.exec, .slice ad t.kids.length cap] 32 (0, 0)) := (Below.heap_alloc _ _ _ (by simp)).trans (heap_alloc_last w _)
    have hrow1 := heap_alloc_last (w.alloc (.cells #[.string t.kind, .string t.data, .bool t.exec, .slice ad t.kids.length cap] 32)) (.cells #[.int .i64 0] 3)
    rw [World.size_alloc] at hrow1
    have hn : NodeC ((w.alloc (.cells #[.string t.kind, .string t.data, .bool t.exec, .slice ad t.kids.length cap] 32)).alloc (.cells #[.int .i64 0] 3)) w.heap.size 0 t (.slice ad t.kids.length cap) := by
      constructor <;> rw [cell_of_row _ _ _ _ _ _ hrow] <;> rfl
    have hT := TreeIn.of_own (hO.kept (fun k hk => hb1.block k (hQ k hk)) (fun _ h => h)) hn
    refine (each_need ⟨w.heap.size + 1, 0, none⟩ (need_visit w (w.heap.size + 1) N) d t { data := #[] } w.heap.size 0 Q [] _ _ ?_ hT (.inl hrow) (by simp) (fun h => Nat.lt_irrefl _ (hQ _ h)) hG (by rw [show ({ data := #[] } : ByteArray).size = 0 from rfl]; omega) (fun _ _ => Nat.zero_le _) (Nat.zero_le _)).mono ?_
    · rw [List.append_nil]
      refine ⟨by omega, by rw [HN.out]; exact Nat.le_refl _, ?_, hb1, hs, by rw [HN.out]; exact hN⟩
      rw [← HN.out, Nat.sub_self]; exact hrow1
    · rintro e w' (⟨he, ⟨_, _, hJ, hb, _⟩, _⟩ | ⟨_, _, h⟩)
      · refine ⟨he, ?_, hb⟩
        rw [cell_of_row _ _ _ _ _ _ hJ]; simp [needL]
      · exact h.elim
  rw [← HN.out]
  clear hO hs hG hN
  go_enter Tryz.func79, Tryz.ntmps79
  go_wp2_with fail
  refine Calls.mono HEA.out ?_
  rintro e w2 ⟨rfl, hc, hb⟩
  go_wp2_with fail
  go_ret
  exact ⟨rfl, hb⟩
end Go.Proofs.YtcejpeohkgchdabGreatDoor
namespace Go.Proofs.YtcejpeohkgchdabGreatDoor
open Go.RowKit Go.Maps Go.ChangeMaps Go.MapKept
open Go.WideElems (Fit rd rg pl rd_val elemAt)

/-- A value reads as itself. -/
def heldR (v : Value) : Option (DataW Value × List MemPlace) := some (.held v, [])
def heldD (o : Option Value) (z : DataW Value) : DataW Value := match o with
  | some v => .held v
  | none => z
noncomputable def updK (f : Lit → Option Value) (k : Lit) (o : Option Value) : Lit → Option Value := fun j => @ite _ (j = k) (Classical.propDecidable _) o (f j)
theorem updK_same (f : Lit → Option Value) (k : Lit) (o : Option Value) : updK f k o k = o := by unfold updK; rw [if_pos rfl]
theorem updK_other (f : Lit → Option Value) {k j : Lit} (o : Option Value) (h : ¬ j = k) : updK f k o j = f j := by unfold updK; rw [if_neg h]
/-- A map from keys to values. -/
def MapV (w : World) (kt mb n : Nat) (f : Lit → Option Value) : Prop := ∃ D : DataW Value, w.ownsMap Tryz.prog kt heldR mb n D ∧ ∀ k, WideAt.IsKeyLit k → (∀ z, D.atKey k z = heldD (f k) z) ∧ Maps.has D k = (f k).isSome
namespace MapV
variable {w w' : World} {kt mb n : Nat} {f : Lit → Option Value} {t e : TypeId} {key v z : Value} {kl : Lit}
theorem made (w : World) (kt : Nat) : MapV (w.alloc (.map #[] 0)) kt w.heap.size 0 (fun _ => none) := ⟨_, World.ownsMap_made _ _ _ _, fun _ _ => ⟨fun _ => rfl, rfl⟩⟩
theorem obj (M : MapV w kt mb n f) : ∃ es clock, w.heap[mb]? = some (.map es clock) := by
  obtain ⟨D, ⟨es, clock, hb, _⟩, _⟩ := M
  exact ⟨es, clock, hb⟩
theorem keep (M : MapV w kt mb n f) (hb : w'.heap[mb]? = w.heap[mb]?) : MapV w' kt mb n f := by
  obtain ⟨D, ⟨es, clock, h, F, hs, hD⟩, hk⟩ := M
  exact ⟨D, ⟨es, clock, hb.trans h, F, hs, hD⟩, hk⟩
theorem mono {n' : Nat} (M : MapV w kt mb n f) (h : n ≤ n') : MapV w kt mb n' f := by
  obtain ⟨D, ho, hk⟩ := M
  exact ⟨D, ho.mono h, hk⟩
theorem look (M : MapV w kt mb n f) (K : Keyed Tryz.prog kt) (ht : Tryz.prog.underlying t = some (.map kt e)) (hz : (zeroValue e).run Tryz.prog w = .ok z w) (hkey : keyOf Tryz.prog kt key = some kl) (hkl : WideAt.IsKeyLit kl) : (Instr.lookup t (.map (some mb)) key false).run Tryz.prog w = .ok ((f kl).getD z) w := by
  obtain ⟨D, hown, hD⟩ := M
  obtain ⟨v, ps, hrun, hv⟩ := hown.lookup K ht hz (zd := .held z) (zp := []) rfl hkey
  rw [(hD kl hkl).1] at hv
  rw [hrun]
  cases hf : f kl with
  | none => rw [hf] at hv; simp only [heldR, heldD, Option.some.injEq, Prod.mk.injEq, DataW.held.injEq] at hv; rw [hv.1]; rfl
  | some x => rw [hf] at hv; simp only [heldR, heldD, Option.some.injEq, Prod.mk.injEq, DataW.held.injEq] at hv; rw [hv.1]; rfl
theorem look_ok (M : MapV w kt mb n f) (K : Keyed Tryz.prog kt) (ht : Tryz.prog.underlying t = some (.map kt e)) (hz : (zeroValue e).run Tryz.prog w = .ok z w) (hkey : keyOf Tryz.prog kt key = some kl) (hkl : WideAt.IsKeyLit kl) : (Instr.lookup t (.map (some mb)) key true).run Tryz.prog w = .ok (.tuple #[(f kl).getD z, .bool (f kl).isSome]) w := by
  obtain ⟨D, hown, hD⟩ := M
  obtain ⟨v, ps, hrun, hv⟩ := hown.look_ok K ht hz (zd := .held z) (zp := []) rfl hkey
  rw [(hD kl hkl).1] at hv
  rw [hrun, (hD kl hkl).2]
  cases hf : f kl with
  | none => rw [hf] at hv; simp only [heldR, heldD, Option.some.injEq, Prod.mk.injEq, DataW.held.injEq] at hv; rw [hv.1]; rfl
  | some x => rw [hf] at hv; simp only [heldR, heldD, Option.some.injEq, Prod.mk.injEq, DataW.held.injEq] at hv; rw [hv.1]; rfl
theorem put_facts {D : DataW Value} (hm : IsMap D) (hkl : WideAt.IsKeyLit kl) (hD : ∀ k, WideAt.IsKeyLit k → (∀ z, D.atKey k z = heldD (f k) z) ∧ Maps.has D k = (f k).isSome) : ∀ k, WideAt.IsKeyLit k → (∀ z, (D.put kl (.held v)).atKey k z = heldD (updK f kl (some v) k) z) ∧ Maps.has (D.put kl (.held v)) k = (updK f kl (some v) k).isSome := fun k hk => by
  by_cases e : k = kl
  · subst e
    rw [has_put_same hm hk]
    rw [updK_same]
    exact ⟨fun z => by rw [atKey_put_same hm hk]; rfl, rfl⟩
  · rw [has_put_other e]
    rw [updK_other _ _ e]
    exact ⟨fun z => by rw [atKey_put_other e, (hD k hk).1], (hD k hk).2⟩
theorem put (M : MapV w kt mb n f) (K : Keyed Tryz.prog kt) (ht : Tryz.prog.underlying t = some (.map kt e)) (hn : n < maxLen) (hkey : keyOf Tryz.prog kt key = some kl) (hkl : WideAt.IsKeyLit kl) (v : Value) :
    ∃ w', (Instr.mapUpdate t (.map (some mb)) key v).run Tryz.prog w = .ok () w' ∧ MapV w' kt mb (n + 1) (updK f kl (some v)) ∧ w.grownBy w' (some mb) ∧ w'.heap.size = w.heap.size := by
  obtain ⟨D, hown, hD⟩ := M
  obtain ⟨w', hrun, hown', ht'⟩ := hown.store K ht hn hkey (show heldR v = some (.held v, []) from rfl)
  exact ⟨w', hrun, ⟨_, hown', put_facts hown.isMap hkl hD⟩, ht'.grown, by obtain ⟨_, _, _, _, _, rfl⟩ := ht'; simp [setBlock]⟩
theorem del (M : MapV w kt mb n f) (K : Keyed Tryz.prog kt) (ht : Tryz.prog.underlying t = some (.map kt e)) (hkey : keyOf Tryz.prog kt key = some kl) (ty : TypeId) :
    ∃ w', (Builtin.delete_ #[t, kt] ty #[.map (some mb), key]).run Tryz.prog w = .ok (.tuple #[]) w' ∧ MapV w' kt mb n (updK f kl none) ∧ w.grownBy w' (some mb) ∧ w'.heap.size = w.heap.size := by
  obtain ⟨D, hown, hD⟩ := M
  obtain ⟨w', hrun, hown', hg⟩ := hown.drop K ht hkey ty
  refine ⟨w', hrun, ⟨_, hown', fun k hk => ?_⟩, hg.grown, by obtain ⟨_, _, _, _, _, rfl⟩ := hg; simp [setBlock]⟩
  by_cases e : k = kl
  · subst e
    rw [has_del_same, updK_same]
    exact ⟨fun z => by rw [atKey_del_same]; rfl, rfl⟩
  · rw [has_del_other e, (hD k hk).2, updK_other _ _ e]
    exact ⟨fun z => by rw [atKey_del_other e, (hD k hk).1], rfl⟩
/-- A new key, by its entry: the entry comes to be with a zero value, then the value is stored. -/
theorem entry (M : MapV w kt mb n f) (K : Keyed Tryz.prog kt) (ht : Tryz.prog.underlying t = some (.map kt e)) (hz : (zeroValue e).run Tryz.prog w = .ok z w) (hn : n < maxLen) (hkey : keyOf Tryz.prog kt key = some kl) (hkl : WideAt.IsKeyLit kl) (hno : f kl = none) (v : Value) :
    ∃ w1 w2 c, (Instr.mapEntry t (.map (some mb)) key).run Tryz.prog w = .ok (.tuple #[z, .int .i64 c]) w1 ∧ (Instr.entryStore t (.map (some mb)) (.int .i64 c) v).run Tryz.prog w1 = .ok () w2 ∧ w.grownBy w1 (some mb) ∧ w1.heap.size = w.heap.size ∧ (∃ es cl, w1.heap[mb]? = some (.map es cl)) ∧ MapV w2 kt mb (n + 1) (updK f kl (some v)) ∧ w.grownBy w2 (some mb) ∧ w2.heap.size = w.heap.size := by
  obtain ⟨w', hrun', M', hg', hs'⟩ := M.put K ht hn hkey hkl v
  obtain ⟨D, ⟨es, clock, hb, F, hs, hDe⟩, hD⟩ := M
  have hhas : Maps.has D kl = false := by rw [(hD kl hkl).2, hno]; rfl
  have hb1 := heap_setBlock_same (o := .map (es.push ⟨key, z, clock⟩) (clock + 1)) hb
  rcases K.find w hkey es.toList F.keys with ⟨h1, h2⟩ | ⟨j, e0, h1, h2, h3⟩
  · have r1 : (Instr.mapEntry t (.map (some mb)) key).run Tryz.prog w = .ok (.tuple #[z, .int .i64 clock]) (setBlock w mb (.map (es.push ⟨key, z, clock⟩) (clock + 1))) := by
      simp [Instr.mapEntry, run_underlying ht, MapKept.run_getObj_map hb, K.check w false hkey, h1, hz, MapKept.run_setObj_map _ hb, Result.andThen, setBlock, goInt]
    have hst := (stamped_iff es clock).1 F.stamped
    have hfi : (es.push ⟨key, z, clock⟩).findIdx? (fun e => (e.born : Int) == (clock : Int)) = some es.size := by
      rw [Array.findIdx?_push, Array.findIdx?_eq_none_iff.2 (fun x hx => ?_)]
      · simp
      · have := hst.1 x (by simpa using hx)
        simp only [beq_eq_false_iff_ne, ne_eq, Int.natCast_inj]
        omega
    have hmod : (es.push ⟨key, z, clock⟩).modify es.size (fun e => { e with val := v }) = es.push ⟨key, v, clock⟩ := by
      apply Array.ext (by simp)
      intro i h1' h2'
      simp only [Array.getElem_modify, Array.getElem_push]
      by_cases hi : i < es.size
      · rw [dif_pos hi, dif_pos hi, if_neg (by omega)]
      · rw [dif_neg hi, dif_neg hi, if_pos (by simp at h2'; omega)]
    have r2 : (Instr.entryStore t (.map (some mb)) (.int .i64 clock) v).run Tryz.prog (setBlock w mb (.map (es.push ⟨key, z, clock⟩) (clock + 1))) = .ok () (setBlock w mb (.map (es.push ⟨key, v, clock⟩) (clock + 1))) := by
      have e1 : setBlock w mb (.map (es.push ⟨key, v, clock⟩) (clock + 1)) = setBlock (setBlock w mb (.map (es.push ⟨key, z, clock⟩) (clock + 1))) mb (.map (es.push ⟨key, v, clock⟩) (clock + 1)) := by simp [setBlock]
      rw [e1]
      generalize setBlock w mb (.map (es.push ⟨key, z, clock⟩) (clock + 1)) = W1 at hb1 ⊢
      simp [Instr.entryStore, MapKept.run_getObj_map hb1, asInt, asIntOf, hfi, hmod, MapKept.run_setObj_map _ hb1, Result.andThen, setBlock]
    have r3 : (Instr.mapUpdate t (.map (some mb)) key v).run Tryz.prog w = .ok () (setBlock w mb (.map (es.push ⟨key, v, clock⟩) (clock + 1))) := by
      simp [Instr.mapUpdate, run_underlying ht, MapKept.run_getObj_map hb, K.check w false hkey, h1, MapKept.run_setObj_map _ hb, Result.andThen, setBlock]
    obtain rfl : setBlock w mb (.map (es.push ⟨key, v, clock⟩) (clock + 1)) = w' := by rw [r3] at hrun'; simpa using hrun'
    refine ⟨_, _, _, r1, r2, ?_, by simp [setBlock], ⟨_, _, hb1⟩, M', hg', hs'⟩
    exact (show w.mapTurned (setBlock w mb (.map (es.push ⟨key, z, clock⟩) (clock + 1))) mb from ⟨es, clock, _, _, hb, rfl⟩).grown
  · exfalso
    rcases Maps.fit_look true K ht hz hb F hkey with ⟨_, hne, _⟩ | ⟨_, y, _, _, _, _, hat, _⟩
    · exact hne e0 (List.mem_of_getElem? h2) h3
    · rw [hDe, Maps.has_true_of_atKey hat] at hhas
      cases hhas
end MapV
end Go.Proofs.YtcejpeohkgchdabGreatDoor
namespace Go.Proofs.YtcejpeohkgchdabGreatDoor
open Go.RowKit Go.Maps

theorem wpList_mapPut {P : Program} {ops : Array Oper} {rest : List Oper} {o : Oper} {a : Act} {w w' : World} {Q : Exit → Act → World → Prop} (hgd : o.guard = none) (m x v : Operand) (t : TypeId) (ho : o.op = .mapUpdate t m x v) (mv xv vv : Value)
    (hm : a.eval m = mv) (hx : a.eval x = xv) (hv : a.eval v = vv) (hr : (Instr.mapUpdate t mv xv vv).run P w = .ok () w') (h : wpList P ops Q rest (a.put o.dst undef) w') : wpList P ops Q (o :: rest) a w := by
  refine wpList_plain hgd fun K' hK' => ?_
  unfold Oper.wp
  simp [execOp, ho, hm, hx, hv, hr, Result.andThen]
  exact hK' _ _ h
theorem over_out {β : Type} {l vs : List β} {o j : Nat} (h : o + vs.length ≤ l.length) (hj : j < o ∨ o + vs.length ≤ j) : (over l o vs)[j]? = l[j]? := by
  unfold over
  rcases hj with hj | hj
  · rw [List.getElem?_append_left (by rw [List.length_take]; omega), List.getElem?_take_of_lt hj]
  · rw [List.getElem?_append_right (by rw [List.length_take]; omega), List.getElem?_append_right (by rw [List.length_take]; omega), List.getElem?_drop, List.length_take]
    congr 1; omega
theorem over_len {β : Type} {l vs : List β} {o : Nat} (h : o + vs.length ≤ l.length) : (over l o vs).length = l.length := by
  unfold over
  simp only [List.length_append, List.length_take, List.length_drop]; omega
/-- A node is written. -/
theorem node_store {w : World} {b o : Nat} {cur : Array Value} {ty : TypeId} (hr : w.heap[b]? = some (.cells cur ty (0, 0))) (hs : o + 4 ≤ cur.size) (t : Tree) (u : Value) (Q : Nat → Prop) :
    NodeC (w.setCells b o [.string t.kind, .string t.data, .bool t.exec, u]) b o t u ∧ EFrame Q b o w (w.setCells b o [.string t.kind, .string t.data, .bool t.exec, u]) ∧ w.grownBy (w.setCells b o [.string t.kind, .string t.data, .bool t.exec, u]) (some b) := by
  have hth : w.there b o [Value.string t.kind, .string t.data, .bool t.exec, u].length := there_row hr hs
  have hra := World.rangeAt_setCells_same w b o [.string t.kind, .string t.data, .bool t.exec, u] hth
  have hk : ∀ k, k ≠ b → (w.setCells b o [.string t.kind, .string t.data, .bool t.exec, u]).heap[k]? = w.heap[k]? := fun k hk => block_setCells hk _ _ _
  refine ⟨⟨hra 0 _ rfl, hra 1 _ rfl, hra 2 _ rfl, hra 3 _ rfl⟩, ⟨fun k obj h1 _ h3 _ => (hk k h3).trans h1, fun c ty' hc => ?_⟩, ?_⟩
  · rw [hr] at hc
    obtain ⟨rfl, rfl⟩ : cur = c ∧ ty = ty' := by simpa using hc
    have hl : o + [Value.string t.kind, .string t.data, .bool t.exec, u].length ≤ cur.toList.length := by simpa using hs
    refine ⟨_, row_setCells _ _ _ _ hr hs, by simpa using over_len hl, fun j hj => ?_⟩
    have := over_out (j := j) hl hj
    simpa using this
  · obtain ⟨r1, r2, r3⟩ := rest_setCells (b := b) [.string t.kind, .string t.data, .bool t.exec, u] o w
    exact ⟨r1, r2, r3, by rw [size_setCells]; exact Nat.le_refl _, fun k _ hne => hk k (fun e => hne (by rw [e]))⟩
theorem tr_tb {o : Obj} (h : trTy o = true) : tbTy o = false := by
  cases o with
  | cells c t f =>
    simp only [trTy, Bool.or_eq_true, beq_iff_eq] at h
    rcases h with rfl | rfl <;> rfl
  | _ => cases h
/-- A table's state. -/
structure TSt where
  bl : List (List UInt8)
  u : List Bool
  tab : List (Option Ino)
def bksOf (s : TSt) (d : ByteArray) : List Nat := (freeR s.u).take (needN d.size)
def mk1 (s : TSt) (d : ByteArray) (ex : Bool) : TSt := ⟨writeR s.bl (bksOf s d) d, markR s.u true (bksOf s d), putN s.tab ⟨d.size, 1, ex, bksOf s d, crcR d⟩⟩
def mkL (s : TSt) (l : List (ByteArray × Tree)) : TSt := l.foldl (fun s x => mk1 s x.2.data x.2.exec) s
theorem mkL_snoc (s : TSt) (l : List (ByteArray × Tree)) (x : ByteArray × Tree) : mkL s (l ++ [x]) = mk1 (mkL s l) x.2.data x.2.exec := by simp [mkL]
/-- The files' inodes. -/
def inoL : TSt → List (ByteArray × Tree) → List (ByteArray × Nat)
  | _, [] => []
  | s, x :: l => (x.1, nextR s.tab) :: inoL (mk1 s x.2.data x.2.exec) l
theorem inoL_snoc : ∀ (l : List (ByteArray × Tree)) (s : TSt) (x : ByteArray × Tree), inoL s (l ++ [x]) = inoL s l ++ [(x.1, nextR (mkL s l).tab)]
  | [], s, x => rfl
  | y :: l, s, x => by
    rw [List.cons_append, inoL, inoL_snoc l, inoL]
    rfl
theorem inoL_len : ∀ (l : List (ByteArray × Tree)) (s : TSt), (inoL s l).length = l.length
  | [], _ => rfl
  | x :: l, s => by rw [inoL, List.length_cons, inoL_len l, List.length_cons]
/-- A map of paths to numbers. -/
noncomputable def fmap (l : List (ByteArray × Nat)) : Lit → Option Value := l.foldl (fun f x => updK f (.string x.1.data.toList) (some (.int .i64 (x.2 : Int)))) (fun _ => none)
theorem fmap_snoc (l : List (ByteArray × Nat)) (x : ByteArray × Nat) : fmap (l ++ [x]) = updK (fmap l) (.string x.1.data.toList) (some (.int .i64 (x.2 : Int))) := by simp [fmap]
theorem free_mark (u : List Bool) (k : Nat) : (freeR (markR u true ((freeR u).take k))).length = (freeR u).length - k := by
  have hnd : (freeR u).Nodup := whereR_nodup _ _ _
  have hsp : (freeR u).take k ++ (freeR u).drop k = freeR u := List.take_append_drop k _
  have hnd2 := hnd
  rw [← hsp] at hnd2
  obtain ⟨_, _, hdis⟩ := List.nodup_append.1 hnd2
  have hp : (freeR (markR u true ((freeR u).take k))).Perm ((freeR u).drop k) := (List.perm_ext_iff_of_nodup (whereR_nodup _ _ _) (hnd.sublist (List.drop_sublist k _))).2 fun x => by
    have e0 : x ∈ whereR (fun b => !b) (markR u true ((freeR u).take k)) (markR u true ((freeR u).take k)).length ↔ (markR u true ((freeR u).take k))[x]? = some false := mem_free
    rw [e0]
    constructor
    · intro hx
      by_cases hin : x ∈ (freeR u).take k
      · rw [markR_in hin (by have := mem_free.1 (List.mem_of_mem_take hin); exact (List.getElem?_eq_some_iff.1 this).1)] at hx
        cases hx
      · rw [markR_not hin] at hx
        have hf := mem_free.2 hx
        rw [← hsp, List.mem_append] at hf
        exact hf.resolve_left hin
    · intro hx
      have hin : x ∉ (freeR u).take k := fun h => hdis x h x hx rfl
      rw [markR_not hin]
      exact mem_free.1 (List.mem_of_mem_drop hx)
  rw [hp.length_eq, List.length_drop]
section
variable {w w' : World} {F : Nat → Prop} {T0 tb bb sp sb cap mb n : Nat} {bl : List (List UInt8)} {u : List Bool} {tab : List (Option Ino)}
/-- A table stays while another map, or a node, is written. -/
theorem TbAt.but1 {c : Nat} (T : TbAt w F T0 tb bb sp sb cap mb n bl u tab) (h : ∀ k o, w.heap[k]? = some o → k ≠ c → w'.heap[k]? = some o) (hc : c ≠ mb) (ho : ∀ o, w.heap[c]? = some o → mpTy o = true ∨ trTy o = true) : TbAt w' F T0 tb bb sp sb cap mb n bl u tab := by
  have ht : Turn (fun o => mpTy o || trTy o) w w' := fun k o hk hp => h k o hk (fun e => by
    rw [e] at hk
    simp only [Bool.or_eq_false_iff] at hp
    rcases ho o hk with h1 | h1
    · rw [h1] at hp; cases hp.1
    · rw [h1] at hp; cases hp.2)
  obtain ⟨f, Nd⟩ := T.nodes
  refine ⟨ht _ _ T.box rfl, T.disk.turn ht (fun _ _ => rfl) (fun _ _ => rfl) (fun _ _ => rfl), T.space.turn ht (fun _ _ => rfl) (fun _ _ => rfl), ⟨f, ?_, fun k x hx => ?_, Nd.none_, Nd.inj⟩, T.low⟩
  · obtain ⟨es, cl, hb⟩ := Nd.map.obj
    exact Nd.map.keep (by rw [hb]; exact h _ _ hb hc.symm)
  · obtain ⟨b, e, hb, S⟩ := Nd.some_ k x hx
    exact ⟨b, e, hb, S.turn ht (fun _ _ => rfl) (fun _ _ => rfl)⟩
end
/-- What stays while files come and go: all but the table, and nodes. -/
structure DFr (T0 mb : Nat) (w w' : World) : Prop where
  os : w'.os = w.os
  tape : w'.tape = w.tape
  output : w'.output = w.output
  size : w.heap.size ≤ w'.heap.size
  block : ∀ (k : Nat) (o : Obj), w.heap[k]? = some o → trTy o = false → (k < T0 ∨ tbTy o = false) → w'.heap[k]? = some o
  maps : ∀ (k : Nat) (o : Obj), w.heap[k]? = some o → mpTy o = true → k ≠ mb → w'.heap[k]? = some o
namespace DFr
variable {T0 mb : Nat} {w w' w'' : World}
theorem refl (T0 mb : Nat) (w : World) : DFr T0 mb w w := ⟨rfl, rfl, rfl, Nat.le_refl _, fun _ _ h _ _ => h, fun _ _ h _ _ => h⟩
theorem trans (h : DFr T0 mb w w') (h' : DFr T0 mb w' w'') : DFr T0 mb w w'' :=
  ⟨h'.os.trans h.os, h'.tape.trans h.tape, h'.output.trans h.output, Nat.le_trans h.size h'.size, fun k o hk ht hp => h'.block k o (h.block k o hk ht hp) ht hp, fun k o hk hp hm => h'.maps k o (h.maps k o hk hp hm) hp hm⟩
theorem of_tb (h : TbBut T0 mb w w') : DFr T0 mb w w' := ⟨h.os, h.tape, h.output, h.size, fun k o hk _ hp => h.block k o hk hp, h.maps⟩
/-- Behind it a block is written that was not there, or that nodes lie in. -/
theorem one {c : Nat} (h : DFr T0 mb w w') (hg : w'.grownBy w'' (some c)) (hc : ∀ o, w.heap[c]? = some o → trTy o = true) : DFr T0 mb w w'' := by
  have hne : ∀ k o, w.heap[k]? = some o → trTy o = false → w'.heap[k]? = some o → w''.heap[k]? = some o := fun k o hk ht hk' => by
    rw [hg.block k (Array.getElem?_eq_some_iff.1 hk').1 (fun e => ?_)]
    · exact hk'
    · cases e; rw [hc o hk] at ht; cases ht
  refine ⟨hg.os.trans h.os, hg.tape.trans h.tape, hg.output.trans h.output, Nat.le_trans h.size hg.size, fun k o hk ht hp => hne k o hk ht (h.block k o hk ht hp), fun k o hk hp hm => hne k o hk ?_ (h.maps k o hk hp hm)⟩
  cases o <;> first | rfl | (cases hp)
theorem cell {g : Nat} {e : Value} {t : TypeId} {cs : Array Value} (h : DFr T0 mb w w') (hk : w.heap[g]? = some (.cells cs t (0, 0))) (ht : trTy (.cells cs t (0, 0)) = false) (hg : g < T0 ∨ tbTy (.cells cs t (0, 0)) = false) (hc : w.cell? ⟨g, 0, none⟩ = some e) : w'.cell? ⟨g, 0, none⟩ = some e := by
  rw [World.cell?_of_block (a := ⟨g, 0, none⟩) ((h.block g _ hk ht hg).trans hk.symm)]; exact hc
end DFr
end Go.Proofs.YtcejpeohkgchdabGreatDoor
namespace Go.Proofs.YtcejpeohkgchdabGreatDoor
open Go.RowKit

set_option maxRecDepth 100000 in
set_option maxHeartbeats 2000000 in
theorem sameInts_any (v1 v2 : Value) (l : List Int) (w : World) (h1 : IntsAt w v1 l) (h2 : IntsAt w v2 l) (hl : l.length ≤ 100000) :
    Calls Tryz.prog 22 #[v1, v2] w fun e w' => e = .returned (.bool true) ∧ Below w.heap.size w w' := by
  obtain ⟨a1, c1, rfl, hc1⟩ := h1
  obtain ⟨a2, c2, rfl, hc2⟩ := h2
  have HC1 : Hid (∀ i x, l[i]? = some x → ∃ b off, a1 = some ⟨b, off, none⟩ ∧ w.cell? ⟨b, off + i, none⟩ = some (.int .i64 x)) := hc1
  have HC2 : Hid (∀ i x, l[i]? = some x → ∃ b off, a2 = some ⟨b, off, none⟩ ∧ w.cell? ⟨b, off + i, none⟩ = some (.int .i64 x)) := hc2
  clear hc1 hc2
  go_enter Tryz.func22, Tryz.ntmps22
  go_wp2_with fail
  go_loopw [5] (fun i wr => ∃ j : Nat, j ≤ l.length ∧ i = .int .i64 j ∧ Below w.heap.size w wr) (fun i _ => l.length - (intOf i).toNat)
  case atStart => exact ⟨0, Nat.zero_le _, rfl, Below.refl _ _⟩
  case round =>
    obtain ⟨j, hj, rfl, hb⟩ := hrel
    have HB : Hid (Below w.heap.size w wr) := hb
    by_cases hlt : j < l.length
    · obtain ⟨x, hx⟩ : ∃ x, l[j]? = some x := ⟨_, List.getElem?_eq_getElem hlt⟩
      obtain ⟨b1, o1, rfl, k1⟩ := HC1.out j x hx
      obtain ⟨b2, o2, rfl, k2⟩ := HC2.out j x hx
      have d1 : wr.cell? ⟨b1, o1 + j, none⟩ = some (.int .i64 x) := by rw [hb.cell (p := ⟨b1, o1 + j, none⟩) (World.block_lt_of_cell? w _ k1)]; exact k1
      have d2 : wr.cell? ⟨b2, o2 + j, none⟩ = some (.int .i64 x) := by rw [hb.cell (p := ⟨b2, o2 + j, none⟩) (World.block_lt_of_cell? w _ k2)]; exact k2
      clear hb hx k1 k2
      go_wp2_with fail
      go_quiet (fail)
      go_wp2_with fail
      exact ⟨⟨j + 1, by omega, by simp, ⟨HB.out.os, HB.out.tape, HB.out.output, HB.out.size, HB.out.block⟩⟩, by simp [intOf]; omega⟩
    · clear hb
      go_wp2_with fail
      go_ret
      exact ⟨rfl, HB.out⟩
theorem built_t (W : World) (l : List Int) (a : Array Value) (ha : a = (l.map (Value.int .i64)).toArray) : IntsT (W.alloc (.cells a 3)) (.slice (some ⟨W.heap.size, 0, none⟩) l.length l.length) l :=
  ⟨_, _, rfl, fun _ => ⟨_, _, a, rfl, heap_alloc_last _ _, fun i x hx => by rw [ha, Nat.zero_add, List.getElem?_toArray, List.getElem?_map, hx]; rfl⟩⟩
end Go.Proofs.YtcejpeohkgchdabGreatDoor
