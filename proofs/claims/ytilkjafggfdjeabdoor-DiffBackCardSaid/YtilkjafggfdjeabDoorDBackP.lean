/-
  The law 'DiffBack' returns true for every input: what Diff tells, applied to the one tree, makes the other one; of a tree with itself there is nothing; no change tells of what is alike
  Conditions: none beside the row's own; the listed variables are tied to the program's text by the given tie (over the pruned copy of the project).
-/
import Derived.Test.YtilkjafggfdjeabDoorCards
import Derived.Test.YtilkjafggfdjeabDoorTie
import Derived.Test.YtilkjafggfdjeabDoorDBackW
import Derived.Test.YtilkjafggfdjeabDoorLaidD
import Derived.Lay
import Derived.Test.YtilkjafggfdjeabDoorShaped
import Derived.Test.YtilkjafggfdjeabDoorArg
import Derived.ProofKit
import Derived.Carry
import Derived.ChangeMaps5
import Derived.ChangeSame
import Derived.ChangeVars
import Derived.JoinedOf
import Derived.LaidMore
import Derived.Stop.Joined
import Derived.SevenTiedAt
namespace Go.Proofs.YtilkjafggfdjeabDoor
open Go.ChangeShapes Go.WideShapes Go.RowKit


set_option maxRecDepth 100000 in
theorem diffBack_lifted (os : Os) (started : os.Started) (H : Type) (enc : TypeId × Value → H) :
    ReturnsInHanded {} Tryd.checked os 6 .any (fun w args => (Rows.diffBackSpec.pre enc Tryd.prog Tryd.f6 [] false w args ∧ laidMetH Tryd.prog Rows.diffBackRow.laid w) ∧ sizedMet enc Tryd.prog Tryd.f6 (OpenSpec.ofChange Rows.diffBackSpec) false w args)
      (Rows.diffBackSpec.post enc Tryd.prog Tryd.f6 false true false false) := by
  refine handed_and_shaped (C := Tryd.checked) (X := fun w _ => laidMetH Tryd.prog Rows.diffBackRow.laid w) (fun _ _ _ hh h => h.of_heap hh) sums_own started (by kernel_rfl) Tryd.func6
    (ChangeSpec.witness_shaped (enc := enc) (C := Tryd.checked) (os := os) (X := fun w _ => laidMetH Tryd.prog Rows.diffBackRow.laid w) false (World.laidAll Tryd.prog os Rows.diffBackRow.laid) #[.agg #[.string { data := #[] }, .string { data := #[] }, .bool false, .slice none 0 0], .agg #[.string { data := #[] }, .string { data := #[] }, .bool false, .slice none 0 0]] 8 (World.laidAll_os _ _ _) (World.shaped_of_ZipB (by kernel_rfl) (by kernel_rfl)) (by kernel_rfl) (by kernel_rfl) (by kernel_rfl) (by rw [MakeChecks.laidMetH_plain _ _ _ (by kernel_rfl)]; exact laidMet_laidAll _ (by kernel_rfl) (by kernel_rfl))) ?_
  intro W base args ds gs before hval0 hW hsz0 hL hsh
  have hval : ∀ (j : Nat) t v, Tryd.f6.params[j]? = some t → args[j]? = some v → Value.okWide Tryd.prog W .any base t v := hval0
  have hW' := hW
  obtain ⟨p, q, hA0, hV, rfl, hfz, hnd⟩ := hW
  have hA : DataW.TrodAll enc Tryd.prog W 0 (fun _ => true) true Tryd.f6.params.toList args.toList ds p := hA0
  have hsz : (DataW.weightsEach Tryd.prog (Tryd.f6.params.toList ++ Rows.diffBackSpec.plain.varTypes Tryd.prog) (ds ++ gs)).all (· ≤ reachBytes) = true := hsz0
  rw [Tryd.params6] at hA hval hsz
  obtain ⟨v0, v1, d0, d1, p0, p1, rfl, rfl, rfl, h0, h1⟩ := trodAll_two hA
  obtain ⟨rfl, rfl⟩ := trodVars_none hV
  have hw0 : ∀ m ∈ d0.weights Tryd.prog 24, m ≤ reachBytes := fun m hm => by
    have := List.all_eq_true.1 hsz m (DataW.weights_mem_each (j := 0) (t := 24) (d := d0) rfl rfl m hm)
    simpa using this
  have hw1 : ∀ m ∈ d1.weights Tryd.prog 24, m ≤ reachBytes := fun m hm => by
    have := List.all_eq_true.1 hsz m (DataW.weights_mem_each (j := 1) (t := 24) (d := d1) rfl rfl m hm)
    simpa using this
  obtain ⟨t0, u0, n0, rfl, hl0, _⟩ := node_arg (hval 0 24 v0 rfl rfl) h0 hw0
  obtain ⟨t1, u1, n1, rfl, hl1, _⟩ := node_arg (hval 1 24 v1 rfl rfl) h1 hw1
  obtain ⟨a, S⟩ := dsen_of_laid hL hsh
  have hl0m := Lies.up (Nat.le_refl _) (Nat.le_max_left n0 n1) hl0
  have hl1m := Lies.up (Nat.le_refl _) (Nat.le_max_right n0 n1) hl1
  clear hA0 hval0
  simp only [List.append_nil] at hW'
  have hp : ∀ x ∈ p0 ++ p1, x.block < W.heap.size := fun x hx => by simpa using hW'.lt x hx
  have hp0 : ∀ x ∈ p0, x.block < W.heap.size := fun x hx => hp x (List.mem_append_left _ hx)
  have hp1 : ∀ x ∈ p1, x.block < W.heap.size := fun x hx => hp x (List.mem_append_right _ hx)
  have e1 : Rows.diffBackSpec.fn H ([d0, d1] ++ []) = { results := [.lit (.bool true)], args := [d0, d1] } := by simp [Rows.diffBackSpec]
  refine (diffBack_any a (max n0 n1) t0 t1 u0 u1 W S hl0m hl1m).mono fun e W' ⟨he, hb⟩ => ?_
  subst he
  refine ⟨_, rfl, _, _, _, [], p0 ++ (p1), [], by simpa using hW', ?_, ?_, ?_, hb.frame _, fun h => by cases h⟩
  · rw [e1]; exact trodAll_mk1 (shut_bool Tryd.underlying4 true)
  · rw [e1]; exact trodAll_mk2 (Below.trod sums_laidOut (by kernel_rfl) (of_decide_eq_true (by kernel_rfl)) h0 hb hp0) (Below.trod sums_laidOut (by kernel_rfl) (of_decide_eq_true (by kernel_rfl)) h1 hb hp1)
  · rw [e1]; rfl

theorem diffBack_holds : Rows.DiffBackSaid :=
  OpenClaim.holds_of_wide 6 Tryd.f6 rfl rfl rfl rfl rfl rfl rfl ⟨rfl, rfl, rfl, rfl, rfl⟩ rfl rfl rfl rfl rfl (by kernel_rfl) Tryd.func6 (by kernel_rfl)
    (of_decide_eq_true (by kernel_rfl)) (by unfold Func.isWrapper; rw [if_neg (of_decide_eq_false (by kernel_rfl))]; exact ⟨rfl, rfl⟩)
    (fun os started H enc _ => diffBack_lifted os started H enc)

theorem diffBack_card : Rows.DiffBackCardSaid :=
  Claim7.holds_tied_plain_at .later Rows.diffBackCard.alts Rows.diffBackCard.laidKinds true Rows.diffBackCard.stood.harness Rows.diffBackCard.stood.looks
    diffBack_holds (fun _ h => by cases h) (by kernel_rfl) (fun _ h => by cases h) diffBack_row_tie rfl ⟨rfl, rfl⟩ (by kernel_rfl) rfl
    (fun f fn hf hfn => by
      obtain rfl : f = 6 := Option.some.inj ((show Tryd.prog.funcNamed Rows.diffBackRow.func = some 6 by kernel_rfl).symm.trans hf) |>.symm
      obtain rfl : fn = Tryd.f6 := (Option.some.inj (Tryd.func6.symm.trans hfn)).symm
      exact ⟨by kernel_rfl, fun j t ht => by
        rw [Tryd.params6] at ht
        have hm : t ∈ [24, 24] := by simpa using Array.mem_of_getElem? ht
        have hall : ([24, 24].all fun u => !Tryd.prog.wantsStandIn u) = true := by kernel_rfl
        exact (show Tryd.prog.wantsStandIn t = false by simpa using List.all_eq_true.1 hall t hm)⟩)
    (by kernel_rfl)
#print axioms diffBack_card
end Go.Proofs.YtilkjafggfdjeabDoor
