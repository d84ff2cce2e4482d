/-
  The law 'PathActs' returns true for every input: the program's answers by paths are the document's
  Conditions: those that each states.
-/
import Derived.Test.YtpjjpmikhjlgnaaGreatDoorCards
import Derived.Test.YtpjjpmikhjlgnaaGreatDoorTie
import Derived.Test.YtpjjpmikhjlgnaaGreatDoorM28
import Derived.Lay
import Derived.Test.YtpjjpmikhjlgnaaGreatDoorM29
import Derived.ProofKit
import Derived.Carry
import Derived.ChangeMaps5
import Derived.ChangeSame
import Derived.ChangeVars
import Derived.JoinedOf
import Derived.LaidMore
import Derived.Stop.Joined
import Derived.SevenTiedAt
namespace Go.Proofs.YtpjjpmikhjlgnaaGreatDoor
open Go.ChangeShapes Go.WideShapes Go.RowKit


set_option maxRecDepth 100000 in
theorem pathActs_lifted (os : Os) (started : os.Started) (H : Type) (enc : TypeId × Value → H) :
    ReturnsInHanded {} Tryz.checked os 3 .any (fun w args => (Rows.pathActsSpec.pre enc Tryz.prog Tryz.f3 [] false w args ∧ laidMetH Tryz.prog Rows.pathActsRow.laid w) ∧ sizedMet enc Tryz.prog Tryz.f3 (OpenSpec.ofChange Rows.pathActsSpec) false w args)
      (Rows.pathActsSpec.post enc Tryz.prog Tryz.f3 false true false false) := by
  refine handed_and_shaped (C := Tryz.checked) (X := fun w _ => laidMetH Tryz.prog Rows.pathActsRow.laid w) (fun _ _ _ hh h => h.of_heap hh) sums_own started (by kernel_rfl) Tryz.func3
    (ChangeSpec.witness_shaped (enc := enc) (C := Tryz.checked) (os := os) (X := fun w _ => laidMetH Tryz.prog Rows.pathActsRow.laid w) false ((((World.holding Tryz.prog os ⟨#[], #[], []⟩).setCell ⟨13, 0, none⟩ (.iface 157 (.agg #[.pointer (some ⟨17, 30, none⟩)]))).layVars Tryz.prog filesPlain)) #[.agg #[.string { data := #[] }, .string { data := #[] }, .bool false, .slice none 0 0], .string { data := #[] }, .agg #[.string { data := #[] }, .string { data := #[] }, .bool false, .slice none 0 0]] 8 (filesWorld_os os) (World.shaped_of_ZipB (by kernel_rfl) (by kernel_rfl)) (by kernel_rfl) (by kernel_rfl) (by kernel_rfl) (pathActs_door os _)) ?_
  intro W base args ds gs before hval0 hW hsz0 hL hsh
  have hval : ∀ (j : Nat) t v, Tryz.f3.params[j]? = some t → args[j]? = some v → Value.okWide Tryz.prog W .any base t v := hval0
  have hW' := hW
  obtain ⟨p, q, hA0, hV, rfl, hfz, hnd⟩ := hW
  have hA : DataW.TrodAll enc Tryz.prog W 0 (fun _ => true) true Tryz.f3.params.toList args.toList ds p := hA0
  have hsz : (DataW.weightsEach Tryz.prog (Tryz.f3.params.toList ++ Rows.pathActsSpec.plain.varTypes Tryz.prog) (ds ++ gs)).all (· ≤ reachBytes) = true := hsz0
  rw [Tryz.params3] at hA hval hsz
  obtain ⟨v0, v1, v2, d0, d1, d2, p0, p1, p2, rfl, rfl, rfl, h0, h1, h2⟩ := trodAll_three hA
  obtain ⟨rfl, rfl⟩ := trodVars_none hV
  have hw0 : ∀ m ∈ d0.weights Tryz.prog 24, m ≤ reachBytes := fun m hm => by
    have := List.all_eq_true.1 hsz m (DataW.weights_mem_each (j := 0) (t := 24) (d := d0) rfl rfl m hm)
    simpa using this
  have hw2 : ∀ m ∈ d2.weights Tryz.prog 24, m ≤ reachBytes := fun m hm => by
    have := List.all_eq_true.1 hsz m (DataW.weights_mem_each (j := 2) (t := 24) (d := d2) rfl rfl m hm)
    simpa using this
  obtain ⟨t0, u0, n0, rfl, hl0, _⟩ := node_arg (hval 0 24 v0 rfl rfl) h0 hw0
  obtain ⟨q1, rfl, rfl, rfl, hq1⟩ := ChangeMaps.open_string Tryz.underlying9 (hval 1 9 v1 rfl rfl) h1
  obtain ⟨t2, u2, n2, rfl, hl2, _⟩ := node_arg (hval 2 24 v2 rfl rfl) h2 hw2
  obtain ⟨a, S⟩ := sents_of_laid hL
  have hl0m := Lies.up (Nat.le_refl _) (Nat.le_max_left n0 n2) hl0
  have hl2m := Lies.up (Nat.le_refl _) (Nat.le_max_right n0 n2) hl2
  clear hA0 hval0
  simp only [List.append_nil] at hW'
  have hp : ∀ x ∈ p0 ++ p2, x.block < W.heap.size := fun x hx => by simpa using hW'.lt x hx
  have hp0 : ∀ x ∈ p0, x.block < W.heap.size := fun x hx => hp x (List.mem_append_left _ hx)
  have hp2 : ∀ x ∈ p2, x.block < W.heap.size := fun x hx => hp x (List.mem_append_right _ hx)
  have e1 : Rows.pathActsSpec.fn H ([d0, .lit (.string q1.data.toList), d2] ++ []) = { results := [.lit (.bool true)], args := [d0, .lit (.string q1.data.toList), d2] } := by simp [Rows.pathActsSpec]
  refine (pathActs_any a (max n0 n2) t0 t2 u0 u2 q1 W S (max_of_shaped hsh) hl0m hl2m hq1).mono fun e W' ⟨he, hb⟩ => ?_
  subst he
  refine ⟨_, rfl, _, _, _, [], p0 ++ ([] ++ (p2)), [], by simpa using hW', ?_, ?_, ?_, hb.frame _, fun h => by cases h⟩
  · rw [e1]; exact trodAll_mk1 (shut_bool Tryz.underlying4 true)
  · rw [e1]; exact trodAll_mk3 (Below.trod sums_laidOut (by kernel_rfl) (of_decide_eq_true (by kernel_rfl)) h0 hb hp0) (ChangeMaps.shut_string Tryz.underlying9 hq1) (Below.trod sums_laidOut (by kernel_rfl) (of_decide_eq_true (by kernel_rfl)) h2 hb hp2)
  · rw [e1]; rfl

theorem pathActs_holds : Rows.PathActsSaid :=
  OpenClaim.holds_of_wide 3 Tryz.f3 rfl rfl rfl rfl rfl rfl rfl ⟨rfl, rfl, rfl, rfl, rfl⟩ rfl rfl rfl rfl rfl (by kernel_rfl) Tryz.func3 (by kernel_rfl)
    (of_decide_eq_true (by kernel_rfl)) (by unfold Func.isWrapper; rw [if_neg (of_decide_eq_false (by kernel_rfl))]; exact ⟨rfl, rfl⟩)
    (fun os started H enc _ => pathActs_lifted os started H enc)

theorem pathActs_card : Rows.PathActsCardSaid :=
  Claim7.holds_tied_plain_at .later Rows.pathActsCard.alts Rows.pathActsCard.laidKinds true Rows.pathActsCard.stood.harness Rows.pathActsCard.stood.looks
    pathActs_holds (fun _ h => by cases h) (by kernel_rfl) (fun _ h => by cases h) pathActs_row_tie rfl ⟨rfl, rfl⟩ (by kernel_rfl) rfl
    (fun f fn hf hfn => by
      obtain rfl : f = 3 := Option.some.inj ((show Tryz.prog.funcNamed Rows.pathActsRow.func = some 3 by kernel_rfl).symm.trans hf) |>.symm
      obtain rfl : fn = Tryz.f3 := (Option.some.inj (Tryz.func3.symm.trans hfn)).symm
      exact ⟨by kernel_rfl, fun j t ht => by
        rw [Tryz.params3] at ht
        have hm : t ∈ [24, 9, 24] := by simpa using Array.mem_of_getElem? ht
        have hall : ([24, 9, 24].all fun u => !Tryz.prog.wantsStandIn u) = true := by kernel_rfl
        exact (show Tryz.prog.wantsStandIn t = false by simpa using List.all_eq_true.1 hall t hm)⟩)
    (by kernel_rfl)
#print axioms pathActs_card
end Go.Proofs.YtpjjpmikhjlgnaaGreatDoor
