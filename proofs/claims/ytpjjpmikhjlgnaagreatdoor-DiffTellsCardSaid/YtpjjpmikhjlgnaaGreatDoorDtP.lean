/-
  The law 'DiffTells' returns true for every input: what package diff tells of two trees, and what it makes of any changes, is the document's answer.
  Conditions: none beside the row's own; the listed variables are tied to the program's text by the given tie (over the pruned copy of the project).
-/
import Derived.Test.YtpjjpmikhjlgnaaGreatDoorCards
import Derived.Test.YtpjjpmikhjlgnaaGreatDoorTie
import Derived.Test.YtpjjpmikhjlgnaaGreatDoorYWalk
import Derived.Test.YtpjjpmikhjlgnaaGreatDoorYLaid
import Derived.Lay
import Derived.ProofKit
import Derived.Carry
import Derived.ChangeMaps5
import Derived.ChangeSame
import Derived.ChangeVars
import Derived.JoinedOf
import Derived.LaidMore
import Derived.Stop.Joined
import Derived.SevenTiedAt
namespace Go.Proofs.YtpjjpmikhjlgnaaGreatDoor
open Go.ChangeShapes Go.WideShapes Go.RowKit


set_option maxRecDepth 100000 in
theorem diffTells_lifted (os : Os) (started : os.Started) (H : Type) (enc : TypeId × Value → H) :
    ReturnsInHanded {} Tryz.checked os 4 .any (fun w args => (Rows.diffTellsSpec.pre enc Tryz.prog Tryz.f4 [] false w args ∧ laidMetH Tryz.prog Rows.diffTellsRow.laid w) ∧ sizedMet enc Tryz.prog Tryz.f4 (OpenSpec.ofChange Rows.diffTellsSpec) false w args)
      (Rows.diffTellsSpec.post enc Tryz.prog Tryz.f4 false true false false) := by
  refine handed_and_shaped (C := Tryz.checked) (X := fun w _ => laidMetH Tryz.prog Rows.diffTellsRow.laid w) (fun _ _ _ hh h => h.of_heap hh) sums_own started (by kernel_rfl) Tryz.func4
    (ChangeSpec.witness_shaped (enc := enc) (C := Tryz.checked) (os := os) (X := fun w _ => laidMetH Tryz.prog Rows.diffTellsRow.laid w) false ((((World.holding Tryz.prog os ⟨#[], #[], []⟩).setCell ⟨13, 0, none⟩ (.iface 157 (.agg #[.pointer (some ⟨17, 30, none⟩)]))).layVars Tryz.prog filesPlain)) #[.agg #[.string { data := #[] }, .string { data := #[] }, .bool false, .slice none 0 0], .agg #[.string { data := #[] }, .string { data := #[] }, .bool false, .slice none 0 0], .slice none 0 0] 8 (filesWorld_os os) (World.shaped_of_ZipB (by kernel_rfl) (by kernel_rfl)) (by kernel_rfl) (by kernel_rfl) (by kernel_rfl) (diffTells_door os _)) ?_
  intro W base args ds gs before hval0 hW hsz0 hL hsh
  have hval : ∀ (j : Nat) t v, Tryz.f4.params[j]? = some t → args[j]? = some v → Value.okWide Tryz.prog W .any base t v := hval0
  have hW' := hW
  obtain ⟨p, q, hA0, hV, rfl, hfz, hnd⟩ := hW
  have hA : DataW.TrodAll enc Tryz.prog W 0 (fun _ => true) true Tryz.f4.params.toList args.toList ds p := hA0
  have hsz : (DataW.weightsEach Tryz.prog (Tryz.f4.params.toList ++ Rows.diffTellsSpec.plain.varTypes Tryz.prog) (ds ++ gs)).all (· ≤ reachBytes) = true := hsz0
  rw [Tryz.params4] at hA hval hsz
  obtain ⟨v0, v1, v2, d0, d1, d2, p0, p1, p2, rfl, rfl, rfl, h0, h1, h2⟩ := trodAll_three hA
  obtain ⟨rfl, rfl⟩ := trodVars_none hV
  have hw0 : ∀ m ∈ d0.weights Tryz.prog 24, m ≤ reachBytes := fun m hm => by
    have := List.all_eq_true.1 hsz m (DataW.weights_mem_each (j := 0) (t := 24) (d := d0) rfl rfl m hm)
    simpa using this
  have hw1 : ∀ m ∈ d1.weights Tryz.prog 24, m ≤ reachBytes := fun m hm => by
    have := List.all_eq_true.1 hsz m (DataW.weights_mem_each (j := 1) (t := 24) (d := d1) rfl rfl m hm)
    simpa using this
  have hw2 : ∀ m ∈ d2.weights Tryz.prog 49, m ≤ reachBytes := fun m hm => by
    have := List.all_eq_true.1 hsz m (DataW.weights_mem_each (j := 2) (t := 49) (d := d2) rfl rfl m hm)
    simpa using this
  obtain ⟨t0, u0, n0, rfl, hl0, _⟩ := node_arg (hval 0 24 v0 rfl rfl) h0 hw0
  obtain ⟨t1, u1, n1, rfl, hl1, _⟩ := node_arg (hval 1 24 v1 rfl rfl) h1 hw1
  obtain ⟨l2, n2, hl2⟩ := chgs_arg (hval 2 49 v2 rfl rfl) h2 hw2
  obtain ⟨a, S⟩ := sents_of_laid hL
  have hl0m := Lies.up (Nat.le_refl _) (Nat.le_max_left n0 n1) hl0
  have hl1m := Lies.up (Nat.le_refl _) (Nat.le_max_right n0 n1) hl1
  clear hA0 hval0
  have hp : ∀ x ∈ p0 ++ p1 ++ p2, x.block < W.heap.size := fun x hx => by simpa using hW'.lt x (by simpa using hx)
  have hp0 : ∀ x ∈ p0, x.block < W.heap.size := fun x hx => hp x (List.mem_append_left _ (List.mem_append_left _ hx))
  have hp1 : ∀ x ∈ p1, x.block < W.heap.size := fun x hx => hp x (List.mem_append_left _ (List.mem_append_right _ hx))
  have hp2 : ∀ x ∈ p2, x.block < W.heap.size := fun x hx => hp x (List.mem_append_right _ hx)
  have e1 : Rows.diffTellsSpec.fn H ([d0, d1, d2] ++ []) = { results := [.lit (.bool true)], args := [d0, d1, d2] } := by simp [Rows.diffTellsSpec]
  refine (diffTells_any a (max n0 n1) n2 t0 t1 u0 u1 v2 l2 W S ⟨⟨S.sen, S.c5, max_of_shaped hsh⟩, S.c6⟩ hl0m hl1m hl2).mono fun e W' ⟨he, hb⟩ => ?_
  subst he
  refine ⟨_, rfl, _, _, _, [], p0 ++ (p1 ++ p2), [], by simpa using hW', ?_, ?_, ?_, hb.frame _, fun h => by cases h⟩
  · rw [e1]; exact trodAll_mk1 (shut_bool Tryz.underlying4 true)
  · rw [e1]; exact trodAll_mk3 (Below.trod sums_laidOut (by kernel_rfl) (of_decide_eq_true (by kernel_rfl)) h0 hb hp0) (Below.trod sums_laidOut (by kernel_rfl) (of_decide_eq_true (by kernel_rfl)) h1 hb hp1) (Below.trod sums_laidOut (by kernel_rfl) (of_decide_eq_true (by kernel_rfl)) h2 hb hp2)
  · rw [e1]; rfl

theorem diffTells_holds : Rows.DiffTellsSaid :=
  OpenClaim.holds_of_wide 4 Tryz.f4 rfl rfl rfl rfl rfl rfl rfl ⟨rfl, rfl, rfl, rfl, rfl⟩ rfl rfl rfl rfl rfl (by kernel_rfl) Tryz.func4 (by kernel_rfl)
    (of_decide_eq_true (by kernel_rfl)) (by unfold Func.isWrapper; rw [if_neg (of_decide_eq_false (by kernel_rfl))]; exact ⟨rfl, rfl⟩)
    (fun os started H enc _ => diffTells_lifted os started H enc)

theorem diffTells_card : Rows.DiffTellsCardSaid :=
  Claim7.holds_tied_plain_at .later Rows.diffTellsCard.alts Rows.diffTellsCard.laidKinds true Rows.diffTellsCard.stood.harness Rows.diffTellsCard.stood.looks
    diffTells_holds (fun _ h => by cases h) (by kernel_rfl) (fun _ h => by cases h) diffTells_row_tie rfl ⟨rfl, rfl⟩ (by kernel_rfl) rfl
    (fun f fn hf hfn => by
      obtain rfl : f = 4 := Option.some.inj ((show Tryz.prog.funcNamed Rows.diffTellsRow.func = some 4 by kernel_rfl).symm.trans hf) |>.symm
      obtain rfl : fn = Tryz.f4 := (Option.some.inj (Tryz.func4.symm.trans hfn)).symm
      exact ⟨by kernel_rfl, fun j t ht => by
        rw [Tryz.params4] at ht
        have hm : t ∈ [24, 24, 49] := by simpa using Array.mem_of_getElem? ht
        have hall : ([24, 24, 49].all fun u => !Tryz.prog.wantsStandIn u) = true := by kernel_rfl
        exact (show Tryz.prog.wantsStandIn t = false by simpa using List.all_eq_true.1 hall t hm)⟩)
    (by kernel_rfl)
#print axioms diffTells_card
end Go.Proofs.YtpjjpmikhjlgnaaGreatDoor
