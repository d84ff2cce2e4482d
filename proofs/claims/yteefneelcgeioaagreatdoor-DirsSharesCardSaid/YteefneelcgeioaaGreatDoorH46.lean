/-
  The law 'DirsShares' returns true for every input: a file that becomes an alike one is read as it was, and one that is not alike does not become it; what is saved is no less.
  Conditions: those that each states.
-/
import Derived.Test.YteefneelcgeioaaGreatDoorCards
import Derived.Test.YteefneelcgeioaaGreatDoorTie
import Derived.Test.YteefneelcgeioaaGreatDoorH45
import Derived.Lay
import Derived.Test.YteefneelcgeioaaGreatDoorH02
import Derived.ProofKit
import Derived.Carry
import Derived.ChangeMaps5
import Derived.ChangeSame
import Derived.ChangeVars
import Derived.JoinedOf
import Derived.LaidMore
import Derived.Stop.Joined
import Derived.SevenTiedAt
namespace Go.Proofs.YteefneelcgeioaaGreatDoor
open Go.ChangeShapes Go.WideShapes Go.RowKit


set_option maxRecDepth 100000 in
theorem dirsShares_lifted (os : Os) (started : os.Started) (H : Type) (enc : TypeId × Value → H) :
    ReturnsInHanded {} Tryz.checked os 4 .any (fun w args => (Rows.dirsSharesSpec.pre enc Tryz.prog Tryz.f4 [] false w args ∧ laidMetH Tryz.prog Rows.dirsSharesRow.laid w) ∧ sizedMet enc Tryz.prog Tryz.f4 (OpenSpec.ofChange Rows.dirsSharesSpec) false w args)
      (Rows.dirsSharesSpec.post enc Tryz.prog Tryz.f4 false true false false) := by
  refine handed_and_shaped (C := Tryz.checked) (X := fun w _ => laidMetH Tryz.prog Rows.dirsSharesRow.laid w) (fun _ _ _ hh h => h.of_heap hh) sums_own started (by kernel_rfl) Tryz.func4
    (ChangeSpec.witness_shaped (enc := enc) (C := Tryz.checked) (os := os) (X := fun w _ => laidMetH Tryz.prog Rows.dirsSharesRow.laid w) false (World.laidAll Tryz.prog os Rows.dirsSharesRow.laid) #[.agg #[.string { data := #[] }, .string { data := #[] }, .bool false, .slice none 0 0], .agg #[.string { data := #[] }, .string { data := #[] }, .bool false, .slice none 0 0]] 8 (World.laidAll_os _ _ _) (World.shaped_of_ZipB (by kernel_rfl) (by kernel_rfl)) (by kernel_rfl) (by kernel_rfl) (by kernel_rfl) (by rw [MakeChecks.laidMetH_plain _ _ _ (by kernel_rfl)]; exact laidMet_laidAll _ (by kernel_rfl) (by kernel_rfl))) ?_
  intro W base args ds gs before hval0 hW hsz0 hL hsh
  have hval : ∀ (j : Nat) t v, Tryz.f4.params[j]? = some t → args[j]? = some v → Value.okWide Tryz.prog W .any base t v := hval0
  have hW' := hW
  obtain ⟨p, q, hA0, hV, rfl, hfz, hnd⟩ := hW
  have hA : DataW.TrodAll enc Tryz.prog W 0 (fun _ => true) true Tryz.f4.params.toList args.toList ds p := hA0
  have hsz : (DataW.weightsEach Tryz.prog (Tryz.f4.params.toList ++ Rows.dirsSharesSpec.plain.varTypes Tryz.prog) (ds ++ gs)).all (· ≤ reachBytes) = true := hsz0
  rw [Tryz.params4] at hA hval hsz
  obtain ⟨v0, v1, d0, d1, p0, p1, rfl, rfl, rfl, h0, h1⟩ := trodAll_two hA
  obtain ⟨rfl, rfl⟩ := trodVars_none hV
  have hw0 : ∀ m ∈ d0.weights Tryz.prog 32, m ≤ reachBytes := fun m hm => by
    have := List.all_eq_true.1 hsz m (DataW.weights_mem_each (j := 0) (t := 32) (d := d0) rfl rfl m hm)
    simpa using this
  have hw1 : ∀ m ∈ d1.weights Tryz.prog 32, m ≤ reachBytes := fun m hm => by
    have := List.all_eq_true.1 hsz m (DataW.weights_mem_each (j := 1) (t := 32) (d := d1) rfl rfl m hm)
    simpa using this
  obtain ⟨t0, u0, n0, rfl, hl0, _⟩ := node_arg (hval 0 32 v0 rfl rfl) h0 hw0
  obtain ⟨t1, u1, n1, rfl, hl1, _⟩ := node_arg (hval 1 32 v1 rfl rfl) h1 hw1
  obtain ⟨a, S⟩ := dsn_of_laid (show laidMetH Tryz.prog Rows.dirsLinksRow.laid W from hL) hsh
  clear hA0 hval0
  simp only [List.append_nil] at hW'
  have hp : ∀ x ∈ p0 ++ p1, x.block < W.heap.size := fun x hx => by simpa using hW'.lt x hx
  have hp0 : ∀ x ∈ p0, x.block < W.heap.size := fun x hx => hp x (List.mem_append_left _ hx)
  have hp1 : ∀ x ∈ p1, x.block < W.heap.size := fun x hx => hp x (List.mem_append_right _ hx)
  have e1 : Rows.dirsSharesSpec.fn H ([d0, d1] ++ []) = { results := [.lit (.bool true)], args := [d0, d1] } := by simp [Rows.dirsSharesSpec]
  refine (dirsShares_any a n0 n1 t0 t1 u0 u1 W hl0 hl1 S).mono fun e W' ⟨he, hb⟩ => ?_
  subst he
  refine ⟨_, rfl, _, _, _, [], p0 ++ (p1), [], by simpa using hW', ?_, ?_, ?_, hb.frame _, fun h => by cases h⟩
  · rw [e1]; exact trodAll_mk1 (shut_bool Tryz.underlying4 true)
  · rw [e1]; exact trodAll_mk2 (Below.trod sums_laidOut (by kernel_rfl) (of_decide_eq_true (by kernel_rfl)) h0 hb hp0) (Below.trod sums_laidOut (by kernel_rfl) (of_decide_eq_true (by kernel_rfl)) h1 hb hp1)
  · rw [e1]; rfl

theorem dirsShares_holds : Rows.DirsSharesSaid :=
  OpenClaim.holds_of_wide 4 Tryz.f4 rfl rfl rfl rfl rfl rfl rfl ⟨rfl, rfl, rfl, rfl, rfl⟩ rfl rfl rfl rfl rfl (by kernel_rfl) Tryz.func4 (by kernel_rfl)
    (of_decide_eq_true (by kernel_rfl)) (by unfold Func.isWrapper; rw [if_neg (of_decide_eq_false (by kernel_rfl))]; exact ⟨rfl, rfl⟩)
    (fun os started H enc _ => dirsShares_lifted os started H enc)

theorem dirsShares_card : Rows.DirsSharesCardSaid :=
  Claim7.holds_tied_plain_at .later Rows.dirsSharesCard.alts Rows.dirsSharesCard.laidKinds true Rows.dirsSharesCard.stood.harness Rows.dirsSharesCard.stood.looks
    dirsShares_holds (fun _ h => by cases h) (by kernel_rfl) (fun _ h => by cases h) dirsShares_row_tie rfl ⟨rfl, rfl⟩ (by kernel_rfl) rfl
    (fun f fn hf hfn => by
      obtain rfl : f = 4 := Option.some.inj ((show Tryz.prog.funcNamed Rows.dirsSharesRow.func = some 4 by kernel_rfl).symm.trans hf) |>.symm
      obtain rfl : fn = Tryz.f4 := (Option.some.inj (Tryz.func4.symm.trans hfn)).symm
      exact ⟨by kernel_rfl, fun j t ht => by
        rw [Tryz.params4] at ht
        have hm : t ∈ [32, 32] := by simpa using Array.mem_of_getElem? ht
        have hall : ([32, 32].all fun u => !Tryz.prog.wantsStandIn u) = true := by kernel_rfl
        exact (show Tryz.prog.wantsStandIn t = false by simpa using List.all_eq_true.1 hall t hm)⟩)
    (by kernel_rfl)
#print axioms dirsShares_card
end Go.Proofs.YteefneelcgeioaaGreatDoor
