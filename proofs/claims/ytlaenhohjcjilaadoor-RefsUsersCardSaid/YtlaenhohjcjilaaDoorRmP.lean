/-
  The law 'RefsUsers' returns true for every input: one is used by those that need it at once; a closure has the closure of a user in it; without roots all are dead, the last one first.
  Conditions: none beside the row's own; the listed variables are tied to the program's text by the given tie (over the pruned copy of the project).
-/
import Derived.Test.YtlaenhohjcjilaaDoorCards
import Derived.Test.YtlaenhohjcjilaaDoorTie
import Derived.Test.YtlaenhohjcjilaaDoorRm
import Derived.Test.YtlaenhohjcjilaaDoorArgP
import Derived.Test.YtlaenhohjcjilaaDoorLaidN
import Derived.ProofKit
import Derived.Carry
import Derived.ChangeMaps5
import Derived.JoinedOf
import Derived.LaidMore
import Derived.Stop.Joined
import Derived.SevenTiedAt
namespace Go.Proofs.YtlaenhohjcjilaaDoor
open Go.ChangeShapes Go.WideShapes Go.RowKit

theorem refsUsers_door (os : Os) (args : Array Value) : laidMetH Tryd.prog Rows.refsUsersRow.laid ((World.doorLaid Tryd.prog 263 os).forCall (fun _ _ => 0) ⟨#[], args, []⟩).memory :=
  laidMetH_of_parts3 (fuel := 8) (laidMet_of_run' 8 (by kernel_rfl) (by kernel_rfl)) (by kernel_rfl) (by kernel_rfl)
theorem refsUsers_list : Rows.refsUsersRow.laid = Rows.refsClosedRow.laid := by kernel_rfl

set_option maxRecDepth 100000 in
theorem refsUsers_lifted (os : Os) (started : os.Started) (H : Type) (enc : TypeId × Value → H) :
    ReturnsInHanded {} Tryd.checked os 5 .any (fun w args => (Rows.refsUsersSpec.pre enc Tryd.prog Tryd.f5 [] false w args ∧ laidMetH Tryd.prog Rows.refsUsersRow.laid w) ∧ sizedMet enc Tryd.prog Tryd.f5 (OpenSpec.ofChange Rows.refsUsersSpec) false w args)
      (Rows.refsUsersSpec.post enc Tryd.prog Tryd.f5 false true false false) := by
  refine returnsInHanded_of_change_and (C := Tryd.checked) (X := fun w _ => laidMetH Tryd.prog Rows.refsUsersRow.laid w) (fun _ _ _ hh h => h.of_heap hh) sums_own started (by kernel_rfl) Tryd.func5
    (ChangeSpec.witness_shaped (enc := enc) (C := Tryd.checked) (os := os) (X := fun w _ => laidMetH Tryd.prog Rows.refsUsersRow.laid w) false (World.doorLaid Tryd.prog 263 os) #[.slice none 0 0] 8 rfl (World.shaped_of_RefB (by kernel_rfl) (by kernel_rfl)) (by kernel_rfl) (by kernel_rfl) (by kernel_rfl) (refsUsers_door os _)) ?_
  intro W base args ds gs before hval0 hW _ hsz0 hL _
  have hval : ∀ (j : Nat) t v, Tryd.f5.params[j]? = some t → args[j]? = some v → Value.okWide Tryd.prog W .any base t v := hval0
  have hW' := hW
  obtain ⟨p, q, hA0, hV, rfl, hfz, hnd⟩ := hW
  have hA : DataW.TrodAll enc Tryd.prog W 0 (fun _ => true) true Tryd.f5.params.toList args.toList ds p := hA0
  have hsz : (DataW.weightsEach Tryd.prog (Tryd.f5.params.toList ++ Rows.refsUsersSpec.plain.varTypes Tryd.prog) (ds ++ gs)).all (· ≤ reachBytes) = true := hsz0
  rw [Tryd.params5] at hA hval hsz
  obtain ⟨v0, d0, rfl, rfl, h0⟩ := trodAll_one hA
  obtain ⟨rfl, rfl⟩ := trodVars_none hV
  have hw0 : ∀ m ∈ d0.weights Tryd.prog 22, m ≤ reachBytes := fun m hm => by
    have := List.all_eq_true.1 hsz m (DataW.weights_mem_each (j := 0) rfl rfl m hm)
    simpa using this
  obtain ⟨l0, ha0⟩ := packs_arg (hval 0 22 v0 rfl rfl) h0 hw0
  rw [refsUsers_list] at hL
  obtain ⟨a, S⟩ := sents_of_laid hL
  clear hA0 hval0
  simp only [List.append_nil] at hW'
  have hp0 : ∀ x ∈ p, x.block < W.heap.size := fun x hx => by simpa using hW'.lt x (by simp [hx])
  have e1 : Rows.refsUsersSpec.fn H ([d0] ++ []) = { results := [.lit (.bool true)], args := [d0] } := by simp [Rows.refsUsersSpec]
  refine (refsUsers_any a v0 l0 W S ha0).mono fun e W' ⟨he, hb⟩ => ?_
  subst he
  refine ⟨_, rfl, _, _, _, [], p, [], by simpa using hW', ?_, ?_, ?_, hb.frame _, fun h => by cases h⟩
  · rw [e1]; exact trodAll_mk1 (shut_bool Tryd.underlying4 true)
  · rw [e1]; exact trodAll_mk1 (Below.trod sums_laidOut (by kernel_rfl) (of_decide_eq_true (by kernel_rfl)) h0 hb hp0)
  · rw [e1]; rfl

theorem refsUsers_holds : Rows.RefsUsersSaid :=
  OpenClaim.holds_of_wide 5 Tryd.f5 rfl rfl rfl rfl rfl rfl rfl ⟨rfl, rfl, rfl, rfl, rfl⟩ rfl rfl rfl rfl rfl (by kernel_rfl) Tryd.func5 (by kernel_rfl)
    (of_decide_eq_true (by kernel_rfl)) (by unfold Func.isWrapper; rw [if_neg (of_decide_eq_false (by kernel_rfl))]; exact ⟨rfl, rfl⟩)
    (fun os started H enc _ => refsUsers_lifted os started H enc)

theorem refsUsers_card : Rows.RefsUsersCardSaid :=
  Claim7.holds_tied_plain_at .later Rows.refsUsersCard.alts Rows.refsUsersCard.laidKinds true Rows.refsUsersCard.stood.harness Rows.refsUsersCard.stood.looks
    refsUsers_holds (fun _ h => by cases h) (by kernel_rfl) (fun _ h => by cases h) refsUsers_row_tie rfl ⟨rfl, rfl⟩ (by kernel_rfl) rfl
    (fun f fn hf hfn => by
      obtain rfl : f = 5 := Option.some.inj ((show Tryd.prog.funcNamed Rows.refsUsersRow.func = some 5 by kernel_rfl).symm.trans hf) |>.symm
      obtain rfl : fn = Tryd.f5 := (Option.some.inj (Tryd.func5.symm.trans hfn)).symm
      exact ⟨by kernel_rfl, fun j t ht => by
        rw [Tryd.params5] at ht
        have hm : t ∈ [22] := by simpa using Array.mem_of_getElem? ht
        have hall : ([22].all fun u => !Tryd.prog.wantsStandIn u) = true := by kernel_rfl
        exact (show Tryd.prog.wantsStandIn t = false by simpa using List.all_eq_true.1 hall t hm)⟩)
    (by kernel_rfl)
#print axioms refsUsers_card
end Go.Proofs.YtlaenhohjcjilaaDoor
