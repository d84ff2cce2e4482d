/-
  The law 'SpaceKeeps' returns true for every input: no block is given to two, what is given back may be taken, free blocks and used ones are all.
  Conditions: none beside the row's own; the listed variables are tied to the program's text by the given tie (over the pruned copy of the project).
-/
import Derived.Test.YtddmpecljcfjnaaDoorCards
import Derived.Test.YtddmpecljcfjnaaDoorTie
import Derived.Test.YtddmpecljcfjnaaDoorSpV
import Derived.Test.YtddmpecljcfjnaaDoorArgI
import Derived.Test.YtddmpecljcfjnaaDoorLaidK
import Derived.ProofKit
import Derived.Carry
import Derived.ChangeMaps5
import Derived.JoinedOf
import Derived.LaidMore
import Derived.Stop.Joined
import Derived.SevenTiedAt
namespace Go.Proofs.YtddmpecljcfjnaaDoor
open Go.ChangeShapes Go.WideShapes Go.RowKit

theorem spaceKeeps_door (os : Os) (args : Array Value) : laidMetH Tryd.prog Rows.spaceKeepsRow.laid ((World.doorLaid Tryd.prog 263 os).forCall (fun _ _ => 0) ⟨#[], args, []⟩).memory :=
  laidMetH_of_parts3 (fuel := 8) (laidMet_of_run' 8 (by kernel_rfl) (by kernel_rfl)) (by kernel_rfl) (by kernel_rfl)

set_option maxRecDepth 100000 in
theorem spaceKeeps_lifted (os : Os) (started : os.Started) (H : Type) (enc : TypeId × Value → H) :
    ReturnsInHanded {} Tryd.checked os 3 .any (fun w args => (Rows.spaceKeepsSpec.pre enc Tryd.prog Tryd.f3 [] false w args ∧ laidMetH Tryd.prog Rows.spaceKeepsRow.laid w) ∧ sizedMet enc Tryd.prog Tryd.f3 (OpenSpec.ofChange Rows.spaceKeepsSpec) false w args)
      (Rows.spaceKeepsSpec.post enc Tryd.prog Tryd.f3 false true false false) := by
  refine returnsInHanded_of_change_and (C := Tryd.checked) (X := fun w _ => laidMetH Tryd.prog Rows.spaceKeepsRow.laid w) (fun _ _ _ hh h => h.of_heap hh) own_knob started (by kernel_rfl) Tryd.func3
    (ChangeSpec.witness_shaped (enc := enc) (C := Tryd.checked) (os := os) (X := fun w _ => laidMetH Tryd.prog Rows.spaceKeepsRow.laid w) false (World.doorLaid Tryd.prog 263 os) #[.int .i64 0, .slice none 0 0] 8 rfl (World.shaped_of_RefB (by kernel_rfl) (by kernel_rfl)) (by kernel_rfl) (by kernel_rfl) (by kernel_rfl) (spaceKeeps_door os _)) ?_
  intro W base args ds gs before hval0 hW _ hsz0 hL _
  have hval : ∀ (j : Nat) t v, Tryd.f3.params[j]? = some t → args[j]? = some v → Value.okWide Tryd.prog W .any base t v := hval0
  have hW' := hW
  obtain ⟨p, q, hA0, hV, rfl, hfz, hnd⟩ := hW
  have hA : DataW.TrodAll enc Tryd.prog W 0 (fun _ => true) true Tryd.f3.params.toList args.toList ds p := hA0
  rw [Tryd.params3] at hA hval
  obtain ⟨v0, v1, d0, d1, p0, p1, rfl, rfl, rfl, h0, h1⟩ := trodAll_two hA
  obtain ⟨rfl, rfl⟩ := trodVars_none hV
  obtain ⟨n0, rfl, rfl, rfl, w0⟩ := open_int Tryd.underlying3 (hval 0 3 v0 rfl rfl) h0
  obtain ⟨l1, ha1⟩ := ints_arg (hval 1 22 v1 rfl rfl) h1
  obtain ⟨a, S⟩ := sents_of_laid hL
  clear hA0 hval0
  simp only [List.append_nil, List.nil_append] at hW'
  have hp1 : ∀ x ∈ p1, x.block < W.heap.size := fun x hx => by simpa using hW'.lt x (by simpa using hx)
  have e1 : Rows.spaceKeepsSpec.fn H ([.lit (.int .i64 n0), d1] ++ []) = { results := [.lit (.bool true)], args := [.lit (.int .i64 n0), d1] } := by simp [Rows.spaceKeepsSpec]
  refine (spaceKeeps_any n0 l1 v1 a W ha1 S).mono fun e W' ⟨he, hb⟩ => ?_
  subst he
  refine ⟨_, rfl, _, _, _, [], [] ++ p1, [], by simpa using hW', ?_, ?_, ?_, hb.frame _, fun h => by cases h⟩
  · rw [e1]; exact trodAll_mk1 (shut_bool Tryd.underlying4 true)
  · rw [e1]; exact trodAll_mk2 (shut_int Tryd.underlying3 w0) (Below.trod laid_out (by kernel_rfl) (of_decide_eq_true (by kernel_rfl)) h1 hb hp1)
  · rw [e1]; rfl

theorem spaceKeeps_holds : Rows.SpaceKeepsSaid :=
  OpenClaim.holds_of_wide 3 Tryd.f3 rfl rfl rfl rfl rfl rfl rfl ⟨rfl, rfl, rfl, rfl, rfl⟩ rfl rfl rfl rfl rfl (by kernel_rfl) Tryd.func3 (by kernel_rfl)
    (of_decide_eq_true (by kernel_rfl)) (by unfold Func.isWrapper; rw [if_neg (of_decide_eq_false (by kernel_rfl))]; exact ⟨rfl, rfl⟩)
    (fun os started H enc _ => spaceKeeps_lifted os started H enc)

theorem spaceKeeps_card : Rows.SpaceKeepsCardSaid :=
  Claim7.holds_tied_plain_at .later Rows.spaceKeepsCard.alts Rows.spaceKeepsCard.laidKinds true Rows.spaceKeepsCard.stood.harness Rows.spaceKeepsCard.stood.looks
    spaceKeeps_holds (fun _ h => by cases h) (by kernel_rfl) (fun _ h => by cases h) spaceKeeps_row_tie rfl ⟨rfl, rfl⟩ (by kernel_rfl) rfl
    (fun f fn hf hfn => by
      obtain rfl : f = 3 := Option.some.inj ((show Tryd.prog.funcNamed Rows.spaceKeepsRow.func = some 3 by kernel_rfl).symm.trans hf) |>.symm
      obtain rfl : fn = Tryd.f3 := (Option.some.inj (Tryd.func3.symm.trans hfn)).symm
      exact ⟨by kernel_rfl, fun j t ht => by
        rw [Tryd.params3] at ht
        have hm : t ∈ [3, 22] := by simpa using Array.mem_of_getElem? ht
        have hall : ([3, 22].all fun u => !Tryd.prog.wantsStandIn u) = true := by kernel_rfl
        exact (show Tryd.prog.wantsStandIn t = false by simpa using List.all_eq_true.1 hall t hm)⟩)
    (by kernel_rfl)
#print axioms spaceKeeps_card
end Go.Proofs.YtddmpecljcfjnaaDoor
