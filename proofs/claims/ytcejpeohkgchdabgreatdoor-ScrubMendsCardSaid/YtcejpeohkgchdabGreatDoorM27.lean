/-
  The law 'ScrubMends' returns true for every input: one bit of a file that is turned is found by its sum, what was mended is read as it was, and nothing else changes.
  Conditions: those that each states.
-/
import Derived.Test.YtcejpeohkgchdabGreatDoorCards
import Derived.Test.YtcejpeohkgchdabGreatDoorTie
import Derived.Test.YtcejpeohkgchdabGreatDoorM25
import Derived.Test.YtcejpeohkgchdabGreatDoorM26
import Derived.ProofKit
import Derived.Carry
import Derived.ChangeMaps5
import Derived.JoinedOf
import Derived.LaidMore
import Derived.Stop.Joined
import Derived.SevenTiedAt
namespace Go.Proofs.YtcejpeohkgchdabGreatDoor
open Go.ChangeShapes Go.WideShapes Go.RowKit

theorem scrubMends_door (os : Os) (args : Array Value) : laidMetH Tryz.prog Rows.scrubMendsRow.laid ((World.doorLaid Tryz.prog 288 os).forCall (fun _ _ => 0) ⟨#[], args, []⟩).memory :=
  laidMetH_of_parts3 (fuel := 8) (laidMet_of_run' 8 (by kernel_rfl) (by kernel_rfl)) (by kernel_rfl) (by kernel_rfl)

set_option maxRecDepth 100000 in
theorem scrubMends_lifted (os : Os) (started : os.Started) (H : Type) (enc : TypeId × Value → H) :
    ReturnsInHanded {} Tryz.checked os 4 .any (fun w args => (Rows.scrubMendsSpec.pre enc Tryz.prog Tryz.f4 [] false w args ∧ laidMetH Tryz.prog Rows.scrubMendsRow.laid w) ∧ sizedMet enc Tryz.prog Tryz.f4 (OpenSpec.ofChange Rows.scrubMendsSpec) false w args)
      (Rows.scrubMendsSpec.post enc Tryz.prog Tryz.f4 false true false false) := by
  refine returnsInHanded_of_change_and (C := Tryz.checked) (X := fun w _ => laidMetH Tryz.prog Rows.scrubMendsRow.laid w) (fun _ _ _ hh h => h.of_heap hh) own_knob started (by kernel_rfl) Tryz.func4
    (ChangeSpec.witness_shaped (enc := enc) (C := Tryz.checked) (os := os) (X := fun w _ => laidMetH Tryz.prog Rows.scrubMendsRow.laid w) false (World.doorLaid Tryz.prog 288 os) #[.string { data := #[] }, .string { data := #[] }, .int .i64 0] 8 rfl (World.shaped_of_RefB (by kernel_rfl) (by kernel_rfl)) (by kernel_rfl) (by kernel_rfl) (by kernel_rfl) (scrubMends_door os _)) ?_
  intro W base args ds gs before hval0 hW _ hsz0 hL _
  have hval : ∀ (j : Nat) t v, Tryz.f4.params[j]? = some t → args[j]? = some v → Value.okWide Tryz.prog W .any base t v := hval0
  have hW' := hW
  obtain ⟨p, q, hA0, hV, rfl, hfz, hnd⟩ := hW
  have hA : DataW.TrodAll enc Tryz.prog W 0 (fun _ => true) true Tryz.f4.params.toList args.toList ds p := hA0
  rw [Tryz.params4] at hA hval
  obtain ⟨v0, v1, v2, d0, d1, d2, p0, p1, p2, rfl, rfl, rfl, h0, h1, h2⟩ := trodAll_three hA
  obtain ⟨rfl, rfl⟩ := trodVars_none hV
  obtain ⟨q0, rfl, rfl, rfl, hq0⟩ := ChangeMaps.open_string Tryz.underlying9 (hval 0 9 v0 rfl rfl) h0
  obtain ⟨q1, rfl, rfl, rfl, hq1⟩ := ChangeMaps.open_string Tryz.underlying9 (hval 1 9 v1 rfl rfl) h1
  obtain ⟨q2, rfl, rfl, rfl, w2⟩ := open_int Tryz.underlying3 (hval 2 3 v2 rfl rfl) h2
  obtain ⟨a, S⟩ := sents_of_laid hL
  clear hA0 hval0
  simp only [List.append_nil] at hW'
  have e1 : Rows.scrubMendsSpec.fn H ([.lit (.string q0.data.toList), .lit (.string q1.data.toList), .lit (.int .i64 q2)] ++ []) = { results := [.lit (.bool true)], args := [.lit (.string q0.data.toList), .lit (.string q1.data.toList), .lit (.int .i64 q2)] } := by simp [Rows.scrubMendsSpec]
  refine (scrubMends_any a q0 q1 q2 W S hq0 hq1).mono fun e W' ⟨he, hb⟩ => ?_
  subst he
  refine ⟨_, rfl, _, _, _, [], [], [], by simpa using hW', ?_, ?_, ?_, hb.frame _, fun h => by cases h⟩
  · rw [e1]; exact trodAll_mk1 (shut_bool Tryz.underlying4 true)
  · rw [e1]; exact trodAll_mk3 (ChangeMaps.shut_string Tryz.underlying9 hq0) (ChangeMaps.shut_string Tryz.underlying9 hq1) (shut_int Tryz.underlying3 w2)
  · rw [e1]; rfl

theorem scrubMends_holds : Rows.ScrubMendsSaid :=
  OpenClaim.holds_of_wide 4 Tryz.f4 rfl rfl rfl rfl rfl rfl rfl ⟨rfl, rfl, rfl, rfl, rfl⟩ rfl rfl rfl rfl rfl (by kernel_rfl) Tryz.func4 (by kernel_rfl)
    (of_decide_eq_true (by kernel_rfl)) (by unfold Func.isWrapper; rw [if_neg (of_decide_eq_false (by kernel_rfl))]; exact ⟨rfl, rfl⟩)
    (fun os started H enc _ => scrubMends_lifted os started H enc)

theorem scrubMends_card : Rows.ScrubMendsCardSaid :=
  Claim7.holds_tied_plain_at .later Rows.scrubMendsCard.alts Rows.scrubMendsCard.laidKinds true Rows.scrubMendsCard.stood.harness Rows.scrubMendsCard.stood.looks
    scrubMends_holds (fun _ h => by cases h) (by kernel_rfl) (fun _ h => by cases h) scrubMends_row_tie rfl ⟨rfl, rfl⟩ (by kernel_rfl) rfl
    (fun f fn hf hfn => by
      obtain rfl : f = 4 := Option.some.inj ((show Tryz.prog.funcNamed Rows.scrubMendsRow.func = some 4 by kernel_rfl).symm.trans hf) |>.symm
      obtain rfl : fn = Tryz.f4 := (Option.some.inj (Tryz.func4.symm.trans hfn)).symm
      exact ⟨by kernel_rfl, fun j t ht => by
        rw [Tryz.params4] at ht
        have hm : t ∈ [9, 9, 3] := by simpa using Array.mem_of_getElem? ht
        have hall : ([9, 9, 3].all fun u => !Tryz.prog.wantsStandIn u) = true := by kernel_rfl
        exact (show Tryz.prog.wantsStandIn t = false by simpa using List.all_eq_true.1 hall t hm)⟩)
    (by kernel_rfl)
#print axioms scrubMends_card
end Go.Proofs.YtcejpeohkgchdabGreatDoor
