/-
  The law 'OptSame' returns true for every input: with what is alike kept once trees are read as they were, no two inodes are alike, a step does nothing, and what is saved is what is free more.
  Conditions: those that each states.
-/
import Derived.Test.YteefneelcgeioaaGreatDoorCards
import Derived.Test.YteefneelcgeioaaGreatDoorTie
import Derived.Test.YteefneelcgeioaaGreatDoorQ36
import Derived.Test.YteefneelcgeioaaGreatDoorQ37
import Derived.Lay
import Derived.Test.YteefneelcgeioaaGreatDoorQ02
import Derived.ProofKit
import Derived.Carry
import Derived.ChangeMaps5
import Derived.ChangeSame
import Derived.ChangeVars
import Derived.JoinedOf
import Derived.LaidMore
import Derived.Stop.Joined
import Derived.SevenTiedAt
namespace Go.Proofs.YteefneelcgeioaaGreatDoor
open Go.ChangeShapes Go.WideShapes Go.RowKit


theorem sum_of_laid {W : World} (h : laidMetH Tryz.prog Rows.dirsLinksRow.laid W) : ∃ p, W.cell? ⟨2, 0, none⟩ = some (.iface 235 p) := by
  rw [ten_parts] at h
  obtain ⟨ps, hv, hnd, hrows⟩ := laidMet_init h.tail
  have hx : ∀ x ∈ tenTexts, Tryz.prog.globalNamed x.1 = some x.2.1 ∧ (Tryz.prog.globals[x.2.1]?).map (·.type) = some 36 := fun x hx => by
    have := List.all_eq_true.1 ten_globals x hx
    simpa using this
  obtain ⟨la, h1, _⟩ := laid_list Tryz.underlying36 rowS Tryz.underlying235 Tryz.underlying257 rfl rfl Tryz.underlying9 cellsES cellsStr tenTexts hv hx hrows
  rw [ten_places] at h1
  obtain ⟨a10, _, c10, _⟩ := h1.at (i := 9) (g := 2) rfl
  exact ⟨_, c10⟩
set_option maxRecDepth 100000 in
theorem optSame_lifted (os : Os) (started : os.Started) (H : Type) (enc : TypeId × Value → H) :
    ReturnsInHanded {} Tryz.checked os 5 .any (fun w args => (Rows.optSameSpec.pre enc Tryz.prog Tryz.f5 [] false w args ∧ laidMetH Tryz.prog Rows.optSameRow.laid w) ∧ sizedMet enc Tryz.prog Tryz.f5 (OpenSpec.ofChange Rows.optSameSpec) false w args)
      (Rows.optSameSpec.post enc Tryz.prog Tryz.f5 false true false false) := by
  refine handed_and_shaped (C := Tryz.checked) (X := fun w _ => laidMetH Tryz.prog Rows.optSameRow.laid w) (fun _ _ _ hh h => h.of_heap hh) sums_own started (by kernel_rfl) Tryz.func5
    (ChangeSpec.witness_shaped (enc := enc) (C := Tryz.checked) (os := os) (X := fun w _ => laidMetH Tryz.prog Rows.optSameRow.laid w) false (World.laidAll Tryz.prog os Rows.optSameRow.laid) #[.int .i64 0, .slice none 0 0] 8 (World.laidAll_os _ _ _) (World.shaped_of_ZipB (by kernel_rfl) (by kernel_rfl)) (by kernel_rfl) (by kernel_rfl) (by kernel_rfl) (by rw [MakeChecks.laidMetH_plain _ _ _ (by kernel_rfl)]; exact laidMet_laidAll _ (by kernel_rfl) (by kernel_rfl))) ?_
  intro W base args ds gs before hval0 hW hsz0 hL hsh
  have hval : ∀ (j : Nat) t v, Tryz.f5.params[j]? = some t → args[j]? = some v → Value.okWide Tryz.prog W .any base t v := hval0
  have hW' := hW
  obtain ⟨p, q, hA0, hV, rfl, hfz, hnd⟩ := hW
  have hA : DataW.TrodAll enc Tryz.prog W 0 (fun _ => true) true Tryz.f5.params.toList args.toList ds p := hA0
  have hsz : (DataW.weightsEach Tryz.prog (Tryz.f5.params.toList ++ Rows.optSameSpec.plain.varTypes Tryz.prog) (ds ++ gs)).all (· ≤ reachBytes) = true := hsz0
  rw [Tryz.params5] at hA hval hsz
  obtain ⟨v0, v1, d0, d1, p0, p1, rfl, rfl, rfl, h0, h1⟩ := trodAll_two hA
  obtain ⟨rfl, rfl⟩ := trodVars_none hV
  have hw1 : ∀ m ∈ d1.weights Tryz.prog 22, m ≤ reachBytes := fun m hm => by
    have := List.all_eq_true.1 hsz m (DataW.weights_mem_each (j := 1) (t := 22) (d := d1) rfl rfl m hm)
    simpa using this
  obtain ⟨n0, rfl, rfl, rfl, w0⟩ := open_int Tryz.underlying3 (hval 0 3 v0 rfl rfl) h0
  obtain ⟨l1, k1, ha1⟩ := tacts_arg (hval 1 22 v1 rfl rfl) h1 hw1
  have hL' : laidMetH Tryz.prog Rows.dirsLinksRow.laid W := hL
  obtain ⟨a, S⟩ := dsn_of_laid hL' hsh
  have hsu := sum_of_laid hL'
  clear hA0 hval0
  simp only [List.append_nil, List.nil_append] at hW'
  have hp : ∀ x ∈ p1, x.block < W.heap.size := fun x hx => by simpa using hW'.lt x hx
  have hp1 : ∀ x ∈ p1, x.block < W.heap.size := fun x hx => hp x hx
  have e1 : Rows.optSameSpec.fn H ([.lit (.int .i64 n0), d1] ++ []) = { results := [.lit (.bool true)], args := [.lit (.int .i64 n0), d1] } := by simp [Rows.optSameSpec]
  refine (optSame_any a n0 k1 v1 l1 W ha1 S hsu).mono fun e W' ⟨he, hb⟩ => ?_
  subst he
  refine ⟨_, rfl, _, _, _, [], [] ++ (p1), [], by simpa using hW', ?_, ?_, ?_, hb.frame _, fun h => by cases h⟩
  · rw [e1]; exact trodAll_mk1 (shut_bool Tryz.underlying4 true)
  · rw [e1]; exact trodAll_mk2 (shut_int Tryz.underlying3 w0) (Below.trod sums_laidOut (by kernel_rfl) (of_decide_eq_true (by kernel_rfl)) h1 hb hp1)
  · rw [e1]; rfl

theorem optSame_holds : Rows.OptSameSaid :=
  OpenClaim.holds_of_wide 5 Tryz.f5 rfl rfl rfl rfl rfl rfl rfl ⟨rfl, rfl, rfl, rfl, rfl⟩ rfl rfl rfl rfl rfl (by kernel_rfl) Tryz.func5 (by kernel_rfl)
    (of_decide_eq_true (by kernel_rfl)) (by unfold Func.isWrapper; rw [if_neg (of_decide_eq_false (by kernel_rfl))]; exact ⟨rfl, rfl⟩)
    (fun os started H enc _ => optSame_lifted os started H enc)

theorem optSame_card : Rows.OptSameCardSaid :=
  Claim7.holds_tied_plain_at .later Rows.optSameCard.alts Rows.optSameCard.laidKinds true Rows.optSameCard.stood.harness Rows.optSameCard.stood.looks
    optSame_holds (fun _ h => by cases h) (by kernel_rfl) (fun _ h => by cases h) optSame_row_tie rfl ⟨rfl, rfl⟩ (by kernel_rfl) rfl
    (fun f fn hf hfn => by
      obtain rfl : f = 5 := Option.some.inj ((show Tryz.prog.funcNamed Rows.optSameRow.func = some 5 by kernel_rfl).symm.trans hf) |>.symm
      obtain rfl : fn = Tryz.f5 := (Option.some.inj (Tryz.func5.symm.trans hfn)).symm
      exact ⟨by kernel_rfl, fun j t ht => by
        rw [Tryz.params5] at ht
        have hm : t ∈ [3, 22] := by simpa using Array.mem_of_getElem? ht
        have hall : ([3, 22].all fun u => !Tryz.prog.wantsStandIn u) = true := by kernel_rfl
        exact (show Tryz.prog.wantsStandIn t = false by simpa using List.all_eq_true.1 hall t hm)⟩)
    (by kernel_rfl)
#print axioms optSame_card
end Go.Proofs.YteefneelcgeioaaGreatDoor
