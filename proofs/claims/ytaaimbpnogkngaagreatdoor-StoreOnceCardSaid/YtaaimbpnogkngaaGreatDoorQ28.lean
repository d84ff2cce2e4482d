/- The law 'StoreOnce' returns true for every input: opt, run between the lines wherever one wants, changes no answer and no pack (unless room ends). Conditions: those that each states. -/
import Derived.Test.YtaaimbpnogkngaaGreatDoorTie
import Derived.Test.YtaaimbpnogkngaaGreatDoorQ02
import Derived.Test.YtaaimbpnogkngaaGreatDoorQ27
import Derived.Carry
import Derived.ChangeMaps5
import Derived.Stop.Joined
namespace Go.Proofs.YtaaimbpnogkngaaGreatDoor
set_option maxRecDepth 100000
section
open Go.ChangeShapes Go.WideShapes Go.RowKit


theorem qm (os : Os) (started : os.Started) (H : Type) (enc : TypeId × Yv → H) :
    ReturnsInHanded {} Tryz.checked os 3 .any (fun w args => (Rows.storeOnceSpec.pre enc Tryz.prog Tryz.f3 [] false w args ∧ laidMetH Tryz.prog Rows.storeOnceRow.laid w) ∧ sizedMet enc Tryz.prog Tryz.f3 (OpenSpec.ofChange Rows.storeOnceSpec) false w args)
      (Rows.storeOnceSpec.post enc Tryz.prog Tryz.f3 false true false false) := by
  refine oR (C := Tryz.checked) (X := fun w _ => laidMetH Tryz.prog Rows.storeOnceRow.laid w) (fun _ _ _ hh h => h.of_heap hh) Iu started (by kernel_rfl) Tryz.func3
    (ChangeSpec.witness_shaped (enc := enc) (C := Tryz.checked) (os := os) (X := fun w _ => laidMetH Tryz.prog Rows.storeOnceRow.laid w) false ((((World.holding Tryz.prog os ⟨#[], #[], []⟩).setCell ⟨13, 0, none⟩ (.iface 155 (.agg #[.pointer (some ⟨22, 27, none⟩)]))).layVars Tryz.prog bU)) #[.slice none 0 0, .int .i64 0] 8 (uS os) (World.shaped_of_ZipB (by kernel_rfl) (by kernel_rfl)) (by kernel_rfl) (by kernel_rfl) (by kernel_rfl) (sM os _)) ?_
  intro W base args ds gs before hval0 hW hsz0 hL hsh;have hval : ∀ (j : Nat) t v, Tryz.f3.params[j]? = some t → args[j]? = some v → Value.okWide Tryz.prog W .any base t v := hval0;have hW' := hW;obtain ⟨p, q, hA0, hV, rfl, hfz, hnd⟩ := hW;have hA : DataW.TrodAll enc Tryz.prog W 0 (fun _ => true) true Tryz.f3.params.toList args.toList ds p := hA0;have hsz : (DataW.weightsEach Tryz.prog (Tryz.f3.params.toList ++ Rows.storeOnceSpec.plain.varTypes Tryz.prog) (ds ++ gs)).all (· ≤ reachBytes) = true := hsz0;rw [Tryz.params3] at hA hval hsz;obtain ⟨v0, v1, d0, d1, p0, p1, rfl, rfl, rfl, h0, h1⟩ := trodAll_two hA;obtain ⟨rfl, rfl⟩ := trodVars_none hV;obtain ⟨l0, ht0, hn0, hs0⟩ := Fq (hval 0 22 v0 rfl rfl) h0;obtain ⟨q1, rfl, rfl, rfl, hq1⟩ := open_int Tryz.underlying3 (hval 1 3 v1 rfl rfl) h1;obtain ⟨a, HB⟩ := xD hL hsh;clear hA0 hval0;simp only [qz] at hW';have hp : ∀ x ∈ p0, x.block < W.heap.size := fun x hx => (by simpa using hW'.lt x hx);have hp0 : ∀ x ∈ p0, x.block < W.heap.size := fun x hx => hp x hx;have e1 : Rows.storeOnceSpec.fn H ([d0, .lit (.int .i64 q1)] ++ []) = { results := [.lit (.bool true)], args := [d0, .lit (.int .i64 q1)] } := (by simp [Rows.storeOnceSpec]);refine (uQ v0 l0 q1 W HB ht0 (Kt hq1) (fun x hx => jm (hs0 x hx) (by decide))).mono fun e W' ⟨he, hb⟩ => ?_;subst he;refine ⟨_, rfl, _, _, _, [], p0 ++ ([]), [], by simpa using hW', ?_, ?_, ?_, hb.frame _, fun h => by cases h⟩
  · rw [e1]; exact trodAll_mk1 (shut_bool Tryz.underlying4 true)
  · rw [e1]; exact trodAll_mk2 (Below.trod xF (by kernel_rfl) (zu (by kernel_rfl)) h0 hb hp0) (shut_int Tryz.underlying3 hq1)
  · rw [e1]; rfl

theorem r8 : Rows.StoreOnceSaid :=
  OpenClaim.holds_of_wide 3 Tryz.f3 rfl rfl rfl rfl rfl rfl rfl ⟨rfl, rfl, rfl, rfl, rfl⟩ rfl rfl rfl rfl rfl (by kernel_rfl) Tryz.func3 IG
    (zu (by kernel_rfl)) (by unfold Func.isWrapper; rw [zi (of_decide_eq_false (by kernel_rfl))]; exact ⟨rfl, rfl⟩)
    (fun os started H enc _ => qm os started H enc)

theorem storeOnce_card : Rows.StoreOnceCardSaid :=
  Claim7.holds_tied_plain_at .later Rows.storeOnceCard.alts Rows.storeOnceCard.laidKinds true Rows.storeOnceCard.stood.harness Rows.storeOnceCard.stood.looks
    r8 (fun _ h => by cases h) (by kernel_rfl) (fun _ h => by cases h) storeOnce_row_tie rfl ⟨rfl, rfl⟩ (by kernel_rfl) rfl
    (fun f fn hf hfn => by
      obtain rfl : f = 3 := jO ((show Tryz.prog.funcNamed Rows.storeOnceRow.func = some 3 by kernel_rfl).symm.trans hf) |>.symm
      obtain rfl : fn = Tryz.f3 := (jO (Tryz.func3.symm.trans hfn)).symm
      exact ⟨by kernel_rfl, fun j t ht => by
        rw [Tryz.params3] at ht;have hm : t ∈ [22, 3] := (by simpa using Array.mem_of_getElem? ht);have hall : ([22, 3].all fun u => !Tryz.prog.wantsStandIn u) = true := (by kernel_rfl);exact (show Tryz.prog.wantsStandIn t = false by simpa using qy.1 hall t hm)⟩)
    LO
#print axioms storeOnce_card
end
end Go.Proofs.YtaaimbpnogkngaaGreatDoor
