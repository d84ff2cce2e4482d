/-
  The law 'OptActs' returns true for every input: behind any puts, drops, shares, bits that rot, steps and all steps the program's dirs have what the document's have, and save as much.
  Conditions: those that each states.
-/
import Derived.Test.YtcflefeedcihjaaGreatDoorCards
import Derived.Test.YtcflefeedcihjaaGreatDoorTie
import Derived.Test.YtcflefeedcihjaaGreatDoorQ44
import Derived.Carry
import Derived.ChangeMaps5
import Derived.JoinedOf
import Derived.Stop.Joined
namespace Go.Proofs.YtcflefeedcihjaaGreatDoor
section
open Go.ChangeShapes Go.WideShapes Go.RowKit

theorem CP {W : World} (h : W.ShapedOpen Tryz.prog) : ∃ cs ty, W.heap[6]? = some (.cells cs ty (0, 0)) ∧ cY (.cells cs ty (0, 0)) = false := by
  obtain ⟨cs, h1, _⟩ := h.1 6 #[.nilIface] 36 (zu (by kernel_rfl)) (by kernel_rfl);exact ⟨cs, 36, h1, rfl⟩
theorem CQ {W : World} (h : W.ShapedOpen Tryz.prog) : ∃ cs ty, W.heap[2]? = some (.cells cs ty (0, 0)) ∧ cY (.cells cs ty (0, 0)) = false := by
  obtain ⟨cs, h1, _⟩ := h.1 2 #[.nilIface] 36 (zu (by kernel_rfl)) (by kernel_rfl);exact ⟨cs, 36, h1, rfl⟩
theorem xg {a : Nat → Addr} {W : World} (S : bC a W) (hsh : W.ShapedOpen Tryz.prog) : fS a W :=
  ⟨⟨⟨S.c0, S.c1, S.c2, S.c3, S.c4, S.c7, S.c8, S.c9⟩, S.c5, u9 hsh⟩, ⟨_, S.c10⟩, CP hsh, CQ hsh⟩
set_option maxRecDepth 100000 in
theorem tL (os : Os) (started : os.Started) (H : Type) (enc : TypeId × Value → H) :
    ReturnsInHanded {} Tryz.checked os 3 .any (fun w args => (Rows.optActsSpec.pre enc Tryz.prog Tryz.f3 [] false w args ∧ laidMetH Tryz.prog Rows.optActsRow.laid w) ∧ sizedMet enc Tryz.prog Tryz.f3 (OpenSpec.ofChange Rows.optActsSpec) false w args)
      (Rows.optActsSpec.post enc Tryz.prog Tryz.f3 false true false false) := by
  refine pP (C := Tryz.checked) (X := fun w _ => laidMetH Tryz.prog Rows.optActsRow.laid w) (fun _ _ _ hh h => h.of_heap hh) CT started (by kernel_rfl) Tryz.func3
    (ChangeSpec.witness_shaped (enc := enc) (C := Tryz.checked) (os := os) (X := fun w _ => laidMetH Tryz.prog Rows.optActsRow.laid w) false ((((World.holding Tryz.prog os ⟨#[], #[], []⟩).setCell ⟨13, 0, none⟩ (.iface 258 (.agg #[.pointer (some ⟨20, 36, none⟩)]))).layVars Tryz.prog cC)) #[.int .i64 0, .slice none 0 0] 8 (vd os) (World.shaped_of_ZipB (by kernel_rfl) (by kernel_rfl)) (by kernel_rfl) (by kernel_rfl) (by kernel_rfl) (xf os _)) ?_
  intro W base args ds gs before hval0 hW hsz0 hL hsh;have hval : ∀ (j : Nat) t v, Tryz.f3.params[j]? = some t → args[j]? = some v → Value.okWide Tryz.prog W .any base t v := hval0;have hW' := hW;obtain ⟨p, q, hA0, hV, rfl, hfz, hnd⟩ := hW;have hA : DataW.TrodAll enc Tryz.prog W 0 (fun _ => true) true Tryz.f3.params.toList args.toList ds p := hA0;have hsz : (DataW.weightsEach Tryz.prog (Tryz.f3.params.toList ++ Rows.optActsSpec.plain.varTypes Tryz.prog) (ds ++ gs)).all (· ≤ reachBytes) = true := hsz0;rw [Tryz.params3] at hA hval hsz;obtain ⟨v0, v1, d0, d1, p0, p1, rfl, rfl, rfl, h0, h1⟩ := trodAll_two hA;obtain ⟨rfl, rfl⟩ := trodVars_none hV
  have hw1 : ∀ m ∈ d1.weights Tryz.prog 22, m ≤ reachBytes := fun m hm => by
    have := qy.1 hsz m (DataW.weights_mem_each (j := 1) (t := 22) (d := d1) rfl rfl m hm)
    simpa using this
  obtain ⟨n0, rfl, rfl, rfl, w0⟩ := open_int Tryz.underlying3 (hval 0 3 v0 rfl rfl) h0;obtain ⟨l1, k1, ha1⟩ := A9 (hval 1 22 v1 rfl rfl) h1 hw1;obtain ⟨a, S⟩ := vb hL;clear hA0 hval0;simp only [qz, qq] at hW';have hp : ∀ x ∈ p1, x.block < W.heap.size := fun x hx => (by simpa using hW'.lt x hx);have hp1 : ∀ x ∈ p1, x.block < W.heap.size := fun x hx => hp x hx;have e1 : Rows.optActsSpec.fn H ([.lit (.int .i64 n0), d1] ++ []) = { results := [.lit (.bool true)], args := [.lit (.int .i64 n0), d1] } := (by simp [Rows.optActsSpec]);refine (xX a n0 k1 v1 l1 W ha1 (xg S hsh) S).mono fun e W' ⟨he, hb⟩ => ?_;subst he;refine ⟨_, rfl, _, _, _, [], [] ++ p1, [], by simpa using hW', ?_, ?_, ?_, hb.frame _, fun h => by cases h⟩
  · rw [e1]; exact trodAll_mk1 (shut_bool Tryz.underlying4 true)
  · rw [e1]; exact trodAll_mk2 (shut_int Tryz.underlying3 w0) (Below.trod vm (by kernel_rfl) (zu (by kernel_rfl)) h1 hb hp1)
  · rw [e1]; rfl

theorem ve : Rows.OptActsSaid :=
  OpenClaim.holds_of_wide 3 Tryz.f3 rfl rfl rfl rfl rfl rfl rfl ⟨rfl, rfl, rfl, rfl, rfl⟩ rfl rfl rfl rfl rfl (by kernel_rfl) Tryz.func3 (by kernel_rfl)
    (zu (by kernel_rfl)) (by unfold Func.isWrapper; rw [zi (of_decide_eq_false (by kernel_rfl))]; exact ⟨rfl, rfl⟩)
    (fun os started H enc _ => tL os started H enc)

theorem optActs_card : Rows.OptActsCardSaid :=
  Claim7.holds_tied_plain_at .later Rows.optActsCard.alts Rows.optActsCard.laidKinds true Rows.optActsCard.stood.harness Rows.optActsCard.stood.looks
    ve (fun _ h => by cases h) (by kernel_rfl) (fun _ h => by cases h) optActs_row_tie rfl ⟨rfl, rfl⟩ (by kernel_rfl) rfl
    (fun f fn hf hfn => by
      obtain rfl : f = 3 := jO ((show Tryz.prog.funcNamed Rows.optActsRow.func = some 3 by kernel_rfl).symm.trans hf) |>.symm
      obtain rfl : fn = Tryz.f3 := (jO (Tryz.func3.symm.trans hfn)).symm
      exact ⟨by kernel_rfl, fun j t ht => by
        rw [Tryz.params3] at ht;have hm : t ∈ [3, 22] := (by simpa using Array.mem_of_getElem? ht);have hall : ([3, 22].all fun u => !Tryz.prog.wantsStandIn u) = true := (by kernel_rfl);exact (show Tryz.prog.wantsStandIn t = false by simpa using qy.1 hall t hm)⟩)
    (by kernel_rfl)
#print axioms optActs_card
end
end Go.Proofs.YtcflefeedcihjaaGreatDoor
