/-
  The law 'ScrubActs' returns true for every input: behind any acts on files the program finds what can't be read and mends it as the document does, and behind any acts on trees it tells where an inode's files are as the document does.
  Conditions: those that each states.
-/
import Derived.Test.YthofhjnfkholoaaGreatDoorCards
import Derived.Test.YthofhjnfkholoaaGreatDoorTie
import Derived.Test.YthofhjnfkholoaaGreatDoorQ45
import Derived.ChangeMaps5
import Derived.JoinedOf
import Derived.Stop.Joined
namespace Go.Proofs.YthofhjnfkholoaaGreatDoor
section
open Go.ChangeShapes Go.WideShapes Go.RowKit

theorem Dc {W : World} (h : W.ShapedOpen Tryz.prog) : ∃ cs ty, W.heap[4]? = some (.cells cs ty (0, 0)) ∧ dR (.cells cs ty (0, 0)) = false := by
  obtain ⟨cs, h1, _⟩ := h.1 4 #[.nilIface] 36 (of_decide_eq_true (by kernel_rfl)) (by kernel_rfl)
  exact ⟨cs, 36, h1, rfl⟩
theorem DB {W : World} (h : W.ShapedOpen Tryz.prog) : ∃ cs ty, W.heap[2]? = some (.cells cs ty (0, 0)) ∧ dR (.cells cs ty (0, 0)) = false := by
  obtain ⟨cs, h1, _⟩ := h.1 2 #[.nilIface] 36 (of_decide_eq_true (by kernel_rfl)) (by kernel_rfl)
  exact ⟨cs, 36, h1, rfl⟩
theorem wQ {a : Nat → Addr} {W : World} (S : aV a W) (hsh : W.ShapedOpen Tryz.prog) : kj a W :=
  ⟨⟨⟨S.c0, S.c1, S.c2, S.c3, S.c4, S.c7, S.c8, S.c9⟩, S.c5, uG hsh⟩, ⟨_, S.c10⟩, Dc hsh, DB hsh⟩
set_option maxRecDepth 100000 in
theorem rj (os : Os) (started : os.Started) (H : Type) (enc : TypeId × Value → H) :
    ReturnsInHanded {} Tryz.checked os 3 .any (fun w args => (Rows.scrubActsSpec.pre enc Tryz.prog Tryz.f3 [] false w args ∧ laidMetH Tryz.prog Rows.scrubActsRow.laid w) ∧ sizedMet enc Tryz.prog Tryz.f3 (OpenSpec.ofChange Rows.scrubActsSpec) false w args)
      (Rows.scrubActsSpec.post enc Tryz.prog Tryz.f3 false true false false) := by
  refine pE (C := Tryz.checked) (X := fun w _ => laidMetH Tryz.prog Rows.scrubActsRow.laid w) (fun _ _ _ hh h => h.of_heap hh) Es started (by kernel_rfl) Tryz.func3
    (ChangeSpec.witness_shaped (enc := enc) (C := Tryz.checked) (os := os) (X := fun w _ => laidMetH Tryz.prog Rows.scrubActsRow.laid w) false ((((World.holding Tryz.prog os ⟨#[], #[], []⟩).setCell ⟨13, 0, none⟩ (.iface 231 (.agg #[.pointer (some ⟨20, 36, none⟩)]))).layVars Tryz.prog cq)) #[.int .i64 0, .slice none 0 0, .slice none 0 0, .int .i64 0] 8 (uI os) (World.shaped_of_ZipB (by kernel_rfl) (by kernel_rfl)) (by kernel_rfl) (by kernel_rfl) (by kernel_rfl) (s8 os _)) ?_
  intro W base args ds gs before hval0 hW hsz0 hL hsh
  have hval : ∀ (j : Nat) t v, Tryz.f3.params[j]? = some t → args[j]? = some v → Value.okWide Tryz.prog W .any base t v := hval0
  have hW' := hW
  obtain ⟨p, q, hA0, hV, rfl, hfz, hnd⟩ := hW
  have hA : DataW.TrodAll enc Tryz.prog W 0 (fun _ => true) true Tryz.f3.params.toList args.toList ds p := hA0
  have hsz : (DataW.weightsEach Tryz.prog (Tryz.f3.params.toList ++ Rows.scrubActsSpec.plain.varTypes Tryz.prog) (ds ++ gs)).all (· ≤ reachBytes) = true := hsz0
  rw [Tryz.params3] at hA hval hsz
  obtain ⟨v0, v1, v2, v3, d0, d1, d2, d3, p0, p1, p2, p3, rfl, rfl, rfl, h0, h1, h2, h3⟩ := trodAll_four hA
  obtain ⟨rfl, rfl⟩ := trodVars_none hV
  have hw2 : ∀ m ∈ d2.weights Tryz.prog 23, m ≤ reachBytes := fun m hm => by
    have := List.all_eq_true.1 hsz m (DataW.weights_mem_each (j := 2) (t := 23) (d := d2) rfl rfl m hm)
    simpa using this
  obtain ⟨n0, rfl, rfl, rfl, w0⟩ := open_int Tryz.underlying3 (hval 0 3 v0 rfl rfl) h0
  obtain ⟨n3, rfl, rfl, rfl, w3⟩ := open_int Tryz.underlying3 (hval 3 3 v3 rfl rfl) h3
  obtain ⟨l1, ha1⟩ := Da (hval 1 22 v1 rfl rfl) h1
  obtain ⟨l2, k2, ha2⟩ := BR (hval 2 23 v2 rfl rfl) h2 hw2
  obtain ⟨a, S, hT⟩ := uH hL
  clear hA0 hval0
  simp only [List.append_nil, List.nil_append] at hW'
  have hp : ∀ x ∈ p1 ++ p2, x.block < W.heap.size := fun x hx => by simpa using hW'.lt x hx
  have hp1 : ∀ x ∈ p1, x.block < W.heap.size := fun x hx => hp x (List.mem_append_left _ hx)
  have hp2 : ∀ x ∈ p2, x.block < W.heap.size := fun x hx => hp x (List.mem_append_right _ hx)
  have e1 : Rows.scrubActsSpec.fn H ([.lit (.int .i64 n0), d1, d2, .lit (.int .i64 n3)] ++ []) = { results := [.lit (.bool true)], args := [.lit (.int .i64 n0), d1, d2, .lit (.int .i64 n3)] } := by simp [Rows.scrubActsSpec]
  refine (uF a n0 l1 v1 k2 v2 l2 n3 W ha1 ha2 (wQ S hsh) S hT).mono fun e W' ⟨he, hb⟩ => ?_
  subst he
  refine ⟨_, rfl, _, _, _, [], [] ++ (p1 ++ (p2 ++ [])), [], by simpa using hW', ?_, ?_, ?_, hb.frame _, fun h => by cases h⟩
  · rw [e1]; exact trodAll_mk1 (shut_bool Tryz.underlying4 true)
  · rw [e1]; exact trodAll_mk4 (shut_int Tryz.underlying3 w0) (Below.trod oD (by kernel_rfl) (of_decide_eq_true (by kernel_rfl)) h1 hb hp1) (Below.trod oD (by kernel_rfl) (of_decide_eq_true (by kernel_rfl)) h2 hb hp2) (shut_int Tryz.underlying3 w3)
  · rw [e1]; rfl

theorem sr : Rows.ScrubActsSaid :=
  OpenClaim.holds_of_wide 3 Tryz.f3 rfl rfl rfl rfl rfl rfl rfl ⟨rfl, rfl, rfl, rfl, rfl⟩ rfl rfl rfl rfl rfl (by kernel_rfl) Tryz.func3 (by kernel_rfl)
    (of_decide_eq_true (by kernel_rfl)) (by unfold Func.isWrapper; rw [if_neg (of_decide_eq_false (by kernel_rfl))]; exact ⟨rfl, rfl⟩)
    (fun os started H enc _ => rj os started H enc)

theorem scrubActs_card : Rows.ScrubActsCardSaid :=
  Claim7.holds_tied_plain_at .later Rows.scrubActsCard.alts Rows.scrubActsCard.laidKinds true Rows.scrubActsCard.stood.harness Rows.scrubActsCard.stood.looks
    sr (fun _ h => by cases h) (by kernel_rfl) (fun _ h => by cases h) scrubActs_row_tie rfl ⟨rfl, rfl⟩ (by kernel_rfl) rfl
    (fun f fn hf hfn => by
      obtain rfl : f = 3 := Option.some.inj ((show Tryz.prog.funcNamed Rows.scrubActsRow.func = some 3 by kernel_rfl).symm.trans hf) |>.symm
      obtain rfl : fn = Tryz.f3 := (Option.some.inj (Tryz.func3.symm.trans hfn)).symm
      exact ⟨by kernel_rfl, fun j t ht => by
        rw [Tryz.params3] at ht
        have hm : t ∈ [3, 22, 23, 3] := by simpa using Array.mem_of_getElem? ht
        have hall : ([3, 22, 23, 3].all fun u => !Tryz.prog.wantsStandIn u) = true := by kernel_rfl
        exact (show Tryz.prog.wantsStandIn t = false by simpa using List.all_eq_true.1 hall t hm)⟩)
    (by kernel_rfl)
#print axioms scrubActs_card
end
end Go.Proofs.YthofhjnfkholoaaGreatDoor
