/-
  The law 'DiskStays' returns true for every input: behind a barrier a crash changes nothing; a bit that is turned twice is as it was; behind a crash each block is zeros, or as a write made it.
  Conditions: none beside the row's own; the listed variable is tied to the program's text by the given tie (over the pruned copy of the project).
-/
import Derived.Test.YtghhhhbllpkcdacDoorCards
import Derived.Test.YtghhhhbllpkcdacDoorTie
import Derived.Test.YtghhhhbllpkcdacDoorDkV
import Derived.Test.YtghhhhbllpkcdacDoorDkG
import Derived.Test.YtghhhhbllpkcdacDoorLaidA
import Derived.Lay
import Derived.ProofKit
import Derived.Carry
import Derived.ChangeMaps5
import Derived.JoinedOf
import Derived.LaidMore
import Derived.Stop.Joined
import Derived.SevenTiedAt
namespace Go.Proofs.YtghhhhbllpkcdacDoor
open Go.ChangeShapes Go.WideShapes Go.RowKit

def oneTexts : List (String × Nat × List UInt8) := (Rows.diskStaysRow.laid.zip [0]).map fun x => (x.1.1, x.2, textIn x.1.2)
theorem one_parts (W : World) : laidMetH Tryd.prog Rows.diskStaysRow.laid W = laidMet Tryd.prog (oneTexts.map fun x => (x.1, .iface "*errors.errorString" (.ptr (.agg [.lit (.string x.2.2)])))) W := by kernel_rfl
theorem one_globals : (oneTexts.all fun x => decide (Tryd.prog.globalNamed x.1 = some x.2.1) && decide ((Tryd.prog.globals[x.2.1]?).map (·.type) = some 27)) = true := by kernel_rfl
theorem one_places : oneTexts.map (·.2.1) = [0] := by kernel_rfl
theorem bound_of_laid {W : World} (h : laidMetH Tryd.prog Rows.diskStaysRow.laid W) : ∃ p, W.cell? ⟨0, 0, none⟩ = some (.iface 120 p) := by
  rw [one_parts] at h
  obtain ⟨ps, hv, hnd, hrows⟩ := h
  have hx : ∀ x ∈ oneTexts, Tryd.prog.globalNamed x.1 = some x.2.1 ∧ (Tryd.prog.globals[x.2.1]?).map (·.type) = some 27 := fun x hx => by
    have := List.all_eq_true.1 one_globals x hx
    simpa using this
  obtain ⟨la, h1, _⟩ := laid_list Tryd.underlying27 rowS Tryd.underlying120 Tryd.underlying139 rfl rfl Tryd.underlying9 cellsES cellsStr oneTexts hv hx hrows
  rw [one_places] at h1
  obtain ⟨a0, _, c0, _⟩ := h1.at (i := 0) (g := 0) rfl
  exact ⟨_, c0⟩

set_option maxRecDepth 100000 in
theorem diskStays_lifted (os : Os) (started : os.Started) (H : Type) (enc : TypeId × Value → H) :
    ReturnsInHanded {} Tryd.checked os 3 .any (fun w args => (Rows.diskStaysSpec.pre enc Tryd.prog Tryd.f3 [] false w args ∧ laidMetH Tryd.prog Rows.diskStaysRow.laid w) ∧ sizedMet enc Tryd.prog Tryd.f3 (OpenSpec.ofChange Rows.diskStaysSpec) false w args)
      (Rows.diskStaysSpec.post enc Tryd.prog Tryd.f3 false true false false) := by
  refine returnsInHanded_of_change_and (C := Tryd.checked) (X := fun w _ => laidMetH Tryd.prog Rows.diskStaysRow.laid w) (fun _ _ _ hh h => h.of_heap hh) own_knob started (by kernel_rfl) Tryd.func3
    (ChangeSpec.witness_shaped (enc := enc) (C := Tryd.checked) (os := os) (X := fun w _ => laidMetH Tryd.prog Rows.diskStaysRow.laid w) false (World.laidAll Tryd.prog os Rows.diskStaysRow.laid) #[.int .i64 0, .slice none 0 0, .slice none 0 0, .int .i64 0, .int .i64 0] 8 (World.laidAll_os _ _ _) (World.shaped_of_ZipB (by kernel_rfl) (by kernel_rfl)) (by kernel_rfl) (by kernel_rfl) (by kernel_rfl) (by rw [MakeChecks.laidMetH_plain _ _ _ (by kernel_rfl)]; exact laidMet_laidAll _ (by kernel_rfl) (by kernel_rfl))) ?_
  intro W base args ds gs before hval0 hW _ hsz0 hL _
  have hval : ∀ (j : Nat) t v, Tryd.f3.params[j]? = some t → args[j]? = some v → Value.okWide Tryd.prog W .any base t v := hval0
  have hW' := hW
  obtain ⟨p, q, hA0, hV, rfl, hfz, hnd⟩ := hW
  have hA : DataW.TrodAll enc Tryd.prog W 0 (fun _ => true) true Tryd.f3.params.toList args.toList ds p := hA0
  rw [Tryd.params3] at hA hval
  obtain ⟨v0, v1, v2, v3, v4, d0, d1, d2, d3, d4, p0, p1, p2, p3, p4, rfl, rfl, rfl, h0, h1, h2, h3, h4⟩ := trodAll_five hA
  obtain ⟨rfl, rfl⟩ := trodVars_none hV
  obtain ⟨n0, rfl, rfl, rfl, w0⟩ := open_int Tryd.underlying3 (hval 0 3 v0 rfl rfl) h0
  obtain ⟨l1, ha1⟩ := acts_arg (hval 1 22 v1 rfl rfl) h1
  obtain ⟨l2, hi2⟩ := ints_arg (hval 2 23 v2 rfl rfl) h2
  obtain ⟨n3, rfl, rfl, rfl, w3⟩ := open_int Tryd.underlying3 (hval 3 3 v3 rfl rfl) h3
  obtain ⟨n4, rfl, rfl, rfl, w4⟩ := open_int Tryd.underlying3 (hval 4 3 v4 rfl rfl) h4
  obtain ⟨pe, hE⟩ := bound_of_laid hL
  clear hA0 hval0
  simp only [List.append_nil, List.nil_append] at hW'
  have hp : ∀ x ∈ p1 ++ p2, x.block < W.heap.size := fun x hx => by simpa using hW'.lt x hx
  have hp1 : ∀ x ∈ p1, x.block < W.heap.size := fun x hx => hp x (List.mem_append_left _ hx)
  have hp2 : ∀ x ∈ p2, x.block < W.heap.size := fun x hx => hp x (List.mem_append_right _ hx)
  have e1 : Rows.diskStaysSpec.fn H ([.lit (.int .i64 n0), d1, d2, .lit (.int .i64 n3), .lit (.int .i64 n4)] ++ []) = { results := [.lit (.bool true)], args := [.lit (.int .i64 n0), d1, d2, .lit (.int .i64 n3), .lit (.int .i64 n4)] } := by simp [Rows.diskStaysSpec]
  refine (diskStays_any n0 l1 v1 l2 v2 n3 n4 pe W ha1 hi2 hE).mono fun e W' ⟨he, hb⟩ => ?_
  subst he
  refine ⟨_, rfl, _, _, _, [], [] ++ (p1 ++ (p2 ++ ([] ++ []))), [], by simpa using hW', ?_, ?_, ?_, hb.frame _, fun h => by cases h⟩
  · rw [e1]; exact trodAll_mk1 (shut_bool Tryd.underlying4 true)
  · rw [e1]; exact trodAll_mk5 (shut_int Tryd.underlying3 w0) (Below.trod laid_out (by kernel_rfl) (of_decide_eq_true (by kernel_rfl)) h1 hb hp1) (Below.trod laid_out (by kernel_rfl) (of_decide_eq_true (by kernel_rfl)) h2 hb hp2) (shut_int Tryd.underlying3 w3) (shut_int Tryd.underlying3 w4)
  · rw [e1]; rfl

theorem diskStays_holds : Rows.DiskStaysSaid :=
  OpenClaim.holds_of_wide 3 Tryd.f3 rfl rfl rfl rfl rfl rfl rfl ⟨rfl, rfl, rfl, rfl, rfl⟩ rfl rfl rfl rfl rfl (by kernel_rfl) Tryd.func3 (by kernel_rfl)
    (of_decide_eq_true (by kernel_rfl)) (by unfold Func.isWrapper; rw [if_neg (of_decide_eq_false (by kernel_rfl))]; exact ⟨rfl, rfl⟩)
    (fun os started H enc _ => diskStays_lifted os started H enc)

theorem diskStays_card : Rows.DiskStaysCardSaid :=
  Claim7.holds_tied_plain_at .later Rows.diskStaysCard.alts Rows.diskStaysCard.laidKinds true Rows.diskStaysCard.stood.harness Rows.diskStaysCard.stood.looks
    diskStays_holds (fun _ h => by cases h) (by kernel_rfl) (fun _ h => by cases h) diskStays_row_tie rfl ⟨rfl, rfl⟩ (by kernel_rfl) rfl
    (fun f fn hf hfn => by
      obtain rfl : f = 3 := Option.some.inj ((show Tryd.prog.funcNamed Rows.diskStaysRow.func = some 3 by kernel_rfl).symm.trans hf) |>.symm
      obtain rfl : fn = Tryd.f3 := (Option.some.inj (Tryd.func3.symm.trans hfn)).symm
      exact ⟨by kernel_rfl, fun j t ht => by
        rw [Tryd.params3] at ht
        have hm : t ∈ [3, 22, 23, 3, 3] := by simpa using Array.mem_of_getElem? ht
        have hall : ([3, 22, 23, 3, 3].all fun u => !Tryd.prog.wantsStandIn u) = true := by kernel_rfl
        exact (show Tryd.prog.wantsStandIn t = false by simpa using List.all_eq_true.1 hall t hm)⟩)
    (by kernel_rfl)
#print axioms diskStays_card
end Go.Proofs.YtghhhhbllpkcdacDoor
