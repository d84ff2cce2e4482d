/-
  The law 'InodeKeeps' returns true for every input: what was made is read, as long as it has a link; blocks are of one inode alone; those of what has no link are free again.
  Conditions: those that each states.
-/
import Derived.Test.YtcejpeohkgchdaaDoorCards
import Derived.Test.YtcejpeohkgchdaaDoorTie
import Derived.Test.YtcejpeohkgchdaaDoorK17
import Derived.Test.YtcejpeohkgchdaaDoorK18
import Derived.Lay
import Derived.ProofKit
import Derived.Carry
import Derived.ChangeMaps5
import Derived.JoinedOf
import Derived.LaidMore
import Derived.Stop.Joined
import Derived.SevenTiedAt
namespace Go.Proofs.YtcejpeohkgchdaaDoor
open Go.ChangeShapes Go.WideShapes Go.RowKit

def fiveTexts : List (String × Nat × List UInt8) := (Rows.inodeKeepsRow.laid.zip [0, 4, 2, 1, 3]).map fun x => (x.1.1, x.2, textIn x.1.2)
theorem five_parts (W : World) : laidMetH Tryd.prog Rows.inodeKeepsRow.laid W = laidMet Tryd.prog (fiveTexts.map fun x => (x.1, .iface "*errors.errorString" (.ptr (.agg [.lit (.string x.2.2)])))) W := by kernel_rfl
theorem five_globals : (fiveTexts.all fun x => decide (Tryd.prog.globalNamed x.1 = some x.2.1) && decide ((Tryd.prog.globals[x.2.1]?).map (·.type) = some 34)) = true := by kernel_rfl
theorem five_places : fiveTexts.map (·.2.1) = [0, 4, 2, 1, 3] := by kernel_rfl
theorem ers_of_laid {W : World} (h : laidMetH Tryd.prog Rows.inodeKeepsRow.laid W) : ErsAt W W.heap.size := by
  rw [five_parts] at h
  obtain ⟨ps, hv, hnd, hrows⟩ := h
  have hx : ∀ x ∈ fiveTexts, Tryd.prog.globalNamed x.1 = some x.2.1 ∧ (Tryd.prog.globals[x.2.1]?).map (·.type) = some 34 := fun x hx => by
    have := List.all_eq_true.1 five_globals x hx
    simpa using this
  obtain ⟨la, h1, _⟩ := laid_list Tryd.underlying34 rowS Tryd.underlying119 Tryd.underlying138 rfl rfl Tryd.underlying9 cellsES cellsStr fiveTexts hv hx hrows
  rw [five_places] at h1
  obtain ⟨a0, _, c0, _⟩ := h1.at (i := 0) (g := 0) rfl
  obtain ⟨a2, _, c2, _⟩ := h1.at (i := 2) (g := 2) rfl
  obtain ⟨a3, _, c3, _⟩ := h1.at (i := 3) (g := 1) rfl
  obtain ⟨a4, _, c4, _⟩ := h1.at (i := 4) (g := 3) rfl
  exact ⟨⟨_, c0⟩, ⟨_, c3⟩, ⟨_, c2⟩, ⟨_, c4⟩, World.block_lt_of_cell? W _ c0, World.block_lt_of_cell? W _ c3, World.block_lt_of_cell? W _ c2, World.block_lt_of_cell? W _ c4⟩

set_option maxRecDepth 100000 in
theorem inodeKeeps_lifted (os : Os) (started : os.Started) (H : Type) (enc : TypeId × Value → H) :
    ReturnsInHanded {} Tryd.checked os 3 .any (fun w args => (Rows.inodeKeepsSpec.pre enc Tryd.prog Tryd.f3 [] false w args ∧ laidMetH Tryd.prog Rows.inodeKeepsRow.laid w) ∧ sizedMet enc Tryd.prog Tryd.f3 (OpenSpec.ofChange Rows.inodeKeepsSpec) false w args)
      (Rows.inodeKeepsSpec.post enc Tryd.prog Tryd.f3 false true false false) := by
  refine returnsInHanded_of_change_and (C := Tryd.checked) (X := fun w _ => laidMetH Tryd.prog Rows.inodeKeepsRow.laid w) (fun _ _ _ hh h => h.of_heap hh) own_knob started (by kernel_rfl) Tryd.func3
    (ChangeSpec.witness_shaped (enc := enc) (C := Tryd.checked) (os := os) (X := fun w _ => laidMetH Tryd.prog Rows.inodeKeepsRow.laid w) false (World.laidAll Tryd.prog os Rows.inodeKeepsRow.laid) #[.int .i64 0, .slice none 0 0] 8 (World.laidAll_os _ _ _) (World.shaped_of_ZipB (by kernel_rfl) (by kernel_rfl)) (by kernel_rfl) (by kernel_rfl) (by kernel_rfl) (by rw [MakeChecks.laidMetH_plain _ _ _ (by kernel_rfl)]; exact laidMet_laidAll _ (by kernel_rfl) (by kernel_rfl))) ?_
  intro W base args ds gs before hval0 hW _ hsz0 hL _
  have hval : ∀ (j : Nat) t v, Tryd.f3.params[j]? = some t → args[j]? = some v → Value.okWide Tryd.prog W .any base t v := hval0
  have hW' := hW
  obtain ⟨p, q, hA0, hV, rfl, hfz, hnd⟩ := hW
  have hA : DataW.TrodAll enc Tryd.prog W 0 (fun _ => true) true Tryd.f3.params.toList args.toList ds p := hA0
  rw [Tryd.params3] at hA hval
  obtain ⟨v0, v1, d0, d1, p0, p1, rfl, rfl, rfl, h0, h1⟩ := trodAll_two hA
  obtain ⟨rfl, rfl⟩ := trodVars_none hV
  obtain ⟨n0, rfl, rfl, rfl, w0⟩ := open_int Tryd.underlying3 (hval 0 3 v0 rfl rfl) h0
  obtain ⟨l1, ha1⟩ := facts_arg (hval 1 22 v1 rfl rfl) h1
  have hE := ers_of_laid hL
  clear hA0 hval0
  simp only [List.append_nil, List.nil_append] at hW'
  have hp1 : ∀ x ∈ p1, x.block < W.heap.size := fun x hx => by simpa using hW'.lt x (by simpa using hx)
  have e1 : Rows.inodeKeepsSpec.fn H ([.lit (.int .i64 n0), d1] ++ []) = { results := [.lit (.bool true)], args := [.lit (.int .i64 n0), d1] } := by simp [Rows.inodeKeepsSpec]
  refine (keeps_any n0 v1 l1 W ha1 hE).mono fun e W' ⟨he, hb⟩ => ?_
  subst he
  refine ⟨_, rfl, _, _, _, [], [] ++ p1, [], by simpa using hW', ?_, ?_, ?_, hb.frame _, fun h => by cases h⟩
  · rw [e1]; exact trodAll_mk1 (shut_bool Tryd.underlying4 true)
  · rw [e1]; exact trodAll_mk2 (shut_int Tryd.underlying3 w0) (Below.trod laid_out (by kernel_rfl) (of_decide_eq_true (by kernel_rfl)) h1 hb hp1)
  · rw [e1]; rfl

theorem inodeKeeps_holds : Rows.InodeKeepsSaid :=
  OpenClaim.holds_of_wide 3 Tryd.f3 rfl rfl rfl rfl rfl rfl rfl ⟨rfl, rfl, rfl, rfl, rfl⟩ rfl rfl rfl rfl rfl (by kernel_rfl) Tryd.func3 (by kernel_rfl)
    (of_decide_eq_true (by kernel_rfl)) (by unfold Func.isWrapper; rw [if_neg (of_decide_eq_false (by kernel_rfl))]; exact ⟨rfl, rfl⟩)
    (fun os started H enc _ => inodeKeeps_lifted os started H enc)

theorem inodeKeeps_card : Rows.InodeKeepsCardSaid :=
  Claim7.holds_tied_plain_at .later Rows.inodeKeepsCard.alts Rows.inodeKeepsCard.laidKinds true Rows.inodeKeepsCard.stood.harness Rows.inodeKeepsCard.stood.looks
    inodeKeeps_holds (fun _ h => by cases h) (by kernel_rfl) (fun _ h => by cases h) inodeKeeps_row_tie rfl ⟨rfl, rfl⟩ (by kernel_rfl) rfl
    (fun f fn hf hfn => by
      obtain rfl : f = 3 := Option.some.inj ((show Tryd.prog.funcNamed Rows.inodeKeepsRow.func = some 3 by kernel_rfl).symm.trans hf) |>.symm
      obtain rfl : fn = Tryd.f3 := (Option.some.inj (Tryd.func3.symm.trans hfn)).symm
      exact ⟨by kernel_rfl, fun j t ht => by
        rw [Tryd.params3] at ht
        have hm : t ∈ [3, 22] := by simpa using Array.mem_of_getElem? ht
        have hall : ([3, 22].all fun u => !Tryd.prog.wantsStandIn u) = true := by kernel_rfl
        exact (show Tryd.prog.wantsStandIn t = false by simpa using List.all_eq_true.1 hall t hm)⟩)
    (by kernel_rfl)
#print axioms inodeKeeps_card
end Go.Proofs.YtcejpeohkgchdaaDoor
