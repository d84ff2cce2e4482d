/-
  The law 'PackFirsts' returns true for every list of nodes: trees that stand one behind the other are read one by one.
  Conditions: none beside the row's own; the listed variables are tied to the program's text by the given tie (over the pruned copy of the project).
-/
import Derived.Test.YtilkjafggfdjeaaDoorCards
import Derived.Test.YtilkjafggfdjeaaDoorTie
import Derived.Test.YtilkjafggfdjeaaDoorFirstsW
import Derived.Test.YtilkjafggfdjeaaDoorLaidF
import Derived.Test.YtilkjafggfdjeaaDoorArg
import Derived.ProofKit
import Derived.ChangeSame
import Derived.ChangeVars
import Derived.JoinedOf
import Derived.LaidMore
import Derived.Stop.Joined
import Derived.SevenTiedAt
namespace Go.Proofs.YtilkjafggfdjeaaDoor
open Go.ChangeShapes Go.WideShapes Go.RowKit

theorem bytesNode : Tryd.prog.bytesOf 24 = 64 := by kernel_rfl
set_option maxRecDepth 100000 in
/-- Nodes among the arguments. -/
theorem nodes_arg {H : Type} {enc : TypeId × Value → H} {W : World} {base : Nat} {v : Value} {dd : DataW H} {p : List MemPlace} (hval : Value.okWide Tryd.prog W .any base 53 v) (h : DataW.Trod enc Tryd.prog W 0 (fun _ => true) true 53 v dd p)
    (hw : ∀ m ∈ dd.weights Tryd.prog 53, m ≤ reachBytes) : ∃ (ts : List Tree) (d : Nat), NodesAt W W.heap.size d ts v ∧ ts.length ≤ 10000000000000 := by
  obtain ⟨a', l', c', rfl⟩ := okWide_slice Tryd.underlying53 hval
  obtain ⟨n, hf⟩ := h
  have hf : DataW.trod enc Tryd.prog W 0 (fun _ => true) true n 53 [.slice a' l' c'] = some (dd, p) := hf
  rcases DataW.trod_slice Tryd.underlying53 hf with ⟨hcs, _⟩ | ⟨a, len, cap, elems, rest, m, hfuel, hcs, hx, _, hlc, _, hel, hE, _, _⟩
  · simp only [List.cons.injEq, and_true] at hcs
    rw [hcs]
    exact ⟨[], 0, ⟨none, 0, rfl, fun i t hi => by simp at hi⟩, by simp⟩
  · simp only [List.cons.injEq, and_true] at hcs
    rw [hcs]
    have hx := congrArg Prod.fst hx
    simp only at hx
    have hwd : dd.weights Tryd.prog 53 = ((elems.map (·.1)).length + (rest.map (·.1)).length) * 64 :: (DataW.weightsAll Tryd.prog 24 (elems.map (·.1)) ++ DataW.weightsAll Tryd.prog 24 (rest.map (·.1))) := by
      rw [hx, DataW.weights]; simp only [Tryd.underlying53, bytesNode]
    have hlen : len ≤ 10000000000000 := by
      have := hw _ (by rw [hwd]; exact List.mem_cons_self)
      simp only [List.length_map, hel, reachBytes] at this
      omega
    have hplain : ∀ i, i < len → ∃ b off, a = ⟨b, off, none⟩ := by
      intro i hi
      have hb := hE 0 (by omega)
      rw [cellsNode] at hb
      obtain ⟨el, he⟩ : ∃ el, elems[0]? = some el := ⟨elems[0]'(by omega), List.getElem?_eq_getElem (by omega)⟩
      rw [he] at hb
      obtain ⟨cs, hc, _⟩ := Option.bind_eq_some_iff.1 hb
      obtain ⟨_, hcl, hcc⟩ := World.cells?_some hc
      have k0 := hcc 0 (by omega)
      rw [List.getElem?_eq_getElem (by omega)] at k0
      obtain ⟨b, off, spot⟩ := a
      have hsp : spot = none := by simpa [Addr.add] using World.cell?_spot k0
      subst hsp
      exact ⟨b, off, rfl⟩
    have hone : ∀ i, i < len → ∃ p : Tree × Value, (∃ b off, a = ⟨b, off, none⟩ ∧ b < W.heap.size ∧
        (W.cell? ⟨b, off + i * 4, none⟩ = some (.string p.1.kind) ∧ W.cell? ⟨b, off + i * 4 + 1, none⟩ = some (.string p.1.data) ∧ W.cell? ⟨b, off + i * 4 + 2, none⟩ = some (.bool p.1.exec) ∧ W.cell? ⟨b, off + i * 4 + 3, none⟩ = some p.2)) ∧ Lies W W.heap.size n p.1.kids p.2 := by
      intro i hi
      have hb := hE i hi
      rw [cellsNode] at hb
      obtain ⟨el, he⟩ : ∃ el, elems[i]? = some el := ⟨elems[i]'(by omega), List.getElem?_eq_getElem (by omega)⟩
      rw [he] at hb
      obtain ⟨cs, hc, ht⟩ := Option.bind_eq_some_iff.1 hb
      obtain ⟨_, hcl, hcc⟩ := World.cells?_some hc
      have hwel : ∀ q ∈ el.1.weights Tryd.prog 24, q ≤ reachBytes := fun q hq => hw q (by
        rw [hwd]
        exact List.mem_cons_of_mem _ (List.mem_append_left _ (weights_all (List.mem_map.2 ⟨el, List.mem_of_getElem? he, rfl⟩) q hq)))
      obtain ⟨kind, data, exec, u, y, m2, hm2, e1, hy, hwy, _⟩ := node_of_trod ht hwel
      obtain ⟨l, hl⟩ := lies_of_trod m2 u y hy hwy
      subst e1
      have k0 := hcc 0 (by simp)
      have k1 := hcc 1 (by simp)
      have k2 := hcc 2 (by simp)
      have k3 := hcc 3 (by simp)
      simp only [List.getElem?_cons_zero, List.getElem?_cons_succ] at k0 k1 k2 k3
      obtain ⟨b, off, rfl⟩ := hplain i hi
      have hadd : ∀ (q o : Nat), (⟨b, q, none⟩ : Addr).add o = ⟨b, q + o, none⟩ := fun q o => by unfold Addr.add; split <;> simp_all
      simp only [hadd, Nat.add_zero] at k0 k1 k2 k3
      exact ⟨(⟨kind, data, exec, l⟩, u), ⟨b, off, rfl, lt_of_cell k0, k0, k1, k2, k3⟩, hl.up (Nat.le_refl _) (by omega)⟩
    haveI : Inhabited (Tree × Value) := ⟨(⟨ByteArray.empty, ByteArray.empty, false, []⟩, .nilIface)⟩
    obtain ⟨f, hf'⟩ := Deep.choose_lt hone
    refine ⟨(List.range len).map fun i => (f i).1, n, ⟨some a, cap, by simp, fun i x hx => ?_⟩, by simpa using hlen⟩
    have hi : i < len := by have := (List.getElem?_eq_some_iff.1 hx).1; simpa using this
    have ex : x = (f i).1 := by
      rw [List.getElem?_map, List.getElem?_range hi] at hx
      simpa using hx.symm
    subst ex
    obtain ⟨⟨b, off, e, q1, q2⟩, q8⟩ := hf' i hi
    exact ⟨b, off, (f i).2, by rw [e], q1, q2, q8⟩

theorem firsts_door (os : Os) (args : Array Value) : laidMetH Tryd.prog Rows.packFirstsRow.laid ((World.doorLaid Tryd.prog 288 os).forCall (fun _ _ => 0) ⟨#[], args, []⟩).memory :=
  laidMetH_of_parts3 (fuel := 8) (laidMet_of_run' 8 (by kernel_rfl) (by kernel_rfl)) (by kernel_rfl) (by kernel_rfl)

set_option maxRecDepth 100000 in
theorem packFirsts_lifted (os : Os) (started : os.Started) (H : Type) (enc : TypeId × Value → H) :
    ReturnsInHanded {} Tryd.checked os 8 .any (fun w args => (Rows.packFirstsSpec.pre enc Tryd.prog Tryd.f8 [] false w args ∧ laidMetH Tryd.prog Rows.packFirstsRow.laid w) ∧ sizedMet enc Tryd.prog Tryd.f8 (OpenSpec.ofChange Rows.packFirstsSpec) false w args)
      (Rows.packFirstsSpec.post enc Tryd.prog Tryd.f8 false true false false) := by
  refine returnsInHanded_of_change_and (C := Tryd.checked) (X := fun w _ => laidMetH Tryd.prog Rows.packFirstsRow.laid w) (fun _ _ _ hh h => h.of_heap hh) sums_own started (by kernel_rfl) Tryd.func8
    (ChangeSpec.witness_shaped (enc := enc) (C := Tryd.checked) (os := os) (X := fun w _ => laidMetH Tryd.prog Rows.packFirstsRow.laid w) false (World.doorLaid Tryd.prog 288 os) #[.slice none 0 0] 8 rfl (World.shaped_of_RefB (by kernel_rfl) (by kernel_rfl)) (by kernel_rfl) (by kernel_rfl) (by kernel_rfl) (firsts_door os _)) ?_
  intro W base args ds gs before hval0 hW _ hsz0 hL _
  have hval : ∀ (j : Nat) t v, Tryd.f8.params[j]? = some t → args[j]? = some v → Value.okWide Tryd.prog W .any base t v := hval0
  have hW' := hW
  obtain ⟨p, q, hA0, hV, rfl, hfz, hnd⟩ := hW
  have hA : DataW.TrodAll enc Tryd.prog W 0 (fun _ => true) true Tryd.f8.params.toList args.toList ds p := hA0
  have hsz : (DataW.weightsEach Tryd.prog (Tryd.f8.params.toList ++ Rows.packFirstsSpec.plain.varTypes Tryd.prog) (ds ++ gs)).all (· ≤ reachBytes) = true := hsz0
  rw [Tryd.params8] at hA hval hsz
  obtain ⟨v0, d0, rfl, rfl, h0⟩ := trodAll_one hA
  obtain ⟨rfl, rfl⟩ := trodVars_none hV
  have hw : ∀ m ∈ d0.weights Tryd.prog 53, m ≤ reachBytes := fun m hm => by
    have := List.all_eq_true.1 hsz m (DataW.weights_mem_each (j := 0) (t := 53) (d := d0) rfl rfl m hm)
    simpa using this
  obtain ⟨ts, n, hl, hts⟩ := nodes_arg (hval 0 53 v0 rfl rfl) h0 hw
  obtain ⟨⟨a, S⟩, hTab⟩ := sen_of_firsts hL
  have hT : Tab W.heap.size W := Lib.tabBelow_of_tabIs hTab
  clear hA0 hval0
  simp only [List.append_nil] at hW'
  have hlt : ∀ x ∈ p, x.block < W.heap.size := fun x hx => by simpa using hW'.lt x hx
  have e1 : Rows.packFirstsSpec.fn H ([d0] ++ []) = { results := [.lit (.bool true)], args := [d0] } := by simp [Rows.packFirstsSpec]
  refine (firsts_any a n ts v0 W S hT hl hts).mono fun e W' ⟨he, hb⟩ => ?_
  subst he
  refine ⟨_, rfl, _, _, _, [], p ++ [], [], hW', ?_, ?_, ?_, hb.frame _, fun h => by cases h⟩
  · rw [e1]; exact trodAll_mk1 (shut_bool Tryd.underlying4 true)
  · rw [e1]; exact ⟨p, [], Below.trod sums_laidOut (by kernel_rfl) (of_decide_eq_true (by kernel_rfl)) h0 hb hlt, rfl, rfl⟩
  · rw [e1]; rfl

theorem packFirsts_holds : Rows.PackFirstsSaid :=
  OpenClaim.holds_of_wide 8 Tryd.f8 rfl rfl rfl rfl rfl rfl rfl ⟨rfl, rfl, rfl, rfl, rfl⟩ rfl rfl rfl rfl rfl (by kernel_rfl) Tryd.func8 (by kernel_rfl)
    (of_decide_eq_true (by kernel_rfl)) (by unfold Func.isWrapper; rw [if_neg (of_decide_eq_false (by kernel_rfl))]; exact ⟨rfl, rfl⟩)
    (fun os started H enc _ => packFirsts_lifted os started H enc)

theorem packFirsts_card : Rows.PackFirstsCardSaid :=
  Claim7.holds_tied_plain_at .later Rows.packFirstsCard.alts Rows.packFirstsCard.laidKinds true Rows.packFirstsCard.stood.harness Rows.packFirstsCard.stood.looks
    packFirsts_holds (fun _ h => by cases h) (by kernel_rfl) (fun _ h => by cases h) packFirsts_row_tie rfl ⟨rfl, rfl⟩ (by kernel_rfl) rfl
    (fun f fn hf hfn => by
      obtain rfl : f = 8 := Option.some.inj ((show Tryd.prog.funcNamed Rows.packFirstsRow.func = some 8 by kernel_rfl).symm.trans hf) |>.symm
      obtain rfl : fn = Tryd.f8 := (Option.some.inj (Tryd.func8.symm.trans hfn)).symm
      exact ⟨by kernel_rfl, fun j t ht => by
        rw [Tryd.params8] at ht
        have hm : t ∈ [53] := by simpa using Array.mem_of_getElem? ht
        have hall : ([53].all fun u => !Tryd.prog.wantsStandIn u) = true := by kernel_rfl
        exact (show Tryd.prog.wantsStandIn t = false by simpa using List.all_eq_true.1 hall t hm)⟩)
    (by kernel_rfl)
#print axioms packFirsts_card
end Go.Proofs.YtilkjafggfdjeaaDoor
