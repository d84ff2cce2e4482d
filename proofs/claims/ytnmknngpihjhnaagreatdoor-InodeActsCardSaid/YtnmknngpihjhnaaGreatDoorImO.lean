/-
  The contracts of a table's All and Disk.
  Conditions: the table lies in memory.
-/
import Derived.Test.YtnmknngpihjhnaaGreatDoorImN
import Derived.Test.YtnmknngpihjhnaaGreatDoorShelfK
namespace Go.Proofs.YtnmknngpihjhnaaGreatDoor
open Go.RowKit Go.Maps Go.Shelf

/-- The numbers that are there. -/
def allT (tab : List (Option Ino)) : List Nat := (List.range tab.length).filter fun k => (slotT tab k).isSome
theorem allT_mem {tab : List (Option Ino)} {k : Nat} : k ∈ allT tab ↔ ∃ x, slotT tab k = some x := by
  unfold allT
  rw [List.mem_filter, List.mem_range, Option.isSome_iff_exists]
  exact ⟨fun h => h.2, fun ⟨x, h⟩ => ⟨slotT_lt h, x, h⟩⟩
theorem allT_nodup (tab : List (Option Ino)) : (allT tab).Nodup := List.nodup_range.filter _
theorem allT_rises (tab : List (Option Ino)) : (allT tab).Pairwise (· < ·) := List.pairwise_lt_range.filter _
theorem allT_len (tab : List (Option Ino)) : (allT tab).length ≤ tab.length := by
  unfold allT
  exact Nat.le_trans (List.length_filter_le _ _) (by simp)
theorem ints_mem {l : List Nat} {x : Int} : x ∈ ints l ↔ ∃ k ∈ l, x = (k : Int) := by
  unfold ints
  rw [List.mem_map]
  exact ⟨fun ⟨k, h, e⟩ => ⟨k, h, e.symm⟩, fun ⟨k, h, e⟩ => ⟨k, h, e.symm⟩⟩
theorem ints_nodup {l : List Nat} (h : l.Nodup) : (ints l).Nodup := by
  unfold ints
  exact List.pairwise_map.2 (h.imp fun hne e => hne (Int.ofNat.inj e))
theorem ints_sorted {l : List Nat} (h : l.Pairwise (· < ·)) : (ints l).mergeSort leI = ints l := by
  apply List.mergeSort_of_pairwise
  unfold ints
  refine List.pairwise_map.2 (h.imp fun {a b} hlt => ?_)
  simp only [leI, decide_eq_true_eq]
  exact Int.ofNat_le.2 (Nat.le_of_lt hlt)
/-- A map's keys, sorted. -/
theorem keys_sorted {H : Type} {R : Value → Option (DataW H × List MemPlace)} {w : World} {b n : Nat} {D : DataW H} {f : Nat → Option Nat} {L : List Nat} {ss : List Int} (hown : w.ownsMap Tryz.prog 3 R b n D) (hD : ∀ k : Int, Maps.has D (.int .i64 k) = (atI f k).isSome) (hL : ∀ k, k ∈ L ↔ (f k).isSome = true) (hs : L.Pairwise (· < ·)) (hp : ss.Perm (intKeys D)) : ss.mergeSort (fun x y => decide (x ≤ y)) = ints L ∧ ss.length = L.length := by
  have hnd : L.Nodup := hs.imp fun h => Nat.ne_of_lt h
  have hc : CollectedI D (fun _ => false) (ints L) := ⟨ints_nodup hnd, fun x => by
    rw [hD x, ints_mem]
    constructor
    · rintro ⟨k, hk, rfl⟩
      rw [atI_nat]
      exact ⟨(hL k).1 hk, rfl⟩
    · rintro ⟨h, _⟩
      unfold atI at h
      split at h
      · exact ⟨x.toNat, (hL _).2 h, by omega⟩
      · cases h⟩
  have hp2 : ss.Perm (ints L) := hp.trans (hc.perm hown keyed Tryz.underlying3 (fun _ => rfl)).symm
  refine ⟨(mergeSort_of_perm_i hp2).trans (ints_sorted hs), ?_⟩
  rw [hp2.length_eq]; unfold ints; simp
/-- slices.Sort's two contracts at this program, at the fence that asks nothing. -/
theorem sortsA (m : Nat) : AnyZI.SortsIn Tryz.prog Tryz.sortedA_ren Fence.wide m :=
  ⟨fun blk off cap ss W hH hblk hsz => callsIn_wide.2 (AnyM.slices_Sort_int Tryz.sortA blk off cap ss W hH hblk hsz),
   fun p cap W => callsIn_wide.2 (AnyM.slices_Sort_int_none Tryz.sortA p cap W)⟩
section
variable {F : Nat → Prop} {T0 tb bb sp sb cap mb n : Nat} {bl : List (List UInt8)} {u : List Bool} {tab : List (Option Ino)}
set_option maxHeartbeats 1000000 in
theorem im_all (w : World) (T : TbAt w F T0 tb bb sp sb cap mb n bl u tab) :
    Calls Tryz.prog 33 #[.pointer (some ⟨tb, 0, none⟩)] w fun e w' => ∃ v, e = .returned v ∧ OwnI w' w.heap.size v (allT tab) ∧ Below w.heap.size w w' := by
  obtain ⟨f, N⟩ := T.nodes
  obtain ⟨D0, hown, hD⟩ := N.map
  have hsz := hown.size_le
  have hn := T.low.2.2.2.2.2.2
  have hmax : Maps.size D0 ≤ maxLen := by unfold maxLen; omega
  have hbytes : Maps.size D0 * 8 ≤ 140737488355328 := by omega
  have HKS : Hid (∀ ss : List Int, ss.Perm (intKeys D0) → ss.mergeSort (fun x y => decide (x ≤ y)) = ints (allT tab) ∧ ss.length = (allT tab).length) := fun ss hp => keys_sorted (f := f) hown (fun k => (hD k).2) (fun k => by
    rw [allT_mem]
    constructor
    · rintro ⟨x, hx⟩
      obtain ⟨b, e, _⟩ := N.some_ k x hx
      rw [e]; rfl
    · intro h
      cases hx : slotT tab k with
      | some x => exact ⟨x, rfl⟩
      | none => rw [N.none_ k hx] at h; cases h) (allT_rises tab) hp
  obtain ⟨_, _, c2⟩ := T.cells
  clear N hD T
  refine (callsIn_wide (n := 6)).1 ?_
  have hbl := hown.lt
  have hseq : SeqGives Fence.wide 2 Tryz.prog 80 #[.pointer (some ⟨w.heap.size, 0, none⟩)] encZ (fun ss => ss.Perm (intKeys D0)) (Maps.size D0) (w.alloc (.cells #[.map (some mb)] 74)) :=
    AnyZI.keys_gives (ρ := Tryz.keysA_ren) { Tryz.keysA with } Fence.wide _ trivial rfl (by omega) w.heap.size mb n D0 _ (by simp) (by simp) (by
      obtain ⟨es, clock, hb, Ft, hs, hD⟩ := hown
      exact ⟨es, clock, (Below.heap_alloc _ _ mb hbl).trans hb, Ft, hs, hD⟩)
  have cK : ∀ mb W, CallsIn Fence.wide 5 Tryz.prog 58 #[.map mb] W fun e w' => e = .returned (.func (.func 80) #[] #[.pointer (some ⟨W.heap.size, 0, none⟩)]) ∧ w' = W.alloc (.cells #[.map mb] 74) := fun mb W => AnyZI.keys_in Tryz.keysA Fence.wide 5 trivial rfl mb W
  have cS := AnyZI.sorted_in Tryz.sortedA Fence.wide 5 trivial trivial trivial trivial rfl (by omega) (sortsA _) (enters_of Tryz.func79 (by kernel_rfl) rfl) 80 #[.pointer (some ⟨w.heap.size, 0, none⟩)] trivial (enters_of Tryz.func80 (by kernel_rfl) rfl) _ _ hmax hbytes _ hseq
  change CallsIn _ _ Tryz.prog 57 _ _ _ at cS
  have hfK : Fence.wide.fn 58 := trivial
  have hfS : Fence.wide.fn 57 := trivial
  refine callsIn_of_wp Tryz.func33 rfl trivial ?_ rfl
  simp only [Tryz.ntmps33, List.size_toArray, List.length_cons, List.length_nil, Nat.reduceAdd, Nat.reduceSub, Array.replicate_succ, Array.replicate_zero, List.push_toArray, List.append_toArray, List.nil_append, List.cons_append]
  gi_wp2_with (first
    | (gi_at_call 58; refine (cK _ _).mono ?_; rintro e w' ⟨rfl, rfl⟩)
    | (gi_at_call 57; refine cS.mono ?_; rintro e w' ⟨v, ss, rfl, hS, hrow, hnil, hb⟩))
  go_ret
  obtain ⟨e1, e2⟩ := HKS.out ss hS
  rw [e1, e2] at hrow
  exact ⟨v, rfl, ownsRow_base_a hrow (by simp), ((Below.refl _ w).alloc (Nat.le_refl _) _).trans (hb.mono (by simp))⟩
theorem im_disk (w : World) (T : TbAt w F T0 tb bb sp sb cap mb n bl u tab) :
    Calls Tryz.prog 23 #[.pointer (some ⟨tb, 0, none⟩)] w fun e w' => e = .returned (.pointer (some ⟨bb + 1, 0, none⟩)) ∧ w' = w := by
  obtain ⟨c0, _, _⟩ := T.cells
  clear T
  go_enter Tryz.func23, Tryz.ntmps23
  go_wp2_with fail
  go_ret
  exact ⟨rfl, rfl⟩
end
end Go.Proofs.YtnmknngpihjhnaaGreatDoor
