/-
  The library's contracts of maps.Keys, slices.Sorted and slices.Sort, at this program's numbers.
  The contracts of a table's All and Disk.
  The contracts of the document's Byte and turned.
  Conditions: those that each states.
-/
import Derived.Shelf.SlIterI.Nil
import Derived.Shelf.SortM.Plain
import Derived.Shelf.SortM.SortNone
import Derived.Ground.GgzProg
import Derived.Ground.SlgmProg
import Derived.Test.YtcejpeohkgchdaaGreatDoorProg
import Derived.Test.YtcejpeohkgchdaaGreatDoorQ07
import Derived.Test.YtcejpeohkgchdaaGreatDoorQ13
import Derived.Laws.IdiomStrings
namespace Go.Proofs
open Go.Shelf
def Tryz.keysA_ren : Go.Shelf.Ren := ⟨fun | 7 => 76 | 10 => 124 | n => n, fun | 23 => 109 | 26 => 3 | 3 => 112 | 28 => 139 | 0 => 0 | 27 => 138 | 33 => 45 | 4 => 4 | n => n, fun | n => n⟩
theorem Tryz.keysA : Go.Proofs.SlLaysZI.n7 Tryz.prog Tryz.keysA_ren := {
  mixed := by kernel_rfl
  f7 := ⟨Tryz.f76.name, by decide, Tryz.func76.trans (congrArg some (by kernel_rfl))⟩
  f10 := ⟨Tryz.f124.name, by decide, Tryz.func124.trans (congrArg some (by kernel_rfl))⟩
  t0 := Tryz.underlying0
  a0 := Tryz.isAgg0
  z0 := Tryz.sizeOf0
  v0 := Tryz.zeroValue0
  t4 := Tryz.underlying4
  a4 := Tryz.isAgg4
  z4 := Tryz.sizeOf4
  v4 := Tryz.zeroValue4
  t23 := Tryz.underlying109
  a23 := Tryz.isAgg109
  z23 := Tryz.sizeOf109
  v23 := Tryz.zeroValue109
  t26 := Tryz.underlying3
  a26 := Tryz.isAgg3
  z26 := Tryz.sizeOf3
  v26 := Tryz.zeroValue3
  t27 := Tryz.underlying138
  a27 := Tryz.isAgg138
  z27 := Tryz.sizeOf138
  v27 := Tryz.zeroValue138
  t28 := Tryz.underlying139
  a28 := Tryz.isAgg139
  z28 := Tryz.sizeOf139
  v28 := Tryz.zeroValue139
  t33 := Tryz.underlying45
  a33 := Tryz.isAgg45
  z33 := Tryz.sizeOf45
  v33 := Tryz.zeroValue45 }
def Tryz.sortedA_ren : Go.Shelf.Ren := ⟨fun | 6 => 70 | 8 => 116 | 9 => 117 | 11 => 153 | 13 => 155 | 12 => 154 | 23 => 183 | 24 => 184 | 14 => 174 | 15 => 175 | 16 => 176 | 17 => 177 | 18 => 178 | 19 => 179 | 20 => 180 | 21 => 181 | 22 => 182 | 25 => 191 | 26 => 192 | 27 => 193 | 28 => 194 | 29 => 195 | 30 => 196 | 31 => 201 | n => n, fun | 26 => 3 | 28 => 139 | 24 => 36 | 0 => 0 | 3 => 3 | 37 => 230 | 48 => 37 | 50 => 293 | 4 => 4 | 40 => 285 | 39 => 284 | 45 => 146 | 5 => 5 | 9 => 9 | 51 => 299 | 55 => 303 | 57 => 308 | 58 => 77 | 33 => 45 | n => n, fun | n => n⟩
theorem Tryz.sortedA : Go.Proofs.SlLaysZI.n6 Tryz.prog Tryz.sortedA_ren := {
  mixed := by kernel_rfl
  f6 := ⟨Tryz.f70.name, by decide, Tryz.func70.trans (congrArg some (by kernel_rfl))⟩
  f8 := ⟨Tryz.f116.name, by decide, Tryz.func116.trans (congrArg some (by kernel_rfl))⟩
  f11 := ⟨Tryz.f153.name, by decide, Tryz.func153.trans (congrArg some (by kernel_rfl))⟩
  t0 := Tryz.underlying0
  a0 := Tryz.isAgg0
  z0 := Tryz.sizeOf0
  v0 := Tryz.zeroValue0
  t24 := Tryz.underlying36
  a24 := Tryz.isAgg36
  z24 := Tryz.sizeOf36
  v24 := Tryz.zeroValue36
  t26 := Tryz.underlying3
  a26 := Tryz.isAgg3
  z26 := Tryz.sizeOf3
  v26 := Tryz.zeroValue3
  t28 := Tryz.underlying139
  a28 := Tryz.isAgg139
  z28 := Tryz.sizeOf139
  v28 := Tryz.zeroValue139
  i26 := by kernel_rfl }
def Tryz.sortA_ren : Go.Shelf.Ren := ⟨fun | 5 => 117 | 8 => 155 | 7 => 154 | 19 => 183 | 20 => 184 | 10 => 174 | 11 => 175 | 12 => 176 | 13 => 177 | 14 => 178 | 15 => 179 | 16 => 180 | 17 => 181 | 18 => 182 | 30 => 191 | 31 => 192 | 32 => 193 | 33 => 194 | 34 => 195 | 35 => 196 | 40 => 201 | n => n, fun | 23 => 36 | 25 => 3 | 3 => 3 | 32 => 230 | 22 => 36 | 0 => 0 | 44 => 37 | 46 => 293 | 4 => 4 | 36 => 285 | 35 => 284 | 41 => 146 | 5 => 5 | 9 => 9 | 53 => 299 | 57 => 303 | 63 => 308 | 64 => 77 | n => n, fun | n => n⟩
theorem Tryz.sortA : Go.Proofs.SlLaysM.n5 Tryz.prog Tryz.sortA_ren := {
  mixed := by kernel_rfl
  f5 := ⟨Tryz.f117.name, by decide, Tryz.func117.trans (congrArg some (by kernel_rfl))⟩
  f7 := ⟨Tryz.f154.name, by decide, Tryz.func154.trans (congrArg some (by kernel_rfl))⟩
  f8 := Tryz.func155.trans (congrArg some (by kernel_rfl))
  f10 := ⟨Tryz.f174.name, by decide, Tryz.func174.trans (congrArg some (by kernel_rfl))⟩
  f11 := ⟨Tryz.f175.name, by decide, Tryz.func175.trans (congrArg some (by kernel_rfl))⟩
  f12 := ⟨Tryz.f176.name, by decide, Tryz.func176.trans (congrArg some (by kernel_rfl))⟩
  f13 := ⟨Tryz.f177.name, by decide, Tryz.func177.trans (congrArg some (by kernel_rfl))⟩
  f14 := ⟨Tryz.f178.name, by decide, Tryz.func178.trans (congrArg some (by kernel_rfl))⟩
  f15 := ⟨Tryz.f179.name, by decide, Tryz.func179.trans (congrArg some (by kernel_rfl))⟩
  f16 := ⟨Tryz.f180.name, by decide, Tryz.func180.trans (congrArg some (by kernel_rfl))⟩
  f17 := ⟨Tryz.f181.name, by decide, Tryz.func181.trans (congrArg some (by kernel_rfl))⟩
  f18 := ⟨Tryz.f182.name, by decide, Tryz.func182.trans (congrArg some (by kernel_rfl))⟩
  f19 := Tryz.func183.trans (congrArg some (by kernel_rfl))
  f20 := Tryz.func184.trans (congrArg some (by kernel_rfl))
  f30 := ⟨Tryz.f191.name, by decide, Tryz.func191.trans (congrArg some (by kernel_rfl))⟩
  f31 := Tryz.func192.trans (congrArg some (by kernel_rfl))
  f32 := Tryz.func193.trans (congrArg some (by kernel_rfl))
  f33 := ⟨Tryz.f194.name, by decide, Tryz.func194.trans (congrArg some (by kernel_rfl))⟩
  f34 := ⟨Tryz.f195.name, by decide, Tryz.func195.trans (congrArg some (by kernel_rfl))⟩
  f35 := ⟨Tryz.f196.name, by decide, Tryz.func196.trans (congrArg some (by kernel_rfl))⟩
  f40 := ⟨Tryz.f201.name, by decide, Tryz.func201.trans (congrArg some (by kernel_rfl))⟩
  t0 := Tryz.underlying0
  a0 := Tryz.isAgg0
  z0 := Tryz.sizeOf0
  v0 := Tryz.zeroValue0
  t3 := Tryz.underlying3
  a3 := Tryz.isAgg3
  z3 := Tryz.sizeOf3
  v3 := Tryz.zeroValue3
  t4 := Tryz.underlying4
  a4 := Tryz.isAgg4
  z4 := Tryz.sizeOf4
  v4 := Tryz.zeroValue4
  t5 := Tryz.underlying5
  a5 := Tryz.isAgg5
  z5 := Tryz.sizeOf5
  v5 := Tryz.zeroValue5
  t9 := Tryz.underlying9
  a9 := Tryz.isAgg9
  z9 := Tryz.sizeOf9
  v9 := Tryz.zeroValue9
  t22 := Tryz.underlying36
  a22 := Tryz.isAgg36
  z22 := Tryz.sizeOf36
  v22 := Tryz.zeroValue36
  t23 := Tryz.underlying36
  a23 := Tryz.isAgg36
  z23 := Tryz.sizeOf36
  v23 := Tryz.zeroValue36
  t25 := Tryz.underlying3
  a25 := Tryz.isAgg3
  z25 := Tryz.sizeOf3
  v25 := Tryz.zeroValue3
  t32 := Tryz.underlying230
  a32 := Tryz.isAgg230
  z32 := Tryz.sizeOf230
  v32 := Tryz.zeroValue230
  t35 := Tryz.underlying284
  a35 := Tryz.isAgg284
  z35 := Tryz.sizeOf284
  v35 := Tryz.zeroValue284
  t36 := Tryz.underlying285
  a36 := Tryz.isAgg285
  z36 := Tryz.sizeOf285
  v36 := Tryz.zeroValue285
  t41 := Tryz.underlying146
  a41 := Tryz.isAgg146
  z41 := Tryz.sizeOf146
  v41 := Tryz.zeroValue146
  t44 := Tryz.underlying37
  a44 := Tryz.isAgg37
  z44 := Tryz.sizeOf37
  v44 := Tryz.zeroValue37
  t46 := Tryz.underlying293
  a46 := Tryz.isAgg293
  z46 := Tryz.sizeOf293
  v46 := Tryz.zeroValue293
  t53 := Tryz.underlying299
  a53 := Tryz.isAgg299
  z53 := Tryz.sizeOf299
  v53 := Tryz.zeroValue299
  t57 := Tryz.underlying303
  a57 := Tryz.isAgg303
  z57 := Tryz.sizeOf303
  v57 := Tryz.zeroValue303
  t63 := Tryz.underlying308
  a63 := Tryz.isAgg308
  z63 := Tryz.sizeOf308
  v63 := Tryz.zeroValue308
  t64 := Tryz.underlying77
  a64 := Tryz.isAgg77
  z64 := Tryz.sizeOf77
  v64 := Tryz.zeroValue77 }
end Go.Proofs
namespace Go.Proofs.YtcejpeohkgchdaaGreatDoor
open Go.RowKit Go.Maps Go.Shelf

/-- The numbers that are there. -/
def allT (tab : List (Option Ino)) : List Nat := (List.range tab.length).filter fun k => (slotT tab k).isSome
theorem allT_mem {tab : List (Option Ino)} {k : Nat} : k ∈ allT tab ↔ ∃ x, slotT tab k = some x := by
  unfold allT
  rw [List.mem_filter, List.mem_range, Option.isSome_iff_exists]
  exact ⟨fun h => h.2, fun ⟨x, h⟩ => ⟨slotT_lt h, x, h⟩⟩
theorem allT_nodup (tab : List (Option Ino)) : (allT tab).Nodup := List.nodup_range.filter _
theorem allT_rises (tab : List (Option Ino)) : (allT tab).Pairwise (· < ·) := List.pairwise_lt_range.filter _
theorem allT_len (tab : List (Option Ino)) : (allT tab).length ≤ tab.length := by
  unfold allT
  exact Nat.le_trans (List.length_filter_le _ _) (by simp)
theorem ints_mem {l : List Nat} {x : Int} : x ∈ ints l ↔ ∃ k ∈ l, x = (k : Int) := by
  unfold ints
  rw [List.mem_map]
  exact ⟨fun ⟨k, h, e⟩ => ⟨k, h, e.symm⟩, fun ⟨k, h, e⟩ => ⟨k, h, e.symm⟩⟩
theorem ints_nodup {l : List Nat} (h : l.Nodup) : (ints l).Nodup := by
  unfold ints
  exact List.pairwise_map.2 (h.imp fun hne e => hne (Int.ofNat.inj e))
theorem ints_sorted {l : List Nat} (h : l.Pairwise (· < ·)) : (ints l).mergeSort leI = ints l := by
  apply List.mergeSort_of_pairwise
  unfold ints
  refine List.pairwise_map.2 (h.imp fun {a b} hlt => ?_)
  simp only [leI, decide_eq_true_eq]
  exact Int.ofNat_le.2 (Nat.le_of_lt hlt)
/-- A map's keys, sorted. -/
theorem keys_sorted {H : Type} {R : Value → Option (DataW H × List MemPlace)} {w : World} {b n : Nat} {D : DataW H} {f : Nat → Option Nat} {L : List Nat} {ss : List Int} (hown : w.ownsMap Tryz.prog 3 R b n D) (hD : ∀ k : Int, Maps.has D (.int .i64 k) = (atI f k).isSome) (hL : ∀ k, k ∈ L ↔ (f k).isSome = true) (hs : L.Pairwise (· < ·)) (hp : ss.Perm (intKeys D)) : ss.mergeSort (fun x y => decide (x ≤ y)) = ints L ∧ ss.length = L.length := by
  have hnd : L.Nodup := hs.imp fun h => Nat.ne_of_lt h
  have hc : CollectedI D (fun _ => false) (ints L) := ⟨ints_nodup hnd, fun x => by
    rw [hD x, ints_mem]
    constructor
    · rintro ⟨k, hk, rfl⟩
      rw [atI_nat]
      exact ⟨(hL k).1 hk, rfl⟩
    · rintro ⟨h, _⟩
      unfold atI at h
      split at h
      · exact ⟨x.toNat, (hL _).2 h, by omega⟩
      · cases h⟩
  have hp2 : ss.Perm (ints L) := hp.trans (hc.perm hown keyed Tryz.underlying3 (fun _ => rfl)).symm
  refine ⟨(mergeSort_of_perm_i hp2).trans (ints_sorted hs), ?_⟩
  rw [hp2.length_eq]; unfold ints; simp
/-- slices.Sort's two contracts at this program, at the fence that asks nothing. -/
theorem sortsA (m : Nat) : AnyZI.SortsIn Tryz.prog Tryz.sortedA_ren Fence.wide m :=
  ⟨fun blk off cap ss W hH hblk hsz => callsIn_wide.2 (AnyM.slices_Sort_int Tryz.sortA blk off cap ss W hH hblk hsz),
   fun p cap W => callsIn_wide.2 (AnyM.slices_Sort_int_none Tryz.sortA p cap W)⟩
section
variable {F : Nat → Prop} {T0 tb bb sp sb cap mb n : Nat} {bl : List (List UInt8)} {u : List Bool} {tab : List (Option Ino)}
set_option maxHeartbeats 1000000 in
theorem im_all (w : World) (T : TbAt w F T0 tb bb sp sb cap mb n bl u tab) :
    Calls Tryz.prog 31 #[.pointer (some ⟨tb, 0, none⟩)] w fun e w' => ∃ v, e = .returned v ∧ OwnI w' w.heap.size v (allT tab) ∧ Below w.heap.size w w' := by
  obtain ⟨f, N⟩ := T.nodes
  obtain ⟨D0, hown, hD⟩ := N.map
  have hsz := hown.size_le
  have hn := T.low.2.2.2.2.2.2
  have hmax : Maps.size D0 ≤ maxLen := by unfold maxLen; omega
  have hbytes : Maps.size D0 * 8 ≤ 140737488355328 := by omega
  have HKS : Hid (∀ ss : List Int, ss.Perm (intKeys D0) → ss.mergeSort (fun x y => decide (x ≤ y)) = ints (allT tab) ∧ ss.length = (allT tab).length) := fun ss hp => keys_sorted (f := f) hown (fun k => (hD k).2) (fun k => by
    rw [allT_mem]
    constructor
    · rintro ⟨x, hx⟩
      obtain ⟨b, e, _⟩ := N.some_ k x hx
      rw [e]; rfl
    · intro h
      cases hx : slotT tab k with
      | some x => exact ⟨x, rfl⟩
      | none => rw [N.none_ k hx] at h; cases h) (allT_rises tab) hp
  obtain ⟨_, _, c2⟩ := T.cells
  clear N hD T
  refine (callsIn_wide (n := 6)).1 ?_
  have hbl := hown.lt
  have hseq : SeqGives Fence.wide 2 Tryz.prog 124 #[.pointer (some ⟨w.heap.size, 0, none⟩)] encZ (fun ss => ss.Perm (intKeys D0)) (Maps.size D0) (w.alloc (.cells #[.map (some mb)] 109)) :=
    AnyZI.keys_gives (ρ := Tryz.keysA_ren) { Tryz.keysA with } Fence.wide _ trivial rfl (by omega) w.heap.size mb n D0 _ (by simp) (by simp) (by
      obtain ⟨es, clock, hb, Ft, hs, hD⟩ := hown
      exact ⟨es, clock, (Below.heap_alloc _ _ mb hbl).trans hb, Ft, hs, hD⟩)
  have cK : ∀ mb W, CallsIn Fence.wide 5 Tryz.prog 76 #[.map mb] W fun e w' => e = .returned (.func (.func 124) #[] #[.pointer (some ⟨W.heap.size, 0, none⟩)]) ∧ w' = W.alloc (.cells #[.map mb] 109) := fun mb W => AnyZI.keys_in Tryz.keysA Fence.wide 5 trivial rfl mb W
  have cS := AnyZI.sorted_in Tryz.sortedA Fence.wide 5 trivial trivial trivial trivial rfl (by omega) (sortsA _) (enters_of Tryz.func117 (by kernel_rfl) rfl) 124 #[.pointer (some ⟨w.heap.size, 0, none⟩)] trivial (enters_of Tryz.func124 (by kernel_rfl) rfl) _ _ hmax hbytes _ hseq
  change CallsIn _ _ Tryz.prog 70 _ _ _ at cS
  have hfK : Fence.wide.fn 76 := trivial
  have hfS : Fence.wide.fn 70 := trivial
  refine callsIn_of_wp Tryz.func31 rfl trivial ?_ rfl
  simp only [Tryz.ntmps31, List.size_toArray, List.length_cons, List.length_nil, Nat.reduceAdd, Nat.reduceSub, Array.replicate_succ, Array.replicate_zero, List.push_toArray, List.append_toArray, List.nil_append, List.cons_append]
  gi_wp2_with (first
    | (gi_at_call 76; refine (cK _ _).mono ?_; rintro e w' ⟨rfl, rfl⟩)
    | (gi_at_call 70; refine cS.mono ?_; rintro e w' ⟨v, ss, rfl, hS, hrow, hnil, hb⟩))
  go_ret
  obtain ⟨e1, e2⟩ := HKS.out ss hS
  rw [e1, e2] at hrow
  exact ⟨v, rfl, ownsRow_base_a hrow (by simp), ((Below.refl _ w).alloc (Nat.le_refl _) _).trans (hb.mono (by simp))⟩
theorem im_disk (w : World) (T : TbAt w F T0 tb bb sp sb cap mb n bl u tab) :
    Calls Tryz.prog 51 #[.pointer (some ⟨tb, 0, none⟩)] w fun e w' => e = .returned (.pointer (some ⟨bb + 1, 0, none⟩)) ∧ w' = w := by
  obtain ⟨c0, _, _⟩ := T.cells
  clear T
  go_enter Tryz.func51, Tryz.ntmps51
  go_wp2_with fail
  go_ret
  exact ⟨rfl, rfl⟩
end
end Go.Proofs.YtcejpeohkgchdaaGreatDoor
namespace Go.Proofs.YtcejpeohkgchdaaGreatDoor
open Go.RowKit

set_option maxRecDepth 100000 in
set_option maxHeartbeats 1000000 in
theorem byte_any (c : Nat) (hc : c < 256) (w : World) : Calls Tryz.prog 140 #[.int .i64 (c : Int)] w fun e w' => e = .returned (.string ⟨#[UInt8.ofNat c]⟩) ∧ Below w.heap.size w w' := by
  have HCV : (convert 196 9 (.slice (some ⟨w.heap.size, 0, none⟩) 1 1)).run Tryz.prog (w.alloc (.cells #[.int .u8 (c : Int)] 5)) = .ok (.string ⟨#[UInt8.ofNat c]⟩) (w.alloc (.cells #[.int .u8 (c : Int)] 5)) := by
    have h := run_convert_bytes_back (P := Tryz.prog) (w.alloc (.cells #[.int .u8 (c : Int)] 5)) 196 9 5 ⟨w.heap.size, 0, none⟩ 1 [UInt8.ofNat c] Tryz.underlying196 Tryz.underlying5 Tryz.underlying9 (fun j hj => by
      obtain rfl : j = 0 := by simpa using hj
      rw [Addr.add_mid, cell_of_row _ _ _ _ _ _ (heap_alloc_last w _)]
      simp; omega)
    exact h
  have hm : IntKind.u8.wrap (c : Int) = (c : Int) := by simp [IntKind.wrap, IntKind.bits, IntKind.signed]; omega
  have hm2 : (c : Int) % 256 = (c : Int) := by omega
  go_enter Tryz.func140, Tryz.ntmps140
  go_wp2_with fail
  go_ret
  exact ⟨rfl, (Below.refl _ _).alloc (Nat.le_refl _) _⟩

theorem xor_pow_all : ((List.range 256).all fun x => (List.range 8).all fun t => (x ^^^ 2 ^ t) == (if x / 2 ^ t % 2 = 1 then x - 2 ^ t else x + 2 ^ t)) = true := by kernel_rfl
theorem xor_pow {x t : Nat} (hx : x < 256) (ht : t < 8) : x ^^^ 2 ^ t = if x / 2 ^ t % 2 = 1 then x - 2 ^ t else x + 2 ^ t := by
  have h := List.all_eq_true.1 (List.all_eq_true.1 xor_pow_all x (List.mem_range.2 hx)) t (List.mem_range.2 ht)
  simpa using h
theorem turnB_nat (x : UInt8) (bit : Nat) : (turnB x bit).toNat = if x.toNat / 2 ^ (bit % 8) % 2 = 1 then x.toNat - 2 ^ (bit % 8) else x.toNat + 2 ^ (bit % 8) := by
  have ht : bit % 8 < 8 := Nat.mod_lt _ (by decide)
  have hb2 : (2 : Nat) ^ (bit % 8) < 256 := Nat.pow_lt_pow_right (by decide) ht
  rw [← xor_pow x.toNat_lt ht, turnB, UInt8.toNat_xor, UInt8.toNat_ofNat', Nat.mod_eq_of_lt hb2]
theorem w64_small (z : Nat) (h : z < 256) : wrap64 (z : Int) = (z : Int) := by
  simp [wrap64]; omega
theorem odd_yes (z : Nat) (h : z % 2 = 1) : (((z : Nat) : Int).tmod 2 == 1) = true := by
  rw [Int.tmod_eq_emod_of_nonneg (by omega)]
  have : (z : Int) % 2 = 1 := by omega
  rw [this]; rfl
theorem odd_no (z : Nat) (h : ¬ z % 2 = 1) : (((z : Nat) : Int).tmod 2 == 1) = false := by
  rw [Int.tmod_eq_emod_of_nonneg (by omega)]
  exact beq_eq_false_iff_ne.2 (by omega)
/-- A text with a bit turned, as far as its first k bytes. -/
def outT (l : List UInt8) (bit k : Nat) : ByteArray := ⟨((turnL l bit).take k).toArray⟩
theorem outT_next {l : List UInt8} {bit k : Nat} {x : UInt8} (h : (turnL l bit)[k]? = some x) : outT l bit (k + 1) = outT l bit k ++ ⟨#[x]⟩ := by
  obtain ⟨hk, e⟩ := List.getElem?_eq_some_iff.1 h
  apply ByteArray.ext
  rw [ByteArray.data_append]
  show ((turnL l bit).take (k + 1)).toArray = ((turnL l bit).take k).toArray ++ #[x]
  rw [List.take_succ_eq_append_getElem hk, e]
  simp

set_option maxRecDepth 100000 in
set_option maxHeartbeats 1000000 in
theorem turned_any (l : List UInt8) (bit : Nat) (hl : l.length = 16) (hbit : bit < 128) (w : World) : Calls Tryz.prog 99 #[.string (sB l), .int .i64 (bit : Int)] w fun e w' => e = .returned (.string (sB (turnL l bit))) ∧ Below w.heap.size w w' := by
  obtain ⟨s, HS⟩ : ∃ s, Hid (s = sB l) := ⟨_, (rfl : sB l = _)⟩
  rw [← HS.out]
  have hsz : s.size = 16 := by rw [HS.out]; show l.toArray.size = 16; simpa using hl
  have HG : Hid (∀ k (h : k < s.size), l[k]? = some s[k]) := fun k h => by
    have hk : k < l.length := by omega
    rw [List.getElem?_eq_getElem hk]
    congr 1
    subst_vars
    rfl
  go_enter Tryz.func99, Tryz.ntmps99
  go_wp2_with fail
  go_loopw [5, 6] (fun p i wr => ∃ (k : Nat) (o : ByteArray), k ≤ 16 ∧ i = .int .i64 k ∧ p = .string o ∧ Hid (o = outT l bit k) ∧ Below w.heap.size w wr) (fun _ i _ => 16 - (intOf i).toNat)
  case atStart => exact ⟨0, _, Nat.zero_le _, rfl, rfl, rfl, Below.refl _ _⟩
  case round =>
    obtain ⟨k, o, hk, rfl, rfl, HO, hB⟩ := hrel
    have HB : Hid _ := hB
    have hos : o.size ≤ 16 := by
      rw [HO.out]
      show ((turnL l bit).take k).toArray.size ≤ 16
      simp; omega
    by_cases hk16 : k < 16
    · have hks : k < s.size := by omega
      have hu := s[k].toNat_lt
      have HGk := HG.out k hks
      by_cases hkb : k = bit / 8
      · have hb : ((k : Int) == (bit : Int) / 8) = true := by rw [hkb]; simp
        clear hB
        have ht8 : bit % 8 < 8 := Nat.mod_lt _ (by decide)
        have HT : Hid ((turnL l bit)[k]? = some (turnB s[k] bit)) := by
          show _ = _
          unfold turnL
          rw [← hkb, List.getElem?_set_self (by omega), HGk]; rfl
        have HKB : Hid (k = bit / 8) := hkb
        obtain ⟨W0, hW0⟩ : ∃ W0, W0 = wr := ⟨_, rfl⟩
        subst hW0
        clear HGk hkb
        go_wp2_with fail
        go_loopw [8, 9] (fun p i wr => ∃ (t y : Nat), t ≤ bit % 8 ∧ i = .int .i64 t ∧ p = .int .i64 (y : Int) ∧ Hid (y = 2 ^ t) ∧ wr = W0) (fun _ i _ => bit % 8 - (intOf i).toNat)
        case atStart => exact ⟨0, 1, Nat.zero_le _, rfl, rfl, rfl, rfl⟩
        case round =>
          obtain ⟨t, y, ht, rfl, rfl, HY, hwr⟩ := hrel
          subst hwr
          have hy : y ≤ 128 := by rw [HY.out]; exact Nat.pow_le_pow_right (by decide) (by omega : t ≤ 7)
          have hy0 : 0 < y := by rw [HY.out]; exact Nat.pow_pos (by decide)
          by_cases htl : t < bit % 8
          · have htl' : (t : Int) < (bit : Int) % 8 := by omega
            go_wp2_with fail
            exact ⟨⟨t + 1, 2 * y, by omega, by simp, by simp, (by show _ = _; rw [HY.out, Nat.pow_succ, Nat.mul_comm]), (by first | rfl | trivial)⟩, by simp [intOf]; omega⟩
          · obtain rfl : t = bit % 8 := by omega
            have htl' : ¬ (((bit % 8 : Nat) : Int) < (bit : Int) % 8) := by omega
            have hTN := turnB_nat s[k] bit
            rw [← HY.out] at hTN
            have hdc : Hid (((s[k].toNat / y : Nat) : Int) = (s[k].toNat : Int) / (y : Int)) := by show _ = _; push_cast; rfl
            have hdl := Nat.div_le_self s[k].toNat y
            have hw64 : wrap64 ((s[k].toNat : Int) / (y : Int)) = ((s[k].toNat / y : Nat) : Int) := by
              rw [← hdc.out]
              exact w64_small _ (Nat.lt_of_le_of_lt hdl hu)
            by_cases hodd : s[k].toNat / y % 2 = 1
            · rw [if_pos hodd] at hTN
              have hge : y ≤ s[k].toNat := by
                rcases Nat.lt_or_ge s[k].toNat y with h | h
                · rw [Nat.div_eq_of_lt h] at hodd; cases hodd
                · exact h
              have hb2 : ((wrap64 ((s[k].toNat : Int) / (y : Int))).tmod 2 == 1) = true := by
                rw [hw64]; exact odd_yes _ hodd
              have HC := byte_any (s[k].toNat - y) (Nat.lt_of_le_of_lt (Nat.sub_le _ _) hu)
              have hsub : ((s[k].toNat - y : Nat) : Int) = (s[k].toNat : Int) - (y : Int) := Int.ofNat_sub hge
              rw [hsub] at HC
              have HNX : Hid (UInt8.ofNat (s[k].toNat - y) = turnB s[k] bit) := by show _ = _; rw [← hTN]; simp
              rw [HNX.out] at HC
              have HCC : Hid (∀ (w : World), Calls Tryz.prog 140 #[.int .i64 ((s[k].toNat : Int) - (y : Int))] w fun e w' => e = .returned (.string ⟨#[turnB s[k] bit]⟩) ∧ Below w.heap.size w w') := HC
              clear HC hsub hTN hw64 hodd hdl
              go_wp2_with (go_at_call 140; refine (HCC.out _).mono ?_; rintro e w2 ⟨rfl, hbb⟩)
              exact ⟨⟨k + 1, _, by omega, by simp, rfl, (by show _ = _; rw [outT_next HT.out, HO.out]), HB.out.trans (hbb.mono HB.out.size)⟩, by simp [intOf]; omega⟩
            · rw [if_neg hodd] at hTN
              have hlt2 := (turnB s[k] bit).toNat_lt
              have hb2 : ((wrap64 ((s[k].toNat : Int) / (y : Int))).tmod 2 == 1) = false := by
                rw [hw64]; exact odd_no _ hodd
              have HC := byte_any (s[k].toNat + y) (by rw [← hTN]; exact hlt2)
              have hsub : ((s[k].toNat + y : Nat) : Int) = (s[k].toNat : Int) + (y : Int) := by push_cast; rfl
              rw [hsub] at HC
              have HNX : Hid (UInt8.ofNat (s[k].toNat + y) = turnB s[k] bit) := by show _ = _; rw [← hTN]; simp
              rw [HNX.out] at HC
              have HCC : Hid (∀ (w : World), Calls Tryz.prog 140 #[.int .i64 ((s[k].toNat : Int) + (y : Int))] w fun e w' => e = .returned (.string ⟨#[turnB s[k] bit]⟩) ∧ Below w.heap.size w w') := HC
              clear HC hsub hTN hw64 hlt2 hodd hdl
              go_wp2_with (go_at_call 140; refine (HCC.out _).mono ?_; rintro e w2 ⟨rfl, hbb⟩)
              exact ⟨⟨k + 1, _, by omega, by simp, rfl, (by show _ = _; rw [outT_next HT.out, HO.out]), HB.out.trans (hbb.mono HB.out.size)⟩, by simp [intOf]; omega⟩
      · have hb : ((k : Int) == (bit : Int) / 8) = false := beq_eq_false_iff_ne.2 (by omega)
        have HT : Hid ((turnL l bit)[k]? = some s[k]) := by
          show _ = _
          unfold turnL
          rw [List.getElem?_set_ne (by omega)]; exact HGk
        have HC := byte_any s[k].toNat hu
        clear hB HGk
        go_wp2_with (go_at_call 140; refine (HC _).mono ?_; rintro e w2 ⟨rfl, hb2⟩)
        exact ⟨⟨k + 1, _, by omega, by simp, rfl, (by show _ = _; rw [outT_next HT.out, HO.out]), HB.out.trans (hb2.mono HB.out.size)⟩, by simp [intOf]; omega⟩
    · obtain rfl : k = 16 := by omega
      clear hB
      go_wp2_with fail
      go_ret
      refine ⟨?_, HB.out⟩
      show Ending.returned (Value.string o) = _
      rw [HO.out, outT, List.take_of_length_le (by unfold turnL; rw [List.length_set]; omega)]
      rfl
end Go.Proofs.YtcejpeohkgchdaaGreatDoor
