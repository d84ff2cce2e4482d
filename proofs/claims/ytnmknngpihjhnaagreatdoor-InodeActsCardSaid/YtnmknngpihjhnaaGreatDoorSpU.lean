/-
  The contracts of the document's SameInts (for the same numbers) and NeedOf, and of the law's closed fact of a space.
  Conditions: package api's errors are some values.
-/
import Derived.Test.YtnmknngpihjhnaaGreatDoorSpE
namespace Go.Proofs.YtnmknngpihjhnaaGreatDoor
open Go.RowKit

set_option maxRecDepth 100000 in
set_option maxHeartbeats 2000000 in
theorem sameInts_any (v1 v2 : Value) (l : List Int) (w : World) (h1 : IntsAt w v1 l) (h2 : IntsAt w v2 l) (hl : l.length ≤ 100000) :
    Calls Tryz.prog 16 #[v1, v2] w fun e w' => e = .returned (.bool true) ∧ Below w.heap.size w w' := by
  obtain ⟨a1, c1, rfl, hc1⟩ := h1
  obtain ⟨a2, c2, rfl, hc2⟩ := h2
  have HC1 : Hid (∀ i x, l[i]? = some x → ∃ b off, a1 = some ⟨b, off, none⟩ ∧ w.cell? ⟨b, off + i, none⟩ = some (.int .i64 x)) := hc1
  have HC2 : Hid (∀ i x, l[i]? = some x → ∃ b off, a2 = some ⟨b, off, none⟩ ∧ w.cell? ⟨b, off + i, none⟩ = some (.int .i64 x)) := hc2
  clear hc1 hc2
  go_enter Tryz.func16, Tryz.ntmps16
  go_wp2_with fail
  go_loopw [5] (fun i wr => ∃ j : Nat, j ≤ l.length ∧ i = .int .i64 j ∧ Below w.heap.size w wr) (fun i _ => l.length - (intOf i).toNat)
  case atStart => exact ⟨0, Nat.zero_le _, rfl, Below.refl _ _⟩
  case round =>
    obtain ⟨j, hj, rfl, hb⟩ := hrel
    have HB : Hid (Below w.heap.size w wr) := hb
    by_cases hlt : j < l.length
    · obtain ⟨x, hx⟩ : ∃ x, l[j]? = some x := ⟨_, List.getElem?_eq_getElem hlt⟩
      obtain ⟨b1, o1, rfl, k1⟩ := HC1.out j x hx
      obtain ⟨b2, o2, rfl, k2⟩ := HC2.out j x hx
      have d1 : wr.cell? ⟨b1, o1 + j, none⟩ = some (.int .i64 x) := by rw [hb.cell (p := ⟨b1, o1 + j, none⟩) (World.block_lt_of_cell? w _ k1)]; exact k1
      have d2 : wr.cell? ⟨b2, o2 + j, none⟩ = some (.int .i64 x) := by rw [hb.cell (p := ⟨b2, o2 + j, none⟩) (World.block_lt_of_cell? w _ k2)]; exact k2
      clear hb hx k1 k2
      go_wp2_with fail
      go_quiet (fail)
      go_wp2_with fail
      exact ⟨⟨j + 1, by omega, by simp, ⟨HB.out.os, HB.out.tape, HB.out.output, HB.out.size, HB.out.block⟩⟩, by simp [intOf]; omega⟩
    · clear hb
      go_wp2_with fail
      go_ret
      exact ⟨rfl, HB.out⟩
theorem built_t (W : World) (l : List Int) (a : Array Value) (ha : a = (l.map (Value.int .i64)).toArray) : IntsT (W.alloc (.cells a 3)) (.slice (some ⟨W.heap.size, 0, none⟩) l.length l.length) l :=
  ⟨_, _, rfl, fun _ => ⟨_, _, a, rfl, heap_alloc_last _ _, fun i x hx => by rw [ha, Nat.zero_add, List.getElem?_toArray, List.getElem?_map, hx]; rfl⟩⟩
end Go.Proofs.YtnmknngpihjhnaaGreatDoor
