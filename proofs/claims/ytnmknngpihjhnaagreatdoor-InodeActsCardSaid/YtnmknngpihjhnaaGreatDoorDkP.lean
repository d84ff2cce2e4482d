/-
  Acts on a disk in memory; what blocks may be.
  Conditions: none.
-/
import Derived.Test.YtnmknngpihjhnaaGreatDoorDkD
import Derived.Test.YtnmknngpihjhnaaGreatDoorDkE
namespace Go.Proofs.YtnmknngpihjhnaaGreatDoor
open Go.RowKit

/-- An act on a disk. -/
structure DAct where
  kind : ByteArray
  s : ByteArray
  k : Int
  bit : Int
  keep : List Int
/-- Acts in memory. -/
def ActsAt (w : World) (v : Value) (l : List DAct) : Prop := ∃ ad cap, v = .slice ad l.length cap ∧ ∀ i a, l[i]? = some a → ∃ b off kv, ad = some ⟨b, off, none⟩ ∧ w.cell? ⟨b, off + i * 5, none⟩ = some (.string a.kind) ∧ w.cell? ⟨b, off + i * 5 + 1, none⟩ = some (.string a.s) ∧ w.cell? ⟨b, off + i * 5 + 2, none⟩ = some (.int .i64 a.k) ∧ w.cell? ⟨b, off + i * 5 + 3, none⟩ = some (.int .i64 a.bit) ∧ w.cell? ⟨b, off + i * 5 + 4, none⟩ = some kv ∧ IntsAt w kv a.keep
/-- The word of a barrier. -/
def barL : List UInt8 := [98, 97, 114, 114, 105, 101, 114]
/-- Was it written there? -/
def Wrote (l : List DAct) (j : Nat) (b : List UInt8) : Prop := ∃ (i : Nat) (a : DAct), l[i]? = some a ∧ (a.kind.toList == barL) = false ∧ a.k = (j : Int) ∧ a.s = ⟨b.toArray⟩
structure Good (l : List DAct) (bl : List (List UInt8)) (wt : List (Nat × List UInt8)) : Prop where
  bl : ∀ j b, bl[j]? = some b → b = zb ∨ Wrote l j b
  wt : ∀ x ∈ wt, Wrote l x.1 x.2
theorem Good.start (l : List DAct) (n : Nat) : Good l (List.replicate n zb) [] := ⟨fun j b h => .inl (by rw [List.getElem?_replicate] at h; split at h <;> simp_all), fun x hx => by cases hx⟩
theorem Good.write {l : List DAct} {bl : List (List UInt8)} {wt : List (Nat × List UInt8)} (G : Good l bl wt) {x : Nat × List UInt8} (h : Wrote l x.1 x.2) : Good l bl (wt ++ [x]) := ⟨G.bl, fun y hy => by
  rcases List.mem_append.1 hy with h' | h'
  · exact G.wt y h'
  · rw [List.mem_singleton.1 h']; exact h⟩
theorem Good.settle {l : List DAct} {bl : List (List UInt8)} {wt : List (Nat × List UInt8)} (G : Good l bl wt) (keep : Nat → Bool) : ∀ i, Good l (setl keep wt bl i) []
  | 0 => ⟨G.bl, fun x hx => by cases hx⟩
  | i + 1 => by
    have IH := G.settle keep i
    refine ⟨?_, fun x hx => by cases hx⟩
    unfold setl
    cases h : wt[i]? with
    | none => exact IH.bl
    | some x =>
      by_cases hk : keep i
      · simp only [hk, if_true]
        intro j b hj
        rw [List.getElem?_set] at hj
        split at hj
        · next e =>
          split at hj
          · cases hj
            right
            rw [← e]; exact G.wt x (List.mem_of_getElem? h)
          · cases hj
        · exact IH.bl j b hj
      · simp only [hk]
        exact IH.bl
theorem Good.rd {l : List DAct} {bl : List (List UInt8)} {wt : List (Nat × List UInt8)} (G : Good l bl wt) {k : Nat} {b : List UInt8} (hk : bl[k]? = some b) : rdR bl wt k = zb ∨ Wrote l k (rdR bl wt k) := by
  rcases rdR_mem (wt := wt) hk with h | h
  · rw [h]; exact G.bl k b hk
  · exact .inr (G.wt _ h)
theorem turnL_twice (l : List UInt8) (k : Nat) : turnL (turnL l k) k = l := by
  unfold turnL
  by_cases h : k / 8 < l.length
  · rw [List.getElem?_set_self h, Option.getD_some, turnB_twice, List.set_set]
    rw [List.getElem?_eq_getElem h, Option.getD_some]
    exact set_same (List.getElem?_eq_getElem h)
  · rw [List.set_eq_of_length_le (by rw [List.length_set]; omega), List.set_eq_of_length_le (by omega)]
theorem rotX_twice (k bit : Nat) (x : Nat × List UInt8) : rotX k bit (rotX k bit x) = x := by
  unfold rotX
  by_cases h : x.1 = k
  · simp [h, turnL_twice]; rw [← h]
  · simp [h]
theorem rot_back {bl : List (List UInt8)} {wt : List (Nat × List UInt8)} {k bit : Nat} {b : List UInt8} (hk : bl[k]? = some b) : (bl.set k (turnL b bit)).set k (turnL (turnL b bit) bit) = bl ∧ (wt.map (rotX k bit)).map (rotX k bit) = wt := by
  refine ⟨?_, ?_⟩
  · rw [turnL_twice, List.set_set]; exact set_same hk
  · rw [List.map_map]
    have : rotX k bit ∘ rotX k bit = id := by funext x; exact rotX_twice k bit x
    rw [this, List.map_id]
end Go.Proofs.YtnmknngpihjhnaaGreatDoor
