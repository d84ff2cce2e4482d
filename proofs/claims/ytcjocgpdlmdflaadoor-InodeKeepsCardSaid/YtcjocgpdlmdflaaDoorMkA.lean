/-
  The contracts of the document's disk: Read, Put, Crash.
  Conditions: the disk lies in memory.
-/
import Derived.Test.YtcjocgpdlmdflaaDoorMkS
import Derived.Deep.RegionHeld3
import Derived.Deep.AppendLies
namespace Go.Proofs.YtcjocgpdlmdflaaDoor
open Go.RowKit

theorem rdR_next {bl : List (List UInt8)} {wt : List (Nat × List UInt8)} {k j : Nat} {x : Nat × List UInt8} (h : wt[j]? = some x) : rdR bl (wt.take (j + 1)) k = if x.1 = k then x.2 else rdR bl (wt.take j) k := by
  obtain ⟨hj, e⟩ := List.getElem?_eq_some_iff.1 h
  unfold rdR
  rw [List.take_succ_eq_append_getElem hj, e, List.reverse_append]
  simp only [List.reverse_singleton, List.singleton_append, List.find?_cons]
  by_cases hx : x.1 = k
  · simp [hx]
  · have : (x.1 == k) = false := by simpa using hx
    rw [this, if_neg hx]


theorem infoMW : (Tryd.prog.info? 136).map (fun i => (i.zero, i.size, i.bytes)) = some (some (.agg #[.int .i64 0, .string { data := #[] }]), 2, 24) := by kernel_rfl
/-- One write more waits. -/
theorem put_end {mb : Nat} {la : Option Addr} {lc : Nat} {wa : Option Addr} {wcp : Nat} {bl : List (List UInt8)} {wt : List (Nat × List UInt8)} {x : Nat × List UInt8} {w wa1 w5 w6 : World} {g cap : Nat} (M : MkAt w mb la lc wa wcp bl wt)
    (hown : w5.ownsRow (mb + 1) 136 2 (.slice (some ⟨g, 0, none⟩) (wt.length + 1) cap) (wt.length + 1) (wt.flatMap mw ++ mw x)) (hba : Below w.heap.size w wa1) (hgrow : wa1.grownBy w5 (Value.slice wa wt.length wcp).ownBlock)
    (h6 : w6 = w5.setCell ⟨mb, 1, none⟩ (.slice (some ⟨g, 0, none⟩) (wt.length + 1) cap)) :
    MkAt w6 mb la lc (some ⟨g, 0, none⟩) cap bl (wt ++ [x]) ∧ MkBut mb la wa w w6 := by
  have hlt := M.lt
  have hob : ∀ k, k < w.heap.size → (∀ a, wa = some a → k ≠ a.block) → w5.heap[k]? = w.heap[k]? := fun k hk hne => by
    rw [hgrow.block k (Nat.lt_of_lt_of_le hk hba.size) (fun e => ?_), hba.block k hk]
    cases wa with
    | none => simp [Value.ownBlock] at e
    | some a => exact hne a rfl (by simpa [Value.ownBlock] using e)
  have h6b : ∀ k, k ≠ mb → w6.heap[k]? = w5.heap[k]? := fun k hk => by rw [h6]; exact Below.heap_setCell _ _ _ _ hk
  have hg : mb + 1 ≤ g := (hown.lt g rfl).1
  have hd : w5.heap[mb]? = w.heap[mb]? := hob _ (by omega) (fun a ha => by have := (M.lowW ha).1; omega)
  refine ⟨⟨?_, ?_, ?_⟩, ⟨?_, ?_, ?_, ?_, fun k hk k1 k2 k3 => ?_⟩⟩
  · rw [h6, row_setCell (hd.trans M.disk)]
    simp
  · refine own_ext M.lrow fun k hk => ?_
    cases la with
    | none => simp [Value.ownBlock] at hk
    | some a =>
      have hk' : a.block = k := by simpa [Value.ownBlock] using hk
      have hl := M.lowL (a := a) rfl
      rw [h6b k (by omega), hob k (by omega) (fun b hb e => M.ne (a := a) rfl hb (by omega))]
  · rw [List.length_append, List.length_singleton, List.flatMap_append, List.flatMap_singleton]
    refine own_ext hown fun k hk => h6b k ?_
    have hk' : g = k := by simpa [Value.ownBlock] using hk
    omega
  · rw [h6]; exact hgrow.os.trans hba.os
  · rw [h6]; exact hgrow.tape.trans hba.tape
  · rw [h6]; exact hgrow.output.trans hba.output
  · have : w6.heap.size = w5.heap.size := by rw [h6]; simp [World.setCell]
    have := hgrow.size
    have := hba.size
    omega
  · rw [h6b k k1, hob k hk k3]

end Go.Proofs.YtcjocgpdlmdflaaDoor
