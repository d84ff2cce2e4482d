/-
  The contract of slices.Sort of texts.
  Conditions: the texts lie in memory of the call's own.
-/
import Derived.Test.YtlaenhohjcjilaaDoorTxA
import Derived.Test.YtlaenhohjcjilaaDoorAppS
import Derived.Test.YtlaenhohjcjilaaDoorShelfS
import Derived.Sort.OwnSorted
import Derived.Sort.Walk0
namespace Go.Proofs.YtlaenhohjcjilaaDoor
open Go.RowKit Go.Maps Go.Shelf Go.Sort
attribute [local go_sem ↓] Go.wp_at_zero Go.wp_at_succ

theorem enc_back (L : List ByteArray) : (L.map fun b => b.data.toList).map encStr = L.map Value.string := by
  rw [List.map_map]
  apply List.map_congr_left
  intro b _
  simp [Function.comp]
theorem sort_any (base : Nat) (v : Value) (L : List ByteArray) (w : World) (h : OwnS w base v L) (hl : L.length ≤ 100000) :
    Calls Tryd.prog 33 #[v] w fun e w' => e = .returned (.tuple #[]) ∧ ∃ r, r.Perm L ∧ (r.Pairwise fun a b => bl b a = false) ∧ OwnS w' base v r ∧ w.grownBy w' v.ownBlock := by
  rcases h.2 with ⟨rfl, h0⟩ | ⟨g, cap, cur, rfl, hbase, hb, h1, h2, h3, h4⟩
  · obtain rfl : L = [] := List.eq_nil_of_length_eq_zero h0
    refine (AnyM.slices_Sort_string_none Tryd.sortS none 0 w).mono ?_
    rintro e w' ⟨rfl, rfl⟩
    exact ⟨rfl, [], List.Perm.refl _, List.Pairwise.nil, OwnS.nil _ _, ⟨rfl, rfl, rfl, Nat.le_refl _, fun _ _ _ => rfl⟩⟩
  · obtain ⟨ss, hss⟩ : ∃ ss, ss = L.map fun b => b.data.toList := ⟨_, rfl⟩
    have hsl : ss.length = L.length := by rw [hss, List.length_map]
    have hH : Holds encStr w g 0 ss.toArray := holds_of_block hb (by rw [hsl, hss, enc_back]; simpa using h4)
    have hc := AnyM.slices_Sort_string Tryd.sortS g 0 cap ss w hH (lt_of_row hb) (by omega)
    rw [hsl] at hc
    refine hc.mono ?_
    rintro e w' ⟨rfl, n, os, rfl⟩
    obtain ⟨ts, hts⟩ : ∃ ts, ts = ss.mergeSort fun x y => decide (x ≤ y) := ⟨_, rfl⟩
    rw [← hts]
    have hperm : ts.Perm ss := by rw [hts]; exact List.mergeSort_perm _ _
    have hsort : ts.Pairwise fun x y => decide (x ≤ y) = true := by
      rw [hts]
      exact List.pairwise_mergeSort (le := fun x y : List UInt8 => decide (x ≤ y)) (fun a b c h1 h2 => decide_eq_true (List.le_trans (of_decide_eq_true h1) (of_decide_eq_true h2))) (fun a b => by
        rcases List.le_total a b with h | h
        · rw [decide_eq_true h]; rfl
        · rw [decide_eq_true h, Bool.or_true]) ss
    refine ⟨rfl, ts.map fun x => ⟨x.toArray⟩, ?_, ?_, ?_, grownBy_sorted _⟩
    · have h5 := hperm.map fun x : List UInt8 => (⟨x.toArray⟩ : ByteArray)
      rw [hss, List.map_map] at h5
      have e : L.map ((fun x : List UInt8 => (⟨x.toArray⟩ : ByteArray)) ∘ fun b => b.data.toList) = L := by
        conv => rhs; rw [← List.map_id L]
        apply List.map_congr_left
        intro b _
        simp [Function.comp]
      rw [e] at h5
      exact h5
    · rw [List.pairwise_map]
      refine hsort.imp fun {x y} h => ?_
      show Op.bytesLess _ _ = false
      rw [ba_toList2, ba_toList2, bytesLess_eq, decide_eq_false_iff_not]
      exact List.not_lt.2 (of_decide_eq_true h)
    · have hl2 : ts.length = ss.length := hperm.length_eq
      have h6 := ownsRow_sorted (e := 9) (n := n) (os := os) (base := base) (cap := cap) (ss := ss) (ts := ts) hl2 hbase hb (by rw [hsl]; exact h1) h2 h3
      unfold OwnS
      rw [List.length_map, hl2, hsl, List.map_map]
      rw [hsl] at h6
      exact h6
end Go.Proofs.YtlaenhohjcjilaaDoor
