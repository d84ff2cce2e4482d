/-
  What a well tree's text is read as.
  Conditions: none.
-/
import Derived.Test.YtilkjafggfdjeaaDoorPackH
import Derived.Test.YtilkjafggfdjeaaDoorPacks3
namespace Go.Proofs.YtilkjafggfdjeaaDoor
open Go.RowKit

theorem bs_append (k l : List UInt8) : bs k ++ bs l = bs (k ++ l) := by
  have e : (bs k ++ bs l).data.toList = k ++ l := by rw [ByteArray.data_append, Array.toList_append, bs_list, bs_list]
  rw [← bs_data (bs k ++ bs l), e]
/-- What a well tree's text is read as. -/
structure Reads (d : Nat) (s : Tree) : Prop where
  fit : Fit d s
  nine : Fit 9 s
  well : treeErr 9 s = none
  ok : OkItems (pre 9 ByteArray.empty 0 s)
  read : ∀ r, nodeR 9 (0, textT d s ++ r) = .ok (s, ((pre d ByteArray.empty 0 s).length, r))
theorem reads_of {d : Nat} {s : Tree} (hfit : Fit d s) (hw : treeErr d s = none) (hok : OkItems (pre d ByteArray.empty 0 s)) : Reads d s := by
  have h := treeErr_none.1 hw
  obtain ⟨h1, h2⟩ := fit_level d 9 0 ByteArray.empty s hfit (fun x hx => by have := (h.2 x hx).1; omega)
  refine ⟨hfit, h1, treeErr_none.2 ?_, by rw [h2]; exact hok, fun r => text_read hfit hw r⟩
  rw [h2]
  exact h
theorem Reads.alive {d : Nat} {s : Tree} (R : Reads d s) (q : ByteArray) (l : List UInt8) (hq : q.data.toList = textT d s ++ l) : ∀ t n r, nodeR 9 (0, q.data.toList) = .ok (t, (n, r)) → Alive ck ckOk 0 (pre 9 ByteArray.empty 0 t) := fun t n r h => by
  rw [hq, R.read] at h
  injection h with h
  have e1 : s = t := congrArg Prod.fst h
  rw [← e1]
  exact alive_ck _ 0 (by omega) R.ok
theorem Reads.first {d : Nat} {s : Tree} (R : Reads d s) (q : ByteArray) (l : List UInt8) (hq : q.data.toList = textT d s ++ l) (hs : ¬ 20000 < q.size) : firstR q = .ok (s, l) := firstR_ok hs (by rw [hq, R.read]) R.well
theorem Reads.whole {d : Nat} {s : Tree} (R : Reads d s) (q : ByteArray) (hq : q.data.toList = textT d s) (hs : ¬ 20000 < q.size) : readR q = .ok s := readR_ok hs (by rw [hq, ← List.append_nil (textT d s), R.read]) rfl R.well
end Go.Proofs.YtilkjafggfdjeaaDoor
