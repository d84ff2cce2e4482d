/-
  Wants of space in memory; a space and marks that are alike.
  Conditions: none.
-/
import Derived.Test.YtddmpecljcfjnaaDoorSp
import Derived.Test.YtddmpecljcfjnaaDoorInts
namespace Go.Proofs.YtddmpecljcfjnaaDoor
open Go.RowKit

/-- A want of space. -/
structure SWant where
  take : Int
  give : List Int
  is : Bool
/-- Wants in memory. -/
def WantsAt (w : World) (v : Value) (l : List SWant) : Prop := ∃ ad cap, v = .slice ad l.length cap ∧ ∀ i x, l[i]? = some x → ∃ b off ga gc, ad = some ⟨b, off, none⟩ ∧ w.cell? ⟨b, off + i * 3, none⟩ = some (.int .i64 x.take) ∧ w.cell? ⟨b, off + i * 3 + 1, none⟩ = some (.slice ga x.give.length gc) ∧ w.cell? ⟨b, off + i * 3 + 2, none⟩ = some (.bool x.is) ∧ IntsAt w (.slice ga x.give.length gc) x.give
/-- What was there is as it was, but for two blocks. -/
structure But2 (b rb : Nat) (w w' : World) : Prop where
  os : w'.os = w.os
  tape : w'.tape = w.tape
  output : w'.output = w.output
  size : w.heap.size ≤ w'.heap.size
  block : ∀ k, k < w.heap.size → k ≠ b → k ≠ rb → w'.heap[k]? = w.heap[k]?
namespace But2
variable {b rb : Nat} {w w' w'' : World}
theorem refl (b rb : Nat) (w : World) : But2 b rb w w := ⟨rfl, rfl, rfl, Nat.le_refl _, fun _ _ _ _ => rfl⟩
theorem trans (h : But2 b rb w w') (h' : But2 b rb w' w'') : But2 b rb w w'' :=
  ⟨h'.os.trans h.os, h'.tape.trans h.tape, h'.output.trans h.output, Nat.le_trans h.size h'.size, fun k hk a c => (h'.block k (Nat.lt_of_lt_of_le hk h.size) a c).trans (h.block k hk a c)⟩
theorem below (h : Below w.heap.size w w') : But2 b rb w w' := ⟨h.os, h.tape, h.output, h.size, fun k hk _ _ => h.block k hk⟩
theorem one (h : w.grownBy w' (some b)) : But2 b rb w w' := ⟨h.os, h.tape, h.output, h.size, fun k hk a _ => h.block k hk (by simpa using a)⟩
theorem two (h : w.grownBy w' (some rb)) : But2 b rb w w' := ⟨h.os, h.tape, h.output, h.size, fun k hk _ a => h.block k hk (by simpa using a)⟩
theorem up {B : Nat} (h : But2 b rb w w') (hs : B ≤ w.heap.size) (h1 : B ≤ b) (h2 : B ≤ rb) : Below B w w' := ⟨h.os, h.tape, h.output, h.size, fun k hk => h.block k (by omega) (by omega) (by omega)⟩
end But2
/-- A space, and marks that are alike. -/
structure AAt (p b rb n : Nat) (u : List Bool) (w : World) : Prop where
  sp : SpAt w p b n u
  row : RowB w rb n u
  len : u.length = n
  ne : b ≠ rb
theorem AAt.below {p b rb n : Nat} {u : List Bool} {w w' : World} (A : AAt p b rb n u w) (h : Below w.heap.size w w') : AAt p b rb n u w' := ⟨A.sp.below h, A.row.below h, A.len, A.ne⟩
end Go.Proofs.YtddmpecljcfjnaaDoor
