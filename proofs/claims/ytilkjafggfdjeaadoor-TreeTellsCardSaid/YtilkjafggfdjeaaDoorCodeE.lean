/-
  The contract of the statements' own coded, at the number of an error that is told.
  Conditions: the sentinels hold what the program's text lays.
-/
import Derived.Test.YtilkjafggfdjeaaDoorCode
import Derived.Test.YtilkjafggfdjeaaDoorRefN
import Derived.Test.YtilkjafggfdjeaaDoorRefE
namespace Go.Proofs.YtilkjafggfdjeaaDoor
open Go.RowKit

theorem nodeErr_lt {t : Tree} {e : Nat} (h : nodeErr t = some e) : e < 13 := by
  unfold nodeErr fileErr dirErr linkErr at h
  repeat' split at h
  all_goals first
    | (cases h; done)
    | (simp only [Option.some.injEq] at h; omega)
theorem errOf_lt : ∀ (l : List (ByteArray × Nat × Tree)) (n : Nat) {e : Nat}, (runs ck n l).2 = some e → e < 13
  | [], _, _, h => by simp [runs] at h
  | x :: l, n, e, h => by
    have e1 : ck n x = (n + 1, (ck n x).2) := rfl
    simp only [runs] at h
    rw [e1] at h
    cases he : (ck n x).2 with
    | none => rw [he] at h; exact errOf_lt l (n + 1) h
    | some er =>
      rw [he] at h
      simp only [Option.some.injEq] at h
      subst h
      unfold ck at he
      simp only at he
      split at he
      · simp only [Option.some.injEq] at he; omega
      · split at he
        · simp only [Option.some.injEq] at he; omega
        · exact nodeErr_lt he
theorem coded_err (a : Nat → Addr) (E : Option Nat) (w : World) (S : Sents a w) (hE : ∀ e, E = some e → e < 13) :
    Calls Tryd.prog 14 #[errV a E, .int .i64 (num E)] w fun e w' => e = .returned (.bool true) ∧ Below w.heap.size w w' := by
  cases E with
  | none =>
    refine (coded_nil 0 w).mono ?_
    rintro e w' ⟨rfl, rfl⟩
    exact ⟨rfl, Below.refl _ _⟩
  | some n =>
    refine (coded_sent a n ((n : Int) + 1) w S (hE n rfl)).mono ?_
    rintro e w' ⟨rfl, h⟩
    exact ⟨by rw [decide_eq_true rfl], h⟩
end Go.Proofs.YtilkjafggfdjeaaDoor
