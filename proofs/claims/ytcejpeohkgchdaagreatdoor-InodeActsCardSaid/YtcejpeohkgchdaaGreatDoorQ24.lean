/-
  The contracts of plain.Code: at nil, at an error of errors.New's make (the number of the sentinel that it is, or -1), at an *api.Fault that holds a sentinel (its number, and its place).
  Both tables side by side: what a pair of calls, and the look at their errors, comes to.
  Conditions: those that each states.
-/
import Derived.Test.YtcejpeohkgchdaaGreatDoorQ22
import Derived.Test.YtcejpeohkgchdaaGreatDoorQ23
import Derived.Outline
import Derived.Test.YtcejpeohkgchdaaGreatDoorQ19
import Derived.Test.YtcejpeohkgchdaaGreatDoorQ20
import Derived.Test.YtcejpeohkgchdaaGreatDoorQ21
import Derived.Test.YtcejpeohkgchdaaGreatDoorQ13
namespace Go.Proofs.YtcejpeohkgchdaaGreatDoor
open Go.RowKit Go.Extern.Stop Go.Stop Go.Extern

/-- The variables of the thirteen sentinels, in their order. -/
def gvs : List Nat := [5, 4, 0, 6, 7, 1, 8, 3, 9, 10, 2, 11, 12]
def gv (i : Nat) : Nat := gvs.getD i 0
/-- The thirteen sentinels lie in their variables, each behind a pointer of its own; errors.errorType holds the handle of the type error. -/
structure Sents (a : Nat → Addr) (w : World) : Prop where
  cell : ∀ i, i < 13 → w.cell? ⟨gv i, 0, none⟩ = some (.iface 316 (.pointer (some (a i))))
  row : ∀ i, i < 13 → ∃ ca ta, w.heap[(a i).block]? = some (.cells ca ta (0, 0))
  ne : ∀ i j, i < 13 → j < 13 → i ≠ j → a i ≠ a j
  et : w.cell? ⟨13, 0, none⟩ = some (.iface 269 (.agg #[.pointer (some ⟨17, 33, none⟩)]))

theorem Sents.c0 {a : Nat → Addr} {w : World} (S : Sents a w) : w.cell? ⟨5, 0, none⟩ = some (.iface 316 (.pointer (some (a 0)))) := S.cell 0 (by decide)
theorem Sents.c1 {a : Nat → Addr} {w : World} (S : Sents a w) : w.cell? ⟨4, 0, none⟩ = some (.iface 316 (.pointer (some (a 1)))) := S.cell 1 (by decide)
theorem Sents.c2 {a : Nat → Addr} {w : World} (S : Sents a w) : w.cell? ⟨0, 0, none⟩ = some (.iface 316 (.pointer (some (a 2)))) := S.cell 2 (by decide)
theorem Sents.c3 {a : Nat → Addr} {w : World} (S : Sents a w) : w.cell? ⟨6, 0, none⟩ = some (.iface 316 (.pointer (some (a 3)))) := S.cell 3 (by decide)
theorem Sents.c4 {a : Nat → Addr} {w : World} (S : Sents a w) : w.cell? ⟨7, 0, none⟩ = some (.iface 316 (.pointer (some (a 4)))) := S.cell 4 (by decide)
theorem Sents.c5 {a : Nat → Addr} {w : World} (S : Sents a w) : w.cell? ⟨1, 0, none⟩ = some (.iface 316 (.pointer (some (a 5)))) := S.cell 5 (by decide)
theorem Sents.c6 {a : Nat → Addr} {w : World} (S : Sents a w) : w.cell? ⟨8, 0, none⟩ = some (.iface 316 (.pointer (some (a 6)))) := S.cell 6 (by decide)
theorem Sents.c7 {a : Nat → Addr} {w : World} (S : Sents a w) : w.cell? ⟨3, 0, none⟩ = some (.iface 316 (.pointer (some (a 7)))) := S.cell 7 (by decide)
theorem Sents.c8 {a : Nat → Addr} {w : World} (S : Sents a w) : w.cell? ⟨9, 0, none⟩ = some (.iface 316 (.pointer (some (a 8)))) := S.cell 8 (by decide)
theorem Sents.c9 {a : Nat → Addr} {w : World} (S : Sents a w) : w.cell? ⟨10, 0, none⟩ = some (.iface 316 (.pointer (some (a 9)))) := S.cell 9 (by decide)
theorem Sents.c10 {a : Nat → Addr} {w : World} (S : Sents a w) : w.cell? ⟨2, 0, none⟩ = some (.iface 316 (.pointer (some (a 10)))) := S.cell 10 (by decide)
theorem Sents.c11 {a : Nat → Addr} {w : World} (S : Sents a w) : w.cell? ⟨11, 0, none⟩ = some (.iface 316 (.pointer (some (a 11)))) := S.cell 11 (by decide)
theorem Sents.c12 {a : Nat → Addr} {w : World} (S : Sents a w) : w.cell? ⟨12, 0, none⟩ = some (.iface 316 (.pointer (some (a 12)))) := S.cell 12 (by decide)
theorem Sents.below {a : Nat → Addr} {w w' : World} (S : Sents a w) (hb : Below w.heap.size w w') : Sents a w' where
  cell i hi := by rw [hb.cell (lt_of_cell (S.cell i hi))]; exact S.cell i hi
  row i hi := by
    obtain ⟨ca, ta, h⟩ := S.row i hi
    exact ⟨ca, ta, by rw [hb.block _ (lt_of_row h)]; exact h⟩
  ne := S.ne
  et := by rw [hb.cell (lt_of_cell S.et)]; exact S.et

theorem Sents.sen {a : Nat → Addr} {w : World} (S : Sents a w) : Sen a w where
  text := S.cell 0 (by decide)
  bound := S.cell 1 (by decide)
  shape := S.cell 2 (by decide)
  kind := S.cell 3 (by decide)
  name := S.cell 4 (by decide)
  full := S.cell 7 (by decide)
  deep := S.cell 8 (by decide)
  order := S.cell 9 (by decide)
theorem Sents.atB {a : Nat → Addr} {w : World} (S : Sents a w) : SentsB a w.heap.size w := S.sen.atB

theorem as_plain' (e t : Addr) (w : World) (hg : w.cell? ⟨13, 0, none⟩ = some (.iface 269 (.agg #[.pointer (some ⟨17, 33, none⟩)]))) :
    Calls Tryz.prog 105 #[.iface 316 (.pointer (some e)), .iface 203 (.pointer (some t))] w fun ev w' => ev = .returned (.bool false) ∧ Below w.heap.size w w' := by
  refine (as_plain e t w hg).mono ?_
  rintro ev w' ⟨rfl, rfl⟩
  exact ⟨rfl, by go_grown⟩
theorem as_fault' (e t : Addr) (old : Value) (w : World) (hg : w.cell? ⟨13, 0, none⟩ = some (.iface 269 (.agg #[.pointer (some ⟨17, 33, none⟩)]))) (ht0 : w.cell? t = some old) (hf0 : w.frozen? t = false) :
    Calls Tryz.prog 105 #[.iface 201 (.pointer (some e)), .iface 203 (.pointer (some t))] w fun ev w' => ev = .returned (.bool true) ∧ ∃ w1, Below w.heap.size w w1 ∧ w' = w1.setCell t (.pointer (some e)) := by
  refine (as_fault e t old w hg ht0 hf0).mono ?_
  rintro ev w' ⟨rfl, rfl⟩
  exact ⟨rfl, _, by go_grown, rfl⟩

theorem code_nil (w : World) : Calls Tryz.prog 60 #[.nilIface] w fun e w' => e = .returned (.tuple #[.int .i64 0, .int .i64 (-1)]) ∧ w' = w := by
  go_enter Tryz.func60, Tryz.ntmps60
  go_wp2
  go_ret2
  exact ⟨rfl, rfl⟩

theorem thirteen (a : Nat → Addr) (w1 : World) (k : Nat) (hk : k < 13) :
    (w1.alloc (.cells #[.iface 316 (.pointer (some (a 0))), .iface 316 (.pointer (some (a 1))), .iface 316 (.pointer (some (a 2))), .iface 316 (.pointer (some (a 3))), .iface 316 (.pointer (some (a 4))), .iface 316 (.pointer (some (a 5))), .iface 316 (.pointer (some (a 6))), .iface 316 (.pointer (some (a 7))), .iface 316 (.pointer (some (a 8))), .iface 316 (.pointer (some (a 9))), .iface 316 (.pointer (some (a 10))), .iface 316 (.pointer (some (a 11))), .iface 316 (.pointer (some (a 12)))] 33)).cell? ⟨w1.heap.size, k, none⟩ = some (.iface 316 (.pointer (some (a k)))) := by
  rw [World.cell?_alloc_at _ _ _ _ rfl]
  have h : k = 0 ∨ k = 1 ∨ k = 2 ∨ k = 3 ∨ k = 4 ∨ k = 5 ∨ k = 6 ∨ k = 7 ∨ k = 8 ∨ k = 9 ∨ k = 10 ∨ k = 11 ∨ k = 12 := by omega
  rcases h with h | h | h | h | h | h | h | h | h | h | h | h | h <;> subst h <;> rfl

set_option maxHeartbeats 1000000 in
theorem code_plain (a : Nat → Addr) (p : Addr) (n : Nat) (w : World) (S : Sents a w) (hn : n ≤ 13) (hlt : ∀ k, k < n → p ≠ a k) (hat : n < 13 → p = a n) (hrow : ∃ ca ta, w.heap[p.block]? = some (.cells ca ta (0, 0))) :
    Calls Tryz.prog 60 #[.iface 316 (.pointer (some p))] w fun e w' => e = .returned (.tuple #[.int .i64 (if n < 13 then (n : Int) + 1 else -1), .int .i64 (-1)]) ∧ Below w.heap.size w w' := by
  have hg : (w.alloc (.cells #[.pointer none] 201)).cell? ⟨13, 0, none⟩ = some (.iface 269 (.agg #[.pointer (some ⟨17, 33, none⟩)])) := by
    rw [World.cell?_alloc_lt _ _ _ (lt_of_cell S.et)]; exact S.et
  go_enter Tryz.func60, Tryz.ntmps60
  go_wp2_with fail
  refine (as_plain' p ⟨w.heap.size, 0, none⟩ _ hg).mono ?_
  rintro e w1 ⟨rfl, hb⟩
  have hb0 : Below w.heap.size w w1 := ((Below.refl _ _).alloc (Nat.le_refl _) _).trans (hb.mono (by simp))
  have S1 := S.below hb0
  have c0 := S1.c0
  have c1 := S1.c1
  have c2 := S1.c2
  have c3 := S1.c3
  have c4 := S1.c4
  have c5 := S1.c5
  have c6 := S1.c6
  have c7 := S1.c7
  have c8 := S1.c8
  have c9 := S1.c9
  have c10 := S1.c10
  have c11 := S1.c11
  have c12 := S1.c12
  clear hg hb
  go_wp2_with fail
  have hb2 : Below w.heap.size w (w1.alloc (.cells #[.iface 316 (.pointer (some (a 0))), .iface 316 (.pointer (some (a 1))), .iface 316 (.pointer (some (a 2))), .iface 316 (.pointer (some (a 3))), .iface 316 (.pointer (some (a 4))), .iface 316 (.pointer (some (a 5))), .iface 316 (.pointer (some (a 6))), .iface 316 (.pointer (some (a 7))), .iface 316 (.pointer (some (a 8))), .iface 316 (.pointer (some (a 9))), .iface 316 (.pointer (some (a 10))), .iface 316 (.pointer (some (a 11))), .iface 316 (.pointer (some (a 12)))] 33)) := hb0.alloc hb0.size _
  have S2 := S.below hb2
  have hc := thirteen a w1
  obtain ⟨cp, tp, hp⟩ := hrow
  have hp2 : (w1.alloc (.cells #[.iface 316 (.pointer (some (a 0))), .iface 316 (.pointer (some (a 1))), .iface 316 (.pointer (some (a 2))), .iface 316 (.pointer (some (a 3))), .iface 316 (.pointer (some (a 4))), .iface 316 (.pointer (some (a 5))), .iface 316 (.pointer (some (a 6))), .iface 316 (.pointer (some (a 7))), .iface 316 (.pointer (some (a 8))), .iface 316 (.pointer (some (a 9))), .iface 316 (.pointer (some (a 10))), .iface 316 (.pointer (some (a 11))), .iface 316 (.pointer (some (a 12)))] 33)).heap[p.block]? = some (.cells cp tp (0, 0)) := by rw [hb2.block _ (lt_of_row hp)]; exact hp
  generalize w1.alloc (.cells #[.iface 316 (.pointer (some (a 0))), .iface 316 (.pointer (some (a 1))), .iface 316 (.pointer (some (a 2))), .iface 316 (.pointer (some (a 3))), .iface 316 (.pointer (some (a 4))), .iface 316 (.pointer (some (a 5))), .iface 316 (.pointer (some (a 6))), .iface 316 (.pointer (some (a 7))), .iface 316 (.pointer (some (a 8))), .iface 316 (.pointer (some (a 9))), .iface 316 (.pointer (some (a 10))), .iface 316 (.pointer (some (a 11))), .iface 316 (.pointer (some (a 12)))] 33) = W2 at *
  clear S1 c0 c1 c2 c3 c4 c5 c6 c7 c8 c9 c10 c11 c12 hb0 S hp
  go_loop [3, 31] (fun v i => v = .int .i64 (-1) ∧ ∃ k : Nat, k ≤ n ∧ i = .int .i64 k) (fun _ i => 13 - (intOf i).toNat)
  case atStart => exact ⟨rfl, 0, Nat.zero_le _, rfl⟩
  case round =>
    obtain ⟨rfl, k, hk, rfl⟩ := hrel
    by_cases h13 : k < 13
    · have hck := hc k h13
      by_cases hkn : k < n
      · have hne := hlt k hkn
        obtain ⟨ck, tk, hrk⟩ := S2.row k h13
        have H : Hid (p ≠ a k) := hne
        clear hne hc hlt hat
        go_wp2_with fail
        refine (is_other p (a k) cp ck tp tk _ H.out hp2 hrk).mono ?_
        rintro e w' ⟨rfl, rfl⟩
        go_wp2_with fail
        go_round
        case rel => exact ⟨rfl, k + 1, by omega, by go_num⟩
        case measure => simp [intOf]; omega
      · have ekn : k = n := by omega
        subst ekn
        have ep := hat h13
        subst ep
        clear hc hlt hat
        go_wp2_with fail
        refine (is_same (a k) _).mono ?_
        rintro e w' ⟨rfl, rfl⟩
        go_wp2_with fail
        go_ret2
        exact ⟨rfl, hb2⟩
    · clear hc hlt hat
      go_wp2_with fail
      go_ret2
      exact ⟨rfl, hb2⟩

set_option maxHeartbeats 1000000 in
theorem code_fault (a : Nat → Addr) (pb po : Nat) (m : Int) (n : Nat) (w : World) (S : Sents a w) (hn : n < 13) (h0 : w.cell? ⟨pb, po, none⟩ = some (.int .i64 m)) (h1 : w.cell? ⟨pb, po + 1, none⟩ = some (.iface 316 (.pointer (some (a n))))) :
    Calls Tryz.prog 60 #[.iface 201 (.pointer (some ⟨pb, po, none⟩))] w fun e w' => e = .returned (.tuple #[.int .i64 ((n : Int) + 1), .int .i64 m]) ∧ Below w.heap.size w w' := by
  have hg : (w.alloc (.cells #[.pointer none] 201)).cell? ⟨13, 0, none⟩ = some (.iface 269 (.agg #[.pointer (some ⟨17, 33, none⟩)])) := by
    rw [World.cell?_alloc_lt _ _ _ (lt_of_cell S.et)]; exact S.et
  have hpl : pb < w.heap.size := lt_of_cell h0
  go_enter Tryz.func60, Tryz.ntmps60
  go_wp2_with fail
  refine (as_fault' ⟨pb, po, none⟩ ⟨w.heap.size, 0, none⟩ (.pointer none) _ hg (by simp) (by simp)).mono ?_
  rintro e wx ⟨rfl, w0, hb, rfl⟩
  have hsz : w.heap.size < w0.heap.size := by have := hb.size; simp at this; omega
  have hc0 : w0.cell? ⟨w.heap.size, 0, none⟩ = some (.pointer none) := by rw [hb.cell (by simp)]; simp
  have hcf : (w0.setCell ⟨w.heap.size, 0, none⟩ (.pointer (some ⟨pb, po, none⟩))).cell? ⟨w.heap.size, 0, none⟩ = some (.pointer (some ⟨pb, po, none⟩)) := World.cell?_setCell_same _ _ _ hc0
  have hb0 : Below w.heap.size w (w0.setCell ⟨w.heap.size, 0, none⟩ (.pointer (some ⟨pb, po, none⟩))) := (((Below.refl _ _).alloc (Nat.le_refl _) _).trans (hb.mono (by simp))).setCell (Nat.le_refl _) _
  generalize w0.setCell ⟨w.heap.size, 0, none⟩ (.pointer (some ⟨pb, po, none⟩)) = w1 at *
  have S1 := S.below hb0
  have g0 : w1.cell? ⟨pb, po, none⟩ = some (.int .i64 m) := by rw [hb0.cell hpl]; exact h0
  have c0 := S1.c0
  have c1 := S1.c1
  have c2 := S1.c2
  have c3 := S1.c3
  have c4 := S1.c4
  have c5 := S1.c5
  have c6 := S1.c6
  have c7 := S1.c7
  have c8 := S1.c8
  have c9 := S1.c9
  have c10 := S1.c10
  have c11 := S1.c11
  have c12 := S1.c12
  clear hg hb hc0
  go_wp2_with fail
  have hb2 : Below w.heap.size w (w1.alloc (.cells #[.iface 316 (.pointer (some (a 0))), .iface 316 (.pointer (some (a 1))), .iface 316 (.pointer (some (a 2))), .iface 316 (.pointer (some (a 3))), .iface 316 (.pointer (some (a 4))), .iface 316 (.pointer (some (a 5))), .iface 316 (.pointer (some (a 6))), .iface 316 (.pointer (some (a 7))), .iface 316 (.pointer (some (a 8))), .iface 316 (.pointer (some (a 9))), .iface 316 (.pointer (some (a 10))), .iface 316 (.pointer (some (a 11))), .iface 316 (.pointer (some (a 12)))] 33)) := hb0.alloc hb0.size _
  have S2 := S.below hb2
  have hc := thirteen a w1
  have g1 : (w1.alloc (.cells #[.iface 316 (.pointer (some (a 0))), .iface 316 (.pointer (some (a 1))), .iface 316 (.pointer (some (a 2))), .iface 316 (.pointer (some (a 3))), .iface 316 (.pointer (some (a 4))), .iface 316 (.pointer (some (a 5))), .iface 316 (.pointer (some (a 6))), .iface 316 (.pointer (some (a 7))), .iface 316 (.pointer (some (a 8))), .iface 316 (.pointer (some (a 9))), .iface 316 (.pointer (some (a 10))), .iface 316 (.pointer (some (a 11))), .iface 316 (.pointer (some (a 12)))] 33)).cell? ⟨pb, po + 1, none⟩ = some (.iface 316 (.pointer (some (a n)))) := by rw [hb2.cell hpl]; exact h1
  obtain ⟨cp, tp, hp⟩ := S2.row n hn
  generalize w1.alloc (.cells #[.iface 316 (.pointer (some (a 0))), .iface 316 (.pointer (some (a 1))), .iface 316 (.pointer (some (a 2))), .iface 316 (.pointer (some (a 3))), .iface 316 (.pointer (some (a 4))), .iface 316 (.pointer (some (a 5))), .iface 316 (.pointer (some (a 6))), .iface 316 (.pointer (some (a 7))), .iface 316 (.pointer (some (a 8))), .iface 316 (.pointer (some (a 9))), .iface 316 (.pointer (some (a 10))), .iface 316 (.pointer (some (a 11))), .iface 316 (.pointer (some (a 12)))] 33) = W2 at *
  clear S1 c0 c1 c2 c3 c4 c5 c6 c7 c8 c9 c10 c11 c12 hb0 S g0
  go_loop [3, 31] (fun v i => v = .int .i64 m ∧ ∃ k : Nat, k ≤ n ∧ i = .int .i64 k) (fun _ i => 13 - (intOf i).toNat)
  case atStart => exact ⟨rfl, 0, Nat.zero_le _, rfl⟩
  case round =>
    obtain ⟨rfl, k, hk, rfl⟩ := hrel
    have h13 : k < 13 := by omega
    have hck := hc k h13
    by_cases hkn : k < n
    · obtain ⟨ck, tk, hrk⟩ := S2.row k h13
      have H : Hid (a n ≠ a k) := S2.ne n k hn h13 (by omega)
      clear hc
      go_wp2_with fail
      refine (is_fault_other pb po (a k) (a n) cp ck tp tk _ g1 H.out hp hrk).mono ?_
      rintro e w' ⟨rfl, rfl⟩
      go_wp2_with fail
      go_round
      case rel => exact ⟨rfl, k + 1, by omega, by go_num⟩
      case measure => simp [intOf]; omega
    · have ekn : k = n := by omega
      subst ekn
      clear hc
      go_wp2_with fail
      refine (is_fault_same pb po (a k) _ g1).mono ?_
      rintro e w' ⟨rfl, rfl⟩
      go_wp2_with fail
      go_ret2
      exact ⟨rfl, hb2⟩

theorem coded_nil (c : Int) (w : World) : Calls Tryz.prog 15 #[.nilIface, .int .i64 c] w fun e w' => e = .returned (.bool (decide (c = 0))) ∧ w' = w := by
  by_cases hc : c = 0
  · subst hc
    go_enter Tryz.func15, Tryz.ntmps15
    go_wp2_with (go_at_call 60; refine (code_nil _).mono ?_; rintro e w' ⟨rfl, rfl⟩)
    go_ret
    exact ⟨rfl, rfl⟩
  · have h : ((0 : Int) == c) = false := by simp; omega
    have hd : Hid (decide (c = 0) = false) := show _ = _ by simp [hc]
    clear hc
    go_enter Tryz.func15, Tryz.ntmps15
    go_wp2_with (go_at_call 60; refine (code_nil _).mono ?_; rintro e w' ⟨rfl, rfl⟩)
    go_ret
    exact ⟨by rw [hd.out]; rfl, rfl⟩
theorem coded_sent (a : Nat → Addr) (n : Nat) (c : Int) (w : World) (S : Sents a w) (hn : n < 13) :
    Calls Tryz.prog 15 #[.iface 316 (.pointer (some (a n))), .int .i64 c] w fun e w' => e = .returned (.bool (decide (c = (n : Int) + 1))) ∧ Below w.heap.size w w' := by
  have hcode := code_plain a (a n) n w S (Nat.le_of_lt hn) (fun k hk => S.ne n k hn (by omega) (by omega)) (fun _ => rfl) (S.row n hn)
  rw [if_pos hn] at hcode
  have HC : Hid _ := hcode
  clear hcode
  by_cases hc : c = (n : Int) + 1
  · subst hc
    go_enter Tryz.func15, Tryz.ntmps15
    go_wp2_with fail
    refine Calls.mono HC.out ?_
    rintro e w' ⟨rfl, hb⟩
    go_wp2
    go_ret
    exact ⟨by simp, hb⟩
  · have h : (((n : Int) + 1) == c) = false := by simp; omega
    have hd : Hid (decide (c = (n : Int) + 1) = false) := show _ = _ by simp [hc]
    clear hc
    go_enter Tryz.func15, Tryz.ntmps15
    go_wp2_with fail
    refine Calls.mono HC.out ?_
    rintro e w' ⟨rfl, hb⟩
    go_wp2
    go_ret
    exact ⟨by rw [hd.out]; rfl, hb⟩
end Go.Proofs.YtcejpeohkgchdaaGreatDoor
namespace Go.Proofs.YtcejpeohkgchdaaGreatDoor
open Go.RowKit

/-- Both tables. -/
structure QAt (w0 : World) (T0 tb bb mt md i : Nat) (bl : List (List UInt8)) (u : List Bool) (tab : List (Option Ino)) (W : World) : Prop where
  t : ∃ sp sb cap mb n, n ≤ i ∧ TbAt W (fun _ => False) T0 tb bb sp sb cap mb n bl u tab
  m : ∃ la lc ia ic vs, MtAt W T0 mt md la lc ia ic bl tab vs
  b : Below T0 w0 W
  s : T0 = w0.heap.size
  l : T0 ≤ md ∧ T0 ≤ mt
/-- What both keep. -/
structure PInv (N i : Nat) (bl : List (List UInt8)) (u : List Bool) (tab : List (Option Ino)) : Prop where
  sp : SInv N bl u tab
  n5 : N ≤ 512
  li : ∀ k x, slotT tab k = some x → x.links ≤ i + 1 ∧ x.sum < 4294967296
section
variable {w0 W W' : World} {T0 tb bb mt md i N : Nat} {bl bl' : List (List UInt8)} {u u' : List Bool} {tab tab' : List (Option Ino)} {a : Nat → Addr}
theorem QAt.size (Q : QAt w0 T0 tb bb mt md i bl u tab W) : T0 ≤ W.heap.size := by rw [Q.s]; exact Nat.le_trans (by rw [← Q.s]; exact Nat.le_refl _) Q.b.size
theorem QAt.below (Q : QAt w0 T0 tb bb mt md i bl u tab W) (h : Below W.heap.size W W') : QAt w0 T0 tb bb mt md i bl u tab W' := by
  obtain ⟨⟨sp, sb, cap, mb, n, hn, T⟩, ⟨la, lc, ia, ic, vs, M⟩, b, s, l⟩ := id Q
  exact ⟨⟨sp, sb, cap, mb, n, hn, T.below h⟩, ⟨la, lc, ia, ic, vs, M.below h⟩, b.trans (h.mono Q.size), s, l⟩
theorem QAt.sents (Q : QAt w0 T0 tb bb mt md i bl u tab W) (S : Sents a w0) : Sents a W := S.below (by rw [← Q.s]; exact Q.b)
theorem QAt.mono {i' : Nat} (Q : QAt w0 T0 tb bb mt md i bl u tab W) (h : i ≤ i') : QAt w0 T0 tb bb mt md i' bl u tab W := by
  obtain ⟨⟨sp, sb, cap, mb, n, hn, T⟩, m, b, s, l⟩ := Q
  exact ⟨⟨sp, sb, cap, mb, n, Nat.le_trans hn h, T⟩, m, b, s, l⟩
theorem PInv.mono {i' : Nat} (P : PInv N i bl u tab) (h : i ≤ i') : PInv N i' bl u tab := ⟨P.sp, P.n5, fun k x hx => ⟨by have := (P.li k x hx).1; omega, (P.li k x hx).2⟩⟩
theorem QAt.len (Q : QAt w0 T0 tb bb mt md i bl u tab W) : tab.length ≤ i ∧ (∀ b ∈ bl, b.length = 16) := by
  obtain ⟨⟨sp, sb, cap, mb, n, hn, T⟩, _⟩ := Q
  exact ⟨Nat.le_trans T.low.2.2.2.2.2.1 hn, T.disk.bl16⟩
theorem PInv.need (P : PInv N i bl u tab) {k : Nat} {x : Ino} (hx : slotT tab k = some x) : x.blocks.length ≤ 1000 ∧ x.bytes ≤ 2000 ∧ x.bytes ≤ x.blocks.length * 16 ∧ (∀ b ∈ x.blocks, b < bl.length) := by
  obtain ⟨_, _, _, h4, h5⟩ := P.sp.own k x hx
  refine ⟨?_, h4, ?_, fun b hb => by rw [P.sp.lbl]; exact P.sp.lt hx b hb⟩
  · rw [h5]; unfold needN; omega
  · rw [h5]; exact need_fits _
theorem PInv.ok (P : PInv N i bl u tab) (h : tab.length ≤ 1000) : MOk tab := ⟨h, fun _ _ hx => (P.need hx).1⟩
theorem QAt.both (Q : QAt w0 T0 tb bb mt md i bl u tab W) {w1 w2 : World} {i' mb : Nat} (ht : ∃ sp sb cap mb n, n ≤ i' ∧ TbAt w1 (fun _ => False) T0 tb bb sp sb cap mb n bl' u' tab') (h1 : TbBut T0 mb W w1) (hm : ∃ la lc ia ic vs, MtAt w2 T0 mt md la lc ia ic bl' tab' vs) (h2 : MtBut T0 w1 w2) : QAt w0 T0 tb bb mt md i' bl' u' tab' w2 := by
  obtain ⟨sp, sb, cap, mb, n, hn, T⟩ := ht
  have hb1 : Below T0 w0 w1 := h1.below (Nat.le_refl _) Q.size Q.b
  have hs1 : T0 ≤ w1.heap.size := Nat.le_trans Q.size h1.size
  exact ⟨⟨sp, sb, cap, mb, n, hn, T.mtb h2⟩, hm, h2.below (Nat.le_refl _) hs1 hb1, Q.s, Q.l⟩
/-- What is left behind a pair. -/
def QEnd (w0 : World) (T0 tb bb mt md N i : Nat) (w' : World) : Prop := ∃ bl u tab, QAt w0 T0 tb bb mt md i bl u tab w' ∧ PInv N i bl u tab
theorem QEnd.below {w1 w2 : World} (h : QEnd w0 T0 tb bb mt md N i w1) (hb : Below w1.heap.size w1 w2) : QEnd w0 T0 tb bb mt md N i w2 := by
  obtain ⟨bl, u, tab, Q, P⟩ := h
  exact ⟨bl, u, tab, Q.below hb, P⟩
/-- What neither table is made of. -/
def qTy (o : Obj) : Bool := tbTy o || mtTy o
theorem Turn.trans {p : Obj → Bool} {w1 w2 w3 : World} (h : Turn p w1 w2) (h' : Turn p w2 w3) : Turn p w1 w3 := fun k o hk hp => h' k o (h k o hk hp) hp
theorem TbBut.q {w1 w2 : World} {mb : Nat} (h : TbBut T0 mb w1 w2) : Turn qTy w1 w2 := fun k o hk hp => h.block k o hk (.inr (by unfold qTy at hp; simp only [Bool.or_eq_false_iff] at hp; exact hp.1))
theorem MtBut.q {w1 w2 : World} (h : MtBut T0 w1 w2) : Turn qTy w1 w2 := fun k o hk hp => h.block k o hk (.inr (by unfold qTy at hp; simp only [Bool.or_eq_false_iff] at hp; exact hp.2))
theorem Turn.same (p : Obj → Bool) (w : World) : Turn p w w := fun _ _ hk _ => hk
/-- Two calls, and the look at their errors. -/
def Pair (P : Program) (f g : Nat) (fa ga : Array Value) (k : Option Int) (W : World) (R : World → Prop) : Prop :=
  Calls P f fa W fun e w1 => ∃ ev c, e = .returned (match k with | some j => .tuple #[.int .i64 j, ev] | none => ev) ∧ Turn qTy W w1 ∧ Calls P g ga w1 fun e2 w2 => e2 = .returned (match k with | some j => .tuple #[.int .i64 j, .int .i64 c] | none => .int .i64 c) ∧ Turn qTy W w2 ∧ Calls P 15 #[ev, .int .i64 c] w2 fun e3 w3 => e3 = .returned (.bool true) ∧ Turn qTy W w3 ∧ R w3
theorem code_sent (n : Nat) (hn : n < 13) (S : Sents a w0) {w2 : World} {R : World → Prop} (ht : Turn qTy W w2) (hb : Below w0.heap.size w0 w2) (hR : ∀ w3, Below w2.heap.size w2 w3 → R w3) :
    Calls Tryz.prog 15 #[.iface 316 (.pointer (some (a n))), .int .i64 ((n : Int) + 1)] w2 fun e3 w3 => e3 = .returned (.bool true) ∧ Turn qTy W w3 ∧ R w3 :=
  (coded_sent a n _ w2 (S.below hb) hn).mono fun e w3 ⟨he, h⟩ => ⟨by rw [he]; simp, ht.trans (Turn.of_below h), hR w3 h⟩
theorem code_zero {w2 : World} {R : World → Prop} (ht : Turn qTy W w2) (hR : R w2) : Calls Tryz.prog 15 #[.nilIface, .int .i64 0] w2 fun e3 w3 => e3 = .returned (.bool true) ∧ Turn qTy W w3 ∧ R w3 :=
  (coded_nil 0 w2).mono fun e w3 ⟨he, h⟩ => ⟨by rw [he]; rfl, by rw [h]; exact ht, by rw [h]; exact hR⟩
theorem q_link_none (f : Nat) (k more : Int) (hx : slotI tab k = none) (Q : QAt w0 T0 tb bb mt md i bl u tab W) (P : PInv N i bl u tab) (S : Sents a w0)
    (hf : ∀ er, W.cell? ⟨1, 0, none⟩ = some er → Calls Tryz.prog f #[.pointer (some ⟨tb, 0, none⟩), .int .i64 k] W fun e w' => e = .returned er ∧ w' = W) :
    Pair Tryz.prog f 49 #[.pointer (some ⟨tb, 0, none⟩), .int .i64 k] #[.pointer (some ⟨mt, 0, none⟩), .int .i64 k, .int .i64 more] none W (QEnd w0 T0 tb bb mt md N (i + 1)) := by
  have SW := Q.sents S
  obtain ⟨la, lc, ia, ic, vs, M⟩ := Q.m
  refine (hf _ SW.c5).mono fun e w1 ⟨he, hw⟩ => ⟨_, 6, he, by rw [hw]; exact Turn.same _ _, ?_⟩
  rw [hw]
  refine (m_link_none k more hx W M).mono fun e2 w2 ⟨he2, hw2⟩ => ⟨he2, by rw [hw2]; exact Turn.same _ _, ?_⟩
  rw [hw2]
  exact code_sent 5 (by decide) S (Turn.same _ _) (by rw [← Q.s]; exact Q.b) fun w3 h3 => ⟨bl, u, tab, (Q.below h3).mono (by omega), P.mono (by omega)⟩
theorem q_link (k : Int) (hk : (Lit.int .i64 k).wf = true) (hi : i ≤ 900) (Q : QAt w0 T0 tb bb mt md i bl u tab W) (P : PInv N i bl u tab) (S : Sents a w0) :
    Pair Tryz.prog 48 49 #[.pointer (some ⟨tb, 0, none⟩), .int .i64 k] #[.pointer (some ⟨mt, 0, none⟩), .int .i64 k, .int .i64 1] none W (QEnd w0 T0 tb bb mt md N (i + 1)) := by
  cases hx : slotI tab k with
  | none =>
    obtain ⟨sp, sb, cap, mb, n, hn, T⟩ := Q.t
    exact q_link_none 48 k 1 hx Q P S fun er hE => im_link_none k hk hx er W T hE
  | some x =>
    obtain ⟨j, rfl, hj⟩ := slotI_some hx
    obtain ⟨sp, sb, cap, mb, n, hn, T⟩ := Q.t
    obtain ⟨la, lc, ia, ic, vs, M⟩ := Q.m
    have hli := (P.li j x hj).1
    have hsu := (P.li j x hj).2
    refine (im_link j x hj (by omega) W T).mono fun e w1 ⟨he, T1, B1⟩ => ⟨_, 0, he, B1.q, ?_⟩
    refine (m_link (T0 := T0) j (x.links + 1) 1 x hj (by omega) (by omega) w1 (M.tb B1) (Nat.le_refl _)).mono fun e2 w2 ⟨he2, M2, B2⟩ => ⟨he2, B1.q.trans B2.q, ?_⟩
    rw [if_neg (by omega)] at M2
    obtain ⟨vs', M2⟩ := M2
    refine code_zero (B1.q.trans B2.q) ⟨bl, u, _, (Q.both ⟨sp, sb, cap, mb, n, (by omega : n ≤ i + 1), T1⟩ B1 ⟨la, lc, ia, ic, vs', M2⟩ B2), P.sp.links hj (by omega), P.n5, fun q y hy => ?_⟩
    rw [slotT_set (slotT_lt hj)] at hy
    split at hy
    · cases hy; exact ⟨by show x.links + 1 ≤ _; omega, hsu⟩
    · exact ⟨by have := (P.li q y hy).1; omega, (P.li q y hy).2⟩
theorem q_unlink (k : Int) (hk : (Lit.int .i64 k).wf = true) (hi : i ≤ 900) (Q : QAt w0 T0 tb bb mt md i bl u tab W) (P : PInv N i bl u tab) (S : Sents a w0) :
    Pair Tryz.prog 50 49 #[.pointer (some ⟨tb, 0, none⟩), .int .i64 k] #[.pointer (some ⟨mt, 0, none⟩), .int .i64 k, .int .i64 (-1)] none W (QEnd w0 T0 tb bb mt md N (i + 1)) := by
  have SW := Q.sents S
  cases hx : slotI tab k with
  | none =>
    obtain ⟨sp, sb, cap, mb, n, hn, T⟩ := Q.t
    exact q_link_none 50 k (-1) hx Q P S fun er hE => im_unlink_none k hk hx er W T hE
  | some x =>
    obtain ⟨j, rfl, hj⟩ := slotI_some hx
    obtain ⟨sp, sb, cap, mb, n, hn, T⟩ := Q.t
    obtain ⟨la, lc, ia, ic, vs, M⟩ := Q.m
    have hli := (P.li j x hj).1
    have hsu := (P.li j x hj).2
    have hl1 := (P.sp.own j x hj).2.2.1
    by_cases h1 : x.links = 1
    · have hg1 : 4 < T0 := by rw [Q.s]; exact lt_of_cell S.c1
      have hg5 : 1 < T0 := by rw [Q.s]; exact lt_of_cell S.c5
      refine (im_unlink_last j x _ _ hj h1 W T SW.c1 SW.c5 ⟨hg1, hg5⟩ (fun b hb => by rw [P.sp.lu]; exact P.sp.lt hj b hb) (P.sp.gives hj) (by have := (P.need hj).1; omega)).mono fun e w1 ⟨he, T1, B1⟩ => ⟨_, 0, he, B1.q, ?_⟩
      refine (m_link (T0 := T0) j 0 (-1) x hj (by omega) (by omega) w1 (M.tb B1) (Nat.le_refl _)).mono fun e2 w2 ⟨he2, M2, B2⟩ => ⟨he2, B1.q.trans B2.q, ?_⟩
      rw [if_pos rfl] at M2
      obtain ⟨vs', M2⟩ := M2
      refine code_zero (B1.q.trans B2.q) ⟨bl, _, _, (Q.both ⟨sp, sb, cap, mb, n, (by omega : n ≤ i + 1), T1⟩ B1 ⟨la, lc, ia, ic, vs', M2⟩ B2), P.sp.drop hj, P.n5, fun q y hy => ?_⟩
      rw [slotT_set (slotT_lt hj)] at hy
      split at hy
      · cases hy
      · exact ⟨by have := (P.li q y hy).1; omega, (P.li q y hy).2⟩
    · obtain ⟨l, hl⟩ : ∃ l, x.links = l + 1 := ⟨x.links - 1, by omega⟩
      refine (im_unlink j l x hj hl (by omega) (by omega) W T).mono fun e w1 ⟨he, T1, B1⟩ => ⟨_, 0, he, B1.q, ?_⟩
      refine (m_link (T0 := T0) j l (-1) x hj (by omega) (by omega) w1 (M.tb B1) (Nat.le_refl _)).mono fun e2 w2 ⟨he2, M2, B2⟩ => ⟨he2, B1.q.trans B2.q, ?_⟩
      rw [if_neg (by omega)] at M2
      obtain ⟨vs', M2⟩ := M2
      refine code_zero (B1.q.trans B2.q) ⟨bl, u, _, (Q.both ⟨sp, sb, cap, mb, n, (by omega : n ≤ i + 1), T1⟩ B1 ⟨la, lc, ia, ic, vs', M2⟩ B2), P.sp.links hj (by omega), P.n5, fun q y hy => ?_⟩
      rw [slotT_set (slotT_lt hj)] at hy
      split at hy
      · cases hy; exact ⟨by show l ≤ _; omega, hsu⟩
      · exact ⟨by have := (P.li q y hy).1; omega, (P.li q y hy).2⟩
theorem q_make (s : ByteArray) (ex : Bool) (hs : s.size ≤ 1000000) (hi : i ≤ 900) (Q : QAt w0 T0 tb bb mt md i bl u tab W) (P : PInv N i bl u tab) (S : Sents a w0) :
    ∃ k, Pair Tryz.prog 44 47 #[.pointer (some ⟨tb, 0, none⟩), .string s, .bool ex] #[.pointer (some ⟨mt, 0, none⟩), .string s, .bool ex] (some k) W (QEnd w0 T0 tb bb mt md N (i + 1)) := by
  have SW := Q.sents S
  obtain ⟨sp, sb, cap, mb, n, hn, T⟩ := Q.t
  obtain ⟨la, lc, ia, ic, vs, M⟩ := Q.m
  have hF := P.sp.freeM
  have hO := P.ok (by have := Q.len.1; omega)
  have hbl : bl.length ≤ 512 := by rw [P.sp.lbl]; exact P.n5
  rw [← P.sp.lbl] at hF
  by_cases h1 : 2000 < s.size
  · refine ⟨0, (im_make_big s ex h1 hs _ (.pointer (some ⟨tb, 0, none⟩)) W SW.c1).mono fun e w1 ⟨he, hb⟩ => ⟨_, 2, he, Turn.of_below hb, ?_⟩⟩
    refine (m_make_big s ex h1 (.pointer (some ⟨mt, 0, none⟩)) w1).mono fun e2 w2 ⟨he2, hw2⟩ => ⟨he2, by rw [hw2]; exact Turn.of_below hb, ?_⟩
    rw [hw2]
    have Q1 := Q.below hb
    exact code_sent 1 (by decide) S (Turn.of_below hb) (by rw [← Q1.s]; exact Q1.b) fun w3 h3 => ⟨bl, u, tab, (Q1.below h3).mono (by omega), P.mono (by omega)⟩
  · by_cases h2 : (freeR u).length < needN s.size
    · refine ⟨0, (im_make_full s ex (by omega) h2 316 _ W T SW.c7).mono fun e w1 ⟨he, hb⟩ => ⟨_, 8, he, Turn.of_below hb, ?_⟩⟩
      have Q1 := Q.below hb
      refine (m_make_full s ex (by omega) (by rw [hF]; exact h2) w1 (M.below hb) hO hbl).mono fun e2 w2 ⟨he2, hb2⟩ => ⟨he2, (Turn.of_below hb).trans (Turn.of_below hb2), ?_⟩
      have Q2 := Q1.below hb2
      exact code_sent 7 (by decide) S ((Turn.of_below hb).trans (Turn.of_below hb2)) (by rw [← Q2.s]; exact Q2.b) fun w3 h3 => ⟨bl, u, tab, (Q2.below h3).mono (by omega), P.mono (by omega)⟩
    · have hg1 : 4 < T0 := by rw [Q.s]; exact lt_of_cell S.c1
      refine ⟨(nextR tab : Int), (im_make s ex _ (by omega) rfl (by omega) (by omega) (by rw [P.sp.lu, P.sp.lbl]) _ W T SW.c1 hg1 Q.size (fun g h => h.elim)).mono fun e w1 ⟨he, T1, B1⟩ => ⟨_, 0, he, B1.q, ?_⟩⟩
      refine (m_make (T0 := T0) s ex _ (by omega) rfl (by rw [hF]; omega) w1 (M.tb B1) hO hbl (Nat.le_refl _) Q.l.1 (Nat.le_trans Q.size B1.size) Q.l.2).mono fun e2 w2 ⟨he2, M2, B2⟩ => ⟨he2, B1.q.trans B2.q, ?_⟩
      rw [hF] at M2
      obtain ⟨ia', ic', vs', M2⟩ := M2
      refine code_zero (B1.q.trans B2.q) ⟨_, _, _, (Q.both ⟨sp, sb, cap, mb, n + 1, (by omega : n + 1 ≤ i + 1), T1⟩ B1 ⟨la, lc, ia', ic', vs', M2⟩ B2), P.sp.make (by omega) rfl (by omega), P.n5, fun q y hy => ?_⟩
      rw [putN_slot] at hy
      split at hy
      · cases hy; exact ⟨by show 1 ≤ _; omega, crcR_lt _⟩
      · exact ⟨by have := (P.li q y hy).1; omega, (P.li q y hy).2⟩
theorem SInv.blocks {bl' : List (List UInt8)} (S : SInv N bl u tab) (h : bl'.length = bl.length) : SInv N bl' u tab := ⟨by rw [h]; exact S.lbl, S.lu, S.own, S.one, S.all⟩
theorem TbAt.redisk {F : Nat → Prop} {sp sb cap mb n : Nat} (T : TbAt W F T0 tb bb sp sb cap mb n bl u tab) (D : DkAt W' bb none 0 bl' []) (h : DkBut bb none W W') (hl : bl'.length = bl.length) : TbAt W' F T0 tb bb sp sb cap mb n bl' u tab := by
  have ht := Turn.of_but T.disk h
  obtain ⟨f, Nd⟩ := T.nodes
  exact ⟨ht _ _ T.box rfl, D, T.space.turn ht (fun _ _ => rfl) (fun _ _ => rfl), ⟨f, Nd.turn ht (fun _ _ => rfl) (fun _ _ => rfl) (fun _ _ => rfl)⟩, by rw [hl]; exact T.low⟩
/-- One disk has rotted, the other has not. -/
structure HAt (w0 : World) (T0 tb bb mt md i : Nat) (bl bl' : List (List UInt8)) (u : List Bool) (tab : List (Option Ino)) (W : World) : Prop where
  t : ∃ sp sb cap mb n, n ≤ i ∧ TbAt W (fun _ => False) T0 tb bb sp sb cap mb n bl u tab
  m : ∃ la lc ia ic vs, MtAt W T0 mt md la lc ia ic bl' tab vs
  b : Below T0 w0 W
  s : T0 = w0.heap.size
  l : T0 ≤ md ∧ T0 ≤ mt
theorem HAt.below (Q : HAt w0 T0 tb bb mt md i bl bl' u tab W) (h : Below W.heap.size W W') : HAt w0 T0 tb bb mt md i bl bl' u tab W' := by
  obtain ⟨⟨sp, sb, cap, mb, n, hn, T⟩, ⟨la, lc, ia, ic, vs, M⟩, b, s, l⟩ := id Q
  exact ⟨⟨sp, sb, cap, mb, n, hn, T.below h⟩, ⟨la, lc, ia, ic, vs, M.below h⟩, b.trans (h.mono (by rw [s]; exact Nat.le_trans (by rw [← s]; exact Nat.le_refl _) b.size)), s, l⟩
theorem q_rotm (k bit : Nat) (b : List UInt8) (hk : bl[k]? = some b) (hbit : bit < 128) (Q : QAt w0 T0 tb bb mt md i bl u tab W) :
    Calls Tryz.prog 53 #[.pointer (some ⟨md, 0, none⟩), .int .i64 (k : Int), .int .i64 (bit : Int)] W fun e w1 => e = .returned (.tuple #[]) ∧ Turn qTy W w1 ∧ HAt w0 T0 tb bb mt md i bl (bl.set k (turnL b bit)) u tab w1 := by
  obtain ⟨sp, sb, cap, mb, n, hn, T⟩ := Q.t
  obtain ⟨la, lc, ia, ic, vs, M⟩ := Q.m
  refine (rotM_any k bit b W M.disk hk (T.disk.bl16 b (List.mem_of_getElem? hk)) (fun x h => by cases h) hbit (by simp)).mono fun e w1 ⟨he, M1, B1⟩ => ?_
  have B2 : MtBut T0 W w1 := MtBut.of_mk M.disk Q.l.1 B1
  exact ⟨he, B2.q, ⟨sp, sb, cap, mb, n, hn, T.mtb B2⟩, ⟨la, lc, ia, ic, vs, M.redisk M1 (Turn.of_mk M.disk B1)⟩, B2.below (Nat.le_refl _) Q.size Q.b, Q.s, Q.l⟩
theorem q_rotd (k bit : Nat) (b : List UInt8) (hk : bl[k]? = some b) (hbit : bit < 128) (Q : HAt w0 T0 tb bb mt md i bl (bl.set k (turnL b bit)) u tab W) (P : PInv N i bl u tab) :
    Calls Tryz.prog 52 #[.pointer (some ⟨bb + 1, 0, none⟩), .int .i64 (k : Int), .int .i64 (bit : Int)] W fun e w1 => e = .returned .nilIface ∧ Turn qTy W w1 ∧ QEnd w0 T0 tb bb mt md N (i + 1) w1 := by
  obtain ⟨sp, sb, cap, mb, n, hn, T⟩ := Q.t
  obtain ⟨la, lc, ia, ic, vs, M⟩ := Q.m
  refine (rot_any k bit b W T.disk hk hbit (by simp)).mono fun e w1 ⟨he, D1, B1⟩ => ?_
  have B2 : TbBut T0 mb W w1 := TbBut.of_but T.disk T.low.1 B1
  have hs : T0 ≤ W.heap.size := by rw [Q.s]; exact Nat.le_trans (by rw [← Q.s]; exact Nat.le_refl _) Q.b.size
  exact ⟨he, B2.q, _, u, tab, ⟨⟨sp, sb, cap, mb, n, by omega, T.redisk D1 B1 (by simp)⟩, ⟨la, lc, ia, ic, vs, M.tb B2⟩, B2.below (Nat.le_refl _) hs Q.b, Q.s, Q.l⟩, (P.sp.blocks (by simp)), P.n5, fun q y hy => ⟨by have := (P.li q y hy).1; omega, (P.li q y hy).2⟩⟩
end
end Go.Proofs.YtcejpeohkgchdaaGreatDoor
