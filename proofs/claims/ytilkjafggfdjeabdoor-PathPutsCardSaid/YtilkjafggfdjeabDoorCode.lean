/-
  The contracts of plain.Code: at nil, at an error of errors.New's make (the number of the sentinel that it is, or -1), at an *api.Fault that holds a sentinel (its number, and its place).
  Conditions: the thirteen sentinels and errors.errorType hold what the program's text lays ('Sents').
-/
import Derived.Test.YtilkjafggfdjeabDoorErrAs
import Derived.Test.YtilkjafggfdjeabDoorSen
import Derived.Outline
namespace Go.Proofs.YtilkjafggfdjeabDoor
open Go.RowKit Go.Extern.Stop Go.Stop Go.Extern

/-- The variables of the thirteen sentinels, in their order. -/
def gvs : List Nat := [5, 6, 1, 7, 2, 0, 8, 4, 3, 9, 10, 11, 12]
def gv (i : Nat) : Nat := gvs.getD i 0
/-- The thirteen sentinels lie in their variables, each behind a pointer of its own; errors.errorType holds the handle of the type error. -/
structure Sents (a : Nat → Addr) (w : World) : Prop where
  cell : ∀ i, i < 13 → w.cell? ⟨gv i, 0, none⟩ = some (.iface 153 (.pointer (some (a i))))
  row : ∀ i, i < 13 → ∃ ca ta, w.heap[(a i).block]? = some (.cells ca ta (0, 0))
  ne : ∀ i j, i < 13 → j < 13 → i ≠ j → a i ≠ a j
  et : w.cell? ⟨13, 0, none⟩ = some (.iface 125 (.agg #[.pointer (some ⟨17, 29, none⟩)]))

theorem Sents.c0 {a : Nat → Addr} {w : World} (S : Sents a w) : w.cell? ⟨5, 0, none⟩ = some (.iface 153 (.pointer (some (a 0)))) := S.cell 0 (by decide)
theorem Sents.c1 {a : Nat → Addr} {w : World} (S : Sents a w) : w.cell? ⟨6, 0, none⟩ = some (.iface 153 (.pointer (some (a 1)))) := S.cell 1 (by decide)
theorem Sents.c2 {a : Nat → Addr} {w : World} (S : Sents a w) : w.cell? ⟨1, 0, none⟩ = some (.iface 153 (.pointer (some (a 2)))) := S.cell 2 (by decide)
theorem Sents.c3 {a : Nat → Addr} {w : World} (S : Sents a w) : w.cell? ⟨7, 0, none⟩ = some (.iface 153 (.pointer (some (a 3)))) := S.cell 3 (by decide)
theorem Sents.c4 {a : Nat → Addr} {w : World} (S : Sents a w) : w.cell? ⟨2, 0, none⟩ = some (.iface 153 (.pointer (some (a 4)))) := S.cell 4 (by decide)
theorem Sents.c5 {a : Nat → Addr} {w : World} (S : Sents a w) : w.cell? ⟨0, 0, none⟩ = some (.iface 153 (.pointer (some (a 5)))) := S.cell 5 (by decide)
theorem Sents.c6 {a : Nat → Addr} {w : World} (S : Sents a w) : w.cell? ⟨8, 0, none⟩ = some (.iface 153 (.pointer (some (a 6)))) := S.cell 6 (by decide)
theorem Sents.c7 {a : Nat → Addr} {w : World} (S : Sents a w) : w.cell? ⟨4, 0, none⟩ = some (.iface 153 (.pointer (some (a 7)))) := S.cell 7 (by decide)
theorem Sents.c8 {a : Nat → Addr} {w : World} (S : Sents a w) : w.cell? ⟨3, 0, none⟩ = some (.iface 153 (.pointer (some (a 8)))) := S.cell 8 (by decide)
theorem Sents.c9 {a : Nat → Addr} {w : World} (S : Sents a w) : w.cell? ⟨9, 0, none⟩ = some (.iface 153 (.pointer (some (a 9)))) := S.cell 9 (by decide)
theorem Sents.c10 {a : Nat → Addr} {w : World} (S : Sents a w) : w.cell? ⟨10, 0, none⟩ = some (.iface 153 (.pointer (some (a 10)))) := S.cell 10 (by decide)
theorem Sents.c11 {a : Nat → Addr} {w : World} (S : Sents a w) : w.cell? ⟨11, 0, none⟩ = some (.iface 153 (.pointer (some (a 11)))) := S.cell 11 (by decide)
theorem Sents.c12 {a : Nat → Addr} {w : World} (S : Sents a w) : w.cell? ⟨12, 0, none⟩ = some (.iface 153 (.pointer (some (a 12)))) := S.cell 12 (by decide)
theorem Sents.below {a : Nat → Addr} {w w' : World} (S : Sents a w) (hb : Below w.heap.size w w') : Sents a w' where
  cell i hi := by rw [hb.cell (lt_of_cell (S.cell i hi))]; exact S.cell i hi
  row i hi := by
    obtain ⟨ca, ta, h⟩ := S.row i hi
    exact ⟨ca, ta, by rw [hb.block _ (lt_of_row h)]; exact h⟩
  ne := S.ne
  et := by rw [hb.cell (lt_of_cell S.et)]; exact S.et

theorem Sents.sen {a : Nat → Addr} {w : World} (S : Sents a w) : Sen a w where
  text := S.cell 0 (by decide)
  bound := S.cell 1 (by decide)
  shape := S.cell 2 (by decide)
  kind := S.cell 3 (by decide)
  name := S.cell 4 (by decide)
  full := S.cell 7 (by decide)
  deep := S.cell 8 (by decide)
  order := S.cell 9 (by decide)
theorem Sents.atB {a : Nat → Addr} {w : World} (S : Sents a w) : SentsB a w.heap.size w := S.sen.atB

theorem as_plain' (e t : Addr) (w : World) (hg : w.cell? ⟨13, 0, none⟩ = some (.iface 125 (.agg #[.pointer (some ⟨17, 29, none⟩)]))) :
    Calls Tryd.prog 46 #[.iface 153 (.pointer (some e)), .iface 89 (.pointer (some t))] w fun ev w' => ev = .returned (.bool false) ∧ Below w.heap.size w w' := by
  refine (as_plain e t w hg).mono ?_
  rintro ev w' ⟨rfl, rfl⟩
  exact ⟨rfl, by go_grown⟩
theorem as_fault' (e t : Addr) (old : Value) (w : World) (hg : w.cell? ⟨13, 0, none⟩ = some (.iface 125 (.agg #[.pointer (some ⟨17, 29, none⟩)]))) (ht0 : w.cell? t = some old) (hf0 : w.frozen? t = false) :
    Calls Tryd.prog 46 #[.iface 79 (.pointer (some e)), .iface 89 (.pointer (some t))] w fun ev w' => ev = .returned (.bool true) ∧ ∃ w1, Below w.heap.size w w1 ∧ w' = w1.setCell t (.pointer (some e)) := by
  refine (as_fault e t old w hg ht0 hf0).mono ?_
  rintro ev w' ⟨rfl, rfl⟩
  exact ⟨rfl, _, by go_grown, rfl⟩

theorem code_nil (w : World) : Calls Tryd.prog 31 #[.nilIface] w fun e w' => e = .returned (.tuple #[.int .i64 0, .int .i64 (-1)]) ∧ w' = w := by
  go_enter Tryd.func31, Tryd.ntmps31
  go_wp2
  go_ret2
  exact ⟨rfl, rfl⟩

theorem thirteen (a : Nat → Addr) (w1 : World) (k : Nat) (hk : k < 13) :
    (w1.alloc (.cells #[.iface 153 (.pointer (some (a 0))), .iface 153 (.pointer (some (a 1))), .iface 153 (.pointer (some (a 2))), .iface 153 (.pointer (some (a 3))), .iface 153 (.pointer (some (a 4))), .iface 153 (.pointer (some (a 5))), .iface 153 (.pointer (some (a 6))), .iface 153 (.pointer (some (a 7))), .iface 153 (.pointer (some (a 8))), .iface 153 (.pointer (some (a 9))), .iface 153 (.pointer (some (a 10))), .iface 153 (.pointer (some (a 11))), .iface 153 (.pointer (some (a 12)))] 29)).cell? ⟨w1.heap.size, k, none⟩ = some (.iface 153 (.pointer (some (a k)))) := by
  rw [World.cell?_alloc_at _ _ _ _ rfl]
  have h : k = 0 ∨ k = 1 ∨ k = 2 ∨ k = 3 ∨ k = 4 ∨ k = 5 ∨ k = 6 ∨ k = 7 ∨ k = 8 ∨ k = 9 ∨ k = 10 ∨ k = 11 ∨ k = 12 := by omega
  rcases h with h | h | h | h | h | h | h | h | h | h | h | h | h <;> subst h <;> rfl

set_option maxHeartbeats 1000000 in
theorem code_plain (a : Nat → Addr) (p : Addr) (n : Nat) (w : World) (S : Sents a w) (hn : n ≤ 13) (hlt : ∀ k, k < n → p ≠ a k) (hat : n < 13 → p = a n) (hrow : ∃ ca ta, w.heap[p.block]? = some (.cells ca ta (0, 0))) :
    Calls Tryd.prog 31 #[.iface 153 (.pointer (some p))] w fun e w' => e = .returned (.tuple #[.int .i64 (if n < 13 then (n : Int) + 1 else -1), .int .i64 (-1)]) ∧ Below w.heap.size w w' := by
  have hg : (w.alloc (.cells #[.pointer none] 79)).cell? ⟨13, 0, none⟩ = some (.iface 125 (.agg #[.pointer (some ⟨17, 29, none⟩)])) := by
    rw [World.cell?_alloc_lt _ _ _ (lt_of_cell S.et)]; exact S.et
  go_enter Tryd.func31, Tryd.ntmps31
  go_wp2_with fail
  refine (as_plain' p ⟨w.heap.size, 0, none⟩ _ hg).mono ?_
  rintro e w1 ⟨rfl, hb⟩
  have hb0 : Below w.heap.size w w1 := ((Below.refl _ _).alloc (Nat.le_refl _) _).trans (hb.mono (by simp))
  have S1 := S.below hb0
  have c0 := S1.c0
  have c1 := S1.c1
  have c2 := S1.c2
  have c3 := S1.c3
  have c4 := S1.c4
  have c5 := S1.c5
  have c6 := S1.c6
  have c7 := S1.c7
  have c8 := S1.c8
  have c9 := S1.c9
  have c10 := S1.c10
  have c11 := S1.c11
  have c12 := S1.c12
  clear hg hb
  go_wp2_with fail
  have hb2 : Below w.heap.size w (w1.alloc (.cells #[.iface 153 (.pointer (some (a 0))), .iface 153 (.pointer (some (a 1))), .iface 153 (.pointer (some (a 2))), .iface 153 (.pointer (some (a 3))), .iface 153 (.pointer (some (a 4))), .iface 153 (.pointer (some (a 5))), .iface 153 (.pointer (some (a 6))), .iface 153 (.pointer (some (a 7))), .iface 153 (.pointer (some (a 8))), .iface 153 (.pointer (some (a 9))), .iface 153 (.pointer (some (a 10))), .iface 153 (.pointer (some (a 11))), .iface 153 (.pointer (some (a 12)))] 29)) := hb0.alloc hb0.size _
  have S2 := S.below hb2
  have hc := thirteen a w1
  obtain ⟨cp, tp, hp⟩ := hrow
  have hp2 : (w1.alloc (.cells #[.iface 153 (.pointer (some (a 0))), .iface 153 (.pointer (some (a 1))), .iface 153 (.pointer (some (a 2))), .iface 153 (.pointer (some (a 3))), .iface 153 (.pointer (some (a 4))), .iface 153 (.pointer (some (a 5))), .iface 153 (.pointer (some (a 6))), .iface 153 (.pointer (some (a 7))), .iface 153 (.pointer (some (a 8))), .iface 153 (.pointer (some (a 9))), .iface 153 (.pointer (some (a 10))), .iface 153 (.pointer (some (a 11))), .iface 153 (.pointer (some (a 12)))] 29)).heap[p.block]? = some (.cells cp tp (0, 0)) := by rw [hb2.block _ (lt_of_row hp)]; exact hp
  generalize w1.alloc (.cells #[.iface 153 (.pointer (some (a 0))), .iface 153 (.pointer (some (a 1))), .iface 153 (.pointer (some (a 2))), .iface 153 (.pointer (some (a 3))), .iface 153 (.pointer (some (a 4))), .iface 153 (.pointer (some (a 5))), .iface 153 (.pointer (some (a 6))), .iface 153 (.pointer (some (a 7))), .iface 153 (.pointer (some (a 8))), .iface 153 (.pointer (some (a 9))), .iface 153 (.pointer (some (a 10))), .iface 153 (.pointer (some (a 11))), .iface 153 (.pointer (some (a 12)))] 29) = W2 at *
  clear S1 c0 c1 c2 c3 c4 c5 c6 c7 c8 c9 c10 c11 c12 hb0 S hp
  go_loop [3, 31] (fun v i => v = .int .i64 (-1) ∧ ∃ k : Nat, k ≤ n ∧ i = .int .i64 k) (fun _ i => 13 - (intOf i).toNat)
  case atStart => exact ⟨rfl, 0, Nat.zero_le _, rfl⟩
  case round =>
    obtain ⟨rfl, k, hk, rfl⟩ := hrel
    by_cases h13 : k < 13
    · have hck := hc k h13
      by_cases hkn : k < n
      · have hne := hlt k hkn
        obtain ⟨ck, tk, hrk⟩ := S2.row k h13
        have H : Hid (p ≠ a k) := hne
        clear hne hc hlt hat
        go_wp2_with fail
        refine (is_other p (a k) cp ck tp tk _ H.out hp2 hrk).mono ?_
        rintro e w' ⟨rfl, rfl⟩
        go_wp2_with fail
        go_round
        case rel => exact ⟨rfl, k + 1, by omega, by go_num⟩
        case measure => simp [intOf]; omega
      · have ekn : k = n := by omega
        subst ekn
        have ep := hat h13
        subst ep
        clear hc hlt hat
        go_wp2_with fail
        refine (is_same (a k) _).mono ?_
        rintro e w' ⟨rfl, rfl⟩
        go_wp2_with fail
        go_ret2
        exact ⟨rfl, hb2⟩
    · clear hc hlt hat
      go_wp2_with fail
      go_ret2
      exact ⟨rfl, hb2⟩

set_option maxHeartbeats 1000000 in
theorem code_fault (a : Nat → Addr) (pb po : Nat) (m : Int) (n : Nat) (w : World) (S : Sents a w) (hn : n < 13) (h0 : w.cell? ⟨pb, po, none⟩ = some (.int .i64 m)) (h1 : w.cell? ⟨pb, po + 1, none⟩ = some (.iface 153 (.pointer (some (a n))))) :
    Calls Tryd.prog 31 #[.iface 79 (.pointer (some ⟨pb, po, none⟩))] w fun e w' => e = .returned (.tuple #[.int .i64 ((n : Int) + 1), .int .i64 m]) ∧ Below w.heap.size w w' := by
  have hg : (w.alloc (.cells #[.pointer none] 79)).cell? ⟨13, 0, none⟩ = some (.iface 125 (.agg #[.pointer (some ⟨17, 29, none⟩)])) := by
    rw [World.cell?_alloc_lt _ _ _ (lt_of_cell S.et)]; exact S.et
  have hpl : pb < w.heap.size := lt_of_cell h0
  go_enter Tryd.func31, Tryd.ntmps31
  go_wp2_with fail
  refine (as_fault' ⟨pb, po, none⟩ ⟨w.heap.size, 0, none⟩ (.pointer none) _ hg (by simp) (by simp)).mono ?_
  rintro e wx ⟨rfl, w0, hb, rfl⟩
  have hsz : w.heap.size < w0.heap.size := by have := hb.size; simp at this; omega
  have hc0 : w0.cell? ⟨w.heap.size, 0, none⟩ = some (.pointer none) := by rw [hb.cell (by simp)]; simp
  have hcf : (w0.setCell ⟨w.heap.size, 0, none⟩ (.pointer (some ⟨pb, po, none⟩))).cell? ⟨w.heap.size, 0, none⟩ = some (.pointer (some ⟨pb, po, none⟩)) := World.cell?_setCell_same _ _ _ hc0
  have hb0 : Below w.heap.size w (w0.setCell ⟨w.heap.size, 0, none⟩ (.pointer (some ⟨pb, po, none⟩))) := (((Below.refl _ _).alloc (Nat.le_refl _) _).trans (hb.mono (by simp))).setCell (Nat.le_refl _) _
  generalize w0.setCell ⟨w.heap.size, 0, none⟩ (.pointer (some ⟨pb, po, none⟩)) = w1 at *
  have S1 := S.below hb0
  have g0 : w1.cell? ⟨pb, po, none⟩ = some (.int .i64 m) := by rw [hb0.cell hpl]; exact h0
  have c0 := S1.c0
  have c1 := S1.c1
  have c2 := S1.c2
  have c3 := S1.c3
  have c4 := S1.c4
  have c5 := S1.c5
  have c6 := S1.c6
  have c7 := S1.c7
  have c8 := S1.c8
  have c9 := S1.c9
  have c10 := S1.c10
  have c11 := S1.c11
  have c12 := S1.c12
  clear hg hb hc0
  go_wp2_with fail
  have hb2 : Below w.heap.size w (w1.alloc (.cells #[.iface 153 (.pointer (some (a 0))), .iface 153 (.pointer (some (a 1))), .iface 153 (.pointer (some (a 2))), .iface 153 (.pointer (some (a 3))), .iface 153 (.pointer (some (a 4))), .iface 153 (.pointer (some (a 5))), .iface 153 (.pointer (some (a 6))), .iface 153 (.pointer (some (a 7))), .iface 153 (.pointer (some (a 8))), .iface 153 (.pointer (some (a 9))), .iface 153 (.pointer (some (a 10))), .iface 153 (.pointer (some (a 11))), .iface 153 (.pointer (some (a 12)))] 29)) := hb0.alloc hb0.size _
  have S2 := S.below hb2
  have hc := thirteen a w1
  have g1 : (w1.alloc (.cells #[.iface 153 (.pointer (some (a 0))), .iface 153 (.pointer (some (a 1))), .iface 153 (.pointer (some (a 2))), .iface 153 (.pointer (some (a 3))), .iface 153 (.pointer (some (a 4))), .iface 153 (.pointer (some (a 5))), .iface 153 (.pointer (some (a 6))), .iface 153 (.pointer (some (a 7))), .iface 153 (.pointer (some (a 8))), .iface 153 (.pointer (some (a 9))), .iface 153 (.pointer (some (a 10))), .iface 153 (.pointer (some (a 11))), .iface 153 (.pointer (some (a 12)))] 29)).cell? ⟨pb, po + 1, none⟩ = some (.iface 153 (.pointer (some (a n)))) := by rw [hb2.cell hpl]; exact h1
  obtain ⟨cp, tp, hp⟩ := S2.row n hn
  generalize w1.alloc (.cells #[.iface 153 (.pointer (some (a 0))), .iface 153 (.pointer (some (a 1))), .iface 153 (.pointer (some (a 2))), .iface 153 (.pointer (some (a 3))), .iface 153 (.pointer (some (a 4))), .iface 153 (.pointer (some (a 5))), .iface 153 (.pointer (some (a 6))), .iface 153 (.pointer (some (a 7))), .iface 153 (.pointer (some (a 8))), .iface 153 (.pointer (some (a 9))), .iface 153 (.pointer (some (a 10))), .iface 153 (.pointer (some (a 11))), .iface 153 (.pointer (some (a 12)))] 29) = W2 at *
  clear S1 c0 c1 c2 c3 c4 c5 c6 c7 c8 c9 c10 c11 c12 hb0 S g0
  go_loop [3, 31] (fun v i => v = .int .i64 m ∧ ∃ k : Nat, k ≤ n ∧ i = .int .i64 k) (fun _ i => 13 - (intOf i).toNat)
  case atStart => exact ⟨rfl, 0, Nat.zero_le _, rfl⟩
  case round =>
    obtain ⟨rfl, k, hk, rfl⟩ := hrel
    have h13 : k < 13 := by omega
    have hck := hc k h13
    by_cases hkn : k < n
    · obtain ⟨ck, tk, hrk⟩ := S2.row k h13
      have H : Hid (a n ≠ a k) := S2.ne n k hn h13 (by omega)
      clear hc
      go_wp2_with fail
      refine (is_fault_other pb po (a k) (a n) cp ck tp tk _ g1 H.out hp hrk).mono ?_
      rintro e w' ⟨rfl, rfl⟩
      go_wp2_with fail
      go_round
      case rel => exact ⟨rfl, k + 1, by omega, by go_num⟩
      case measure => simp [intOf]; omega
    · have ekn : k = n := by omega
      subst ekn
      clear hc
      go_wp2_with fail
      refine (is_fault_same pb po (a k) _ g1).mono ?_
      rintro e w' ⟨rfl, rfl⟩
      go_wp2_with fail
      go_ret2
      exact ⟨rfl, hb2⟩

theorem coded_nil (c : Int) (w : World) : Calls Tryd.prog 15 #[.nilIface, .int .i64 c] w fun e w' => e = .returned (.bool (decide (c = 0))) ∧ w' = w := by
  by_cases hc : c = 0
  · subst hc
    go_enter Tryd.func15, Tryd.ntmps15
    go_wp2_with (go_at_call 31; refine (code_nil _).mono ?_; rintro e w' ⟨rfl, rfl⟩)
    go_ret
    exact ⟨rfl, rfl⟩
  · have h : ((0 : Int) == c) = false := by simp; omega
    have hd : Hid (decide (c = 0) = false) := show _ = _ by simp [hc]
    clear hc
    go_enter Tryd.func15, Tryd.ntmps15
    go_wp2_with (go_at_call 31; refine (code_nil _).mono ?_; rintro e w' ⟨rfl, rfl⟩)
    go_ret
    exact ⟨by rw [hd.out]; rfl, rfl⟩
theorem coded_sent (a : Nat → Addr) (n : Nat) (c : Int) (w : World) (S : Sents a w) (hn : n < 13) :
    Calls Tryd.prog 15 #[.iface 153 (.pointer (some (a n))), .int .i64 c] w fun e w' => e = .returned (.bool (decide (c = (n : Int) + 1))) ∧ Below w.heap.size w w' := by
  have hcode := code_plain a (a n) n w S (Nat.le_of_lt hn) (fun k hk => S.ne n k hn (by omega) (by omega)) (fun _ => rfl) (S.row n hn)
  rw [if_pos hn] at hcode
  have HC : Hid _ := hcode
  clear hcode
  by_cases hc : c = (n : Int) + 1
  · subst hc
    go_enter Tryd.func15, Tryd.ntmps15
    go_wp2_with fail
    refine Calls.mono HC.out ?_
    rintro e w' ⟨rfl, hb⟩
    go_wp2
    go_ret
    exact ⟨by simp, hb⟩
  · have h : (((n : Int) + 1) == c) = false := by simp; omega
    have hd : Hid (decide (c = (n : Int) + 1) = false) := show _ = _ by simp [hc]
    clear hc
    go_enter Tryd.func15, Tryd.ntmps15
    go_wp2_with fail
    refine Calls.mono HC.out ?_
    rintro e w' ⟨rfl, hb⟩
    go_wp2
    go_ret
    exact ⟨by rw [hd.out]; rfl, hb⟩
end Go.Proofs.YtilkjafggfdjeabDoor
