/-
  The contracts of plain.Code: at nil, at an error of errors.New's make (the number of the sentinel that it is, or -1), at an *api.Fault that holds a sentinel (its number, and its place).
  The contract of package disk's Rot.
  A table whose files rot and are mended: what each call comes to.
  Conditions: those that each states.
-/
import Derived.Test.YtcejpeohkgchdabGreatDoorM16
import Derived.Test.YtcejpeohkgchdabGreatDoorM17
import Derived.Outline
import Derived.Test.YtcejpeohkgchdabGreatDoorM04
import Derived.Test.YtcejpeohkgchdabGreatDoorM15
namespace Go.Proofs.YtcejpeohkgchdabGreatDoor
open Go.RowKit Go.Extern.Stop Go.Stop Go.Extern

/-- The variables of the thirteen sentinels, in their order. -/
def gvs : List Nat := [6, 0, 4, 7, 8, 2, 5, 1, 9, 10, 3, 11, 12]
def gv (i : Nat) : Nat := gvs.getD i 0
/-- The thirteen sentinels lie in their variables, each behind a pointer of its own; errors.errorType holds the handle of the type error. -/
structure Sents (a : Nat → Addr) (w : World) : Prop where
  cell : ∀ i, i < 13 → w.cell? ⟨gv i, 0, none⟩ = some (.iface 330 (.pointer (some (a i))))
  row : ∀ i, i < 13 → ∃ ca ta, w.heap[(a i).block]? = some (.cells ca ta (0, 0))
  ne : ∀ i j, i < 13 → j < 13 → i ≠ j → a i ≠ a j
  et : w.cell? ⟨13, 0, none⟩ = some (.iface 261 (.agg #[.pointer (some ⟨20, 36, none⟩)]))

theorem Sents.c0 {a : Nat → Addr} {w : World} (S : Sents a w) : w.cell? ⟨6, 0, none⟩ = some (.iface 330 (.pointer (some (a 0)))) := S.cell 0 (by decide)
theorem Sents.c1 {a : Nat → Addr} {w : World} (S : Sents a w) : w.cell? ⟨0, 0, none⟩ = some (.iface 330 (.pointer (some (a 1)))) := S.cell 1 (by decide)
theorem Sents.c2 {a : Nat → Addr} {w : World} (S : Sents a w) : w.cell? ⟨4, 0, none⟩ = some (.iface 330 (.pointer (some (a 2)))) := S.cell 2 (by decide)
theorem Sents.c3 {a : Nat → Addr} {w : World} (S : Sents a w) : w.cell? ⟨7, 0, none⟩ = some (.iface 330 (.pointer (some (a 3)))) := S.cell 3 (by decide)
theorem Sents.c4 {a : Nat → Addr} {w : World} (S : Sents a w) : w.cell? ⟨8, 0, none⟩ = some (.iface 330 (.pointer (some (a 4)))) := S.cell 4 (by decide)
theorem Sents.c5 {a : Nat → Addr} {w : World} (S : Sents a w) : w.cell? ⟨2, 0, none⟩ = some (.iface 330 (.pointer (some (a 5)))) := S.cell 5 (by decide)
theorem Sents.c6 {a : Nat → Addr} {w : World} (S : Sents a w) : w.cell? ⟨5, 0, none⟩ = some (.iface 330 (.pointer (some (a 6)))) := S.cell 6 (by decide)
theorem Sents.c7 {a : Nat → Addr} {w : World} (S : Sents a w) : w.cell? ⟨1, 0, none⟩ = some (.iface 330 (.pointer (some (a 7)))) := S.cell 7 (by decide)
theorem Sents.c8 {a : Nat → Addr} {w : World} (S : Sents a w) : w.cell? ⟨9, 0, none⟩ = some (.iface 330 (.pointer (some (a 8)))) := S.cell 8 (by decide)
theorem Sents.c9 {a : Nat → Addr} {w : World} (S : Sents a w) : w.cell? ⟨10, 0, none⟩ = some (.iface 330 (.pointer (some (a 9)))) := S.cell 9 (by decide)
theorem Sents.c10 {a : Nat → Addr} {w : World} (S : Sents a w) : w.cell? ⟨3, 0, none⟩ = some (.iface 330 (.pointer (some (a 10)))) := S.cell 10 (by decide)
theorem Sents.c11 {a : Nat → Addr} {w : World} (S : Sents a w) : w.cell? ⟨11, 0, none⟩ = some (.iface 330 (.pointer (some (a 11)))) := S.cell 11 (by decide)
theorem Sents.c12 {a : Nat → Addr} {w : World} (S : Sents a w) : w.cell? ⟨12, 0, none⟩ = some (.iface 330 (.pointer (some (a 12)))) := S.cell 12 (by decide)
theorem Sents.below {a : Nat → Addr} {w w' : World} (S : Sents a w) (hb : Below w.heap.size w w') : Sents a w' where
  cell i hi := by rw [hb.cell (lt_of_cell (S.cell i hi))]; exact S.cell i hi
  row i hi := by
    obtain ⟨ca, ta, h⟩ := S.row i hi
    exact ⟨ca, ta, by rw [hb.block _ (lt_of_row h)]; exact h⟩
  ne := S.ne
  et := by rw [hb.cell (lt_of_cell S.et)]; exact S.et

theorem Sents.sen {a : Nat → Addr} {w : World} (S : Sents a w) : Sen a w where
  text := S.cell 0 (by decide)
  bound := S.cell 1 (by decide)
  shape := S.cell 2 (by decide)
  kind := S.cell 3 (by decide)
  name := S.cell 4 (by decide)
  full := S.cell 7 (by decide)
  deep := S.cell 8 (by decide)
  order := S.cell 9 (by decide)
theorem Sents.atB {a : Nat → Addr} {w : World} (S : Sents a w) : SentsB a w.heap.size w := S.sen.atB

theorem as_plain' (e t : Addr) (w : World) (hg : w.cell? ⟨13, 0, none⟩ = some (.iface 261 (.agg #[.pointer (some ⟨20, 36, none⟩)]))) :
    Calls Tryz.prog 91 #[.iface 330 (.pointer (some e)), .iface 180 (.pointer (some t))] w fun ev w' => ev = .returned (.bool false) ∧ Below w.heap.size w w' := by
  refine (as_plain e t w hg).mono ?_
  rintro ev w' ⟨rfl, rfl⟩
  exact ⟨rfl, by go_grown⟩
theorem as_fault' (e t : Addr) (old : Value) (w : World) (hg : w.cell? ⟨13, 0, none⟩ = some (.iface 261 (.agg #[.pointer (some ⟨20, 36, none⟩)]))) (ht0 : w.cell? t = some old) (hf0 : w.frozen? t = false) :
    Calls Tryz.prog 91 #[.iface 178 (.pointer (some e)), .iface 180 (.pointer (some t))] w fun ev w' => ev = .returned (.bool true) ∧ ∃ w1, Below w.heap.size w w1 ∧ w' = w1.setCell t (.pointer (some e)) := by
  refine (as_fault e t old w hg ht0 hf0).mono ?_
  rintro ev w' ⟨rfl, rfl⟩
  exact ⟨rfl, _, by go_grown, rfl⟩

theorem code_nil (w : World) : Calls Tryz.prog 43 #[.nilIface] w fun e w' => e = .returned (.tuple #[.int .i64 0, .int .i64 (-1)]) ∧ w' = w := by
  go_enter Tryz.func43, Tryz.ntmps43
  go_wp2
  go_ret2
  exact ⟨rfl, rfl⟩

theorem thirteen (a : Nat → Addr) (w1 : World) (k : Nat) (hk : k < 13) :
    (w1.alloc (.cells #[.iface 330 (.pointer (some (a 0))), .iface 330 (.pointer (some (a 1))), .iface 330 (.pointer (some (a 2))), .iface 330 (.pointer (some (a 3))), .iface 330 (.pointer (some (a 4))), .iface 330 (.pointer (some (a 5))), .iface 330 (.pointer (some (a 6))), .iface 330 (.pointer (some (a 7))), .iface 330 (.pointer (some (a 8))), .iface 330 (.pointer (some (a 9))), .iface 330 (.pointer (some (a 10))), .iface 330 (.pointer (some (a 11))), .iface 330 (.pointer (some (a 12)))] 36)).cell? ⟨w1.heap.size, k, none⟩ = some (.iface 330 (.pointer (some (a k)))) := by
  rw [World.cell?_alloc_at _ _ _ _ rfl]
  have h : k = 0 ∨ k = 1 ∨ k = 2 ∨ k = 3 ∨ k = 4 ∨ k = 5 ∨ k = 6 ∨ k = 7 ∨ k = 8 ∨ k = 9 ∨ k = 10 ∨ k = 11 ∨ k = 12 := by omega
  rcases h with h | h | h | h | h | h | h | h | h | h | h | h | h <;> subst h <;> rfl

set_option maxHeartbeats 1000000 in
theorem code_plain (a : Nat → Addr) (p : Addr) (n : Nat) (w : World) (S : Sents a w) (hn : n ≤ 13) (hlt : ∀ k, k < n → p ≠ a k) (hat : n < 13 → p = a n) (hrow : ∃ ca ta, w.heap[p.block]? = some (.cells ca ta (0, 0))) :
    Calls Tryz.prog 43 #[.iface 330 (.pointer (some p))] w fun e w' => e = .returned (.tuple #[.int .i64 (if n < 13 then (n : Int) + 1 else -1), .int .i64 (-1)]) ∧ Below w.heap.size w w' := by
  have hg : (w.alloc (.cells #[.pointer none] 178)).cell? ⟨13, 0, none⟩ = some (.iface 261 (.agg #[.pointer (some ⟨20, 36, none⟩)])) := by
    rw [World.cell?_alloc_lt _ _ _ (lt_of_cell S.et)]; exact S.et
  go_enter Tryz.func43, Tryz.ntmps43
  go_wp2_with fail
  refine (as_plain' p ⟨w.heap.size, 0, none⟩ _ hg).mono ?_
  rintro e w1 ⟨rfl, hb⟩
  have hb0 : Below w.heap.size w w1 := ((Below.refl _ _).alloc (Nat.le_refl _) _).trans (hb.mono (by simp))
  have S1 := S.below hb0
  have c0 := S1.c0
  have c1 := S1.c1
  have c2 := S1.c2
  have c3 := S1.c3
  have c4 := S1.c4
  have c5 := S1.c5
  have c6 := S1.c6
  have c7 := S1.c7
  have c8 := S1.c8
  have c9 := S1.c9
  have c10 := S1.c10
  have c11 := S1.c11
  have c12 := S1.c12
  clear hg hb
  go_wp2_with fail
  have hb2 : Below w.heap.size w (w1.alloc (.cells #[.iface 330 (.pointer (some (a 0))), .iface 330 (.pointer (some (a 1))), .iface 330 (.pointer (some (a 2))), .iface 330 (.pointer (some (a 3))), .iface 330 (.pointer (some (a 4))), .iface 330 (.pointer (some (a 5))), .iface 330 (.pointer (some (a 6))), .iface 330 (.pointer (some (a 7))), .iface 330 (.pointer (some (a 8))), .iface 330 (.pointer (some (a 9))), .iface 330 (.pointer (some (a 10))), .iface 330 (.pointer (some (a 11))), .iface 330 (.pointer (some (a 12)))] 36)) := hb0.alloc hb0.size _
  have S2 := S.below hb2
  have hc := thirteen a w1
  obtain ⟨cp, tp, hp⟩ := hrow
  have hp2 : (w1.alloc (.cells #[.iface 330 (.pointer (some (a 0))), .iface 330 (.pointer (some (a 1))), .iface 330 (.pointer (some (a 2))), .iface 330 (.pointer (some (a 3))), .iface 330 (.pointer (some (a 4))), .iface 330 (.pointer (some (a 5))), .iface 330 (.pointer (some (a 6))), .iface 330 (.pointer (some (a 7))), .iface 330 (.pointer (some (a 8))), .iface 330 (.pointer (some (a 9))), .iface 330 (.pointer (some (a 10))), .iface 330 (.pointer (some (a 11))), .iface 330 (.pointer (some (a 12)))] 36)).heap[p.block]? = some (.cells cp tp (0, 0)) := by rw [hb2.block _ (lt_of_row hp)]; exact hp
  generalize w1.alloc (.cells #[.iface 330 (.pointer (some (a 0))), .iface 330 (.pointer (some (a 1))), .iface 330 (.pointer (some (a 2))), .iface 330 (.pointer (some (a 3))), .iface 330 (.pointer (some (a 4))), .iface 330 (.pointer (some (a 5))), .iface 330 (.pointer (some (a 6))), .iface 330 (.pointer (some (a 7))), .iface 330 (.pointer (some (a 8))), .iface 330 (.pointer (some (a 9))), .iface 330 (.pointer (some (a 10))), .iface 330 (.pointer (some (a 11))), .iface 330 (.pointer (some (a 12)))] 36) = W2 at *
  clear S1 c0 c1 c2 c3 c4 c5 c6 c7 c8 c9 c10 c11 c12 hb0 S hp
  go_loop [3, 31] (fun v i => v = .int .i64 (-1) ∧ ∃ k : Nat, k ≤ n ∧ i = .int .i64 k) (fun _ i => 13 - (intOf i).toNat)
  case atStart => exact ⟨rfl, 0, Nat.zero_le _, rfl⟩
  case round =>
    obtain ⟨rfl, k, hk, rfl⟩ := hrel
    by_cases h13 : k < 13
    · have hck := hc k h13
      by_cases hkn : k < n
      · have hne := hlt k hkn
        obtain ⟨ck, tk, hrk⟩ := S2.row k h13
        have H : Hid (p ≠ a k) := hne
        clear hne hc hlt hat
        go_wp2_with fail
        refine (is_other p (a k) cp ck tp tk _ H.out hp2 hrk).mono ?_
        rintro e w' ⟨rfl, rfl⟩
        go_wp2_with fail
        go_round
        case rel => exact ⟨rfl, k + 1, by omega, by go_num⟩
        case measure => simp [intOf]; omega
      · have ekn : k = n := by omega
        subst ekn
        have ep := hat h13
        subst ep
        clear hc hlt hat
        go_wp2_with fail
        refine (is_same (a k) _).mono ?_
        rintro e w' ⟨rfl, rfl⟩
        go_wp2_with fail
        go_ret2
        exact ⟨rfl, hb2⟩
    · clear hc hlt hat
      go_wp2_with fail
      go_ret2
      exact ⟨rfl, hb2⟩

set_option maxHeartbeats 1000000 in
theorem code_fault (a : Nat → Addr) (pb po : Nat) (m : Int) (n : Nat) (w : World) (S : Sents a w) (hn : n < 13) (h0 : w.cell? ⟨pb, po, none⟩ = some (.int .i64 m)) (h1 : w.cell? ⟨pb, po + 1, none⟩ = some (.iface 330 (.pointer (some (a n))))) :
    Calls Tryz.prog 43 #[.iface 178 (.pointer (some ⟨pb, po, none⟩))] w fun e w' => e = .returned (.tuple #[.int .i64 ((n : Int) + 1), .int .i64 m]) ∧ Below w.heap.size w w' := by
  have hg : (w.alloc (.cells #[.pointer none] 178)).cell? ⟨13, 0, none⟩ = some (.iface 261 (.agg #[.pointer (some ⟨20, 36, none⟩)])) := by
    rw [World.cell?_alloc_lt _ _ _ (lt_of_cell S.et)]; exact S.et
  have hpl : pb < w.heap.size := lt_of_cell h0
  go_enter Tryz.func43, Tryz.ntmps43
  go_wp2_with fail
  refine (as_fault' ⟨pb, po, none⟩ ⟨w.heap.size, 0, none⟩ (.pointer none) _ hg (by simp) (by simp)).mono ?_
  rintro e wx ⟨rfl, w0, hb, rfl⟩
  have hsz : w.heap.size < w0.heap.size := by have := hb.size; simp at this; omega
  have hc0 : w0.cell? ⟨w.heap.size, 0, none⟩ = some (.pointer none) := by rw [hb.cell (by simp)]; simp
  have hcf : (w0.setCell ⟨w.heap.size, 0, none⟩ (.pointer (some ⟨pb, po, none⟩))).cell? ⟨w.heap.size, 0, none⟩ = some (.pointer (some ⟨pb, po, none⟩)) := World.cell?_setCell_same _ _ _ hc0
  have hb0 : Below w.heap.size w (w0.setCell ⟨w.heap.size, 0, none⟩ (.pointer (some ⟨pb, po, none⟩))) := (((Below.refl _ _).alloc (Nat.le_refl _) _).trans (hb.mono (by simp))).setCell (Nat.le_refl _) _
  generalize w0.setCell ⟨w.heap.size, 0, none⟩ (.pointer (some ⟨pb, po, none⟩)) = w1 at *
  have S1 := S.below hb0
  have g0 : w1.cell? ⟨pb, po, none⟩ = some (.int .i64 m) := by rw [hb0.cell hpl]; exact h0
  have c0 := S1.c0
  have c1 := S1.c1
  have c2 := S1.c2
  have c3 := S1.c3
  have c4 := S1.c4
  have c5 := S1.c5
  have c6 := S1.c6
  have c7 := S1.c7
  have c8 := S1.c8
  have c9 := S1.c9
  have c10 := S1.c10
  have c11 := S1.c11
  have c12 := S1.c12
  clear hg hb hc0
  go_wp2_with fail
  have hb2 : Below w.heap.size w (w1.alloc (.cells #[.iface 330 (.pointer (some (a 0))), .iface 330 (.pointer (some (a 1))), .iface 330 (.pointer (some (a 2))), .iface 330 (.pointer (some (a 3))), .iface 330 (.pointer (some (a 4))), .iface 330 (.pointer (some (a 5))), .iface 330 (.pointer (some (a 6))), .iface 330 (.pointer (some (a 7))), .iface 330 (.pointer (some (a 8))), .iface 330 (.pointer (some (a 9))), .iface 330 (.pointer (some (a 10))), .iface 330 (.pointer (some (a 11))), .iface 330 (.pointer (some (a 12)))] 36)) := hb0.alloc hb0.size _
  have S2 := S.below hb2
  have hc := thirteen a w1
  have g1 : (w1.alloc (.cells #[.iface 330 (.pointer (some (a 0))), .iface 330 (.pointer (some (a 1))), .iface 330 (.pointer (some (a 2))), .iface 330 (.pointer (some (a 3))), .iface 330 (.pointer (some (a 4))), .iface 330 (.pointer (some (a 5))), .iface 330 (.pointer (some (a 6))), .iface 330 (.pointer (some (a 7))), .iface 330 (.pointer (some (a 8))), .iface 330 (.pointer (some (a 9))), .iface 330 (.pointer (some (a 10))), .iface 330 (.pointer (some (a 11))), .iface 330 (.pointer (some (a 12)))] 36)).cell? ⟨pb, po + 1, none⟩ = some (.iface 330 (.pointer (some (a n)))) := by rw [hb2.cell hpl]; exact h1
  obtain ⟨cp, tp, hp⟩ := S2.row n hn
  generalize w1.alloc (.cells #[.iface 330 (.pointer (some (a 0))), .iface 330 (.pointer (some (a 1))), .iface 330 (.pointer (some (a 2))), .iface 330 (.pointer (some (a 3))), .iface 330 (.pointer (some (a 4))), .iface 330 (.pointer (some (a 5))), .iface 330 (.pointer (some (a 6))), .iface 330 (.pointer (some (a 7))), .iface 330 (.pointer (some (a 8))), .iface 330 (.pointer (some (a 9))), .iface 330 (.pointer (some (a 10))), .iface 330 (.pointer (some (a 11))), .iface 330 (.pointer (some (a 12)))] 36) = W2 at *
  clear S1 c0 c1 c2 c3 c4 c5 c6 c7 c8 c9 c10 c11 c12 hb0 S g0
  go_loop [3, 31] (fun v i => v = .int .i64 m ∧ ∃ k : Nat, k ≤ n ∧ i = .int .i64 k) (fun _ i => 13 - (intOf i).toNat)
  case atStart => exact ⟨rfl, 0, Nat.zero_le _, rfl⟩
  case round =>
    obtain ⟨rfl, k, hk, rfl⟩ := hrel
    have h13 : k < 13 := by omega
    have hck := hc k h13
    by_cases hkn : k < n
    · obtain ⟨ck, tk, hrk⟩ := S2.row k h13
      have H : Hid (a n ≠ a k) := S2.ne n k hn h13 (by omega)
      clear hc
      go_wp2_with fail
      refine (is_fault_other pb po (a k) (a n) cp ck tp tk _ g1 H.out hp hrk).mono ?_
      rintro e w' ⟨rfl, rfl⟩
      go_wp2_with fail
      go_round
      case rel => exact ⟨rfl, k + 1, by omega, by go_num⟩
      case measure => simp [intOf]; omega
    · have ekn : k = n := by omega
      subst ekn
      clear hc
      go_wp2_with fail
      refine (is_fault_same pb po (a k) _ g1).mono ?_
      rintro e w' ⟨rfl, rfl⟩
      go_wp2_with fail
      go_ret2
      exact ⟨rfl, hb2⟩

theorem coded_nil (c : Int) (w : World) : Calls Tryz.prog 12 #[.nilIface, .int .i64 c] w fun e w' => e = .returned (.bool (decide (c = 0))) ∧ w' = w := by
  by_cases hc : c = 0
  · subst hc
    go_enter Tryz.func12, Tryz.ntmps12
    go_wp2_with (go_at_call 43; refine (code_nil _).mono ?_; rintro e w' ⟨rfl, rfl⟩)
    go_ret
    exact ⟨rfl, rfl⟩
  · have h : ((0 : Int) == c) = false := by simp; omega
    have hd : Hid (decide (c = 0) = false) := show _ = _ by simp [hc]
    clear hc
    go_enter Tryz.func12, Tryz.ntmps12
    go_wp2_with (go_at_call 43; refine (code_nil _).mono ?_; rintro e w' ⟨rfl, rfl⟩)
    go_ret
    exact ⟨by rw [hd.out]; rfl, rfl⟩
theorem coded_sent (a : Nat → Addr) (n : Nat) (c : Int) (w : World) (S : Sents a w) (hn : n < 13) :
    Calls Tryz.prog 12 #[.iface 330 (.pointer (some (a n))), .int .i64 c] w fun e w' => e = .returned (.bool (decide (c = (n : Int) + 1))) ∧ Below w.heap.size w w' := by
  have hcode := code_plain a (a n) n w S (Nat.le_of_lt hn) (fun k hk => S.ne n k hn (by omega) (by omega)) (fun _ => rfl) (S.row n hn)
  rw [if_pos hn] at hcode
  have HC : Hid _ := hcode
  clear hcode
  by_cases hc : c = (n : Int) + 1
  · subst hc
    go_enter Tryz.func12, Tryz.ntmps12
    go_wp2_with fail
    refine Calls.mono HC.out ?_
    rintro e w' ⟨rfl, hb⟩
    go_wp2
    go_ret
    exact ⟨by simp, hb⟩
  · have h : (((n : Int) + 1) == c) = false := by simp; omega
    have hd : Hid (decide (c = (n : Int) + 1) = false) := show _ = _ by simp [hc]
    clear hc
    go_enter Tryz.func12, Tryz.ntmps12
    go_wp2_with fail
    refine Calls.mono HC.out ?_
    rintro e w' ⟨rfl, hb⟩
    go_wp2
    go_ret
    exact ⟨by rw [hd.out]; rfl, hb⟩
end Go.Proofs.YtcejpeohkgchdabGreatDoor
namespace Go.Proofs.YtcejpeohkgchdabGreatDoor
open Go.RowKit

theorem DkBut.of_heap {bb : Nat} {va : Option Addr} {w w1 w' : World} (h : DkBut bb va w w1) (e : w'.heap = w1.heap) (e1 : w'.os = w1.os) (e2 : w'.tape = w1.tape) (e3 : w'.output = w1.output) : DkBut bb va w w' :=
  ⟨e1.trans h.os, e2.trans h.tape, e3.trans h.output, by rw [e]; exact h.size, fun k a b c d => by rw [e]; exact h.block k a b c d⟩
theorem set_same {β : Type} {l : List β} {j : Nat} {x : β} (h : l[j]? = some x) : l.set j x = l := by
  apply List.ext_getElem?
  intro i
  rw [List.getElem?_set]
  by_cases e : j = i
  · subst e
    rw [if_pos rfl, h, if_pos (List.getElem?_eq_some_iff.1 h).1]
  · rw [if_neg e]
/-- A write with a bit turned, if it is of that block. -/
def rotX (k bit : Nat) (x : Nat × List UInt8) : Nat × List UInt8 := if x.1 = k then (x.1, turnL x.2 bit) else x
def rotJ (wt : List (Nat × List UInt8)) (k bit j : Nat) : List (Nat × List UInt8) := (wt.take j).map (rotX k bit) ++ wt.drop j
theorem rotJ_len (wt : List (Nat × List UInt8)) (k bit j : Nat) : (rotJ wt k bit j).length = wt.length := by simp [rotJ]; omega
theorem rotJ_at {wt : List (Nat × List UInt8)} {k bit j : Nat} {x : Nat × List UInt8} (h : wt[j]? = some x) : (rotJ wt k bit j)[j]? = some x := by
  have hj := (List.getElem?_eq_some_iff.1 h).1
  unfold rotJ
  rw [List.getElem?_append_right (by simp; omega)]
  simp [Nat.min_eq_left (Nat.le_of_lt hj), h]
theorem rotJ_next {wt : List (Nat × List UInt8)} {k bit j : Nat} {x : Nat × List UInt8} (h : wt[j]? = some x) : rotJ wt k bit (j + 1) = (rotJ wt k bit j).set j (rotX k bit x) := by
  obtain ⟨hj, e⟩ := List.getElem?_eq_some_iff.1 h
  unfold rotJ
  rw [List.set_append_right _ _ (by simp; omega)]
  have hl : j - ((wt.take j).map (rotX k bit)).length = 0 := by simp; omega
  rw [hl, List.drop_eq_getElem_cons hj, List.set_cons_zero, List.take_succ_eq_append_getElem hj, e]
  simp

set_option maxRecDepth 100000 in
set_option maxHeartbeats 2000000 in
theorem rot_any {bb : Nat} {va : Option Addr} {vc : Nat} {bl : List (List UInt8)} {wt : List (Nat × List UInt8)} (k bit : Nat) (b : List UInt8) (w : World) (D : DkAt w bb va vc bl wt) (hk : bl[k]? = some b) (hbit : bit < 128) (hwl : wt.length ≤ 100000) :
    Calls Tryz.prog 21 #[.pointer (some ⟨bb + 1, 0, none⟩), .int .i64 (k : Int), .int .i64 (bit : Int)] w fun e w' => e = .returned .nilIface ∧ DkAt w' bb va vc (bl.set k (turnL b bit)) (wt.map (rotX k bit)) ∧ DkBut bb va w w' := by
  have HH := has_any (k : Int) w D
  have hkl := (List.getElem?_eq_some_iff.1 hk).1
  rw [hasB_yes (by omega) (by omega)] at HH
  obtain ⟨c1, c2, _⟩ := D.cells
  have HT := turn_any bb (k * 16) bit b (D.bl16 b (List.mem_of_getElem? hk)) hbit w (D.block_range hk) (D.block_there hk)
  have HD1 : Hid (DkAt (w.setCell ⟨bb, k * 16 + bit / 8, none⟩ (.int .u8 ((turnB (b[bit / 8]?.getD 0) bit).toNat : Int))) bb va vc (bl.set k (turnL b bit)) wt) := D.set_byte hk (by omega) _
  clear D
  go_enter Tryz.func21, Tryz.ntmps21
  go_wp2_with (first
    | (go_at_call 61; refine HH.mono ?_; rintro e w' ⟨rfl, hw⟩; rw [hw]; clear hw)
    | (go_at_call 62; refine HT.mono ?_; rintro e w1 ⟨rfl, hh1, ho1, ht1, hp1⟩; have HD2 : Hid (DkAt w1 bb va vc (bl.set k (turnL b bit)) wt) := HD1.out.ext fun _ _ => (by rw [hh1]); have HB2 : Hid (DkBut bb va w w1) := DkBut.of_heap (DkAt.but_byte _ _) hh1 ho1 ht1 hp1; clear hh1 ho1 ht1 hp1 HT c1 c2; have d1 := HD2.out.cells.1; have d2 := HD2.out.cells.2.1))
  clear d1 d2 HH
  go_loopw [35] (fun i wr => ∃ j : Nat, j ≤ wt.length ∧ i = .int .i64 j ∧ DkAt wr bb va vc (bl.set k (turnL b bit)) (rotJ wt k bit j) ∧ DkBut bb va w wr) (fun i _ => wt.length - (intOf i).toNat)
  case atStart => exact ⟨0, Nat.zero_le _, rfl, HD2.out, HB2.out⟩
  case round =>
    obtain ⟨j, hj, rfl, D, hbut⟩ := hrel
    have HDr : Hid _ := D
    have HBUT : Hid _ := hbut
    have d2 : wr.cell? ⟨bb + 1, 1, none⟩ = some (.slice va wt.length vc) := by rw [← rotJ_len wt k bit j]; exact D.cells.2.1
    by_cases hlt : j < wt.length
    · obtain ⟨x, HX⟩ : ∃ x, Hid (wt[j]? = some x) := ⟨_, List.getElem?_eq_getElem hlt⟩
      obtain ⟨ga, rfl, hr, hth⟩ := D.write_range (rotJ_at HX.out)
      have hx16 := D.wt16 x (List.mem_of_getElem? (rotJ_at HX.out))
      have cx : wr.cell? ⟨ga, j * 17, none⟩ = some (.int .i64 (x.1 : Int)) := hr 0 _ rfl
      clear D hbut
      by_cases hxk : x.1 = k
      · have hb : ((x.1 : Int) == (k : Int)) = true := by rw [hxk]; exact beq_self_eq_true _
        have HT := turn_any ga (j * 17 + 1) bit x.2 hx16.2 hbit wr (fun i v hi => by
          have := hr (i + 1) v (by simpa [wc] using hi)
          rw [Nat.add_assoc, Nat.add_comm 1 i]; exact this) (fun i hi => by
          have := hth (i + 1) (by omega)
          rw [Nat.add_assoc, Nat.add_comm 1 i]; exact this)
        have HD3 : Hid (DkAt (wr.setCell ⟨ga, j * 17 + 1 + bit / 8, none⟩ (.int .u8 ((turnB (x.2[bit / 8]?.getD 0) bit).toNat : Int))) bb (some ⟨ga, 0, none⟩) vc (bl.set k (turnL b bit)) (rotJ wt k bit (j + 1))) := by
          rw [rotJ_next HX.out, rotX, if_pos hxk]
          exact HDr.out.set_wait (rotJ_at HX.out) rfl (by omega) _
        have HXK : Hid (x.1 = k) := hxk
        clear hr hth hxk
        go_wp2_with (go_at_call 62; refine HT.mono ?_; rintro e w3 ⟨rfl, hh1, ho1, ht1, hp1⟩; have HD4 : Hid (DkAt w3 bb (some ⟨ga, 0, none⟩) vc (bl.set k (turnL b bit)) (rotJ wt k bit (j + 1))) := HD3.out.ext fun _ _ => (by rw [hh1]); have HB4 : Hid (DkBut bb (some ⟨ga, 0, none⟩) w w3) := HBUT.out.trans (DkBut.of_heap (DkAt.but_wait rfl _ _) hh1 ho1 ht1 hp1); clear hh1 ho1 ht1 hp1 HT)
        exact ⟨⟨j + 1, by omega, by simp, HD4.out, HB4.out⟩, by simp [intOf]; omega⟩
      · have hb : ((x.1 : Int) == (k : Int)) = false := beq_eq_false_iff_ne.2 (by omega)
        have e : Hid (rotJ wt k bit (j + 1) = rotJ wt k bit j) := by
          show _ = _
          rw [rotJ_next HX.out, rotX, if_neg hxk]
          exact set_same (rotJ_at HX.out)
        clear hr hth
        go_wp2_with fail
        exact ⟨⟨j + 1, by omega, by simp, by rw [e.out]; exact HDr.out, HBUT.out⟩, by simp [intOf]; omega⟩
    · obtain rfl : j = wt.length := by omega
      clear D hbut
      go_wp2_with fail
      go_ret
      refine ⟨rfl, ?_, HBUT.out⟩
      have e : rotJ wt k bit wt.length = wt.map (rotX k bit) := by simp [rotJ]
      rw [← e]; exact HDr.out
set_option maxRecDepth 100000 in
set_option maxHeartbeats 2000000 in
theorem rot_not {bb : Nat} {va : Option Addr} {vc : Nat} {bl : List (List UInt8)} {wt : List (Nat × List UInt8)} (k bit : Int) (er : Value) (w : World) (D : DkAt w bb va vc bl wt) (hk : ¬ (hasB bl.length k = true ∧ 0 ≤ bit ∧ bit < 128)) (hE : w.cell? ⟨0, 0, none⟩ = some er) :
    Calls Tryz.prog 21 #[.pointer (some ⟨bb + 1, 0, none⟩), .int .i64 k, .int .i64 bit] w fun e w' => e = .returned er ∧ w' = w := by
  have HH := has_any k w D
  clear D
  cases hh : hasB bl.length k with
  | false =>
    rw [hh] at HH
    clear hk
    go_enter Tryz.func21, Tryz.ntmps21
    go_wp2_with (go_at_call 61; refine HH.mono ?_; rintro e w' ⟨rfl, hw⟩; rw [hw]; clear hw)
    go_ret
    exact ⟨rfl, rfl⟩
  | true =>
    rw [hh] at HH
    by_cases h0 : bit < 0
    · clear hk
      go_enter Tryz.func21, Tryz.ntmps21
      go_wp2_with (go_at_call 61; refine HH.mono ?_; rintro e w' ⟨rfl, hw⟩; rw [hw]; clear hw)
      go_ret
      exact ⟨rfl, rfl⟩
    · have h1 : ¬ bit < 128 := fun h => hk ⟨hh, by omega, h⟩
      clear hk
      go_enter Tryz.func21, Tryz.ntmps21
      go_wp2_with (go_at_call 61; refine HH.mono ?_; rintro e w' ⟨rfl, hw⟩; rw [hw]; clear hw)
      go_ret
      exact ⟨rfl, rfl⟩
end Go.Proofs.YtcejpeohkgchdabGreatDoor
namespace Go.Proofs.YtcejpeohkgchdabGreatDoor
open Go.RowKit

/-- A table, and what was there ahead of it. -/
structure ScAt (w0 : World) (tb bb sp sb cap mb n N : Nat) (bl : List (List UInt8)) (u : List Bool) (tab : List (Option Ino)) (W : World) : Prop where
  T : TbAt W (fun _ => False) w0.heap.size tb bb sp sb cap mb n bl u tab
  S : SInv N bl u tab
  B : Below w0.heap.size w0 W
theorem okI_of {bl : List (List UInt8)} {x : Ino} {d : ByteArray} (h : readD bl x.blocks x.bytes = d) (hs : x.sum = crcR d) : okI bl x = true := by
  unfold okI
  rw [h, hs]; simp
section
variable {w0 W W' : World} {tb bb sp sb cap mb n N : Nat} {bl : List (List UInt8)} {u : List Bool} {tab : List (Option Ino)} {a : Nat → Addr}
theorem ScAt.below (Z : ScAt w0 tb bb sp sb cap mb n N bl u tab W) (h : Below W.heap.size W W') : ScAt w0 tb bb sp sb cap mb n N bl u tab W' := ⟨Z.T.below h, Z.S, Z.B.trans (h.mono Z.B.size)⟩
theorem ScAt.sents (Z : ScAt w0 tb bb sp sb cap mb n N bl u tab W) (E : Sents a w0) : Sents a W := E.below Z.B
theorem ScAt.own (Z : ScAt w0 tb bb sp sb cap mb n N bl u tab W) {k : Nat} {x : Ino} (hx : slotT tab k = some x) : (∀ b ∈ x.blocks, b < bl.length) ∧ x.blocks.length ≤ 1000 ∧ x.bytes ≤ 2000 := by
  obtain ⟨_, _, _, h4, h5⟩ := Z.S.own k x hx
  exact ⟨fun b hb => by rw [Z.S.lbl]; exact Z.S.lt hx b hb, by rw [h5]; unfold needN; omega, h4⟩
theorem sc_make (E : Sents a w0) (Z : ScAt w0 tb bb sp sb cap mb n N bl u tab W) (data : ByteArray) (ex : Bool) (bks : List Nat) (hd : data.size ≤ 2000) (hb : bks = (freeR u).take (needN data.size)) (hf : needN data.size ≤ (freeR u).length) (hn : n < 100000) :
    Calls Tryz.prog 18 #[.pointer (some ⟨tb, 0, none⟩), .string data, .bool ex] W fun e w' => e = .returned (.tuple #[.int .i64 (nextR tab : Int), .nilIface]) ∧ ScAt w0 tb bb sp sb cap mb (n + 1) N (writeR bl bks data) (markR u true bks) (putN tab ⟨data.size, 1, ex, bks, crcR data⟩) w' :=
  (im_make data ex bks hd hb hf hn (by rw [Z.S.lu, Z.S.lbl]) _ W Z.T (Z.sents E).c1 (lt_of_cell E.c1) Z.B.size (fun _ h => h.elim)).mono fun _ _ ⟨he, T, B⟩ => ⟨he, T, Z.S.make hd hb hf, B.below (Nat.le_refl _) Z.B.size Z.B⟩
theorem TbAt.rot {F : Nat → Prop} {T0 k bit : Nat} {b : List UInt8} (T : TbAt W F T0 tb bb sp sb cap mb n bl u tab) (D : DkAt W' bb none 0 (bl.set k (turnL b bit)) []) (ht : Turn dkTy W W') : TbAt W' F T0 tb bb sp sb cap mb n (bl.set k (turnL b bit)) u tab := by
  obtain ⟨f, Nd⟩ := T.nodes
  obtain ⟨l1, l2, l3, l4, l5⟩ := T.low
  exact ⟨ht _ _ T.box rfl, D, T.space.turn ht (fun _ _ => rfl) (fun _ _ => rfl), ⟨f, Nd.turn ht (fun _ _ => rfl) (fun _ _ => rfl) (fun _ _ => rfl)⟩, l1, l2, l3, by rw [List.length_set]; exact l4, l5⟩
theorem SInv.rot {k : Nat} {y : List UInt8} (S : SInv N bl u tab) : SInv N (bl.set k y) u tab := ⟨by rw [List.length_set]; exact S.lbl, S.lu, S.own, S.one, S.all⟩
theorem SInv.wrote {blocks : List Nat} {data : ByteArray} (S : SInv N bl u tab) : SInv N (writeR bl blocks data) u tab := ⟨by rw [writeR_len]; exact S.lbl, S.lu, S.own, S.one, S.all⟩
theorem sc_rot (Z : ScAt w0 tb bb sp sb cap mb n N bl u tab W) (k bit : Nat) (b : List UInt8) (hk : bl[k]? = some b) (hbit : bit < 128) :
    Calls Tryz.prog 21 #[.pointer (some ⟨bb + 1, 0, none⟩), .int .i64 (k : Int), .int .i64 (bit : Int)] W fun e w' => e = .returned .nilIface ∧ ScAt w0 tb bb sp sb cap mb n N (bl.set k (turnL b bit)) u tab w' ∧ Turn dkTy W w' :=
  (rot_any k bit b W Z.T.disk hk hbit (by simp)).mono fun _ w' ⟨he, D, h⟩ => by
    have ht := Turn.of_but Z.T.disk h
    refine ⟨he, ⟨Z.T.rot D ht, Z.S.rot, ?_⟩, ht⟩
    refine ⟨h.os.trans Z.B.os, h.tape.trans Z.B.tape, h.output.trans Z.B.output, Nat.le_trans Z.B.size h.size, fun j hj => ?_⟩
    have hl := Z.T.low.1
    rw [h.block j (Nat.lt_of_lt_of_le hj Z.B.size) (by omega) (by omega) (fun _ ha => by cases ha)]
    exact Z.B.block j hj
theorem sc_scan (E : Sents a w0) (Z : ScAt w0 tb bb sp sb cap mb n N bl u tab W) (l : List Nat) (hl : scanR bl tab = l) :
    Calls Tryz.prog 23 #[.pointer (some ⟨tb, 0, none⟩)] W fun e w' => ∃ ad vc, e = .returned (.slice ad l.length vc) ∧ IntsT w' (.slice ad l.length vc) (ints l) ∧ Below W.heap.size W w' ∧ ScAt w0 tb bb sp sb cap mb n N bl u tab w' :=
  (scan_any _ W Z.T Z.S (Z.sents E).c10).mono fun _ w' ⟨v, he, ho, hb⟩ => by
    rw [hl] at ho
    have iv := ho.t
    obtain ⟨ad, vc, e, _⟩ := id iv
    rw [ints_len] at e
    exact ⟨ad, vc, by rw [he, e], by rw [← e]; exact iv, hb, Z.below hb⟩
theorem sc_read (E : Sents a w0) (Z : ScAt w0 tb bb sp sb cap mb n N bl u tab W) (k : Nat) (x : Ino) (d : ByteArray) (hx : slotT tab k = some x) (hr : readD bl x.blocks x.bytes = d) (hs : x.sum = crcR d) :
    Calls Tryz.prog 24 #[.pointer (some ⟨tb, 0, none⟩), .int .i64 (k : Int)] W fun e w' => e = .returned (.tuple #[.string d, .nilIface]) ∧ ScAt w0 tb bb sp sb cap mb n N bl u tab w' := by
  obtain ⟨h1, h2, h3⟩ := Z.own hx
  have h := im_read k x _ hx (by rw [hr, hs]) W Z.T h1 h2 (by omega) (Z.sents E).c10
  rw [hr] at h
  exact h.mono fun _ _ ⟨he, hb⟩ => ⟨he, Z.below hb⟩
theorem sc_read_bad (E : Sents a w0) (Z : ScAt w0 tb bb sp sb cap mb n N bl u tab W) (k : Nat) (x : Ino) (hx : slotT tab k = some x) (hr : okI bl x = false) :
    Calls Tryz.prog 24 #[.pointer (some ⟨tb, 0, none⟩), .int .i64 (k : Int)] W fun e w' => e = .returned (.tuple #[.string { data := #[] }, .iface 330 (.pointer (some (a 10)))]) ∧ ScAt w0 tb bb sp sb cap mb n N bl u tab w' := by
  obtain ⟨h1, h2, h3⟩ := Z.own hx
  exact (im_read_bad k x _ hx (of_decide_eq_false hr) W Z.T h1 h2 (by omega) (Z.sents E).c10).mono fun _ _ ⟨he, hb⟩ => ⟨he, Z.below hb⟩
theorem sc_stat (Z : ScAt w0 tb bb sp sb cap mb n N bl u tab W) (k : Nat) (x : Ino) (hx : slotT tab k = some x) :
    Calls Tryz.prog 19 #[.pointer (some ⟨tb, 0, none⟩), .int .i64 (k : Int)] W fun e w' => ∃ ad vc, e = .returned (.tuple #[.agg #[.int .i64 (x.bytes : Int), .int .i64 (x.links : Int), .bool x.exec, .slice ad x.blocks.length vc, .int .u32 (x.sum : Int)], .bool true]) ∧ IntsT w' (.slice ad x.blocks.length vc) (ints x.blocks) ∧ ScAt w0 tb bb sp sb cap mb n N bl u tab w' :=
  (im_stat k x hx (by have := (Z.own hx).2.1; omega) W Z.T).mono fun _ w' ⟨v, he, iv, hb⟩ => by
    obtain ⟨ad, vc, e, _⟩ := id iv
    rw [ints_len] at e
    exact ⟨ad, vc, by rw [he, e], by rw [← e]; exact iv, Z.below hb⟩
theorem sc_mend (E : Sents a w0) (Z : ScAt w0 tb bb sp sb cap mb n N bl u tab W) (k : Nat) (x : Ino) (data : ByteArray) (hd : data.size ≤ 1000000) (hx : slotT tab k = some x) :
    Calls Tryz.prog 25 #[.pointer (some ⟨tb, 0, none⟩), .int .i64 (k : Int), .string data] W fun e w' =>
      (mendR bl x data = 0 ∧ e = .returned (.iface 330 (.pointer (some (a 10)))) ∧ ScAt w0 tb bb sp sb cap mb n N bl u tab w') ∨ (mendR bl x data = 1 ∧ e = .returned (.iface 330 (.pointer (some (a 6)))) ∧ ScAt w0 tb bb sp sb cap mb n N bl u tab w') ∨
      (mendR bl x data = 2 ∧ e = .returned .nilIface ∧ ScAt w0 tb bb sp sb cap mb n N (writeR bl x.blocks data) u tab w') :=
  (mend_any k x hx data hd _ _ _ W Z.T Z.S (Z.sents E).c10 (Z.sents E).c6 (Z.sents E).c1 (lt_of_cell E.c1)).mono fun _ w' h => by
    rcases h with ⟨h1, he, hb⟩ | ⟨h1, he, hb⟩ | ⟨h1, he, T, B⟩
    · exact .inl ⟨h1, he, Z.below hb⟩
    · exact .inr (.inl ⟨h1, he, Z.below hb⟩)
    · exact .inr (.inr ⟨h1, he, T, Z.S.wrote, B.below (Nat.le_refl _) Z.B.size Z.B⟩)
end
end Go.Proofs.YtcejpeohkgchdabGreatDoor
