/-
  The contracts of plain.Code: at nil, at an error of errors.New's make (the number of the sentinel that it is, or -1), at an *api.Fault that holds a sentinel (its number, and its place).
  The contracts of the functions of package tree that look at one node, or at one name.
  The contracts of the document's answer for one name and for two trees: stillroomref1's IsLetter, IsName and SameTree.
  Conditions: those that each states.
-/
import Derived.Test.YtpjjpmikhjlgnaaGreatDoorM01
import Derived.Test.YtpjjpmikhjlgnaaGreatDoorM02
import Derived.Outline
import Derived.Test.YtpjjpmikhjlgnaaGreatDoorProg
import Derived.WalkKit
import Derived.Handy
import Derived.WalkLawsBesides
import Derived.WalkSpells
import Derived.Deep.RegionHeld3
import Derived.Deep.DrawnRows
import Derived.WalkSmall
import Derived.BigQuiet
import Derived.Deep.QuietTactic
namespace Go.Proofs.YtpjjpmikhjlgnaaGreatDoor
open Go.RowKit Go.Extern.Stop Go.Stop Go.Extern

/-- The variables of the thirteen sentinels, in their order. -/
def gvs : List Nat := [3, 4, 2, 5, 0, 1, 6, 7, 8, 9, 10, 11, 12]
def gv (i : Nat) : Nat := gvs.getD i 0
/-- The thirteen sentinels lie in their variables, each behind a pointer of its own; errors.errorType holds the handle of the type error. -/
structure Sents (a : Nat → Addr) (w : World) : Prop where
  cell : ∀ i, i < 13 → w.cell? ⟨gv i, 0, none⟩ = some (.iface 181 (.pointer (some (a i))))
  row : ∀ i, i < 13 → ∃ ca ta, w.heap[(a i).block]? = some (.cells ca ta (0, 0))
  ne : ∀ i j, i < 13 → j < 13 → i ≠ j → a i ≠ a j
  et : w.cell? ⟨13, 0, none⟩ = some (.iface 157 (.agg #[.pointer (some ⟨17, 30, none⟩)]))

theorem Sents.c0 {a : Nat → Addr} {w : World} (S : Sents a w) : w.cell? ⟨3, 0, none⟩ = some (.iface 181 (.pointer (some (a 0)))) := S.cell 0 (by decide)
theorem Sents.c1 {a : Nat → Addr} {w : World} (S : Sents a w) : w.cell? ⟨4, 0, none⟩ = some (.iface 181 (.pointer (some (a 1)))) := S.cell 1 (by decide)
theorem Sents.c2 {a : Nat → Addr} {w : World} (S : Sents a w) : w.cell? ⟨2, 0, none⟩ = some (.iface 181 (.pointer (some (a 2)))) := S.cell 2 (by decide)
theorem Sents.c3 {a : Nat → Addr} {w : World} (S : Sents a w) : w.cell? ⟨5, 0, none⟩ = some (.iface 181 (.pointer (some (a 3)))) := S.cell 3 (by decide)
theorem Sents.c4 {a : Nat → Addr} {w : World} (S : Sents a w) : w.cell? ⟨0, 0, none⟩ = some (.iface 181 (.pointer (some (a 4)))) := S.cell 4 (by decide)
theorem Sents.c5 {a : Nat → Addr} {w : World} (S : Sents a w) : w.cell? ⟨1, 0, none⟩ = some (.iface 181 (.pointer (some (a 5)))) := S.cell 5 (by decide)
theorem Sents.c6 {a : Nat → Addr} {w : World} (S : Sents a w) : w.cell? ⟨6, 0, none⟩ = some (.iface 181 (.pointer (some (a 6)))) := S.cell 6 (by decide)
theorem Sents.c7 {a : Nat → Addr} {w : World} (S : Sents a w) : w.cell? ⟨7, 0, none⟩ = some (.iface 181 (.pointer (some (a 7)))) := S.cell 7 (by decide)
theorem Sents.c8 {a : Nat → Addr} {w : World} (S : Sents a w) : w.cell? ⟨8, 0, none⟩ = some (.iface 181 (.pointer (some (a 8)))) := S.cell 8 (by decide)
theorem Sents.c9 {a : Nat → Addr} {w : World} (S : Sents a w) : w.cell? ⟨9, 0, none⟩ = some (.iface 181 (.pointer (some (a 9)))) := S.cell 9 (by decide)
theorem Sents.c10 {a : Nat → Addr} {w : World} (S : Sents a w) : w.cell? ⟨10, 0, none⟩ = some (.iface 181 (.pointer (some (a 10)))) := S.cell 10 (by decide)
theorem Sents.c11 {a : Nat → Addr} {w : World} (S : Sents a w) : w.cell? ⟨11, 0, none⟩ = some (.iface 181 (.pointer (some (a 11)))) := S.cell 11 (by decide)
theorem Sents.c12 {a : Nat → Addr} {w : World} (S : Sents a w) : w.cell? ⟨12, 0, none⟩ = some (.iface 181 (.pointer (some (a 12)))) := S.cell 12 (by decide)
theorem Sents.below {a : Nat → Addr} {w w' : World} (S : Sents a w) (hb : Below w.heap.size w w') : Sents a w' where
  cell i hi := by rw [hb.cell (lt_of_cell (S.cell i hi))]; exact S.cell i hi
  row i hi := by
    obtain ⟨ca, ta, h⟩ := S.row i hi
    exact ⟨ca, ta, by rw [hb.block _ (lt_of_row h)]; exact h⟩
  ne := S.ne
  et := by rw [hb.cell (lt_of_cell S.et)]; exact S.et

theorem Sents.sen {a : Nat → Addr} {w : World} (S : Sents a w) : Sen a w where
  text := S.cell 0 (by decide)
  bound := S.cell 1 (by decide)
  shape := S.cell 2 (by decide)
  kind := S.cell 3 (by decide)
  name := S.cell 4 (by decide)
  full := S.cell 7 (by decide)
  deep := S.cell 8 (by decide)
  order := S.cell 9 (by decide)
theorem Sents.atB {a : Nat → Addr} {w : World} (S : Sents a w) : SentsB a w.heap.size w := S.sen.atB

theorem as_plain' (e t : Addr) (w : World) (hg : w.cell? ⟨13, 0, none⟩ = some (.iface 157 (.agg #[.pointer (some ⟨17, 30, none⟩)]))) :
    Calls Tryz.prog 61 #[.iface 181 (.pointer (some e)), .iface 110 (.pointer (some t))] w fun ev w' => ev = .returned (.bool false) ∧ Below w.heap.size w w' := by
  refine (as_plain e t w hg).mono ?_
  rintro ev w' ⟨rfl, rfl⟩
  exact ⟨rfl, by go_grown⟩
theorem as_fault' (e t : Addr) (old : Value) (w : World) (hg : w.cell? ⟨13, 0, none⟩ = some (.iface 157 (.agg #[.pointer (some ⟨17, 30, none⟩)]))) (ht0 : w.cell? t = some old) (hf0 : w.frozen? t = false) :
    Calls Tryz.prog 61 #[.iface 101 (.pointer (some e)), .iface 110 (.pointer (some t))] w fun ev w' => ev = .returned (.bool true) ∧ ∃ w1, Below w.heap.size w w1 ∧ w' = w1.setCell t (.pointer (some e)) := by
  refine (as_fault e t old w hg ht0 hf0).mono ?_
  rintro ev w' ⟨rfl, rfl⟩
  exact ⟨rfl, _, by go_grown, rfl⟩

theorem code_nil (w : World) : Calls Tryz.prog 36 #[.nilIface] w fun e w' => e = .returned (.tuple #[.int .i64 0, .int .i64 (-1)]) ∧ w' = w := by
  go_enter Tryz.func36, Tryz.ntmps36
  go_wp2
  go_ret2
  exact ⟨rfl, rfl⟩

theorem thirteen (a : Nat → Addr) (w1 : World) (k : Nat) (hk : k < 13) :
    (w1.alloc (.cells #[.iface 181 (.pointer (some (a 0))), .iface 181 (.pointer (some (a 1))), .iface 181 (.pointer (some (a 2))), .iface 181 (.pointer (some (a 3))), .iface 181 (.pointer (some (a 4))), .iface 181 (.pointer (some (a 5))), .iface 181 (.pointer (some (a 6))), .iface 181 (.pointer (some (a 7))), .iface 181 (.pointer (some (a 8))), .iface 181 (.pointer (some (a 9))), .iface 181 (.pointer (some (a 10))), .iface 181 (.pointer (some (a 11))), .iface 181 (.pointer (some (a 12)))] 30)).cell? ⟨w1.heap.size, k, none⟩ = some (.iface 181 (.pointer (some (a k)))) := by
  rw [World.cell?_alloc_at _ _ _ _ rfl]
  have h : k = 0 ∨ k = 1 ∨ k = 2 ∨ k = 3 ∨ k = 4 ∨ k = 5 ∨ k = 6 ∨ k = 7 ∨ k = 8 ∨ k = 9 ∨ k = 10 ∨ k = 11 ∨ k = 12 := by omega
  rcases h with h | h | h | h | h | h | h | h | h | h | h | h | h <;> subst h <;> rfl

set_option maxHeartbeats 1000000 in
theorem code_plain (a : Nat → Addr) (p : Addr) (n : Nat) (w : World) (S : Sents a w) (hn : n ≤ 13) (hlt : ∀ k, k < n → p ≠ a k) (hat : n < 13 → p = a n) (hrow : ∃ ca ta, w.heap[p.block]? = some (.cells ca ta (0, 0))) :
    Calls Tryz.prog 36 #[.iface 181 (.pointer (some p))] w fun e w' => e = .returned (.tuple #[.int .i64 (if n < 13 then (n : Int) + 1 else -1), .int .i64 (-1)]) ∧ Below w.heap.size w w' := by
  have hg : (w.alloc (.cells #[.pointer none] 101)).cell? ⟨13, 0, none⟩ = some (.iface 157 (.agg #[.pointer (some ⟨17, 30, none⟩)])) := by
    rw [World.cell?_alloc_lt _ _ _ (lt_of_cell S.et)]; exact S.et
  go_enter Tryz.func36, Tryz.ntmps36
  go_wp2_with fail
  refine (as_plain' p ⟨w.heap.size, 0, none⟩ _ hg).mono ?_
  rintro e w1 ⟨rfl, hb⟩
  have hb0 : Below w.heap.size w w1 := ((Below.refl _ _).alloc (Nat.le_refl _) _).trans (hb.mono (by simp))
  have S1 := S.below hb0
  have c0 := S1.c0
  have c1 := S1.c1
  have c2 := S1.c2
  have c3 := S1.c3
  have c4 := S1.c4
  have c5 := S1.c5
  have c6 := S1.c6
  have c7 := S1.c7
  have c8 := S1.c8
  have c9 := S1.c9
  have c10 := S1.c10
  have c11 := S1.c11
  have c12 := S1.c12
  clear hg hb
  go_wp2_with fail
  have hb2 : Below w.heap.size w (w1.alloc (.cells #[.iface 181 (.pointer (some (a 0))), .iface 181 (.pointer (some (a 1))), .iface 181 (.pointer (some (a 2))), .iface 181 (.pointer (some (a 3))), .iface 181 (.pointer (some (a 4))), .iface 181 (.pointer (some (a 5))), .iface 181 (.pointer (some (a 6))), .iface 181 (.pointer (some (a 7))), .iface 181 (.pointer (some (a 8))), .iface 181 (.pointer (some (a 9))), .iface 181 (.pointer (some (a 10))), .iface 181 (.pointer (some (a 11))), .iface 181 (.pointer (some (a 12)))] 30)) := hb0.alloc hb0.size _
  have S2 := S.below hb2
  have hc := thirteen a w1
  obtain ⟨cp, tp, hp⟩ := hrow
  have hp2 : (w1.alloc (.cells #[.iface 181 (.pointer (some (a 0))), .iface 181 (.pointer (some (a 1))), .iface 181 (.pointer (some (a 2))), .iface 181 (.pointer (some (a 3))), .iface 181 (.pointer (some (a 4))), .iface 181 (.pointer (some (a 5))), .iface 181 (.pointer (some (a 6))), .iface 181 (.pointer (some (a 7))), .iface 181 (.pointer (some (a 8))), .iface 181 (.pointer (some (a 9))), .iface 181 (.pointer (some (a 10))), .iface 181 (.pointer (some (a 11))), .iface 181 (.pointer (some (a 12)))] 30)).heap[p.block]? = some (.cells cp tp (0, 0)) := by rw [hb2.block _ (lt_of_row hp)]; exact hp
  generalize w1.alloc (.cells #[.iface 181 (.pointer (some (a 0))), .iface 181 (.pointer (some (a 1))), .iface 181 (.pointer (some (a 2))), .iface 181 (.pointer (some (a 3))), .iface 181 (.pointer (some (a 4))), .iface 181 (.pointer (some (a 5))), .iface 181 (.pointer (some (a 6))), .iface 181 (.pointer (some (a 7))), .iface 181 (.pointer (some (a 8))), .iface 181 (.pointer (some (a 9))), .iface 181 (.pointer (some (a 10))), .iface 181 (.pointer (some (a 11))), .iface 181 (.pointer (some (a 12)))] 30) = W2 at *
  clear S1 c0 c1 c2 c3 c4 c5 c6 c7 c8 c9 c10 c11 c12 hb0 S hp
  go_loop [3, 31] (fun v i => v = .int .i64 (-1) ∧ ∃ k : Nat, k ≤ n ∧ i = .int .i64 k) (fun _ i => 13 - (intOf i).toNat)
  case atStart => exact ⟨rfl, 0, Nat.zero_le _, rfl⟩
  case round =>
    obtain ⟨rfl, k, hk, rfl⟩ := hrel
    by_cases h13 : k < 13
    · have hck := hc k h13
      by_cases hkn : k < n
      · have hne := hlt k hkn
        obtain ⟨ck, tk, hrk⟩ := S2.row k h13
        have H : Hid (p ≠ a k) := hne
        clear hne hc hlt hat
        go_wp2_with fail
        refine (is_other p (a k) cp ck tp tk _ H.out hp2 hrk).mono ?_
        rintro e w' ⟨rfl, rfl⟩
        go_wp2_with fail
        go_round
        case rel => exact ⟨rfl, k + 1, by omega, by go_num⟩
        case measure => simp [intOf]; omega
      · have ekn : k = n := by omega
        subst ekn
        have ep := hat h13
        subst ep
        clear hc hlt hat
        go_wp2_with fail
        refine (is_same (a k) _).mono ?_
        rintro e w' ⟨rfl, rfl⟩
        go_wp2_with fail
        go_ret2
        exact ⟨rfl, hb2⟩
    · clear hc hlt hat
      go_wp2_with fail
      go_ret2
      exact ⟨rfl, hb2⟩

set_option maxHeartbeats 1000000 in
theorem code_fault (a : Nat → Addr) (pb po : Nat) (m : Int) (n : Nat) (w : World) (S : Sents a w) (hn : n < 13) (h0 : w.cell? ⟨pb, po, none⟩ = some (.int .i64 m)) (h1 : w.cell? ⟨pb, po + 1, none⟩ = some (.iface 181 (.pointer (some (a n))))) :
    Calls Tryz.prog 36 #[.iface 101 (.pointer (some ⟨pb, po, none⟩))] w fun e w' => e = .returned (.tuple #[.int .i64 ((n : Int) + 1), .int .i64 m]) ∧ Below w.heap.size w w' := by
  have hg : (w.alloc (.cells #[.pointer none] 101)).cell? ⟨13, 0, none⟩ = some (.iface 157 (.agg #[.pointer (some ⟨17, 30, none⟩)])) := by
    rw [World.cell?_alloc_lt _ _ _ (lt_of_cell S.et)]; exact S.et
  have hpl : pb < w.heap.size := lt_of_cell h0
  go_enter Tryz.func36, Tryz.ntmps36
  go_wp2_with fail
  refine (as_fault' ⟨pb, po, none⟩ ⟨w.heap.size, 0, none⟩ (.pointer none) _ hg (by simp) (by simp)).mono ?_
  rintro e wx ⟨rfl, w0, hb, rfl⟩
  have hsz : w.heap.size < w0.heap.size := by have := hb.size; simp at this; omega
  have hc0 : w0.cell? ⟨w.heap.size, 0, none⟩ = some (.pointer none) := by rw [hb.cell (by simp)]; simp
  have hcf : (w0.setCell ⟨w.heap.size, 0, none⟩ (.pointer (some ⟨pb, po, none⟩))).cell? ⟨w.heap.size, 0, none⟩ = some (.pointer (some ⟨pb, po, none⟩)) := World.cell?_setCell_same _ _ _ hc0
  have hb0 : Below w.heap.size w (w0.setCell ⟨w.heap.size, 0, none⟩ (.pointer (some ⟨pb, po, none⟩))) := (((Below.refl _ _).alloc (Nat.le_refl _) _).trans (hb.mono (by simp))).setCell (Nat.le_refl _) _
  generalize w0.setCell ⟨w.heap.size, 0, none⟩ (.pointer (some ⟨pb, po, none⟩)) = w1 at *
  have S1 := S.below hb0
  have g0 : w1.cell? ⟨pb, po, none⟩ = some (.int .i64 m) := by rw [hb0.cell hpl]; exact h0
  have c0 := S1.c0
  have c1 := S1.c1
  have c2 := S1.c2
  have c3 := S1.c3
  have c4 := S1.c4
  have c5 := S1.c5
  have c6 := S1.c6
  have c7 := S1.c7
  have c8 := S1.c8
  have c9 := S1.c9
  have c10 := S1.c10
  have c11 := S1.c11
  have c12 := S1.c12
  clear hg hb hc0
  go_wp2_with fail
  have hb2 : Below w.heap.size w (w1.alloc (.cells #[.iface 181 (.pointer (some (a 0))), .iface 181 (.pointer (some (a 1))), .iface 181 (.pointer (some (a 2))), .iface 181 (.pointer (some (a 3))), .iface 181 (.pointer (some (a 4))), .iface 181 (.pointer (some (a 5))), .iface 181 (.pointer (some (a 6))), .iface 181 (.pointer (some (a 7))), .iface 181 (.pointer (some (a 8))), .iface 181 (.pointer (some (a 9))), .iface 181 (.pointer (some (a 10))), .iface 181 (.pointer (some (a 11))), .iface 181 (.pointer (some (a 12)))] 30)) := hb0.alloc hb0.size _
  have S2 := S.below hb2
  have hc := thirteen a w1
  have g1 : (w1.alloc (.cells #[.iface 181 (.pointer (some (a 0))), .iface 181 (.pointer (some (a 1))), .iface 181 (.pointer (some (a 2))), .iface 181 (.pointer (some (a 3))), .iface 181 (.pointer (some (a 4))), .iface 181 (.pointer (some (a 5))), .iface 181 (.pointer (some (a 6))), .iface 181 (.pointer (some (a 7))), .iface 181 (.pointer (some (a 8))), .iface 181 (.pointer (some (a 9))), .iface 181 (.pointer (some (a 10))), .iface 181 (.pointer (some (a 11))), .iface 181 (.pointer (some (a 12)))] 30)).cell? ⟨pb, po + 1, none⟩ = some (.iface 181 (.pointer (some (a n)))) := by rw [hb2.cell hpl]; exact h1
  obtain ⟨cp, tp, hp⟩ := S2.row n hn
  generalize w1.alloc (.cells #[.iface 181 (.pointer (some (a 0))), .iface 181 (.pointer (some (a 1))), .iface 181 (.pointer (some (a 2))), .iface 181 (.pointer (some (a 3))), .iface 181 (.pointer (some (a 4))), .iface 181 (.pointer (some (a 5))), .iface 181 (.pointer (some (a 6))), .iface 181 (.pointer (some (a 7))), .iface 181 (.pointer (some (a 8))), .iface 181 (.pointer (some (a 9))), .iface 181 (.pointer (some (a 10))), .iface 181 (.pointer (some (a 11))), .iface 181 (.pointer (some (a 12)))] 30) = W2 at *
  clear S1 c0 c1 c2 c3 c4 c5 c6 c7 c8 c9 c10 c11 c12 hb0 S g0
  go_loop [3, 31] (fun v i => v = .int .i64 m ∧ ∃ k : Nat, k ≤ n ∧ i = .int .i64 k) (fun _ i => 13 - (intOf i).toNat)
  case atStart => exact ⟨rfl, 0, Nat.zero_le _, rfl⟩
  case round =>
    obtain ⟨rfl, k, hk, rfl⟩ := hrel
    have h13 : k < 13 := by omega
    have hck := hc k h13
    by_cases hkn : k < n
    · obtain ⟨ck, tk, hrk⟩ := S2.row k h13
      have H : Hid (a n ≠ a k) := S2.ne n k hn h13 (by omega)
      clear hc
      go_wp2_with fail
      refine (is_fault_other pb po (a k) (a n) cp ck tp tk _ g1 H.out hp hrk).mono ?_
      rintro e w' ⟨rfl, rfl⟩
      go_wp2_with fail
      go_round
      case rel => exact ⟨rfl, k + 1, by omega, by go_num⟩
      case measure => simp [intOf]; omega
    · have ekn : k = n := by omega
      subst ekn
      clear hc
      go_wp2_with fail
      refine (is_fault_same pb po (a k) _ g1).mono ?_
      rintro e w' ⟨rfl, rfl⟩
      go_wp2_with fail
      go_ret2
      exact ⟨rfl, hb2⟩

theorem coded_nil (c : Int) (w : World) : Calls Tryz.prog 10 #[.nilIface, .int .i64 c] w fun e w' => e = .returned (.bool (decide (c = 0))) ∧ w' = w := by
  by_cases hc : c = 0
  · subst hc
    go_enter Tryz.func10, Tryz.ntmps10
    go_wp2_with (go_at_call 36; refine (code_nil _).mono ?_; rintro e w' ⟨rfl, rfl⟩)
    go_ret
    exact ⟨rfl, rfl⟩
  · have h : ((0 : Int) == c) = false := by simp; omega
    have hd : Hid (decide (c = 0) = false) := show _ = _ by simp [hc]
    clear hc
    go_enter Tryz.func10, Tryz.ntmps10
    go_wp2_with (go_at_call 36; refine (code_nil _).mono ?_; rintro e w' ⟨rfl, rfl⟩)
    go_ret
    exact ⟨by rw [hd.out]; rfl, rfl⟩
theorem coded_sent (a : Nat → Addr) (n : Nat) (c : Int) (w : World) (S : Sents a w) (hn : n < 13) :
    Calls Tryz.prog 10 #[.iface 181 (.pointer (some (a n))), .int .i64 c] w fun e w' => e = .returned (.bool (decide (c = (n : Int) + 1))) ∧ Below w.heap.size w w' := by
  have hcode := code_plain a (a n) n w S (Nat.le_of_lt hn) (fun k hk => S.ne n k hn (by omega) (by omega)) (fun _ => rfl) (S.row n hn)
  rw [if_pos hn] at hcode
  have HC : Hid _ := hcode
  clear hcode
  by_cases hc : c = (n : Int) + 1
  · subst hc
    go_enter Tryz.func10, Tryz.ntmps10
    go_wp2_with fail
    refine Calls.mono HC.out ?_
    rintro e w' ⟨rfl, hb⟩
    go_wp2
    go_ret
    exact ⟨by simp, hb⟩
  · have h : (((n : Int) + 1) == c) = false := by simp; omega
    have hd : Hid (decide (c = (n : Int) + 1) = false) := show _ = _ by simp [hc]
    clear hc
    go_enter Tryz.func10, Tryz.ntmps10
    go_wp2_with fail
    refine Calls.mono HC.out ?_
    rintro e w' ⟨rfl, hb⟩
    go_wp2
    go_ret
    exact ⟨by rw [hd.out]; rfl, hb⟩
end Go.Proofs.YtpjjpmikhjlgnaaGreatDoor
namespace Go.Proofs.YtpjjpmikhjlgnaaGreatDoor
open Go.RowKit

theorem ret_bool {a b : Bool} (h : a = b) : Ending.returned (.bool a) = .returned (.bool b) := by rw [h]

set_option maxHeartbeats 1000000 in
theorem nameByte_any (c : Int) (w : World) : Calls Tryz.prog 59 #[.int .u8 c] w fun e w' => e = .returned (.bool (nb c)) ∧ w' = w := by
  go_enter Tryz.func59, Tryz.ntmps59
  go_wp2
  all_goals (go_ret; refine ⟨ret_bool ?_, rfl⟩)
  all_goals (unfold nb; rw [Bool.eq_iff_iff]; simp; try omega)

set_option maxHeartbeats 1000000 in
theorem name_any (s : ByteArray) (w : World) (hs : s.size ≤ maxLen) : Calls Tryz.prog 33 #[.string s] w fun e w' => e = .returned (.bool (nameB s)) ∧ w' = w := by
  unfold maxLen at hs
  by_cases hg : (1 ≤ s.size ∧ s.size ≤ 12) ∧ (s.toList == [46]) = false ∧ (s.toList == [46, 46]) = false
  · obtain ⟨⟨h1, h2⟩, h3, h4⟩ := hg
    have HE : Hid (nameB s = s.data.toList.all fun c => nb (c.toNat : Int)) := nameB_yes h1 h2 h3 h4
    go_enter Tryz.func33, Tryz.ntmps33
    go_wp2_with fail
    go_loop [22] (fun i => ∃ k : Nat, k ≤ s.size ∧ i = .int .i64 k ∧ (s.data.toList.take k).all (fun c => nb (c.toNat : Int)) = true) (fun i => s.size - (intOf i).toNat)
    case atStart => exact ⟨0, Nat.zero_le _, rfl, by simp⟩
    case round =>
      obtain ⟨k, hk, rfl, hall⟩ := hrel
      have HA : Hid ((s.data.toList.take k).all (fun c => nb (c.toNat : Int)) = true) := hall
      clear hall
      by_cases hlt : k < s.size
      · have HS := all_snoc (p := fun c => nb (c.toNat : Int)) s k hlt
        have HS : Hid _ := HS
        cases hc : nb (s[k].toNat : Int)
        · have HM : Hid (s.data.toList.all (fun c => nb (c.toNat : Int)) = false) := all_miss (p := fun c => nb (c.toNat : Int)) s k hlt hc
          go_wp2_with fail
          refine (nameByte_any _ _).mono ?_
          rintro e w' ⟨rfl, rfl⟩
          go_wp2_with fail
          go_ret
          exact ⟨ret_bool (by rw [HE.out, HM.out]), rfl⟩
        · have HC : Hid (nb (s[k].toNat : Int) = true) := hc
          go_wp2_with fail
          refine (nameByte_any _ _).mono ?_
          rintro e w' ⟨rfl, rfl⟩
          go_wp2_with fail
          go_round
          case rel => exact ⟨k + 1, by omega, by go_num, by rw [HS.out, HA.out]; exact HC.out⟩
          case measure => simp [intOf]; omega
      · have ek : k = s.size := by omega
        have HB : Hid (s.data.toList.all (fun c => nb (c.toNat : Int)) = true) := by
          have := HA.out
          rw [ek, all_whole] at this
          exact this
        clear ek
        go_wp2_with fail
        go_ret
        exact ⟨ret_bool (by rw [HE.out, HB.out]), rfl⟩
  · have HE : Hid (nameB s = false) := nameB_no hg
    go_enter Tryz.func33, Tryz.ntmps33
    go_wp2_with fail
    all_goals first
      | (go_ret; exact ⟨ret_bool HE.out.symm, rfl⟩)
      | (exfalso; apply hg; refine ⟨⟨by omega, by omega⟩, ?_, ?_⟩ <;> simp_all)
end Go.Proofs.YtpjjpmikhjlgnaaGreatDoor
namespace Go.Proofs.YtpjjpmikhjlgnaaGreatDoor
open Go.RowKit
attribute [local go_sem ↓] Go.wp_at_zero Go.wp_at_succ

set_option maxHeartbeats 1000000 in
theorem isLetter_any (c : Int) (w : World) : Calls Tryz.prog 60 #[.int .u8 c] w fun e w' => e = .returned (.bool (nb c)) ∧ w' = w := by
  go_enter Tryz.func60, Tryz.ntmps60
  go_wp2
  all_goals (go_ret; refine ⟨ret_bool ?_, rfl⟩)
  all_goals (unfold nb; rw [Bool.eq_iff_iff]; simp; try omega)

theorem nameB_miss {s : ByteArray} (h : (s.data.toList.all fun c => nb (c.toNat : Int)) = false) : nameB s = false := by
  unfold nameB
  rw [h]
  simp
theorem nameB_all {s : ByteArray} (h : (s.data.toList.all fun c => nb (c.toNat : Int)) = true) : nameB s = (decide (1 ≤ s.size ∧ s.size ≤ 12) && !(s.toList == [46]) && !(s.toList == [46, 46])) := by
  unfold nameB
  rw [h]
  simp

set_option maxHeartbeats 1000000 in
theorem isName_any (s : ByteArray) (w : World) (hs : s.size ≤ maxLen) : Calls Tryz.prog 35 #[.string s] w fun e w' => e = .returned (.bool (nameB s)) ∧ w' = w := by
  unfold maxLen at hs
  go_enter Tryz.func35, Tryz.ntmps35
  go_wp2_with fail
  go_loop [3] (fun i => ∃ k : Nat, k ≤ s.size ∧ i = .int .i64 k ∧ (s.data.toList.take k).all (fun c => nb (c.toNat : Int)) = true) (fun i => s.size - (intOf i).toNat)
  case atStart => exact ⟨0, Nat.zero_le _, rfl, by simp⟩
  case round =>
    obtain ⟨k, hk, rfl, hall⟩ := hrel
    have HA : Hid ((s.data.toList.take k).all (fun c => nb (c.toNat : Int)) = true) := hall
    clear hall
    by_cases hlt : k < s.size
    · have HS := all_snoc (p := fun c => nb (c.toNat : Int)) s k hlt
      have HS : Hid _ := HS
      cases hc : nb (s[k].toNat : Int)
      · have HM : Hid (nameB s = false) := nameB_miss (all_miss (p := fun c => nb (c.toNat : Int)) s k hlt hc)
        go_wp2_with fail
        refine (isLetter_any _ _).mono ?_
        rintro e w' ⟨rfl, rfl⟩
        go_wp2_with fail
        go_ret
        exact ⟨ret_bool (by rw [HM.out]), rfl⟩
      · have HC : Hid (nb (s[k].toNat : Int) = true) := hc
        go_wp2_with fail
        refine (isLetter_any _ _).mono ?_
        rintro e w' ⟨rfl, rfl⟩
        go_wp2_with fail
        go_round
        case rel => exact ⟨k + 1, by omega, by go_num, by rw [HS.out, HA.out]; exact HC.out⟩
        case measure => simp [intOf]; omega
    · have ek : k = s.size := by omega
      have HE : Hid (nameB s = (decide (1 ≤ s.size ∧ s.size ≤ 12) && !(s.toList == [46]) && !(s.toList == [46, 46]))) := by
        have h := HA.out
        rw [ek, all_whole] at h
        exact nameB_all h
      clear ek
      by_cases h1 : 1 ≤ s.size
      · by_cases h2 : s.size ≤ 12
        · cases h3 : (s.toList == [46])
          · cases h4 : (s.toList == [46, 46])
            · have h3' : (s.toList != [46]) = true := by simp only [bne, h3]; rfl
              have h4' : (s.toList != [46, 46]) = true := by simp only [bne, h4]; rfl
              go_wp2_with fail
              go_ret
              exact ⟨ret_bool (by rw [HE.out, h3, h4, decide_eq_true ⟨h1, h2⟩]; rfl), rfl⟩
            · have h3' : (s.toList != [46]) = true := by simp only [bne, h3]; rfl
              have h4' : (s.toList != [46, 46]) = false := by simp only [bne, h4]; rfl
              go_wp2_with fail
              go_ret
              exact ⟨ret_bool (by rw [HE.out, h4]; simp), rfl⟩
          · have h3' : (s.toList != [46]) = false := by simp only [bne, h3]; rfl
            go_wp2_with fail
            go_ret
            exact ⟨ret_bool (by rw [HE.out, h3]; simp), rfl⟩
        · go_wp2_with fail
          go_ret
          exact ⟨ret_bool (by rw [HE.out, decide_eq_false (fun h => h2 h.2)]; rfl), rfl⟩
      · go_wp2_with fail
        go_ret
        exact ⟨ret_bool (by rw [HE.out, decide_eq_false (fun h => h1 h.1)]; rfl), rfl⟩

set_option maxHeartbeats 2000000 in
theorem sameTree_any (B : Nat) : ∀ (d : Nat) (s t : Tree) (us ut : Value) (w : World), B ≤ w.heap.size → Lies w B d s.kids us → Lies w B d t.kids ut →
    Calls Tryz.prog 14 #[.agg #[.string s.kind, .string s.data, .bool s.exec, us], .agg #[.string t.kind, .string t.data, .bool t.exec, ut]] w fun e w' => e = .returned (.bool (sameB d s t)) ∧ Below w.heap.size w w' := by
  intro d
  induction d with
  | zero => intro s t us ut w _ hl; exact absurd hl (by simp [Lies])
  | succ d ih =>
    intro s t us ut w hB hl hl'
    have hlo := hl.open
    have hlo' := hl'.open
    obtain ⟨sa, sc, rfl⟩ := hl.form
    obtain ⟨ta, tc, rfl⟩ := hl'.form
    have HW : Hid (∀ o o', Below w.heap.size w ((w.alloc o).alloc o')) := fun o o' => ((Below.refl _ _).alloc (Nat.le_refl _) o).alloc (by simp) o'
    cases hk : (s.kind.toList == t.kind.toList)
    · have hk' : (s.kind.toList != t.kind.toList) = true := by simp only [bne, hk]; rfl
      have HE : Hid (sameB (d + 1) s t = false) := show _ = _ by rw [sameB_succ]; unfold headSame; rw [hk]; simp
      clear hl hl' ih
      go_enter Tryz.func14, Tryz.ntmps14
      go_wp2_with fail
      go_ret
      exact ⟨ret_bool (by rw [HE.out]), HW.out _ _⟩
    cases hd : (s.data.toList == t.data.toList)
    · have hk' : (s.kind.toList != t.kind.toList) = false := by simp only [bne, hk]; rfl
      have hd' : (s.data.toList != t.data.toList) = true := by simp only [bne, hd]; rfl
      have HE : Hid (sameB (d + 1) s t = false) := show _ = _ by rw [sameB_succ]; unfold headSame; rw [hk, hd]; simp
      clear hl hl' ih
      go_enter Tryz.func14, Tryz.ntmps14
      go_wp2_with fail
      go_ret
      exact ⟨ret_bool (by rw [HE.out]), HW.out _ _⟩
    cases hx : (s.exec == t.exec)
    · have hk' : (s.kind.toList != t.kind.toList) = false := by simp only [bne, hk]; rfl
      have hd' : (s.data.toList != t.data.toList) = false := by simp only [bne, hd]; rfl
      have hx' : (s.exec != t.exec) = true := by simp only [bne, hx]; rfl
      have HE : Hid (sameB (d + 1) s t = false) := show _ = _ by rw [sameB_succ]; unfold headSame; rw [hk, hd, hx]; simp
      clear hl hl' ih
      go_enter Tryz.func14, Tryz.ntmps14
      go_wp2_with fail
      go_ret
      exact ⟨ret_bool (by rw [HE.out]), HW.out _ _⟩
    cases hn : (s.kids.length == t.kids.length)
    · have hk' : (s.kind.toList != t.kind.toList) = false := by simp only [bne, hk]; rfl
      have hd' : (s.data.toList != t.data.toList) = false := by simp only [bne, hd]; rfl
      have hx' : (s.exec != t.exec) = false := by simp only [bne, hx]; rfl
      have hn' : ((s.kids.length : Int) != (t.kids.length : Int)) = true := by simp at hn ⊢; omega
      have HE : Hid (sameB (d + 1) s t = false) := show _ = _ by rw [sameB_succ]; unfold headSame; rw [hk, hd, hx, hn]; simp
      clear hl hl' ih
      go_enter Tryz.func14, Tryz.ntmps14
      go_wp2_with fail
      go_ret
      exact ⟨ret_bool (by rw [HE.out]), HW.out _ _⟩
    have HE : Hid (sameB (d + 1) s t = sameTo d s t s.kids.length) := show _ = _ by rw [sameB_succ]; unfold headSame; rw [hk, hd, hx, hn]; rfl
    have hk' : (s.kind.toList != t.kind.toList) = false := by simp only [bne, hk]; rfl
    have hd' : (s.data.toList != t.data.toList) = false := by simp only [bne, hd]; rfl
    have hx' : (s.exec != t.exec) = false := by simp only [bne, hx]; rfl
    have hn' : ((s.kids.length : Int) != (t.kids.length : Int)) = false := by simp at hn ⊢; omega
    have HN : Hid (s.kids.length = t.kids.length) := show _ = _ by simpa using hn
    have HL : Hid _ := hlo
    have HL' : Hid _ := hlo'
    have HIH : Hid _ := ih
    have hlen := hlo.1
    clear hlo hlo' ih hl hl' hn
    go_enter Tryz.func14, Tryz.ntmps14
    go_wp2_with fail
    clear hk hk' hd hd' hx hx' hn'
    go_loopw [5] (fun i wr => ∃ j : Nat, j ≤ s.kids.length ∧ i = .int .i64 j ∧ Below w.heap.size w wr ∧ wr.cell? ⟨w.heap.size, 3, none⟩ = some (.slice sa s.kids.length sc) ∧ wr.cell? ⟨w.heap.size + 1, 3, none⟩ = some (.slice ta t.kids.length tc) ∧ w.heap.size + 1 < wr.heap.size ∧ sameTo d s t j = true) (fun i _ => s.kids.length - (intOf i).toNat)
    case atStart => exact ⟨0, Nat.zero_le _, rfl, HW.out _ _, by simp, by simp, by simp, rfl⟩
    case round =>
      obtain ⟨j, hj, rfl, hb, hbox0, hbox, hsz, hall⟩ := hrel
      have HA : Hid (sameTo d s t j = true) := hall
      clear hall
      by_cases hlt : j < s.kids.length
      · have hlt' : j < t.kids.length := by have := HN.out; omega
        obtain ⟨x, hx⟩ : ∃ x, s.kids[j]? = some x := ⟨s.kids[j], List.getElem?_eq_getElem hlt⟩
        obtain ⟨y, hy⟩ : ∃ y, t.kids[j]? = some y := ⟨t.kids[j], List.getElem?_eq_getElem hlt'⟩
        obtain ⟨b, off, rfl, ux, K0⟩ : ∃ b off, sa = some ⟨b, off, none⟩ ∧ ∃ u, KidAt w B d b off j x u := by
          rcases HL.out.2 with ⟨h0, _⟩ | ⟨b, off, cp, e, _, hk⟩
          · rw [h0] at hlt; exact absurd hlt (by simp)
          · simp only [Value.slice.injEq] at e
            exact ⟨b, off, e.1, hk j x hx⟩
        obtain ⟨b', off', rfl, uy, L0⟩ : ∃ b off, ta = some ⟨b, off, none⟩ ∧ ∃ u, KidAt w B d b off j y u := by
          rcases HL'.out.2 with ⟨h0, _⟩ | ⟨b, off, cp, e, _, hk⟩
          · rw [h0] at hlt'; exact absurd hlt' (by simp)
          · simp only [Value.slice.injEq] at e
            exact ⟨b, off, e.1, hk j y hy⟩
        have K := K0.below hb hB
        have L := L0.below hb hB
        obtain ⟨xa, xc, rfl⟩ := K.lies.form
        obtain ⟨ya, yc, rfl⟩ := L.lies.form
        have n0 := K.name
        have n1 := K.kind
        have n2 := K.data
        have n3 := K.exec
        have n4 := K.kids
        have l0 := L.name
        have l1 := L.kind
        have l2 := L.data
        have l3 := L.exec
        have l4 := L.kids
        have lb : b < wr.heap.size := by have := K.lt; have := hb.size; omega
        have lb' : b' < wr.heap.size := by have := L.lt; have := hb.size; omega
        have HS : Hid _ := sameTo_succ (d := d) hx hy
        have hj0 : (0 : Int) ≤ (j : Int) := by omega
        have hj1 : (j : Int) < (t.kids.length : Int) := by omega
        have hj2 : (j : Int) < (s.kids.length : Int) := by omega
        have hBr : B ≤ wr.heap.size := by have := hb.size; omega
        have HC : Hid (∀ w3, Below wr.heap.size wr w3 → Calls Tryz.prog 14 #[.agg #[.string x.2.kind, .string x.2.data, .bool x.2.exec, .slice xa x.2.kids.length xc], .agg #[.string y.2.kind, .string y.2.data, .bool y.2.exec, .slice ya y.2.kids.length yc]] w3 fun e w' => e = .returned (.bool (sameB d x.2 y.2)) ∧ Below w3.heap.size w3 w' ∧ Below wr.heap.size wr w') :=
          fun w3 h3 => (HIH.out x.2 y.2 (.slice xa x.2.kids.length xc) (.slice ya y.2.kids.length yc) w3 (by have := h3.size; omega) (K.lies.below h3 hBr) (L.lies.below h3 hBr)).mono fun e w' ⟨h1, h2⟩ => ⟨h1, h2, h3.trans (h2.mono h3.size)⟩
        clear K L K0 L0 hx hy
        cases hnm : (x.1.toList == y.1.toList)
        · have HF : Hid (sameTo d s t s.kids.length = false) := sameTo_mono (k := j + 1) (by omega) (by rw [HS.out, hnm]; simp)
          go_wp2_with fail
          go_quiet (fail)
          go_wp2_with fail
          go_ret
          exact ⟨ret_bool (by rw [HE.out, HF.out]), below_drewN hb _⟩
        · cases hsm : sameB d x.2 y.2
          · have HF : Hid (sameTo d s t s.kids.length = false) := sameTo_mono (k := j + 1) (by omega) (by rw [HS.out, hnm, hsm]; simp)
            go_wp2_with fail
            go_quiet (fail)
            go_wp2_with fail
            go_region_held3 (fun w' => w'.cell? ⟨w.heap.size, 3, none⟩ = some (.slice (some ⟨b, off, none⟩) s.kids.length sc) ∧ w'.cell? ⟨b, off + j * 5 + 1, none⟩ = some (.string x.2.kind) ∧ w'.cell? ⟨b, off + j * 5 + 2, none⟩ = some (.string x.2.data) ∧ w'.cell? ⟨b, off + j * 5 + 3, none⟩ = some (.bool x.2.exec) ∧ w'.cell? ⟨b, off + j * 5 + 4, none⟩ = some (.slice xa x.2.kids.length xc) ∧
                w'.cell? ⟨w.heap.size + 1, 3, none⟩ = some (.slice (some ⟨b', off', none⟩) t.kids.length tc) ∧ w'.cell? ⟨b', off' + j * 5 + 1, none⟩ = some (.string y.2.kind) ∧ w'.cell? ⟨b', off' + j * 5 + 2, none⟩ = some (.string y.2.data) ∧ w'.cell? ⟨b', off' + j * 5 + 3, none⟩ = some (.bool y.2.exec) ∧ w'.cell? ⟨b', off' + j * 5 + 4, none⟩ = some (.slice ya y.2.kids.length yc))
              (first
                | go_keep
                | (go_split_ands
                   refine ⟨?_, ?_, ?_, ?_, ?_, ?_, ?_, ?_, ?_, ?_⟩ <;> (rw [hb4.cell (by first | (simp; done) | (simp; omega))]; assumption)))
              ((go_at_call 14; refine Calls.mono (HC.out _ (by first | exact below_drewN (Below.refl _ _) _ | go_grown)) ?_; rintro e w4 ⟨rfl, hb4, hb5⟩))
            go_wp2_with fail
            go_ret
            exact ⟨ret_bool (by rw [HE.out, HF.out]), hb.trans (hb5.mono hb.size)⟩
          · have HT : Hid (sameTo d s t (j + 1) = true) := show _ = _ by rw [HS.out, hnm, hsm, HA.out]; rfl
            go_wp2_with fail
            go_quiet (fail)
            go_wp2_with fail
            go_region_held3 (fun w' => w'.cell? ⟨w.heap.size, 3, none⟩ = some (.slice (some ⟨b, off, none⟩) s.kids.length sc) ∧ w'.cell? ⟨b, off + j * 5 + 1, none⟩ = some (.string x.2.kind) ∧ w'.cell? ⟨b, off + j * 5 + 2, none⟩ = some (.string x.2.data) ∧ w'.cell? ⟨b, off + j * 5 + 3, none⟩ = some (.bool x.2.exec) ∧ w'.cell? ⟨b, off + j * 5 + 4, none⟩ = some (.slice xa x.2.kids.length xc) ∧
                w'.cell? ⟨w.heap.size + 1, 3, none⟩ = some (.slice (some ⟨b', off', none⟩) t.kids.length tc) ∧ w'.cell? ⟨b', off' + j * 5 + 1, none⟩ = some (.string y.2.kind) ∧ w'.cell? ⟨b', off' + j * 5 + 2, none⟩ = some (.string y.2.data) ∧ w'.cell? ⟨b', off' + j * 5 + 3, none⟩ = some (.bool y.2.exec) ∧ w'.cell? ⟨b', off' + j * 5 + 4, none⟩ = some (.slice ya y.2.kids.length yc))
              (first
                | go_keep
                | (go_split_ands
                   refine ⟨?_, ?_, ?_, ?_, ?_, ?_, ?_, ?_, ?_, ?_⟩ <;> (rw [hb4.cell (by first | (simp; done) | (simp; omega))]; assumption)))
              ((go_at_call 14; refine Calls.mono (HC.out _ (by first | exact below_drewN (Below.refl _ _) _ | go_grown)) ?_; rintro e w4 ⟨rfl, hb4, hb5⟩))
            go_wp2_with fail
            go_roundw
            case rel =>
              refine ⟨j + 1, by omega, by go_num, hb.trans (hb5.mono hb.size), ?_, ?_, by have := hb5.size; omega, HT.out⟩
              · rw [hb5.cell (p := ⟨w.heap.size, 3, none⟩) (Nat.lt_of_succ_lt hsz)]
                exact hbox0
              · rw [hb5.cell (p := ⟨w.heap.size + 1, 3, none⟩) hsz]
                exact hbox
            case measure => simp [intOf]; omega
      · have HM : Hid (sameTo d s t s.kids.length = true) := by
          have e : s.kids.length = j := by omega
          rw [e]; exact HA.out
        go_wp2_with fail
        go_ret
        exact ⟨ret_bool (by rw [HE.out, HM.out]), hb⟩
end Go.Proofs.YtpjjpmikhjlgnaaGreatDoor
