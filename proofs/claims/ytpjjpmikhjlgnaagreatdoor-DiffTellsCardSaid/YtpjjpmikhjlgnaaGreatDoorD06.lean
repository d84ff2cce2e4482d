/-
  The contract of the statements' own LargeNode: 1 if a node is too large, or too deep, for a statement, else 0.
  The contract of the document's answer for one node: stillroomref1's nodeError tells the number of the node's own error.
  Conditions: those that each states.
-/
import Derived.Test.YtpjjpmikhjlgnaaGreatDoorD05
import Derived.Test.YtpjjpmikhjlgnaaGreatDoorD03
import Derived.Laws.Strings
namespace Go.Proofs.YtpjjpmikhjlgnaaGreatDoor
open Go.RowKit

def longName (y : ByteArray × Tree) : Bool := decide (30 < y.1.size)
def itemLarge (x : ByteArray × Nat × Tree) : Bool := decide (11 < x.2.1 ∨ (100 < x.2.2.data.size ∧ x.2.2.data.size ≠ 2001) ∨ 20 < x.2.2.kind.size) || x.2.2.kids.any longName
def largeB (most : Nat) (t : Tree) : Bool := decide (most < (listOf most 12 t).length) || (listOf most 12 t).any itemLarge
def largeN (most : Nat) (t : Tree) : Int := if largeB most t = true then 1 else 0
theorem largeN_yes {most : Nat} {t : Tree} (h : largeB most t = true) : largeN most t = 1 := by unfold largeN; rw [if_pos h]
theorem largeN_no {most : Nat} {t : Tree} (h : largeB most t = false) : largeN most t = 0 := by unfold largeN; rw [if_neg (by simp [h])]
theorem Lies.len {w : World} {B : Nat} : ∀ {d : Nat} {l : List (ByteArray × Tree)} {v : Value}, Lies w B d l v → l.length ≤ 1759218604390
  | 0, _, _, h => absurd h (by simp [Lies])
  | _ + 1, _, _, ⟨_, _, _, h, _⟩ => h
theorem any_hit {α : Type} {p : α → Bool} {l : List α} {j : Nat} {x : α} (h : l[j]? = some x) (hp : p x = true) : l.any p = true := List.any_eq_true.2 ⟨x, List.mem_of_getElem? h, hp⟩
theorem any_snoc {α : Type} {p : α → Bool} {l : List α} {j : Nat} {x : α} (h : l[j]? = some x) : (l.take (j + 1)).any p = ((l.take j).any p || p x) := by
  have hk : j < l.length := (List.getElem?_eq_some_iff.1 h).1
  have e : l[j] = x := (List.getElem?_eq_some_iff.1 h).2
  rw [List.take_succ_eq_append_getElem hk, e]; simp
theorem ret_int {k : IntKind} {a b : Int} (h : a = b) : Ending.returned (.int k a) = .returned (.int k b) := by rw [h]

set_option maxRecDepth 100000 in
set_option maxHeartbeats 4000000 in
theorem large_any (B d most : Nat) (t : Tree) (u : Value) (w : World) (hB : B ≤ w.heap.size) (hl : Lies w B d t.kids u) (hm : most ≤ 1000) :
    Calls Tryz.prog 6 #[.agg #[.string t.kind, .string t.data, .bool t.exec, u], .int .i64 (most : Int)] w fun e w' => e = .returned (.int .i64 (largeN most t)) ∧ Below w.heap.size w w' := by
  obtain ⟨ta, tc, rfl⟩ := hl.form
  have hW : ∀ o, Below w.heap.size w (w.alloc o) := fun o => (Below.refl _ _).alloc (Nat.le_refl _) o
  have hcall := fun o => listOf_any B d most 12 t (.slice ta t.kids.length tc) (w.alloc o) (by simp; omega) (hl.below (hW o) hB) hm (by omega)
  have HCALL : Hid (∀ o, Calls Tryz.prog 30 #[.agg #[.string t.kind, .string t.data, .bool t.exec, .slice ta t.kids.length tc], .int .i64 (most : Int), .int .i64 12] (w.alloc o) fun e w' => ∃ L v, e = .returned v ∧ ListAt (w.alloc o) most 12 B t (most + 1) L v w') := hcall
  have HW : Hid _ := hW
  clear hcall hW hl
  go_enter Tryz.func6, Tryz.ntmps6
  go_wp2_with fail
  refine Calls.mono (HCALL.out _) ?_
  rintro e w1 ⟨L, v, rfl, A⟩
  obtain ⟨va, vc, rfl⟩ : ∃ va vc, v = .slice va L.length vc := by
    rcases A.own.2 with ⟨h, h'⟩ | ⟨g, cap, cur, h, _⟩
    · exact ⟨none, 0, by rw [h, h']⟩
    · exact ⟨_, _, h⟩
  have hbw : Below w.heap.size w w1 := (HW.out _).trans (A.below.mono (by simp))
  have HLO : Hid (L.map (·.1) = listOf most 12 t) := A.strip
  have HLL : Hid (L.length = (listOf most 12 t).length) := show _ = _ by
    have := congrArg List.length HLO.out
    simpa using this
  by_cases hmost : most < L.length
  · have HE : Hid (largeB most t = true) := show _ = _ by unfold largeB; rw [← HLL.out]; simp [hmost]
    clear A
    go_wp2_with fail
    go_ret
    exact ⟨ret_int (largeN_yes HE.out).symm, hbw⟩
  · have HE : Hid (largeB most t = (L.map (·.1)).any itemLarge) := show _ = _ by unfold largeB; rw [← HLL.out, HLO.out]; simp [hmost]
    have HA : Hid _ := A
    clear A
    go_wp2_with fail
    go_loopw [6] (fun i wr => ∃ j : Nat, j ≤ L.length ∧ i = .int .i64 j ∧ Below w1.heap.size w1 wr ∧ ((L.map (·.1)).take j).any itemLarge = false) (fun i _ => L.length - (intOf i).toNat)
    case atStart => exact ⟨0, Nat.zero_le _, rfl, Below.refl _ _, by simp⟩
    case round =>
      obtain ⟨j, hj, rfl, hb, hany⟩ := hrel
      obtain ⟨wo, rfl⟩ : ∃ wo, wo = wr := ⟨wr, rfl⟩
      have HANY : Hid _ := hany
      clear hany
      have hbwo : Below w.heap.size w wo := hbw.trans (hb.mono hbw.size)
      by_cases hlt : j < L.length
      · obtain ⟨x, hx⟩ : ∃ x, L[j]? = some x := ⟨L[j], List.getElem?_eq_getElem hlt⟩
        obtain ⟨⟨p, k, tx⟩, ux⟩ := x
        have hmem := List.mem_of_getElem? hx
        obtain ⟨dx, hlx⟩ := HA.out.lies _ hmem
        simp only at hlx
        obtain ⟨xa, xc, rfl⟩ := hlx.form
        have hxs : (L.map (·.1))[j]? = some (p, k, tx) := by rw [List.getElem?_map, hx]; rfl
        obtain ⟨g, cg, hg⟩ : ∃ g cg, Value.slice va L.length vc = .slice (some ⟨g, 0, none⟩) L.length cg := by
          obtain ⟨g, cg, h, _⟩ := HA.out.own.form (by omega)
          exact ⟨g, cg, h⟩
        simp only [Value.slice.injEq] at hg
        obtain ⟨rfl, _, rfl⟩ := hg
        have hcs := HA.out.own.cells (g := g) rfl
        have hgl := (HA.out.own.lt g rfl).2
        have hadd : ∀ o, (⟨g, 0, none⟩ : Addr).add o = ⟨g, o, none⟩ := fun o => by unfold Addr.add; split <;> simp_all
        have hcell : ∀ o v, (itCells L)[o]? = some v → wo.cell? ⟨g, o, none⟩ = some v := fun o v h => by
          rw [hb.cell (p := ⟨g, o, none⟩) hgl]
          have := hcs o v h
          rw [hadd] at this
          exact this
        obtain ⟨y0, y1, y2, y3, y4, y5⟩ := itCells_at hx
        have c0 := hcell _ _ y0
        have c1 := hcell _ _ y1
        have c2 := hcell _ _ y2
        have c3 := hcell _ _ y3
        have c4 := hcell _ _ y4
        have c5 := hcell _ _ y5
        simp only at c0 c1 c2 c3 c4 c5
        have HX : Hid _ := hxs
        have hkl := hlx.len
        have HLX : Hid _ := hlx.below hb (by have := HA.out.below.size; simp at this; omega)
        clear hcs hadd hcell y0 y1 y2 y3 y4 y5 hx hlx hxs hmem
        by_cases hbad : 11 < k ∨ (100 < tx.data.size ∧ tx.data.size ≠ 2001) ∨ 20 < tx.kind.size
        · have HH : Hid ((L.map (·.1)).any itemLarge = true) := any_hit HX.out (by unfold itemLarge; simp only; rw [decide_eq_true hbad]; rfl)
          have HR : Hid (largeN most t = 1) := largeN_yes (HE.out.trans HH.out)
          by_cases h11 : 11 < k
          · clear hbad
            go_wp2_with fail
            go_ret
            exact ⟨ret_int HR.out.symm, hbwo.alloc hbwo.size _⟩
          · by_cases h100 : 100 < tx.data.size
            · by_cases h2001 : tx.data.size = 2001
              · have h20 : 20 < tx.kind.size := by omega
                clear hbad
                go_wp2_with fail
                go_ret
                exact ⟨ret_int HR.out.symm, hbwo.alloc hbwo.size _⟩
              · clear hbad
                go_wp2_with fail
                go_ret
                exact ⟨ret_int HR.out.symm, hbwo.alloc hbwo.size _⟩
            · have h20 : 20 < tx.kind.size := by omega
              clear hbad
              go_wp2_with fail
              go_ret
              exact ⟨ret_int HR.out.symm, hbwo.alloc hbwo.size _⟩
        · have h11 : ¬ 11 < k := fun h => hbad (.inl h)
          have h20 : ¬ 20 < tx.kind.size := fun h => hbad (.inr (.inr h))
          have hor : ¬ 100 < tx.data.size ∨ (100 < tx.data.size ∧ tx.data.size = 2001) := by omega
          have hits : itemLarge (p, k, tx) = tx.kids.any longName := by unfold itemLarge; simp only; rw [decide_eq_false hbad]; rfl
          have HIT : Hid _ := hits
          have h11b : decide ((11 : Int) < (k : Int)) = false := by simp; omega
          have h20b : decide ((20 : Int) < (tx.kind.size : Int)) = false := by simp; omega
          clear hits hbad
          rcases hor with h100 | ⟨h100, h2001⟩
          all_goals
            go_wp2_with fail
            clear h11b h20b
            go_loop [8] (fun i => ∃ m : Nat, m ≤ tx.kids.length ∧ i = .int .i64 m ∧ (tx.kids.take m).any longName = false) (fun i => tx.kids.length - (intOf i).toNat)
            case atStart => exact ⟨0, Nat.zero_le _, rfl, by simp⟩
            case round =>
              obtain ⟨m, hmm, rfl, hany2⟩ := hrel
              have HANY2 : Hid _ := hany2
              clear hany2
              by_cases hin : m < tx.kids.length
              · obtain ⟨y, hy⟩ : ∃ y, tx.kids[m]? = some y := ⟨tx.kids[m], List.getElem?_eq_getElem hin⟩
                obtain ⟨b, off, rfl, hnm, hlb⟩ : ∃ b off, xa = some ⟨b, off, none⟩ ∧ wo.cell? ⟨b, off + m * 5, none⟩ = some (.string y.1) ∧ b < wo.heap.size := by
                  have h := HLX.out
                  cases dx with
                  | zero => exact absurd h (by simp [Lies])
                  | succ dx =>
                    rcases (Lies.open h).2 with ⟨h0, _⟩ | ⟨b, off, cp, e, hbb, hk⟩
                    · rw [h0] at hin; exact absurd hin (by simp)
                    · simp only [Value.slice.injEq] at e
                      obtain ⟨u, hu⟩ := hk m y hy
                      exact ⟨b, off, e.1, hu.name, by have := hbwo.size; omega⟩
                have HY : Hid _ := hy
                clear hy
                by_cases h30 : 30 < y.1.size
                · have HR : Hid (largeN most t = 1) := largeN_yes (HE.out.trans (any_hit HX.out (by rw [HIT.out]; exact any_hit HY.out (by unfold longName; simp [h30]))))
                  go_wp2_with fail
                  go_ret
                  exact ⟨ret_int HR.out.symm, hbwo.alloc hbwo.size _⟩
                · have HN2 : Hid ((tx.kids.take (m + 1)).any longName = false) := show _ = _ by rw [any_snoc HY.out, HANY2.out]; unfold longName; simp; omega
                  go_wp2_with fail
                  go_round
                  case rel => exact ⟨m + 1, by omega, by go_num, HN2.out⟩
                  case measure => simp [intOf]; omega
              · have HN2 : Hid (((L.map (·.1)).take (j + 1)).any itemLarge = false) := show _ = _ by
                  have h := HANY2.out
                  rw [List.take_of_length_le (by omega)] at h
                  rw [any_snoc HX.out, HANY.out, HIT.out, h]
                  rfl
                go_wp2_with fail
                go_roundw
                case rel => exact ⟨j + 1, by omega, by go_num, hb.alloc hb.size _, HN2.out⟩
                case measure => simp [intOf]; omega
      · have HH : Hid ((L.map (·.1)).any itemLarge = false) := by
          have := HANY.out
          rw [List.take_of_length_le (by simp; omega)] at this
          exact this
        go_wp2_with fail
        go_ret
        exact ⟨ret_int (largeN_no (HE.out.trans HH.out)).symm, hbwo⟩
end Go.Proofs.YtpjjpmikhjlgnaaGreatDoor
namespace Go.Proofs.YtpjjpmikhjlgnaaGreatDoor
open Go.RowKit
attribute [local go_sem ↓] Go.wp_at_zero Go.wp_at_succ

/-- An error's number: 0, or one more than its place. -/
def num : Option Nat → Int
  | none => 0
  | some i => (i : Int) + 1

theorem empty_size {s : ByteArray} (h : s.toList.isEmpty = true) : s.size = 0 := by
  have h1 : s.toList = [] := by simpa using h
  rw [ByteArray.toList_eq] at h1
  have h2 := congrArg List.length h1
  rw [Array.length_toList, List.length_nil] at h2
  exact h2
theorem less_not : ∀ (x y : List UInt8), Op.bytesLess x y = false → Op.bytesLess y x = true ∨ (Op.bytesLess y x = false ∧ (y == x) = true)
  | [], [], _ => .inr ⟨rfl, rfl⟩
  | _ :: _, [], _ => .inl rfl
  | [], _ :: _, h => by simp [Op.bytesLess] at h
  | a :: x, b :: y, h => by
    simp only [Op.bytesLess, Bool.or_eq_false_iff, decide_eq_false_iff_not, Bool.and_eq_false_iff] at h
    obtain ⟨h1, h2⟩ := h
    by_cases hab : b < a
    · left; simp [Op.bytesLess, hab]
    · have e : a = b := UInt8.le_antisymm (UInt8.not_lt.1 hab) (UInt8.not_lt.1 h1)
      subst e
      have h3 : Op.bytesLess x y = false := by rcases h2 with h | h; simp at h; exact h
      rcases less_not x y h3 with h | ⟨h, h'⟩
      · left; simp [Op.bytesLess, h]
      · right
        refine ⟨by simp [Op.bytesLess, h], ?_⟩
        rw [eq_of_beq h']
        simp
theorem less_yes : ∀ (x y : List UInt8), Op.bytesLess x y = true → Op.bytesLess y x = false ∧ (y == x) = false
  | [], [], h => by simp [Op.bytesLess] at h
  | _ :: _, [], h => by simp [Op.bytesLess] at h
  | [], _ :: _, _ => ⟨rfl, rfl⟩
  | a :: x, b :: y, h => by
    simp only [Op.bytesLess, Bool.or_eq_true, decide_eq_true_eq, Bool.and_eq_true, beq_iff_eq] at h
    rcases h with h | ⟨e, h⟩
    · have h1 : ¬ b < a := fun h' => UInt8.lt_irrefl _ (UInt8.lt_trans h h')
      have h2 : b ≠ a := fun e => by rw [e] at h; exact UInt8.lt_irrefl _ h
      refine ⟨by simp [Op.bytesLess, h1, h2], by simp [h2]⟩
    · subst e
      obtain ⟨h1, h2⟩ := less_yes x y h
      have h3 : y ≠ x := fun e => by rw [e] at h2; simp at h2
      exact ⟨by simp [Op.bytesLess, h1], by simp [h3]⟩
theorem nodeErr_other {t : Tree} (h1 : (t.kind.toList == [102, 105, 108, 101]) = false) (h2 : (t.kind.toList == [100, 105, 114]) = false) (h3 : (t.kind.toList == [108, 105, 110, 107]) = false) : nodeErr t = some 3 := by
  unfold nodeErr isFile isDir isLink
  rw [h1, h2, h3]; rfl
theorem nodeErr_file {t : Tree} (h1 : (t.kind.toList == [102, 105, 108, 101]) = true) : nodeErr t = fileErr t := by
  unfold nodeErr isFile
  rw [h1]; rfl
theorem nodeErr_dir {t : Tree} (h1 : (t.kind.toList == [102, 105, 108, 101]) = false) (h2 : (t.kind.toList == [100, 105, 114]) = true) : nodeErr t = dirErr t := by
  unfold nodeErr isFile isDir
  rw [h1, h2]; rfl
theorem nodeErr_link {t : Tree} (h1 : (t.kind.toList == [102, 105, 108, 101]) = false) (h2 : (t.kind.toList == [100, 105, 114]) = false) (h3 : (t.kind.toList == [108, 105, 110, 107]) = true) : nodeErr t = linkErr t := by
  unfold nodeErr isFile isDir isLink
  rw [h1, h2, h3]; rfl
theorem kinds_file {l : List UInt8} (h : (l == [102, 105, 108, 101]) = true) : (l == [100, 105, 114]) = false ∧ (l == [108, 105, 110, 107]) = false := by
  have := eq_of_beq h
  subst this
  exact ⟨rfl, rfl⟩
theorem kinds_dir {l : List UInt8} (h : (l == [100, 105, 114]) = true) : (l == [108, 105, 110, 107]) = false := by
  have := eq_of_beq h
  subst this
  rfl

set_option maxRecDepth 100000 in
set_option maxHeartbeats 4000000 in
theorem nodeError_any (B d : Nat) (t : Tree) (u : Value) (w : World) (hB : B ≤ w.heap.size) (hl : Lies w B (d + 1) t.kids u) (hs : t.data.size ≤ maxLen) :
    Calls Tryz.prog 63 #[.agg #[.string t.kind, .string t.data, .bool t.exec, u]] w fun e w' => e = .returned (.int .i64 (num (nodeErr t))) ∧ Below w.heap.size w w' := by
  unfold maxLen at hs
  have hlo := hl.open
  obtain ⟨ad, cap, rfl⟩ := hl.form
  have hlen := hlo.1
  have HL : Hid _ := hlo
  have HB : Hid (∀ o, Below w.heap.size w (w.alloc o)) := fun o => (Below.refl _ _).alloc (Nat.le_refl _) o
  clear hlo hl
  cases hf : (t.kind.toList == [102, 105, 108, 101])
  · cases hd : (t.kind.toList == [100, 105, 114])
    · cases hk : (t.kind.toList == [108, 105, 110, 107])
      · have HE : Hid (nodeErr t = some 3) := nodeErr_other hf hd hk
        go_enter Tryz.func63, Tryz.ntmps63
        go_wp2_with fail
        go_ret
        exact ⟨ret_int (by rw [HE.out]; rfl), HB.out _⟩
      · have HN : Hid (nodeErr t = linkErr t) := nodeErr_link hf hd hk
        by_cases h1 : t.exec = true ∨ 0 < t.kids.length
        · have HE : Hid (nodeErr t = some 2) := show _ = _ by rw [HN.out]; unfold linkErr; rw [if_pos h1]
          by_cases hx : t.exec = true
          · clear h1
            by_cases hl0 : 0 < t.kids.length
            · go_enter Tryz.func63, Tryz.ntmps63
              go_wp2_with fail
              go_ret
              exact ⟨ret_int (by rw [HE.out]; rfl), HB.out _⟩
            · go_enter Tryz.func63, Tryz.ntmps63
              go_wp2_with fail
              go_ret
              exact ⟨ret_int (by rw [HE.out]; rfl), HB.out _⟩
          · have hl0 : 0 < t.kids.length := by rcases h1 with h | h; exact absurd h hx; exact h
            have hx : t.exec = false := by simpa using hx
            clear h1
            go_enter Tryz.func63, Tryz.ntmps63
            go_wp2_with fail
            go_ret
            exact ⟨ret_int (by rw [HE.out]; rfl), HB.out _⟩
        · have hx : t.exec = false := by cases h : t.exec; rfl; exact absurd (.inl h) h1
          have hl0 : ¬ 0 < t.kids.length := fun h => h1 (.inr h)
          by_cases h2 : t.data.size < 1 ∨ 40 < t.data.size
          · have HE : Hid (nodeErr t = some 1) := show _ = _ by rw [HN.out]; unfold linkErr; rw [if_neg h1, if_pos h2]
            clear h1
            rcases h2 with h2 | h2
            · have h3 : ¬ 2000 < t.data.size := by omega
              go_enter Tryz.func63, Tryz.ntmps63
              go_wp2_with fail
              go_ret
              exact ⟨ret_int (by rw [HE.out]; rfl), HB.out _⟩
            · by_cases h3 : 2000 < t.data.size
              · go_enter Tryz.func63, Tryz.ntmps63
                go_wp2_with fail
                go_ret
                exact ⟨ret_int (by rw [HE.out]; rfl), HB.out _⟩
              · have h4 : ¬ t.data.size < 1 := by omega
                go_enter Tryz.func63, Tryz.ntmps63
                go_wp2_with fail
                go_ret
                exact ⟨ret_int (by rw [HE.out]; rfl), HB.out _⟩
          · have HE : Hid (nodeErr t = if t.data.data.toList.all seen = true then none else some 0) := show _ = _ by rw [HN.out]; unfold linkErr; rw [if_neg h1, if_neg h2]
            have h3 : 1 ≤ t.data.size := by omega
            have h4 : t.data.size ≤ 40 := by omega
            clear h1 h2
            go_enter Tryz.func63, Tryz.ntmps63
            go_wp2_with fail
            go_loop [6] (fun i => ∃ k : Nat, k ≤ t.data.size ∧ i = .int .i64 k ∧ (t.data.data.toList.take k).all seen = true) (fun i => t.data.size - (intOf i).toNat)
            case atStart => exact ⟨0, Nat.zero_le _, rfl, by simp⟩
            case round =>
              obtain ⟨k, hk', rfl, hall⟩ := hrel
              have HA : Hid ((t.data.data.toList.take k).all seen = true) := hall
              clear hall
              by_cases hlt : k < t.data.size
              · have HS : Hid _ := all_snoc (p := seen) t.data k hlt
                by_cases hc : seen t.data[k] = true
                · have HC : Hid (seen t.data[k] = true) := hc
                  have hc1 : 33 ≤ (t.data[k].toNat : Int) := by unfold seen at hc; simp only [decide_eq_true_eq] at hc; exact hc.1
                  have hc2 : (t.data[k].toNat : Int) ≤ 126 := by unfold seen at hc; simp only [decide_eq_true_eq] at hc; exact hc.2
                  clear hc
                  go_wp2
                  go_round
                  case rel => exact ⟨k + 1, by omega, by go_num, by rw [HS.out, HA.out]; exact HC.out⟩
                  case measure => simp [intOf]; omega
                · have hc' : seen t.data[k] = false := by simpa using hc
                  have HM : Hid (t.data.data.toList.all seen = false) := all_miss (p := seen) t.data k hlt hc'
                  have hor : (t.data[k].toNat : Int) < 33 ∨ 126 < (t.data[k].toNat : Int) := by unfold seen at hc'; simp only [decide_eq_false_iff_not] at hc'; omega
                  clear hc hc'
                  rcases hor with hor | hor
                  · go_wp2
                    go_ret
                    exact ⟨ret_int (by rw [HE.out, HM.out]; rfl), HB.out _⟩
                  · have hor2 : 33 ≤ (t.data[k].toNat : Int) := by omega
                    go_wp2
                    go_ret
                    exact ⟨ret_int (by rw [HE.out, HM.out]; rfl), HB.out _⟩
              · have ek : k = t.data.size := by omega
                have HM : Hid (t.data.data.toList.all seen = true) := by
                  have := HA.out
                  rw [ek, all_whole] at this
                  exact this
                clear ek
                go_wp2_with fail
                refine wp_loop_rounds 1 ?_
                rw [rounds_succ]
                go_wp2_with fail
                refine wp_loop_rounds 1 ?_
                rw [rounds_succ]
                go_wp2_with fail
                go_ret
                exact ⟨ret_int (by rw [HE.out, HM.out]; rfl), HB.out _⟩
    · have HN : Hid (nodeErr t = dirErr t) := nodeErr_dir hf hd
      have hk := kinds_dir hd
      by_cases h1 : t.data.toList.isEmpty = false ∨ t.exec = true
      · have HE : Hid (nodeErr t = some 2) := show _ = _ by rw [HN.out]; unfold dirErr; rw [if_pos h1]
        by_cases hx : t.exec = true
        · clear h1
          go_enter Tryz.func63, Tryz.ntmps63
          go_wp2_with fail
          go_ret
          exact ⟨ret_int (by rw [HE.out]; rfl), HB.out _⟩
        · have hx' : t.exec = false := by simpa using hx
          have he : t.data.toList.isEmpty = false := by rcases h1 with h | h; exact h; exact absurd h hx
          clear h1 hx
          go_enter Tryz.func63, Tryz.ntmps63
          go_wp2_with fail
          go_ret
          exact ⟨ret_int (by rw [HE.out]; rfl), HB.out _⟩
      · have HE : Hid (nodeErr t = if (t.kids.all fun x => nameB x.1) = true then (if risesTo t.kids t.kids.length = true then none else some 9) else some 4) := show _ = _ by rw [HN.out]; unfold dirErr; rw [if_neg h1]
        have he : t.data.toList.isEmpty = true := by cases h : t.data.toList.isEmpty; exact absurd (.inl h) h1; rfl
        have hx : t.exec = false := by cases h : t.exec; rfl; exact absurd (.inr h) h1
        have hz := empty_size he
        clear h1
        go_enter Tryz.func63, Tryz.ntmps63
        go_wp2_with fail
        refine wp_loop_rounds 1 ?_
        rw [rounds_succ]
        go_wp2_with fail
        have q3 : (w.alloc (.cells #[.string t.kind, .string t.data, .bool false, .slice ad t.kids.length cap] 24)).cell? ⟨w.heap.size, 3, none⟩ = some (.slice ad t.kids.length cap) := by rw [World.cell?_alloc_at _ _ _ _ rfl]; rfl
        have hW : Below w.heap.size w (w.alloc (.cells #[.string t.kind, .string t.data, .bool false, .slice ad t.kids.length cap] 24)) := HB.out _
        have hz' : (w.alloc (.cells #[.string t.kind, .string t.data, .bool false, .slice ad t.kids.length cap] 24)).heap.size = w.heap.size + 1 := by simp
        generalize w.alloc (.cells #[.string t.kind, .string t.data, .bool false, .slice ad t.kids.length cap] 24) = W1 at *
        have HZ : Hid (W1.heap.size = w.heap.size + 1) := hz'
        clear hz hz' hd hx hf hk he
        go_loop [7] (fun i => ∃ k : Nat, k ≤ t.kids.length ∧ i = .int .i64 k ∧ (t.kids.take k).all (fun x => nameB x.1) = true) (fun i => t.kids.length - (intOf i).toNat)
        case atStart => exact ⟨0, Nat.zero_le _, rfl, by simp⟩
        case round =>
          obtain ⟨k, hk, rfl, hall⟩ := hrel
          have HA : Hid ((t.kids.take k).all (fun x => nameB x.1) = true) := hall
          clear hall
          by_cases hlt : k < t.kids.length
          · obtain ⟨x, hx'⟩ : ∃ x, t.kids[k]? = some x := ⟨t.kids[k], List.getElem?_eq_getElem hlt⟩
            obtain ⟨b, off, rfl, ux, K0⟩ : ∃ b off, ad = some ⟨b, off, none⟩ ∧ ∃ u, KidAt w B d b off k x u := by
              rcases HL.out.2 with ⟨h0, _⟩ | ⟨b, off, cp, e, _, hk⟩
              · rw [h0] at hlt; exact absurd hlt (by simp)
              · simp only [Value.slice.injEq] at e
                exact ⟨b, off, e.1, hk k x hx'⟩
            have K := K0.below hW hB
            have HS : Hid _ := kids_snoc (p := fun x => nameB x.1) hx'
            have HX : Hid (t.kids[k]? = some x) := hx'
            have n0 := K.name
            have hs : x.1.size ≤ maxLen := by have := K.size; unfold maxLen; omega
            clear hx' K0 K
            cases hn : nameB x.1
            · have HM : Hid (t.kids.all (fun x => nameB x.1) = false) := kids_miss (p := fun x => nameB x.1) HX.out hn
              go_wp2_with fail
              refine (isName_any x.1 _ hs).mono ?_
              rintro e w' ⟨rfl, rfl⟩
              go_wp2_with fail
              go_ret
              exact ⟨ret_int (by rw [HE.out, HM.out]; rfl), hW⟩
            · have HN : Hid (nameB x.1 = true) := hn
              go_wp2_with fail
              refine (isName_any x.1 _ hs).mono ?_
              rintro e w' ⟨rfl, rfl⟩
              go_wp2_with fail
              go_round
              case rel => exact ⟨k + 1, by omega, by go_num, by rw [HS.out, HA.out]; exact HN.out⟩
              case measure => simp [intOf]; omega
          · have HM : Hid (t.kids.all (fun x => nameB x.1) = true) := by
              have := HA.out
              rw [List.take_of_length_le (by omega)] at this
              exact this
            go_wp2_with fail
            go_loopw [9] (fun i w2 => ∃ j m : Nat, (j = 0 ∨ j < t.kids.length) ∧ i = .int .i64 ((j : Int) + 1) ∧ w2 = W1.drewN m ∧ risesTo t.kids (j + 1) = true) (fun i _ => t.kids.length - (intOf i).toNat)
            case atStart => exact ⟨0, 0, .inl rfl, by simp, rfl, risesTo_one _⟩
            case round =>
              obtain ⟨j, m, hj, rfl, rfl, hr⟩ := hrel
              have HR : Hid (risesTo t.kids (j + 1) = true) := hr
              clear hr
              by_cases hlt : j + 1 < t.kids.length
              · obtain ⟨x, hx'⟩ : ∃ x, t.kids[j]? = some x := ⟨t.kids[j], List.getElem?_eq_getElem (by omega)⟩
                obtain ⟨y, hy'⟩ : ∃ y, t.kids[j + 1]? = some y := ⟨t.kids[j + 1], List.getElem?_eq_getElem hlt⟩
                obtain ⟨b, off, rfl, ux, K0, uy, L0⟩ : ∃ b off, ad = some ⟨b, off, none⟩ ∧ ∃ u, KidAt w B d b off j x u ∧ ∃ u', KidAt w B d b off (j + 1) y u' := by
                  rcases HL.out.2 with ⟨h0, _⟩ | ⟨b, off, cp, e, _, hk⟩
                  · rw [h0] at hlt; exact absurd hlt (by simp)
                  · simp only [Value.slice.injEq] at e
                    obtain ⟨u1, k1⟩ := hk j x hx'
                    exact ⟨b, off, e.1, u1, k1, hk (j + 1) y hy'⟩
                have n0 := (K0.below hW hB).name
                have n1 := (L0.below hW hB).name
                have HS : Hid _ := risesTo_succ hx' hy'
                clear hx' hy' K0 L0
                cases hn : Op.bytesLess x.1.toList y.1.toList
                · have HM2 : Hid (risesTo t.kids t.kids.length = false) := risesTo_mono (k := j + 1 + 1) (by omega) (by rw [HS.out, hn]; simp)
                  rcases less_not _ _ hn with hn2 | ⟨hn2, hn3⟩
                  all_goals
                    go_wp2_with fail
                    go_quiet (fail)
                    go_wp2_with fail
                    go_ret
                    exact ⟨ret_int (by rw [HE.out, HM.out, HM2.out]; rfl), below_drewN (below_drewN hW _) _⟩
                · have HN : Hid (Op.bytesLess x.1.toList y.1.toList = true) := hn
                  obtain ⟨hn2, hn3⟩ := less_yes _ _ hn
                  go_wp2_with fail
                  go_quiet (fail)
                  go_wp2_with fail
                  go_roundw
                  case rel => exact ⟨j + 1, _, .inr hlt, by go_num, rfl, by rw [HS.out, HR.out]; exact HN.out⟩
                  case measure => simp [intOf]; omega
              · have HM2 : Hid (risesTo t.kids t.kids.length = true) := by
                  cases h : risesTo t.kids t.kids.length
                  · have := risesTo_mono (n := j + 1) (by omega) h
                    rw [HR.out] at this; cases this
                  · exact (rfl : true = true)
                go_wp2_with fail
                go_ret
                exact ⟨ret_int (by rw [HE.out, HM.out, HM2.out]; rfl), below_drewN hW _⟩
  · obtain ⟨hd, hk⟩ := kinds_file hf
    have HN : Hid (nodeErr t = fileErr t) := nodeErr_file hf
    by_cases h1 : 0 < t.kids.length
    · have HE : Hid (nodeErr t = some 2) := show _ = _ by rw [HN.out]; unfold fileErr; rw [if_pos h1]
      go_enter Tryz.func63, Tryz.ntmps63
      go_wp2_with fail
      go_ret
      exact ⟨ret_int (by rw [HE.out]; rfl), HB.out _⟩
    · by_cases h2 : 2000 < t.data.size
      · have HE : Hid (nodeErr t = some 1) := show _ = _ by rw [HN.out]; unfold fileErr; rw [if_neg h1, if_pos h2]
        go_enter Tryz.func63, Tryz.ntmps63
        go_wp2_with fail
        go_ret
        exact ⟨ret_int (by rw [HE.out]; rfl), HB.out _⟩
      · have HE : Hid (nodeErr t = none) := show _ = _ by rw [HN.out]; unfold fileErr; rw [if_neg h1, if_neg h2]
        go_enter Tryz.func63, Tryz.ntmps63
        go_wp2_with fail
        refine wp_loop_rounds 1 ?_
        rw [rounds_succ]
        go_wp2_with fail
        refine wp_loop_rounds 1 ?_
        rw [rounds_succ]
        go_wp2_with fail
        refine wp_loop_rounds 1 ?_
        rw [rounds_succ]
        go_wp2_with fail
        go_ret
        exact ⟨ret_int (by rw [HE.out]; rfl), HB.out _⟩
end Go.Proofs.YtpjjpmikhjlgnaaGreatDoor
