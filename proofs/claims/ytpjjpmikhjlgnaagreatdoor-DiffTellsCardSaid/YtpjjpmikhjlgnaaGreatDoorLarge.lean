/-
  The contract of the statements' own LargeNode: 1 if a node is too large, or too deep, for a statement, else 0.
  Conditions: the node lies in memory below block B; the bound is small.
-/
import Derived.Test.YtpjjpmikhjlgnaaGreatDoorListW
namespace Go.Proofs.YtpjjpmikhjlgnaaGreatDoor
open Go.RowKit

def longName (y : ByteArray × Tree) : Bool := decide (30 < y.1.size)
def itemLarge (x : ByteArray × Nat × Tree) : Bool := decide (11 < x.2.1 ∨ (100 < x.2.2.data.size ∧ x.2.2.data.size ≠ 2001) ∨ 20 < x.2.2.kind.size) || x.2.2.kids.any longName
def largeB (most : Nat) (t : Tree) : Bool := decide (most < (listOf most 12 t).length) || (listOf most 12 t).any itemLarge
def largeN (most : Nat) (t : Tree) : Int := if largeB most t = true then 1 else 0
theorem largeN_yes {most : Nat} {t : Tree} (h : largeB most t = true) : largeN most t = 1 := by unfold largeN; rw [if_pos h]
theorem largeN_no {most : Nat} {t : Tree} (h : largeB most t = false) : largeN most t = 0 := by unfold largeN; rw [if_neg (by simp [h])]
theorem Lies.len {w : World} {B : Nat} : ∀ {d : Nat} {l : List (ByteArray × Tree)} {v : Value}, Lies w B d l v → l.length ≤ 1759218604390
  | 0, _, _, h => absurd h (by simp [Lies])
  | _ + 1, _, _, ⟨_, _, _, h, _⟩ => h
theorem any_hit {α : Type} {p : α → Bool} {l : List α} {j : Nat} {x : α} (h : l[j]? = some x) (hp : p x = true) : l.any p = true := List.any_eq_true.2 ⟨x, List.mem_of_getElem? h, hp⟩
theorem any_snoc {α : Type} {p : α → Bool} {l : List α} {j : Nat} {x : α} (h : l[j]? = some x) : (l.take (j + 1)).any p = ((l.take j).any p || p x) := by
  have hk : j < l.length := (List.getElem?_eq_some_iff.1 h).1
  have e : l[j] = x := (List.getElem?_eq_some_iff.1 h).2
  rw [List.take_succ_eq_append_getElem hk, e]; simp
theorem ret_int {k : IntKind} {a b : Int} (h : a = b) : Ending.returned (.int k a) = .returned (.int k b) := by rw [h]

set_option maxRecDepth 100000 in
set_option maxHeartbeats 4000000 in
theorem large_any (B d most : Nat) (t : Tree) (u : Value) (w : World) (hB : B ≤ w.heap.size) (hl : Lies w B d t.kids u) (hm : most ≤ 1000) :
    Calls Tryz.prog 6 #[.agg #[.string t.kind, .string t.data, .bool t.exec, u], .int .i64 (most : Int)] w fun e w' => e = .returned (.int .i64 (largeN most t)) ∧ Below w.heap.size w w' := by
  obtain ⟨ta, tc, rfl⟩ := hl.form
  have hW : ∀ o, Below w.heap.size w (w.alloc o) := fun o => (Below.refl _ _).alloc (Nat.le_refl _) o
  have hcall := fun o => listOf_any B d most 12 t (.slice ta t.kids.length tc) (w.alloc o) (by simp; omega) (hl.below (hW o) hB) hm (by omega)
  have HCALL : Hid (∀ o, Calls Tryz.prog 30 #[.agg #[.string t.kind, .string t.data, .bool t.exec, .slice ta t.kids.length tc], .int .i64 (most : Int), .int .i64 12] (w.alloc o) fun e w' => ∃ L v, e = .returned v ∧ ListAt (w.alloc o) most 12 B t (most + 1) L v w') := hcall
  have HW : Hid _ := hW
  clear hcall hW hl
  go_enter Tryz.func6, Tryz.ntmps6
  go_wp2_with fail
  refine Calls.mono (HCALL.out _) ?_
  rintro e w1 ⟨L, v, rfl, A⟩
  obtain ⟨va, vc, rfl⟩ : ∃ va vc, v = .slice va L.length vc := by
    rcases A.own.2 with ⟨h, h'⟩ | ⟨g, cap, cur, h, _⟩
    · exact ⟨none, 0, by rw [h, h']⟩
    · exact ⟨_, _, h⟩
  have hbw : Below w.heap.size w w1 := (HW.out _).trans (A.below.mono (by simp))
  have HLO : Hid (L.map (·.1) = listOf most 12 t) := A.strip
  have HLL : Hid (L.length = (listOf most 12 t).length) := show _ = _ by
    have := congrArg List.length HLO.out
    simpa using this
  by_cases hmost : most < L.length
  · have HE : Hid (largeB most t = true) := show _ = _ by unfold largeB; rw [← HLL.out]; simp [hmost]
    clear A
    go_wp2_with fail
    go_ret
    exact ⟨ret_int (largeN_yes HE.out).symm, hbw⟩
  · have HE : Hid (largeB most t = (L.map (·.1)).any itemLarge) := show _ = _ by unfold largeB; rw [← HLL.out, HLO.out]; simp [hmost]
    have HA : Hid _ := A
    clear A
    go_wp2_with fail
    go_loopw [6] (fun i wr => ∃ j : Nat, j ≤ L.length ∧ i = .int .i64 j ∧ Below w1.heap.size w1 wr ∧ ((L.map (·.1)).take j).any itemLarge = false) (fun i _ => L.length - (intOf i).toNat)
    case atStart => exact ⟨0, Nat.zero_le _, rfl, Below.refl _ _, by simp⟩
    case round =>
      obtain ⟨j, hj, rfl, hb, hany⟩ := hrel
      obtain ⟨wo, rfl⟩ : ∃ wo, wo = wr := ⟨wr, rfl⟩
      have HANY : Hid _ := hany
      clear hany
      have hbwo : Below w.heap.size w wo := hbw.trans (hb.mono hbw.size)
      by_cases hlt : j < L.length
      · obtain ⟨x, hx⟩ : ∃ x, L[j]? = some x := ⟨L[j], List.getElem?_eq_getElem hlt⟩
        obtain ⟨⟨p, k, tx⟩, ux⟩ := x
        have hmem := List.mem_of_getElem? hx
        obtain ⟨dx, hlx⟩ := HA.out.lies _ hmem
        simp only at hlx
        obtain ⟨xa, xc, rfl⟩ := hlx.form
        have hxs : (L.map (·.1))[j]? = some (p, k, tx) := by rw [List.getElem?_map, hx]; rfl
        obtain ⟨g, cg, hg⟩ : ∃ g cg, Value.slice va L.length vc = .slice (some ⟨g, 0, none⟩) L.length cg := by
          obtain ⟨g, cg, h, _⟩ := HA.out.own.form (by omega)
          exact ⟨g, cg, h⟩
        simp only [Value.slice.injEq] at hg
        obtain ⟨rfl, _, rfl⟩ := hg
        have hcs := HA.out.own.cells (g := g) rfl
        have hgl := (HA.out.own.lt g rfl).2
        have hadd : ∀ o, (⟨g, 0, none⟩ : Addr).add o = ⟨g, o, none⟩ := fun o => by unfold Addr.add; split <;> simp_all
        have hcell : ∀ o v, (itCells L)[o]? = some v → wo.cell? ⟨g, o, none⟩ = some v := fun o v h => by
          rw [hb.cell (p := ⟨g, o, none⟩) hgl]
          have := hcs o v h
          rw [hadd] at this
          exact this
        obtain ⟨y0, y1, y2, y3, y4, y5⟩ := itCells_at hx
        have c0 := hcell _ _ y0
        have c1 := hcell _ _ y1
        have c2 := hcell _ _ y2
        have c3 := hcell _ _ y3
        have c4 := hcell _ _ y4
        have c5 := hcell _ _ y5
        simp only at c0 c1 c2 c3 c4 c5
        have HX : Hid _ := hxs
        have hkl := hlx.len
        have HLX : Hid _ := hlx.below hb (by have := HA.out.below.size; simp at this; omega)
        clear hcs hadd hcell y0 y1 y2 y3 y4 y5 hx hlx hxs hmem
        by_cases hbad : 11 < k ∨ (100 < tx.data.size ∧ tx.data.size ≠ 2001) ∨ 20 < tx.kind.size
        · have HH : Hid ((L.map (·.1)).any itemLarge = true) := any_hit HX.out (by unfold itemLarge; simp only; rw [decide_eq_true hbad]; rfl)
          have HR : Hid (largeN most t = 1) := largeN_yes (HE.out.trans HH.out)
          by_cases h11 : 11 < k
          · clear hbad
            go_wp2_with fail
            go_ret
            exact ⟨ret_int HR.out.symm, hbwo.alloc hbwo.size _⟩
          · by_cases h100 : 100 < tx.data.size
            · by_cases h2001 : tx.data.size = 2001
              · have h20 : 20 < tx.kind.size := by omega
                clear hbad
                go_wp2_with fail
                go_ret
                exact ⟨ret_int HR.out.symm, hbwo.alloc hbwo.size _⟩
              · clear hbad
                go_wp2_with fail
                go_ret
                exact ⟨ret_int HR.out.symm, hbwo.alloc hbwo.size _⟩
            · have h20 : 20 < tx.kind.size := by omega
              clear hbad
              go_wp2_with fail
              go_ret
              exact ⟨ret_int HR.out.symm, hbwo.alloc hbwo.size _⟩
        · have h11 : ¬ 11 < k := fun h => hbad (.inl h)
          have h20 : ¬ 20 < tx.kind.size := fun h => hbad (.inr (.inr h))
          have hor : ¬ 100 < tx.data.size ∨ (100 < tx.data.size ∧ tx.data.size = 2001) := by omega
          have hits : itemLarge (p, k, tx) = tx.kids.any longName := by unfold itemLarge; simp only; rw [decide_eq_false hbad]; rfl
          have HIT : Hid _ := hits
          have h11b : decide ((11 : Int) < (k : Int)) = false := by simp; omega
          have h20b : decide ((20 : Int) < (tx.kind.size : Int)) = false := by simp; omega
          clear hits hbad
          rcases hor with h100 | ⟨h100, h2001⟩
          all_goals
            go_wp2_with fail
            clear h11b h20b
            go_loop [8] (fun i => ∃ m : Nat, m ≤ tx.kids.length ∧ i = .int .i64 m ∧ (tx.kids.take m).any longName = false) (fun i => tx.kids.length - (intOf i).toNat)
            case atStart => exact ⟨0, Nat.zero_le _, rfl, by simp⟩
            case round =>
              obtain ⟨m, hmm, rfl, hany2⟩ := hrel
              have HANY2 : Hid _ := hany2
              clear hany2
              by_cases hin : m < tx.kids.length
              · obtain ⟨y, hy⟩ : ∃ y, tx.kids[m]? = some y := ⟨tx.kids[m], List.getElem?_eq_getElem hin⟩
                obtain ⟨b, off, rfl, hnm, hlb⟩ : ∃ b off, xa = some ⟨b, off, none⟩ ∧ wo.cell? ⟨b, off + m * 5, none⟩ = some (.string y.1) ∧ b < wo.heap.size := by
                  have h := HLX.out
                  cases dx with
                  | zero => exact absurd h (by simp [Lies])
                  | succ dx =>
                    rcases (Lies.open h).2 with ⟨h0, _⟩ | ⟨b, off, cp, e, hbb, hk⟩
                    · rw [h0] at hin; exact absurd hin (by simp)
                    · simp only [Value.slice.injEq] at e
                      obtain ⟨u, hu⟩ := hk m y hy
                      exact ⟨b, off, e.1, hu.name, by have := hbwo.size; omega⟩
                have HY : Hid _ := hy
                clear hy
                by_cases h30 : 30 < y.1.size
                · have HR : Hid (largeN most t = 1) := largeN_yes (HE.out.trans (any_hit HX.out (by rw [HIT.out]; exact any_hit HY.out (by unfold longName; simp [h30]))))
                  go_wp2_with fail
                  go_ret
                  exact ⟨ret_int HR.out.symm, hbwo.alloc hbwo.size _⟩
                · have HN2 : Hid ((tx.kids.take (m + 1)).any longName = false) := show _ = _ by rw [any_snoc HY.out, HANY2.out]; unfold longName; simp; omega
                  go_wp2_with fail
                  go_round
                  case rel => exact ⟨m + 1, by omega, by go_num, HN2.out⟩
                  case measure => simp [intOf]; omega
              · have HN2 : Hid (((L.map (·.1)).take (j + 1)).any itemLarge = false) := show _ = _ by
                  have h := HANY2.out
                  rw [List.take_of_length_le (by omega)] at h
                  rw [any_snoc HX.out, HANY.out, HIT.out, h]
                  rfl
                go_wp2_with fail
                go_roundw
                case rel => exact ⟨j + 1, by omega, by go_num, hb.alloc hb.size _, HN2.out⟩
                case measure => simp [intOf]; omega
      · have HH : Hid ((L.map (·.1)).any itemLarge = false) := by
          have := HANY.out
          rw [List.take_of_length_le (by simp; omega)] at this
          exact this
        go_wp2_with fail
        go_ret
        exact ⟨ret_int (largeN_no (HE.out.trans HH.out)).symm, hbwo⟩
end Go.Proofs.YtpjjpmikhjlgnaaGreatDoor
