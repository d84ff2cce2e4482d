/-
  The contract of the statements' own LargeNode: 1 if a node is too large, or too deep, for a statement, else 0.
  Trees as lists of nodes: sums over them, what is the same, what is well.
  A node in a block of its own, whose cells are set: what stays.
  The contracts of path.Get, and of package path's begin.
  Conditions: those that each states.
-/
import Derived.Test.YteefneelcgeioaaGreatDoorH31
import Derived.Test.YteefneelcgeioaaGreatDoorH25
import Derived.Test.YteefneelcgeioaaGreatDoorH21
import Derived.Test.YteefneelcgeioaaGreatDoorH30
import Derived.Test.YteefneelcgeioaaGreatDoorH23
namespace Go.Proofs.YteefneelcgeioaaGreatDoor
open Go.RowKit

def longName (y : ByteArray × Tree) : Bool := decide (30 < y.1.size)
def itemLarge (x : ByteArray × Nat × Tree) : Bool := decide (11 < x.2.1 ∨ (100 < x.2.2.data.size ∧ x.2.2.data.size ≠ 2001) ∨ 20 < x.2.2.kind.size) || x.2.2.kids.any longName
def largeB (most : Nat) (t : Tree) : Bool := decide (most < (listOf most 12 t).length) || (listOf most 12 t).any itemLarge
def largeN (most : Nat) (t : Tree) : Int := if largeB most t = true then 1 else 0
theorem largeN_yes {most : Nat} {t : Tree} (h : largeB most t = true) : largeN most t = 1 := by unfold largeN; rw [if_pos h]
theorem largeN_no {most : Nat} {t : Tree} (h : largeB most t = false) : largeN most t = 0 := by unfold largeN; rw [if_neg (by simp [h])]
theorem Lies.len {w : World} {B : Nat} : ∀ {d : Nat} {l : List (ByteArray × Tree)} {v : Value}, Lies w B d l v → l.length ≤ 1759218604390
  | 0, _, _, h => absurd h (by simp [Lies])
  | _ + 1, _, _, ⟨_, _, _, h, _⟩ => h
theorem any_hit {α : Type} {p : α → Bool} {l : List α} {j : Nat} {x : α} (h : l[j]? = some x) (hp : p x = true) : l.any p = true := List.any_eq_true.2 ⟨x, List.mem_of_getElem? h, hp⟩
theorem any_snoc {α : Type} {p : α → Bool} {l : List α} {j : Nat} {x : α} (h : l[j]? = some x) : (l.take (j + 1)).any p = ((l.take j).any p || p x) := by
  have hk : j < l.length := (List.getElem?_eq_some_iff.1 h).1
  have e : l[j] = x := (List.getElem?_eq_some_iff.1 h).2
  rw [List.take_succ_eq_append_getElem hk, e]; simp
theorem ret_int {k : IntKind} {a b : Int} (h : a = b) : Ending.returned (.int k a) = .returned (.int k b) := by rw [h]

set_option maxRecDepth 100000 in
set_option maxHeartbeats 4000000 in
theorem large_any (B d most : Nat) (t : Tree) (u : Value) (w : World) (hB : B ≤ w.heap.size) (hl : Lies w B d t.kids u) (hm : most ≤ 1000) :
    Calls Tryz.prog 21 #[.agg #[.string t.kind, .string t.data, .bool t.exec, u], .int .i64 (most : Int)] w fun e w' => e = .returned (.int .i64 (largeN most t)) ∧ Below w.heap.size w w' := by
  obtain ⟨ta, tc, rfl⟩ := hl.form
  have hW : ∀ o, Below w.heap.size w (w.alloc o) := fun o => (Below.refl _ _).alloc (Nat.le_refl _) o
  have hcall := fun o => listOf_any B d most 12 t (.slice ta t.kids.length tc) (w.alloc o) (by simp; omega) (hl.below (hW o) hB) hm (by omega)
  have HCALL : Hid (∀ o, Calls Tryz.prog 48 #[.agg #[.string t.kind, .string t.data, .bool t.exec, .slice ta t.kids.length tc], .int .i64 (most : Int), .int .i64 12] (w.alloc o) fun e w' => ∃ L v, e = .returned v ∧ ListAt (w.alloc o) most 12 B t (most + 1) L v w') := hcall
  have HW : Hid _ := hW
  clear hcall hW hl
  go_enter Tryz.func21, Tryz.ntmps21
  go_wp2_with fail
  refine Calls.mono (HCALL.out _) ?_
  rintro e w1 ⟨L, v, rfl, A⟩
  obtain ⟨va, vc, rfl⟩ : ∃ va vc, v = .slice va L.length vc := by
    rcases A.own.2 with ⟨h, h'⟩ | ⟨g, cap, cur, h, _⟩
    · exact ⟨none, 0, by rw [h, h']⟩
    · exact ⟨_, _, h⟩
  have hbw : Below w.heap.size w w1 := (HW.out _).trans (A.below.mono (by simp))
  have HLO : Hid (L.map (·.1) = listOf most 12 t) := A.strip
  have HLL : Hid (L.length = (listOf most 12 t).length) := show _ = _ by
    have := congrArg List.length HLO.out
    simpa using this
  by_cases hmost : most < L.length
  · have HE : Hid (largeB most t = true) := show _ = _ by unfold largeB; rw [← HLL.out]; simp [hmost]
    clear A
    go_wp2_with fail
    go_ret
    exact ⟨ret_int (largeN_yes HE.out).symm, hbw⟩
  · have HE : Hid (largeB most t = (L.map (·.1)).any itemLarge) := show _ = _ by unfold largeB; rw [← HLL.out, HLO.out]; simp [hmost]
    have HA : Hid _ := A
    clear A
    go_wp2_with fail
    go_loopw [6] (fun i wr => ∃ j : Nat, j ≤ L.length ∧ i = .int .i64 j ∧ Below w1.heap.size w1 wr ∧ ((L.map (·.1)).take j).any itemLarge = false) (fun i _ => L.length - (intOf i).toNat)
    case atStart => exact ⟨0, Nat.zero_le _, rfl, Below.refl _ _, by simp⟩
    case round =>
      obtain ⟨j, hj, rfl, hb, hany⟩ := hrel
      obtain ⟨wo, rfl⟩ : ∃ wo, wo = wr := ⟨wr, rfl⟩
      have HANY : Hid _ := hany
      clear hany
      have hbwo : Below w.heap.size w wo := hbw.trans (hb.mono hbw.size)
      by_cases hlt : j < L.length
      · obtain ⟨x, hx⟩ : ∃ x, L[j]? = some x := ⟨L[j], List.getElem?_eq_getElem hlt⟩
        obtain ⟨⟨p, k, tx⟩, ux⟩ := x
        have hmem := List.mem_of_getElem? hx
        obtain ⟨dx, hlx⟩ := HA.out.lies _ hmem
        simp only at hlx
        obtain ⟨xa, xc, rfl⟩ := hlx.form
        have hxs : (L.map (·.1))[j]? = some (p, k, tx) := by rw [List.getElem?_map, hx]; rfl
        obtain ⟨g, cg, hg⟩ : ∃ g cg, Value.slice va L.length vc = .slice (some ⟨g, 0, none⟩) L.length cg := by
          obtain ⟨g, cg, h, _⟩ := HA.out.own.form (by omega)
          exact ⟨g, cg, h⟩
        simp only [Value.slice.injEq] at hg
        obtain ⟨rfl, _, rfl⟩ := hg
        have hcs := HA.out.own.cells (g := g) rfl
        have hgl := (HA.out.own.lt g rfl).2
        have hadd : ∀ o, (⟨g, 0, none⟩ : Addr).add o = ⟨g, o, none⟩ := fun o => by unfold Addr.add; split <;> simp_all
        have hcell : ∀ o v, (itCells L)[o]? = some v → wo.cell? ⟨g, o, none⟩ = some v := fun o v h => by
          rw [hb.cell (p := ⟨g, o, none⟩) hgl]
          have := hcs o v h
          rw [hadd] at this
          exact this
        obtain ⟨y0, y1, y2, y3, y4, y5⟩ := itCells_at hx
        have c0 := hcell _ _ y0
        have c1 := hcell _ _ y1
        have c2 := hcell _ _ y2
        have c3 := hcell _ _ y3
        have c4 := hcell _ _ y4
        have c5 := hcell _ _ y5
        simp only at c0 c1 c2 c3 c4 c5
        have HX : Hid _ := hxs
        have hkl := hlx.len
        have HLX : Hid _ := hlx.below hb (by have := HA.out.below.size; simp at this; omega)
        clear hcs hadd hcell y0 y1 y2 y3 y4 y5 hx hlx hxs hmem
        by_cases hbad : 11 < k ∨ (100 < tx.data.size ∧ tx.data.size ≠ 2001) ∨ 20 < tx.kind.size
        · have HH : Hid ((L.map (·.1)).any itemLarge = true) := any_hit HX.out (by unfold itemLarge; simp only; rw [decide_eq_true hbad]; rfl)
          have HR : Hid (largeN most t = 1) := largeN_yes (HE.out.trans HH.out)
          by_cases h11 : 11 < k
          · clear hbad
            go_wp2_with fail
            go_ret
            exact ⟨ret_int HR.out.symm, hbwo.alloc hbwo.size _⟩
          · by_cases h100 : 100 < tx.data.size
            · by_cases h2001 : tx.data.size = 2001
              · have h20 : 20 < tx.kind.size := by omega
                clear hbad
                go_wp2_with fail
                go_ret
                exact ⟨ret_int HR.out.symm, hbwo.alloc hbwo.size _⟩
              · clear hbad
                go_wp2_with fail
                go_ret
                exact ⟨ret_int HR.out.symm, hbwo.alloc hbwo.size _⟩
            · have h20 : 20 < tx.kind.size := by omega
              clear hbad
              go_wp2_with fail
              go_ret
              exact ⟨ret_int HR.out.symm, hbwo.alloc hbwo.size _⟩
        · have h11 : ¬ 11 < k := fun h => hbad (.inl h)
          have h20 : ¬ 20 < tx.kind.size := fun h => hbad (.inr (.inr h))
          have hor : ¬ 100 < tx.data.size ∨ (100 < tx.data.size ∧ tx.data.size = 2001) := by omega
          have hits : itemLarge (p, k, tx) = tx.kids.any longName := by unfold itemLarge; simp only; rw [decide_eq_false hbad]; rfl
          have HIT : Hid _ := hits
          have h11b : decide ((11 : Int) < (k : Int)) = false := by simp; omega
          have h20b : decide ((20 : Int) < (tx.kind.size : Int)) = false := by simp; omega
          clear hits hbad
          rcases hor with h100 | ⟨h100, h2001⟩
          all_goals
            go_wp2_with fail
            clear h11b h20b
            go_loop [8] (fun i => ∃ m : Nat, m ≤ tx.kids.length ∧ i = .int .i64 m ∧ (tx.kids.take m).any longName = false) (fun i => tx.kids.length - (intOf i).toNat)
            case atStart => exact ⟨0, Nat.zero_le _, rfl, by simp⟩
            case round =>
              obtain ⟨m, hmm, rfl, hany2⟩ := hrel
              have HANY2 : Hid _ := hany2
              clear hany2
              by_cases hin : m < tx.kids.length
              · obtain ⟨y, hy⟩ : ∃ y, tx.kids[m]? = some y := ⟨tx.kids[m], List.getElem?_eq_getElem hin⟩
                obtain ⟨b, off, rfl, hnm, hlb⟩ : ∃ b off, xa = some ⟨b, off, none⟩ ∧ wo.cell? ⟨b, off + m * 5, none⟩ = some (.string y.1) ∧ b < wo.heap.size := by
                  have h := HLX.out
                  cases dx with
                  | zero => exact absurd h (by simp [Lies])
                  | succ dx =>
                    rcases (Lies.open h).2 with ⟨h0, _⟩ | ⟨b, off, cp, e, hbb, hk⟩
                    · rw [h0] at hin; exact absurd hin (by simp)
                    · simp only [Value.slice.injEq] at e
                      obtain ⟨u, hu⟩ := hk m y hy
                      exact ⟨b, off, e.1, hu.name, by have := hbwo.size; omega⟩
                have HY : Hid _ := hy
                clear hy
                by_cases h30 : 30 < y.1.size
                · have HR : Hid (largeN most t = 1) := largeN_yes (HE.out.trans (any_hit HX.out (by rw [HIT.out]; exact any_hit HY.out (by unfold longName; simp [h30]))))
                  go_wp2_with fail
                  go_ret
                  exact ⟨ret_int HR.out.symm, hbwo.alloc hbwo.size _⟩
                · have HN2 : Hid ((tx.kids.take (m + 1)).any longName = false) := show _ = _ by rw [any_snoc HY.out, HANY2.out]; unfold longName; simp; omega
                  go_wp2_with fail
                  go_round
                  case rel => exact ⟨m + 1, by omega, by go_num, HN2.out⟩
                  case measure => simp [intOf]; omega
              · have HN2 : Hid (((L.map (·.1)).take (j + 1)).any itemLarge = false) := show _ = _ by
                  have h := HANY2.out
                  rw [List.take_of_length_le (by omega)] at h
                  rw [any_snoc HX.out, HANY.out, HIT.out, h]
                  rfl
                go_wp2_with fail
                go_roundw
                case rel => exact ⟨j + 1, by omega, by go_num, hb.alloc hb.size _, HN2.out⟩
                case measure => simp [intOf]; omega
      · have HH : Hid ((L.map (·.1)).any itemLarge = false) := by
          have := HANY.out
          rw [List.take_of_length_le (by simp; omega)] at this
          exact this
        go_wp2_with fail
        go_ret
        exact ⟨ret_int (largeN_no (HE.out.trans HH.out)).symm, hbwo⟩
end Go.Proofs.YteefneelcgeioaaGreatDoor
namespace Go.Proofs.YteefneelcgeioaaGreatDoor
open Go.RowKit

/-- So deep at most. -/
def Fit : Nat → Tree → Prop
  | 0, _ => False
  | d + 1, t => ∀ x ∈ t.kids, Fit d x.2
theorem Lies.fit {w : World} {B : Nat} : ∀ {d : Nat} {t : Tree} {v : Value}, Lies w B d t.kids v → Fit d t
  | 0, _, _, h => absurd h (by simp [Lies])
  | d + 1, t, v, ⟨ad, cap, _, _, hk⟩ => fun x hx => by
    obtain ⟨i, hi, he⟩ := List.getElem_of_mem hx
    obtain ⟨_, _, u, _, _, _, _, _, _, _, _, h⟩ := hk i x (by rw [List.getElem?_eq_getElem hi, he])
    exact Lies.fit h

theorem sameB_refl : ∀ {d : Nat} {t : Tree}, Fit d t → sameB d t t = true
  | 0, _, h => h.elim
  | d + 1, t, h => by
    rw [sameB_succ]
    have h1 : headSame t t = true := by simp [headSame]
    rw [h1, Bool.true_and]
    unfold sameTo
    rw [List.all_eq_true]
    intro i hi
    have hi' := List.mem_range.1 hi
    rw [List.getElem?_eq_getElem hi']
    simp only [beq_self_eq_true, Bool.true_and]
    exact sameB_refl (h _ (List.getElem_mem hi'))

/-! ### The list is the order of the walk -/
def tailOf (d : Nat) (x : ByteArray × Nat × Tree) : List (ByteArray × Nat × Tree) := pre (d - x.2.1) x.1 x.2.1 x.2.2
theorem listTo_take {most deep : Nat} {l : List (ByteArray × Nat × Tree)} {i : Nat} : ∀ n, i ≤ n → (listTo most deep l n).take i = (listTo most deep l i).take i := by
  intro n hn
  induction n with
  | zero => have : i = 0 := by omega
            subst this; rfl
  | succ n ih =>
    rcases Nat.lt_or_ge n i with hlt | hge
    · have : i = n + 1 := by omega
      subst this; rfl
    · rw [← ih hge]
      show (grow most deep (listTo most deep l n) n).take i = _
      unfold grow
      split
      · rfl
      · rename_i x hx
        split
        · rfl
        · have hn' : n < (listTo most deep l n).length := (List.getElem?_eq_some_iff.1 hx).1
          rw [List.append_assoc, List.take_append_of_le_length (by rw [List.length_take]; omega), List.take_take, Nat.min_eq_left (by omega)]
theorem listTo_mono {most deep : Nat} {l : List (ByteArray × Nat × Tree)} (i : Nat) : (listTo most deep l i).length ≤ (listTo most deep l (i + 1)).length := by
  show _ ≤ (grow most deep (listTo most deep l i) i).length
  unfold grow
  split
  · exact Nat.le_refl _
  · split
    · exact Nat.le_refl _
    · simp only [List.length_append, List.length_take, List.length_drop]; omega
theorem listTo_monos {most deep : Nat} {l : List (ByteArray × Nat × Tree)} (i : Nat) : ∀ n, i ≤ n → (listTo most deep l i).length ≤ (listTo most deep l n).length := by
  intro n hn
  induction n with
  | zero => have : i = 0 := by omega
            subst this; exact Nat.le_refl _
  | succ n ih =>
    rcases Nat.lt_or_ge n i with hlt | hge
    · have : i = n + 1 := by omega
      subst this; exact Nat.le_refl _
    · exact Nat.le_trans (ih hge) (listTo_mono n)

theorem list_flat {most deep d : Nat} {t : Tree} (hd : Fit d t) (hlen : (listOf most deep t).length ≤ most) (hdp : ∀ x ∈ listOf most deep t, x.2.1 ≤ deep) :
    ∀ i, i ≤ most + 1 → (∀ x ∈ listTo most deep [(ByteArray.empty, 0, t)] i, Fit (d - x.2.1) x.2.2) ∧
      (listTo most deep [(ByteArray.empty, 0, t)] i).take i ++ ((listTo most deep [(ByteArray.empty, 0, t)] i).drop i).flatMap (tailOf d) = pre d ByteArray.empty 0 t := by
  intro i
  induction i with
  | zero =>
    intro _
    refine ⟨fun x hx => ?_, ?_⟩
    · simp only [listTo, List.mem_singleton] at hx
      subst hx
      exact hd
    · simp [listTo, tailOf]
  | succ i ih =>
    intro hi
    obtain ⟨h1, h2⟩ := ih (by omega)
    have hgr : listTo most deep [(ByteArray.empty, 0, t)] (i + 1) = grow most deep (listTo most deep [(ByteArray.empty, 0, t)] i) i := rfl
    have hml : (listTo most deep [(ByteArray.empty, 0, t)] (i + 1)).length ≤ most := Nat.le_trans (listTo_monos (i + 1) (most + 1) hi) hlen
    generalize hl : listTo most deep [(ByteArray.empty, 0, t)] i = l at *
    cases hx : l[i]? with
    | none =>
      have hle : l.length ≤ i := by
        rcases Nat.lt_or_ge i l.length with h | h
        · rw [List.getElem?_eq_getElem h] at hx; cases hx
        · exact h
      have e : grow most deep l i = l := by unfold grow; rw [hx]
      rw [hgr, e]
      refine ⟨h1, ?_⟩
      rw [List.take_of_length_le (by omega), List.drop_eq_nil_of_le (by omega)]
      rw [List.take_of_length_le hle, List.drop_eq_nil_of_le hle] at h2
      exact h2
    | some x =>
      have hil : i < l.length := (List.getElem?_eq_some_iff.1 hx).1
      have hge : l[i] = x := (List.getElem?_eq_some_iff.1 hx).2
      have hxm : x ∈ l := List.mem_of_getElem? hx
      have hxd : x.2.1 ≤ deep := by
        -- x stands in the whole list
        have ht := listTo_take (most := most) (deep := deep) (l := [(ByteArray.empty, 0, t)]) (i := i + 1) (most + 1) hi
        have hin : x ∈ (listTo most deep [(ByteArray.empty, 0, t)] (i + 1)).take (i + 1) := by
          have eg : grow most deep l i = if deep < x.2.1 then l else l.take (i + 1) ++ kidsOf most x ++ l.drop (i + 1) := by unfold grow; rw [hx]
          rw [hgr, eg]
          split
          · exact List.mem_of_getElem? (i := i) (by rw [List.getElem?_take, if_pos (by omega)]; exact hx)
          · rw [List.append_assoc, List.take_append_of_le_length (by rw [List.length_take]; omega), List.take_take, Nat.min_self]
            exact List.mem_of_getElem? (i := i) (by rw [List.getElem?_take, if_pos (by omega)]; exact hx)
        rw [← ht] at hin
        exact hdp x (List.mem_of_mem_take hin)
      have e : grow most deep l i = l.take (i + 1) ++ kidsOf most x ++ l.drop (i + 1) := by
        unfold grow
        rw [hx]
        exact if_neg (by omega)
      rw [hgr, e] at hml
      have hkl : (kidsOf most x).length ≤ most := by
        simp only [List.length_append, List.length_take, List.length_drop] at hml
        omega
      have hka : x.2.2.kids.take (most + 1) = x.2.2.kids := by
        refine List.take_of_length_le ?_
        unfold kidsOf at hkl
        simp only [List.length_map, List.length_take] at hkl
        omega
      have hfx := h1 x hxm
      obtain ⟨m, hm⟩ : ∃ m, d - x.2.1 = m + 1 := by
        cases hdm : d - x.2.1 with
        | zero => rw [hdm] at hfx; exact hfx.elim
        | succ m => exact ⟨m, rfl⟩
      have hdk : d - (x.2.1 + 1) = m := by omega
      rw [hgr, e]
      refine ⟨fun y hy => ?_, ?_⟩
      · rcases List.mem_append.1 hy with h | h
        · rcases List.mem_append.1 h with h | h
          · exact h1 y (List.mem_of_mem_take h)
          · unfold kidsOf at h
            rw [hka] at h
            obtain ⟨z, hz, rfl⟩ := List.mem_map.1 h
            simp only
            rw [hdk]
            rw [hm] at hfx
            exact hfx z hz
        · exact h1 y (List.mem_of_mem_drop h)
      · have e1 : (l.take (i + 1) ++ kidsOf most x ++ l.drop (i + 1)).take (i + 1) = l.take (i + 1) := by
          rw [List.append_assoc, List.take_append_of_le_length (by rw [List.length_take]; omega), List.take_take, Nat.min_self]
        have e2 : (l.take (i + 1) ++ kidsOf most x ++ l.drop (i + 1)).drop (i + 1) = kidsOf most x ++ l.drop (i + 1) := by
          rw [List.append_assoc]
          have hl1 : (l.take (i + 1)).length = i + 1 := by rw [List.length_take]; omega
          exact List.drop_left' hl1
        rw [e1, e2, List.flatMap_append]
        have e3 : tailOf d x = x :: (kidsOf most x).flatMap (tailOf d) := by
          unfold tailOf
          rw [hm]
          simp only [pre]
          congr 1
          unfold kidsOf
          rw [hka, List.flatMap_map]
          simp only [hdk]
        have e4 : l.drop i = x :: l.drop (i + 1) := by rw [List.drop_eq_getElem_cons hil, hge]
        have e5 : l.take (i + 1) = l.take i ++ [x] := by rw [List.take_succ_eq_append_getElem hil, hge]
        rw [e4, List.flatMap_cons, e3] at h2
        rw [e5, ← h2]
        simp
theorem pre_eq {most d : Nat} {t : Tree} (hd : Fit d t) (h : largeB most t = false) : pre d ByteArray.empty 0 t = listOf most 12 t := by
  unfold largeB at h
  simp only [Bool.or_eq_false_iff, decide_eq_false_iff_not] at h
  have hlen : (listOf most 12 t).length ≤ most := by omega
  have hdp : ∀ x ∈ listOf most 12 t, x.2.1 ≤ 12 := fun x hx => by
    have := List.any_eq_false.1 h.2 x hx
    unfold itemLarge at this
    simp at this
    omega
  have := (list_flat hd hlen hdp (most + 1) (Nat.le_refl _)).2
  have hl : (listTo most 12 [(ByteArray.empty, 0, t)] (most + 1)).length ≤ most + 1 := by
    show (listOf most 12 t).length ≤ _
    omega
  rw [List.take_of_length_le hl, List.drop_eq_nil_of_le hl] at this
  simp only [List.flatMap_nil, List.append_nil] at this
  exact this.symm
end Go.Proofs.YteefneelcgeioaaGreatDoor
namespace Go.Proofs.YteefneelcgeioaaGreatDoor
open Go.RowKit

theorem ba_empty (p : ByteArray) : p ++ ByteArray.empty = p := by
  apply ByteArray.ext
  simp
theorem ba_assoc (p q r : ByteArray) : p ++ q ++ r = p ++ (q ++ r) := by
  apply ByteArray.ext
  simp [ByteArray.data_append]
theorem pre_shift : ∀ (d : Nat) (p : ByteArray) (k : Nat) (t : Tree), pre d p k t = (pre d ByteArray.empty 0 t).map fun x => (p ++ x.1, k + x.2.1, x.2.2)
  | 0, _, _, _ => rfl
  | d + 1, p, k, t => by
    simp only [pre, List.map_cons, ba_empty, Nat.add_zero, List.map_flatMap]
    congr 1
    congr 1
    funext y
    rw [pre_shift d (p ++ slash ++ y.1) (k + 1) y.2, pre_shift d (ByteArray.empty ++ slash ++ y.1) (0 + 1) y.2, List.map_map]
    congr 1
    funext x
    simp only [Function.comp]
    have e1 : ByteArray.empty ++ slash = slash := by apply ByteArray.ext; simp
    rw [e1, ba_assoc p slash y.1, ba_assoc p (slash ++ y.1) x.1]
    congr 2
    omega

/-- A sum over nodes. -/
def S (g : Tree → Nat) (l : List (ByteArray × Nat × Tree)) : Nat := (l.map fun x => g x.2.2).sum
theorem S_shift (g : Tree → Nat) (d : Nat) (p : ByteArray) (k : Nat) (t : Tree) : S g (pre d p k t) = S g (pre d ByteArray.empty 0 t) := by
  rw [pre_shift]
  unfold S
  rw [List.map_map]
  rfl
theorem S_cons (g : Tree → Nat) (x : ByteArray × Nat × Tree) (l : List (ByteArray × Nat × Tree)) : S g (x :: l) = g x.2.2 + S g l := by simp [S]
theorem S_append (g : Tree → Nat) (a b : List (ByteArray × Nat × Tree)) : S g (a ++ b) = S g a + S g b := by simp [S]
theorem S_flat (g : Tree → Nat) (d : Nat) (F : ByteArray × Tree → ByteArray) (k : Nat) : ∀ (l : List (ByteArray × Tree)), S g (l.flatMap fun y => pre d (F y) k y.2) = (l.map fun y => S g (pre d ByteArray.empty 0 y.2)).sum
  | [] => rfl
  | y :: l => by
    rw [List.flatMap_cons, S_append, S_flat g d F k l, S_shift]
    simp
theorem S_dir (g : Tree → Nat) (d : Nat) (t : Tree) : S g (pre (d + 1) ByteArray.empty 0 t) = g t + (t.kids.map fun y => S g (pre d ByteArray.empty 0 y.2)).sum := by
  rw [pre, S_cons, S_flat g d (fun y => ByteArray.empty ++ slash ++ y.1) (0 + 1)]

def one (_ : Tree) : Nat := 1
def bytesIn (t : Tree) : Nat := if isFile t = true then t.data.size else 0
def isOne (t : Tree) : Nat := if isFile t = true then 1 else 0
theorem S_one (l : List (ByteArray × Nat × Tree)) : S one l = l.length := by
  induction l with
  | nil => rfl
  | cons x l ih => rw [S_cons, ih]; simp [one]; omega
/-- Items that every function on the way takes. -/
def OkItems (l : List (ByteArray × Nat × Tree)) : Prop := ∀ x ∈ l, x.1.size ≤ maxLen ∧ x.2.1 ≤ 4611686018427387904 ∧ x.2.2.data.size ≤ 2001
theorem alive_ck : ∀ (l : List (ByteArray × Nat × Tree)) (n : Nat), n ≤ 200 → OkItems l → Alive ck ckOk n l
  | [], _, _, _ => trivial
  | x :: l, n, hn, h => by
    have hx := h x List.mem_cons_self
    refine ⟨⟨hn, hx.1, hx.2.1, by have := hx.2.2; unfold maxLen; omega⟩, fun he => ?_⟩
    refine alive_ck l (n + 1) ?_ (fun y hy => h y (List.mem_cons_of_mem _ hy))
    unfold ck at he
    simp only at he
    split at he
    · cases he
    · split at he
      · cases he
      · omega
/-- Well: no error on the way. -/
def WellAll (l : List (ByteArray × Nat × Tree)) : Prop := ∀ x ∈ l, x.2.1 ≤ 8 ∧ nodeErr x.2.2 = none
theorem ck_none : ∀ (l : List (ByteArray × Nat × Tree)) (n : Nat), n ≤ 200 → ((runs ck n l).2 = none ↔ n + l.length ≤ 200 ∧ WellAll l)
  | [], n, hn => by simp [runs, WellAll, hn]
  | x :: l, n, hn => by
    by_cases h8 : 8 < x.2.1
    · have e : ck n x = (n + 1, some 8) := by unfold ck; rw [if_pos h8]
      have hr : (runs ck n (x :: l)).2 = some 8 := by simp only [runs, e]
      rw [hr]
      refine ⟨fun h => by simp at h, fun h => ?_⟩
      have := (h.2 x List.mem_cons_self).1
      omega
    · by_cases h2 : 200 < n + 1
      · have e : ck n x = (n + 1, some 7) := by unfold ck; rw [if_neg h8, if_pos h2]
        have hr : (runs ck n (x :: l)).2 = some 7 := by simp only [runs, e]
        rw [hr]
        refine ⟨fun h => by simp at h, fun h => ?_⟩
        have := h.1
        simp only [List.length_cons] at this
        omega
      · have e : ck n x = (n + 1, nodeErr x.2.2) := by unfold ck; rw [if_neg h8, if_neg h2]
        cases hne : nodeErr x.2.2 with
        | some er =>
          have hr : (runs ck n (x :: l)).2 = some er := by simp only [runs, e, hne]
          rw [hr]
          refine ⟨fun h => by simp at h, fun h => ?_⟩
          have := (h.2 x List.mem_cons_self).2
          rw [hne] at this
          cases this
        | none =>
          have hr : (runs ck n (x :: l)).2 = (runs ck (n + 1) l).2 := by simp only [runs, e, hne]
          rw [hr, ck_none l (n + 1) (by omega)]
          simp only [List.length_cons]
          refine ⟨fun h => ⟨by omega, fun y hy => ?_⟩, fun h => ⟨by omega, fun y hy => h.2 y (List.mem_cons_of_mem _ hy)⟩⟩
          rcases List.mem_cons.1 hy with rfl | hy
          · exact ⟨by omega, hne⟩
          · exact h.2 y hy
theorem treeErr_none {d : Nat} {t : Tree} : treeErr d t = none ↔ (pre d ByteArray.empty 0 t).length ≤ 200 ∧ WellAll (pre d ByteArray.empty 0 t) := by
  unfold treeErr
  rw [ck_none _ 0 (by omega), Nat.zero_add]

theorem mem_sum {α : Type} (f : α → Nat) : ∀ {l : List α} {x : α}, x ∈ l → f x ≤ (l.map f).sum
  | [], _, h => by simp at h
  | y :: l, x, h => by
    simp only [List.map_cons, List.sum_cons]
    rcases List.mem_cons.1 h with rfl | h
    · omega
    · have := mem_sum f h; omega
/-- A kid's list within its dir's. -/
theorem kid_in {d : Nat} {t : Tree} {y : ByteArray × Tree} (hy : y ∈ t.kids) {x : ByteArray × Nat × Tree} (hx : x ∈ pre d ByteArray.empty 0 y.2) : (ByteArray.empty ++ slash ++ y.1 ++ x.1, 0 + 1 + x.2.1, x.2.2) ∈ pre (d + 1) ByteArray.empty 0 t := by
  rw [pre]
  refine List.mem_cons_of_mem _ (List.mem_flatMap.2 ⟨y, hy, ?_⟩)
  rw [pre_shift d (ByteArray.empty ++ slash ++ y.1) (0 + 1) y.2]
  exact List.mem_map.2 ⟨x, hx, rfl⟩
theorem kid_len {d : Nat} {t : Tree} {y : ByteArray × Tree} (hy : y ∈ t.kids) : (pre d ByteArray.empty 0 y.2).length + 1 ≤ (pre (d + 1) ByteArray.empty 0 t).length := by
  rw [← S_one, ← S_one, S_dir]
  have h := mem_sum (fun y : ByteArray × Tree => S one (pre d ByteArray.empty 0 y.2)) hy
  simp only [one] at *
  omega
theorem kid_ok {d : Nat} {t : Tree} {y : ByteArray × Tree} (hy : y ∈ t.kids) (h : OkItems (pre (d + 1) ByteArray.empty 0 t)) : OkItems (pre d ByteArray.empty 0 y.2) := fun x hx => by
  have := h _ (kid_in hy hx)
  simp only [ByteArray.size_append] at this
  exact ⟨by omega, by omega, this.2.2⟩
theorem kid_well {d : Nat} {t : Tree} {y : ByteArray × Tree} (hy : y ∈ t.kids) (h : treeErr (d + 1) t = none) : treeErr d y.2 = none := by
  rw [treeErr_none] at h ⊢
  refine ⟨by have := kid_len (d := d) hy; omega, fun x hx => ?_⟩
  have := h.2 _ (kid_in hy hx)
  exact ⟨by have := this.1; simp only at this; omega, this.2⟩
end Go.Proofs.YteefneelcgeioaaGreatDoor
namespace Go.Proofs.YteefneelcgeioaaGreatDoor
open Go.RowKit

structure But1 (h : Nat) (w w' : World) : Prop where
  os : w'.os = w.os
  tape : w'.tape = w.tape
  output : w'.output = w.output
  size : w'.heap.size = w.heap.size
  block : ∀ k, k ≠ h → w'.heap[k]? = w.heap[k]?
theorem But1.refl (h : Nat) (w : World) : But1 h w w := ⟨rfl, rfl, rfl, rfl, fun _ _ => rfl⟩
theorem But1.set {h : Nat} {w w' : World} (S : But1 h w w') (i : Nat) (v : Value) : But1 h w (w'.setCell ⟨h, i, none⟩ v) :=
  ⟨S.os, S.tape, S.output, by rw [← S.size]; simp [World.setCell], fun k hk => by rw [Below.heap_setCell _ _ _ _ hk]; exact S.block k hk⟩
theorem But1.below {B h : Nat} {w wr w' : World} (S : But1 h wr w') (hb : Below B w wr) (hB : B ≤ h) : Below B w w' :=
  ⟨S.os.trans hb.os, S.tape.trans hb.tape, S.output.trans hb.output, by rw [S.size]; exact hb.size, fun k hk => by rw [S.block k (by omega)]; exact hb.block k hk⟩
theorem row4b {w : World} {h : Nat} {x0 x1 x2 x3 : Value} {t : TypeId} (hr : w.heap[h]? = some (.cells #[x0, x1, x2, x3] t (0, 0))) :
    (w.cell? ⟨h, 0, none⟩ = some x0 ∧ w.cell? ⟨h, 1, none⟩ = some x1 ∧ w.cell? ⟨h, 2, none⟩ = some x2 ∧ w.cell? ⟨h, 3, none⟩ = some x3) ∧ w.frozen? ⟨h, 0, none⟩ = false ∧ w.frozen? ⟨h, 1, none⟩ = false ∧ w.frozen? ⟨h, 2, none⟩ = false ∧ w.frozen? ⟨h, 3, none⟩ = false := by
  refine ⟨⟨?_, ?_, ?_, ?_⟩, free_of_row hr 0, free_of_row hr 1, free_of_row hr 2, free_of_row hr 3⟩
  all_goals (rw [cell_of_row w _ _ _ _ _ hr]; rfl)
theorem But1.drew {h : Nat} {w w' : World} (S : But1 h w w') : But1 h w w'.drew := ⟨S.os, S.tape, S.output, S.size, S.block⟩
theorem set4b_row {w : World} {b : Nat} {x0 x1 x2 x3 : Value} {t : TypeId} (h : w.heap[b]? = some (.cells #[x0, x1, x2, x3] t (0, 0))) (v0 v1 v2 v3 : Value) : ((((w.setCell ⟨b, 0, none⟩ v0).setCell ⟨b, 1, none⟩ v1).setCell ⟨b, 2, none⟩ v2).setCell ⟨b, 3, none⟩ v3).heap[b]? = some (.cells #[v0, v1, v2, v3] t (0, 0)) := by
  simp [World.setCell, Array.getElem?_modify, h]
/-- All is as it was but one block. -/
structure ButUp (b : Nat) (w w' : World) : Prop where
  os : w'.os = w.os
  tape : w'.tape = w.tape
  output : w'.output = w.output
  size : w.heap.size ≤ w'.heap.size
  block : ∀ k, k < w.heap.size → k ≠ b → w'.heap[k]? = w.heap[k]?
theorem ButUp.of_but {b : Nat} {w w' : World} (h : But1 b w w') : ButUp b w w' := ⟨h.os, h.tape, h.output, by rw [h.size]; exact Nat.le_refl _, fun k _ hk => h.block k hk⟩
theorem ButUp.of_below {b : Nat} {w w' : World} (h : Below w.heap.size w w') : ButUp b w w' := ⟨h.os, h.tape, h.output, h.size, fun k hk _ => h.block k hk⟩
theorem ButUp.below {b B : Nat} {w wr w' : World} (h : ButUp b wr w') (hb : Below B w wr) (hB : B ≤ b) (hs : B ≤ wr.heap.size) : Below B w w' :=
  ⟨h.os.trans hb.os, h.tape.trans hb.tape, h.output.trans hb.output, Nat.le_trans hb.size h.size, fun k hk => (h.block k (by omega) (by omega)).trans (hb.block k hk)⟩
end Go.Proofs.YteefneelcgeioaaGreatDoor
namespace Go.Proofs.YteefneelcgeioaaGreatDoor
open Go.RowKit
attribute [local go_sem ↓] Go.wp_at_zero Go.wp_at_succ

/-- A well tree's names rise. -/
theorem rises_dir {t : Tree} (h : nodeErr t = none) : Rises t.kids := by
  obtain ⟨kd, da, ex, ki⟩ := t
  unfold nodeErr at h
  have nil : ki.length = 0 → Rises ki := fun e => by
    rw [List.eq_nil_of_length_eq_zero e]
    intro i j x y _ hx
    simp at hx
  split at h
  · unfold fileErr at h
    split at h
    · cases h
    · rename_i h1
      exact nil (by simp only at h1; omega)
  · split at h
    · unfold dirErr at h
      split at h
      · cases h
      · split at h
        · split at h
          · rename_i h3
            exact rises_of h3
          · cases h
        · cases h
    · split at h
      · unfold linkErr at h
        split at h
        · cases h
        · rename_i h1
          simp only [not_or] at h1
          exact nil (by have := h1.2; omega)
      · cases h
theorem rises_tree : ∀ {d : Nat} {p : ByteArray} {k : Nat} {t : Tree}, Fit d t → (∀ x ∈ pre d p k t, nodeErr x.2.2 = none) → RisesD d t
  | 0, _, _, _, h, _ => h
  | d + 1, p, k, t, h, ho => by
    simp only [pre] at ho
    exact ⟨rises_dir (ho (p, k, t) List.mem_cons_self), fun y hy => rises_tree (p := p ++ slash ++ y.1) (k := k + 1) (h y hy) fun x hx => ho x (List.mem_cons_of_mem _ (List.mem_flatMap.2 ⟨y, hy, hx⟩))⟩
theorem rises_well {d : Nat} {t : Tree} (hf : Fit d t) (h : treeErr d t = none) : RisesD d t := rises_tree (p := ByteArray.empty) (k := 0) hf fun x hx => ((treeErr_none.1 h).2 x hx).2
/-- What Get tells: an error's number, or a node. -/
def getR (d : Nat) (t : Tree) (s : ByteArray) : Except Nat Tree := match treeErr d t with
  | some e => .error e
  | none => match splitR s with
    | none => .error 4
    | some l => match atR l t with
      | none => .error 5
      | some k => .ok k
/-- What begin hands back. -/
def PBegPost (a : Nat → Addr) (d : Nat) (t : Tree) (s : ByteArray) (w : World) (e : Ending) (w' : World) : Prop := Below w.heap.size w w' ∧
  ((∃ er, treeErr d t = some er ∧ e = .returned (.tuple #[.slice none 0 0, .iface 235 (.pointer (some (a er)))])) ∨
   (treeErr d t = none ∧ splitR s = none ∧ e = .returned (.tuple #[.slice none 0 0, .iface 235 (.pointer (some (a 4)))])) ∨
   (∃ l v, treeErr d t = none ∧ splitR s = some l ∧ e = .returned (.tuple #[v, .nilIface]) ∧ Texts w' v l ∧ RoomR v l.length))


/-- What Get hands back. -/
def GetPost (a : Nat → Addr) (d : Nat) (t : Tree) (s : ByteArray) (w : World) (e : Ending) (w' : World) : Prop := Below w.heap.size w w' ∧
  ((∃ er, getR d t s = .error er ∧ e = .returned (.tuple #[.agg #[.string { data := #[] }, .string { data := #[] }, .bool false, .slice none 0 0], .iface 235 (.pointer (some (a er)))])) ∨
   (∃ k u d', getR d t s = .ok k ∧ d' ≤ d ∧ e = .returned (.tuple #[.agg #[.string k.kind, .string k.data, .bool k.exec, u], .nilIface]) ∧ LiesQ w' (fun b => w.heap.size ≤ b ∧ b < w'.heap.size) d' k.kids u))
theorem getR_tree {d er : Nat} {t : Tree} {s : ByteArray} (h : treeErr d t = some er) : getR d t s = .error er := by unfold getR; rw [h]
theorem getR_split {d : Nat} {t : Tree} {s : ByteArray} (h : treeErr d t = none) (h2 : splitR s = none) : getR d t s = .error 4 := by unfold getR; rw [h]; simp only [h2]
theorem getR_none {d : Nat} {t : Tree} {s : ByteArray} {l : List ByteArray} (h : treeErr d t = none) (h2 : splitR s = some l) (h3 : atR l t = none) : getR d t s = .error 5 := by unfold getR; rw [h]; simp only [h2, h3]
theorem getR_some {d : Nat} {t k : Tree} {s : ByteArray} {l : List ByteArray} (h : treeErr d t = none) (h2 : splitR s = some l) (h3 : atR l t = some k) : getR d t s = .ok k := by unfold getR; rw [h]; simp only [h2, h3]
theorem splitR_len {s : ByteArray} {l : List ByteArray} (h : splitR s = some l) : l.length ≤ 8 := by
  unfold splitR at h
  split at h
  · injection h with h; subst h; simp
  · split at h
    · cases h
    · split at h
      · rename_i h2
        injection h with h
        subst h
        simpa using h2.2.1
      · cases h

end Go.Proofs.YteefneelcgeioaaGreatDoor
