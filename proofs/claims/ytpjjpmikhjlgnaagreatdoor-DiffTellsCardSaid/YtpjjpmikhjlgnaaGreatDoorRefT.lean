/-
  The contracts of the document's answer for a whole tree: stillroomref1's TreeError.
  Conditions: the tree lies in memory below block B; its nodes' data is no longer than a string may be.
-/
import Derived.Test.YtpjjpmikhjlgnaaGreatDoorRefN
import Derived.Test.YtpjjpmikhjlgnaaGreatDoorRefE
namespace Go.Proofs.YtpjjpmikhjlgnaaGreatDoor
open Go.RowKit
attribute [local go_sem ↓] Go.wp_at_zero Go.wp_at_succ

theorem ck_state : ∀ (l : List (ByteArray × Nat × Tree)) (n : Nat), (runs ck n l).2 = none → runs ck n l = (n + l.length, none)
  | [], n, _ => rfl
  | x :: l, n, h => by
    have e : ck n x = (n + 1, (ck n x).2) := rfl
    simp only [runs] at h ⊢
    rw [e] at h ⊢
    cases he : (ck n x).2 with
    | some er => rw [he] at h; simp at h
    | none =>
      rw [he] at h
      simp only at h ⊢
      rw [ck_state l (n + 1) h, List.length_cons]
      congr 1
      omega
theorem ck_step {l : List (ByteArray × Nat × Tree)} {j : Nat} {x : ByteArray × Nat × Tree} (h : errOf (l.take j) = none) (hx : l[j]? = some x) : errOf (l.take (j + 1)) = (ck j x).2 := by
  have hj : j < l.length := (List.getElem?_eq_some_iff.1 hx).1
  have he : l[j] = x := (List.getElem?_eq_some_iff.1 hx).2
  have hs := ck_state _ 0 h
  rw [List.length_take, Nat.min_eq_left (by omega), Nat.zero_add] at hs
  unfold errOf at *
  rw [List.take_succ_eq_append_getElem hj, he, runs_append _ _ _ h, hs]
  simp only [runs]
  have e : ck j x = (j + 1, (ck j x).2) := rfl
  rw [e]
  cases (ck j x).2 <;> rfl
theorem ck_hit {l : List (ByteArray × Nat × Tree)} {j e : Nat} (h : errOf (l.take j) = some e) : errOf l = some e := by
  have := errOf_more h (l.drop j)
  rw [List.take_append_drop] at this
  exact this
theorem list_len {most deep : Nat} {t : Tree} : 1 ≤ (listOf most deep t).length := by
  have := listTo_monos (most := most) (deep := deep) (l := [(ByteArray.empty, 0, t)]) 0 (most + 1) (by omega)
  simpa [listOf, listTo] using this
/-- Data in bounds, all the way down. -/
def DatM (M : Nat) : Nat → Tree → Prop
  | 0, _ => False
  | d + 1, t => t.data.size ≤ M ∧ ∀ x ∈ t.kids, DatM M d x.2
abbrev Dat : Nat → Tree → Prop := DatM 2001
theorem dat_of : ∀ {d : Nat} {p : ByteArray} {k : Nat} {t : Tree}, Fit d t → (∀ x ∈ pre d p k t, x.2.2.data.size ≤ 2001) → Dat d t
  | 0, _, _, _, h, _ => h
  | d + 1, p, k, t, h, ho => by
    simp only [pre] at ho
    refine ⟨ho (p, k, t) List.mem_cons_self, fun y hy => ?_⟩
    exact dat_of (p := p ++ slash ++ y.1) (k := k + 1) (h y hy) fun x hx => ho x (List.mem_cons_of_mem _ (List.mem_flatMap.2 ⟨y, hy, hx⟩))
theorem list_dat {M most deep d : Nat} {t : Tree} (h : DatM M d t) : ∀ i, ∀ x ∈ listTo most deep [(ByteArray.empty, 0, t)] i, ∃ e, DatM M e x.2.2
  | 0, x, hx => by
    simp only [listTo, List.mem_singleton] at hx
    subst hx
    exact ⟨d, h⟩
  | i + 1, x, hx => by
    have ih := list_dat (most := most) (deep := deep) h i
    simp only [listTo, grow] at hx
    split at hx
    · exact ih x hx
    · rename_i z hz
      split at hx
      · exact ih x hx
      · rcases List.mem_append.1 hx with hx | hx
        · rcases List.mem_append.1 hx with hx | hx
          · exact ih x (List.mem_of_mem_take hx)
          · unfold kidsOf at hx
            obtain ⟨y, hy, rfl⟩ := List.mem_map.1 hx
            obtain ⟨e, he⟩ := ih z (List.mem_of_getElem? hz)
            cases e with
            | zero => exact he.elim
            | succ e => exact ⟨e, he.2 y (List.mem_of_mem_take hy)⟩
        · exact ih x (List.mem_of_mem_drop hx)
theorem dat_size {M e : Nat} {t : Tree} (h : DatM M e t) : t.data.size ≤ M := by
  cases e with
  | zero => exact h.elim
  | succ e => exact h.1

set_option maxRecDepth 100000 in
set_option maxHeartbeats 4000000 in
theorem treeError_any {M : Nat} (B d d' : Nat) (t : Tree) (u : Value) (w : World) (hB : B ≤ w.heap.size) (hl : Lies w B d t.kids u) (hdat : DatM M d' t) (hM : M ≤ 1000000 := by decide) :
    Calls Tryz.prog 40 #[.agg #[.string t.kind, .string t.data, .bool t.exec, u]] w fun e w' => e = .returned (.int .i64 (num (errOf (listOf 200 8 t)))) ∧ Below w.heap.size w w' := by
  obtain ⟨ta, tc, rfl⟩ := hl.form
  have hW : ∀ o, Below w.heap.size w (w.alloc o) := fun o => (Below.refl _ _).alloc (Nat.le_refl _) o
  have hcall := fun o => listOf_any B d 200 8 t (.slice ta t.kids.length tc) (w.alloc o) (by simp; omega) (hl.below (hW o) hB) (by omega) (by omega)
  have HCALL : Hid (∀ o, Calls Tryz.prog 30 #[.agg #[.string t.kind, .string t.data, .bool t.exec, .slice ta t.kids.length tc], .int .i64 200, .int .i64 8] (w.alloc o) fun e w' => ∃ L v, e = .returned v ∧ ListAt (w.alloc o) 200 8 B t (200 + 1) L v w') := hcall
  have HW : Hid _ := hW
  obtain ⟨l, hll⟩ : ∃ l, l = listOf 200 8 t := ⟨_, rfl⟩
  have HDAT : Hid (∀ x ∈ l, ∃ e, DatM M e x.2.2) := by
    rw [hll]
    exact list_dat (most := 200) (deep := 8) hdat (200 + 1)
  have HLL : Hid (l.length ≤ 1000000) := by
    have h1 := listTo_len (most := 200) (deep := 8) (l := [(ByteArray.empty, 0, t)]) (200 + 1)
    rw [hll]
    show (listTo 200 8 [(ByteArray.empty, 0, t)] (200 + 1)).length ≤ _
    simp only [List.length_cons, List.length_nil] at h1
    omega
  rw [← hll]
  have HL0 : Hid (l = listOf 200 8 t) := hll
  clear hcall hW hl hdat hll
  go_enter Tryz.func40, Tryz.ntmps40
  go_wp2_with fail
  refine Calls.mono (HCALL.out _) ?_
  rintro e w1 ⟨L, v, rfl, A⟩
  obtain ⟨va, vc, rfl⟩ : ∃ va vc, v = .slice va L.length vc := by
    rcases A.own.2 with ⟨h, h'⟩ | ⟨g, cap, cur, h, _⟩
    · exact ⟨none, 0, by rw [h, h']⟩
    · exact ⟨_, _, h⟩
  have hbw : Below w.heap.size w w1 := (HW.out _).trans (A.below.mono (by simp))
  have HLO : Hid (L.map (·.1) = l) := A.strip.trans HL0.out.symm
  have hLl : L.length ≤ 1000000 := by
    have h2 := congrArg List.length HLO.out
    rw [List.length_map] at h2
    rw [h2]
    exact HLL.out
  clear HL0
  have HA : Hid _ := A
  clear A
  go_wp2_with fail
  go_loopw [4] (fun i wr => ∃ j : Nat, j ≤ L.length ∧ i = .int .i64 j ∧ Below w1.heap.size w1 wr ∧ errOf ((L.map (·.1)).take j) = none) (fun i _ => L.length - (intOf i).toNat)
  case atStart => exact ⟨0, Nat.zero_le _, rfl, Below.refl _ _, by simp [errOf, runs]⟩
  case round =>
    obtain ⟨j, hj, rfl, hb, herr⟩ := hrel
    obtain ⟨wo, rfl⟩ : ∃ wo, wo = wr := ⟨wr, rfl⟩
    have HERR : Hid _ := herr
    clear herr
    have hbwo : Below w.heap.size w wo := hbw.trans (hb.mono hbw.size)
    by_cases hlt : j < L.length
    · obtain ⟨x, hx⟩ : ∃ x, L[j]? = some x := ⟨L[j], List.getElem?_eq_getElem hlt⟩
      obtain ⟨⟨p, k, tx⟩, ux⟩ := x
      have hmem := List.mem_of_getElem? hx
      obtain ⟨dx, hlx⟩ := HA.out.lies _ hmem
      simp only at hlx
      obtain ⟨xa, xc, rfl⟩ := hlx.form
      have hxs : (L.map (·.1))[j]? = some (p, k, tx) := by rw [List.getElem?_map, hx]; rfl
      have hds : tx.data.size ≤ maxLen := by
        obtain ⟨e, he⟩ := HDAT.out (p, k, tx) (by
          have := List.mem_of_getElem? hxs
          rw [HLO.out] at this
          exact this)
        have := dat_size he
        simp only at this
        unfold maxLen
        omega
      obtain ⟨g, cg, hg⟩ : ∃ g cg, Value.slice va L.length vc = .slice (some ⟨g, 0, none⟩) L.length cg := by
        obtain ⟨g, cg, h, _⟩ := HA.out.own.form (by omega)
        exact ⟨g, cg, h⟩
      simp only [Value.slice.injEq] at hg
      obtain ⟨rfl, _, rfl⟩ := hg
      have hcs := HA.out.own.cells (g := g) rfl
      have hgl := (HA.out.own.lt g rfl).2
      have hadd : ∀ o, (⟨g, 0, none⟩ : Addr).add o = ⟨g, o, none⟩ := fun o => by unfold Addr.add; split <;> simp_all
      have hcell : ∀ o v, (itCells L)[o]? = some v → wo.cell? ⟨g, o, none⟩ = some v := fun o v h => by
        rw [hb.cell (p := ⟨g, o, none⟩) hgl]
        have := hcs o v h
        rw [hadd] at this
        exact this
      obtain ⟨y0, y1, y2, y3, y4, y5⟩ := itCells_at hx
      have c0 := hcell _ _ y0
      have c1 := hcell _ _ y1
      have c2 := hcell _ _ y2
      have c3 := hcell _ _ y3
      have c4 := hcell _ _ y4
      have c5 := hcell _ _ y5
      simp only at c0 c1 c2 c3 c4 c5
      have hkb : k ≤ 9 := by
        have := (HA.out.path _ hmem).2
        simp only at this
        omega
      have HST : Hid (errOf ((L.map (·.1)).take (j + 1)) = (ck j (p, k, tx)).2) := ck_step HERR.out hxs
      have HND : Hid (Calls Tryz.prog 63 #[.agg #[.string tx.kind, .string tx.data, .bool tx.exec, .slice xa tx.kids.length xc]] wo fun e w' => e = .returned (.int .i64 (num (nodeErr tx))) ∧ Below wo.heap.size wo w') := by
        cases dx with
        | zero => exact absurd hlx (by simp [Lies])
        | succ dx => exact nodeError_any B dx tx _ wo (by have := hbwo.size; omega) (hlx.below hb (by have := hbw.size; omega)) hds
      clear hcs hadd hcell y0 y1 y2 y3 y4 y5 hx hlx hxs hmem hds
      by_cases h8 : 8 < k
      · have HE : Hid (errOf l = some 8) := show _ = _ by
          rw [← HLO.out]
          refine ck_hit (j := j + 1) ?_
          rw [HST.out]
          unfold ck
          simp only
          rw [if_pos h8]
        go_wp2_with fail
        go_ret
        exact ⟨ret_int (by rw [HE.out]; rfl), hbwo⟩
      · by_cases h7 : 200 ≤ j
        · have HE : Hid (errOf l = some 7) := show _ = _ by
            rw [← HLO.out]
            refine ck_hit (j := j + 1) ?_
            rw [HST.out]
            unfold ck
            simp only
            rw [if_neg h8, if_pos (by omega)]
          go_wp2_with fail
          go_ret
          exact ⟨ret_int (by rw [HE.out]; rfl), hbwo⟩
        · have HC : Hid ((ck j (p, k, tx)).2 = nodeErr tx) := show _ = _ by
            unfold ck
            simp only
            rw [if_neg h8, if_neg (by omega)]
          cases hne : nodeErr tx with
          | some er =>
            have HE : Hid (errOf l = some er) := show _ = _ by
              rw [← HLO.out]
              refine ck_hit (j := j + 1) ?_
              rw [HST.out, HC.out, hne]
            have HNS : Hid (num (nodeErr tx) = (er : Int) + 1) := show _ = _ by rw [hne]; rfl
            clear hne
            go_wp2_with fail
            refine Calls.mono HND.out ?_
            rintro e w2 ⟨rfl, hb2⟩
            rw [HNS.out]
            go_wp2_with fail
            go_ret
            exact ⟨ret_int (by rw [HE.out]; rfl), hbwo.trans (hb2.mono hbwo.size)⟩
          | none =>
            have HN : Hid (errOf ((L.map (·.1)).take (j + 1)) = none) := show _ = _ by rw [HST.out, HC.out, hne]
            have HNS : Hid (num (nodeErr tx) = 0) := show _ = _ by rw [hne]; rfl
            clear hne
            go_wp2_with fail
            refine Calls.mono HND.out ?_
            rintro e w2 ⟨rfl, hb2⟩
            rw [HNS.out]
            go_wp2_with fail
            go_roundw
            case rel => exact ⟨j + 1, by omega, by go_num, hb.trans (hb2.mono hb.size), HN.out⟩
            case measure => simp [intOf]; omega
    · have HE : Hid (errOf l = none) := show _ = _ by
        have := HERR.out
        rw [List.take_of_length_le (by simp; omega)] at this
        rw [← HLO.out]
        exact this
      go_wp2_with fail
      go_ret
      exact ⟨ret_int (by rw [HE.out]; rfl), hbwo⟩
end Go.Proofs.YtpjjpmikhjlgnaaGreatDoor
