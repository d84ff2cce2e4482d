/-
  The contracts of the document's answer for a whole tree: stillroomref1's TreeError.
  The contract of the document's answer for a tree's nodes with their paths: stillroomref1's ItemsOf.
  Links followed, name by name: plain mathematics.
  Where Follow ends: plain mathematics.
  Conditions: those that each states.
-/
import Derived.Test.YtpjjpmikhjlgnaaGreatDoorD06
import Derived.Test.YtpjjpmikhjlgnaaGreatDoorD08
import Derived.Test.YtpjjpmikhjlgnaaGreatDoorD09
import Derived.Test.YtpjjpmikhjlgnaaGreatDoorD14
import Derived.Test.YtpjjpmikhjlgnaaGreatDoorD11
namespace Go.Proofs.YtpjjpmikhjlgnaaGreatDoor
open Go.RowKit
attribute [local go_sem ↓] Go.wp_at_zero Go.wp_at_succ

theorem ck_state : ∀ (l : List (ByteArray × Nat × Tree)) (n : Nat), (runs ck n l).2 = none → runs ck n l = (n + l.length, none)
  | [], n, _ => rfl
  | x :: l, n, h => by
    have e : ck n x = (n + 1, (ck n x).2) := rfl
    simp only [runs] at h ⊢
    rw [e] at h ⊢
    cases he : (ck n x).2 with
    | some er => rw [he] at h; simp at h
    | none =>
      rw [he] at h
      simp only at h ⊢
      rw [ck_state l (n + 1) h, List.length_cons]
      congr 1
      omega
theorem ck_step {l : List (ByteArray × Nat × Tree)} {j : Nat} {x : ByteArray × Nat × Tree} (h : errOf (l.take j) = none) (hx : l[j]? = some x) : errOf (l.take (j + 1)) = (ck j x).2 := by
  have hj : j < l.length := (List.getElem?_eq_some_iff.1 hx).1
  have he : l[j] = x := (List.getElem?_eq_some_iff.1 hx).2
  have hs := ck_state _ 0 h
  rw [List.length_take, Nat.min_eq_left (by omega), Nat.zero_add] at hs
  unfold errOf at *
  rw [List.take_succ_eq_append_getElem hj, he, runs_append _ _ _ h, hs]
  simp only [runs]
  have e : ck j x = (j + 1, (ck j x).2) := rfl
  rw [e]
  cases (ck j x).2 <;> rfl
theorem ck_hit {l : List (ByteArray × Nat × Tree)} {j e : Nat} (h : errOf (l.take j) = some e) : errOf l = some e := by
  have := errOf_more h (l.drop j)
  rw [List.take_append_drop] at this
  exact this
theorem list_len {most deep : Nat} {t : Tree} : 1 ≤ (listOf most deep t).length := by
  have := listTo_monos (most := most) (deep := deep) (l := [(ByteArray.empty, 0, t)]) 0 (most + 1) (by omega)
  simpa [listOf, listTo] using this
/-- Data in bounds, all the way down. -/
def DatM (M : Nat) : Nat → Tree → Prop
  | 0, _ => False
  | d + 1, t => t.data.size ≤ M ∧ ∀ x ∈ t.kids, DatM M d x.2
abbrev Dat : Nat → Tree → Prop := DatM 2001
theorem dat_of : ∀ {d : Nat} {p : ByteArray} {k : Nat} {t : Tree}, Fit d t → (∀ x ∈ pre d p k t, x.2.2.data.size ≤ 2001) → Dat d t
  | 0, _, _, _, h, _ => h
  | d + 1, p, k, t, h, ho => by
    simp only [pre] at ho
    refine ⟨ho (p, k, t) List.mem_cons_self, fun y hy => ?_⟩
    exact dat_of (p := p ++ slash ++ y.1) (k := k + 1) (h y hy) fun x hx => ho x (List.mem_cons_of_mem _ (List.mem_flatMap.2 ⟨y, hy, hx⟩))
theorem list_dat {M most deep d : Nat} {t : Tree} (h : DatM M d t) : ∀ i, ∀ x ∈ listTo most deep [(ByteArray.empty, 0, t)] i, ∃ e, DatM M e x.2.2
  | 0, x, hx => by
    simp only [listTo, List.mem_singleton] at hx
    subst hx
    exact ⟨d, h⟩
  | i + 1, x, hx => by
    have ih := list_dat (most := most) (deep := deep) h i
    simp only [listTo, grow] at hx
    split at hx
    · exact ih x hx
    · rename_i z hz
      split at hx
      · exact ih x hx
      · rcases List.mem_append.1 hx with hx | hx
        · rcases List.mem_append.1 hx with hx | hx
          · exact ih x (List.mem_of_mem_take hx)
          · unfold kidsOf at hx
            obtain ⟨y, hy, rfl⟩ := List.mem_map.1 hx
            obtain ⟨e, he⟩ := ih z (List.mem_of_getElem? hz)
            cases e with
            | zero => exact he.elim
            | succ e => exact ⟨e, he.2 y (List.mem_of_mem_take hy)⟩
        · exact ih x (List.mem_of_mem_drop hx)
theorem dat_size {M e : Nat} {t : Tree} (h : DatM M e t) : t.data.size ≤ M := by
  cases e with
  | zero => exact h.elim
  | succ e => exact h.1

set_option maxRecDepth 100000 in
set_option maxHeartbeats 4000000 in
theorem treeError_any {M : Nat} (B d d' : Nat) (t : Tree) (u : Value) (w : World) (hB : B ≤ w.heap.size) (hl : Lies w B d t.kids u) (hdat : DatM M d' t) (hM : M ≤ 1000000 := by decide) :
    Calls Tryz.prog 40 #[.agg #[.string t.kind, .string t.data, .bool t.exec, u]] w fun e w' => e = .returned (.int .i64 (num (errOf (listOf 200 8 t)))) ∧ Below w.heap.size w w' := by
  obtain ⟨ta, tc, rfl⟩ := hl.form
  have hW : ∀ o, Below w.heap.size w (w.alloc o) := fun o => (Below.refl _ _).alloc (Nat.le_refl _) o
  have hcall := fun o => listOf_any B d 200 8 t (.slice ta t.kids.length tc) (w.alloc o) (by simp; omega) (hl.below (hW o) hB) (by omega) (by omega)
  have HCALL : Hid (∀ o, Calls Tryz.prog 30 #[.agg #[.string t.kind, .string t.data, .bool t.exec, .slice ta t.kids.length tc], .int .i64 200, .int .i64 8] (w.alloc o) fun e w' => ∃ L v, e = .returned v ∧ ListAt (w.alloc o) 200 8 B t (200 + 1) L v w') := hcall
  have HW : Hid _ := hW
  obtain ⟨l, hll⟩ : ∃ l, l = listOf 200 8 t := ⟨_, rfl⟩
  have HDAT : Hid (∀ x ∈ l, ∃ e, DatM M e x.2.2) := by
    rw [hll]
    exact list_dat (most := 200) (deep := 8) hdat (200 + 1)
  have HLL : Hid (l.length ≤ 1000000) := by
    have h1 := listTo_len (most := 200) (deep := 8) (l := [(ByteArray.empty, 0, t)]) (200 + 1)
    rw [hll]
    show (listTo 200 8 [(ByteArray.empty, 0, t)] (200 + 1)).length ≤ _
    simp only [List.length_cons, List.length_nil] at h1
    omega
  rw [← hll]
  have HL0 : Hid (l = listOf 200 8 t) := hll
  clear hcall hW hl hdat hll
  go_enter Tryz.func40, Tryz.ntmps40
  go_wp2_with fail
  refine Calls.mono (HCALL.out _) ?_
  rintro e w1 ⟨L, v, rfl, A⟩
  obtain ⟨va, vc, rfl⟩ : ∃ va vc, v = .slice va L.length vc := by
    rcases A.own.2 with ⟨h, h'⟩ | ⟨g, cap, cur, h, _⟩
    · exact ⟨none, 0, by rw [h, h']⟩
    · exact ⟨_, _, h⟩
  have hbw : Below w.heap.size w w1 := (HW.out _).trans (A.below.mono (by simp))
  have HLO : Hid (L.map (·.1) = l) := A.strip.trans HL0.out.symm
  have hLl : L.length ≤ 1000000 := by
    have h2 := congrArg List.length HLO.out
    rw [List.length_map] at h2
    rw [h2]
    exact HLL.out
  clear HL0
  have HA : Hid _ := A
  clear A
  go_wp2_with fail
  go_loopw [4] (fun i wr => ∃ j : Nat, j ≤ L.length ∧ i = .int .i64 j ∧ Below w1.heap.size w1 wr ∧ errOf ((L.map (·.1)).take j) = none) (fun i _ => L.length - (intOf i).toNat)
  case atStart => exact ⟨0, Nat.zero_le _, rfl, Below.refl _ _, by simp [errOf, runs]⟩
  case round =>
    obtain ⟨j, hj, rfl, hb, herr⟩ := hrel
    obtain ⟨wo, rfl⟩ : ∃ wo, wo = wr := ⟨wr, rfl⟩
    have HERR : Hid _ := herr
    clear herr
    have hbwo : Below w.heap.size w wo := hbw.trans (hb.mono hbw.size)
    by_cases hlt : j < L.length
    · obtain ⟨x, hx⟩ : ∃ x, L[j]? = some x := ⟨L[j], List.getElem?_eq_getElem hlt⟩
      obtain ⟨⟨p, k, tx⟩, ux⟩ := x
      have hmem := List.mem_of_getElem? hx
      obtain ⟨dx, hlx⟩ := HA.out.lies _ hmem
      simp only at hlx
      obtain ⟨xa, xc, rfl⟩ := hlx.form
      have hxs : (L.map (·.1))[j]? = some (p, k, tx) := by rw [List.getElem?_map, hx]; rfl
      have hds : tx.data.size ≤ maxLen := by
        obtain ⟨e, he⟩ := HDAT.out (p, k, tx) (by
          have := List.mem_of_getElem? hxs
          rw [HLO.out] at this
          exact this)
        have := dat_size he
        simp only at this
        unfold maxLen
        omega
      obtain ⟨g, cg, hg⟩ : ∃ g cg, Value.slice va L.length vc = .slice (some ⟨g, 0, none⟩) L.length cg := by
        obtain ⟨g, cg, h, _⟩ := HA.out.own.form (by omega)
        exact ⟨g, cg, h⟩
      simp only [Value.slice.injEq] at hg
      obtain ⟨rfl, _, rfl⟩ := hg
      have hcs := HA.out.own.cells (g := g) rfl
      have hgl := (HA.out.own.lt g rfl).2
      have hadd : ∀ o, (⟨g, 0, none⟩ : Addr).add o = ⟨g, o, none⟩ := fun o => by unfold Addr.add; split <;> simp_all
      have hcell : ∀ o v, (itCells L)[o]? = some v → wo.cell? ⟨g, o, none⟩ = some v := fun o v h => by
        rw [hb.cell (p := ⟨g, o, none⟩) hgl]
        have := hcs o v h
        rw [hadd] at this
        exact this
      obtain ⟨y0, y1, y2, y3, y4, y5⟩ := itCells_at hx
      have c0 := hcell _ _ y0
      have c1 := hcell _ _ y1
      have c2 := hcell _ _ y2
      have c3 := hcell _ _ y3
      have c4 := hcell _ _ y4
      have c5 := hcell _ _ y5
      simp only at c0 c1 c2 c3 c4 c5
      have hkb : k ≤ 9 := by
        have := (HA.out.path _ hmem).2
        simp only at this
        omega
      have HST : Hid (errOf ((L.map (·.1)).take (j + 1)) = (ck j (p, k, tx)).2) := ck_step HERR.out hxs
      have HND : Hid (Calls Tryz.prog 63 #[.agg #[.string tx.kind, .string tx.data, .bool tx.exec, .slice xa tx.kids.length xc]] wo fun e w' => e = .returned (.int .i64 (num (nodeErr tx))) ∧ Below wo.heap.size wo w') := by
        cases dx with
        | zero => exact absurd hlx (by simp [Lies])
        | succ dx => exact nodeError_any B dx tx _ wo (by have := hbwo.size; omega) (hlx.below hb (by have := hbw.size; omega)) hds
      clear hcs hadd hcell y0 y1 y2 y3 y4 y5 hx hlx hxs hmem hds
      by_cases h8 : 8 < k
      · have HE : Hid (errOf l = some 8) := show _ = _ by
          rw [← HLO.out]
          refine ck_hit (j := j + 1) ?_
          rw [HST.out]
          unfold ck
          simp only
          rw [if_pos h8]
        go_wp2_with fail
        go_ret
        exact ⟨ret_int (by rw [HE.out]; rfl), hbwo⟩
      · by_cases h7 : 200 ≤ j
        · have HE : Hid (errOf l = some 7) := show _ = _ by
            rw [← HLO.out]
            refine ck_hit (j := j + 1) ?_
            rw [HST.out]
            unfold ck
            simp only
            rw [if_neg h8, if_pos (by omega)]
          go_wp2_with fail
          go_ret
          exact ⟨ret_int (by rw [HE.out]; rfl), hbwo⟩
        · have HC : Hid ((ck j (p, k, tx)).2 = nodeErr tx) := show _ = _ by
            unfold ck
            simp only
            rw [if_neg h8, if_neg (by omega)]
          cases hne : nodeErr tx with
          | some er =>
            have HE : Hid (errOf l = some er) := show _ = _ by
              rw [← HLO.out]
              refine ck_hit (j := j + 1) ?_
              rw [HST.out, HC.out, hne]
            have HNS : Hid (num (nodeErr tx) = (er : Int) + 1) := show _ = _ by rw [hne]; rfl
            clear hne
            go_wp2_with fail
            refine Calls.mono HND.out ?_
            rintro e w2 ⟨rfl, hb2⟩
            rw [HNS.out]
            go_wp2_with fail
            go_ret
            exact ⟨ret_int (by rw [HE.out]; rfl), hbwo.trans (hb2.mono hbwo.size)⟩
          | none =>
            have HN : Hid (errOf ((L.map (·.1)).take (j + 1)) = none) := show _ = _ by rw [HST.out, HC.out, hne]
            have HNS : Hid (num (nodeErr tx) = 0) := show _ = _ by rw [hne]; rfl
            clear hne
            go_wp2_with fail
            refine Calls.mono HND.out ?_
            rintro e w2 ⟨rfl, hb2⟩
            rw [HNS.out]
            go_wp2_with fail
            go_roundw
            case rel => exact ⟨j + 1, by omega, by go_num, hb.trans (hb2.mono hb.size), HN.out⟩
            case measure => simp [intOf]; omega
    · have HE : Hid (errOf l = none) := show _ = _ by
        have := HERR.out
        rw [List.take_of_length_le (by simp; omega)] at this
        rw [← HLO.out]
        exact this
      go_wp2_with fail
      go_ret
      exact ⟨ret_int (by rw [HE.out]; rfl), hbwo⟩
end Go.Proofs.YtpjjpmikhjlgnaaGreatDoor
namespace Go.Proofs.YtpjjpmikhjlgnaaGreatDoor
open Go.RowKit
attribute [local go_sem ↓] Go.wp_at_zero Go.wp_at_succ

def fixP (p : ByteArray) : ByteArray := if p.toList.isEmpty = true then slash else p
theorem fixP_yes {p : ByteArray} (h : p.toList.isEmpty = true) : fixP p = slash := by unfold fixP; rw [if_pos h]
theorem fixP_no {p : ByteArray} (h : p.toList.isEmpty = false) : fixP p = p := by unfold fixP; rw [if_neg (by simp [h])]
/-- Items in a row, their paths told up to a place. -/
def RowAt (l : List (ByteArray × Nat × Tree)) (us : Nat → Value) (g j : Nat) (w : World) : Prop :=
  (∃ cur, w.heap[g]? = some (.cells cur 69 (0, 0))) ∧ ∀ i x, l[i]? = some x → w.cell? ⟨g, i * 6, none⟩ = some (.string (if i < j then fixP x.1 else x.1)) ∧ w.cell? ⟨g, i * 6 + 2, none⟩ = some (.string x.2.2.kind) ∧ w.cell? ⟨g, i * 6 + 3, none⟩ = some (.string x.2.2.data) ∧ w.cell? ⟨g, i * 6 + 4, none⟩ = some (.bool x.2.2.exec) ∧ w.cell? ⟨g, i * 6 + 5, none⟩ = some (us i)
theorem RowAt.at {l : List (ByteArray × Nat × Tree)} {us : Nat → Value} {g j : Nat} {w : World} (h : RowAt l us g j w) {x : ByteArray × Nat × Tree} (hx : l[j]? = some x) : w.cell? ⟨g, j * 6, none⟩ = some (.string x.1) := by
  have := (h.2 j x hx).1
  rw [if_neg (by omega)] at this
  exact this
theorem RowAt.next {l : List (ByteArray × Nat × Tree)} {us : Nat → Value} {g j : Nat} {w : World} (h : RowAt l us g j w) {x : ByteArray × Nat × Tree} (hx : l[j]? = some x) (hp : x.1.toList.isEmpty = false) : RowAt l us g (j + 1) w := by
  refine ⟨h.1, fun i y hy => ⟨?_, (h.2 i y hy).2⟩⟩
  have h1 := (h.2 i y hy).1
  rcases Nat.lt_trichotomy i j with hi | hi | hi
  · rw [if_pos hi] at h1; rw [if_pos (by omega)]; exact h1
  · subst hi
    rw [hx] at hy
    simp only [Option.some.injEq] at hy
    subst hy
    rw [if_neg (by omega)] at h1
    rw [if_pos (by omega), fixP_no hp]
    exact h1
  · rw [if_neg (by omega)] at h1; rw [if_neg (by omega)]; exact h1
theorem RowAt.set {l : List (ByteArray × Nat × Tree)} {us : Nat → Value} {g j : Nat} {w : World} (h : RowAt l us g j w) {x : ByteArray × Nat × Tree} (hx : l[j]? = some x) (hp : x.1.toList.isEmpty = true) : RowAt l us g (j + 1) (w.setCell ⟨g, j * 6, none⟩ (.string { data := #[47] })) := by
  obtain ⟨⟨cur, hc⟩, hr⟩ := h
  refine ⟨⟨_, heap_setCell_same w g (j * 6) cur 69 _ hc⟩, fun i y hy => ?_⟩
  obtain ⟨h1, h2, h3, h4, h5⟩ := hr i y hy
  refine ⟨?_, ?_, ?_, ?_, ?_⟩
  · rcases Nat.lt_trichotomy i j with hi | hi | hi
    · rw [World.cell?_setCell_other _ _ _ _ (by intro e; simp only [Addr.mk.injEq] at e; omega)]
      rw [if_pos hi] at h1; rw [if_pos (by omega)]; exact h1
    · subst hi
      rw [hx] at hy
      simp only [Option.some.injEq] at hy
      subst hy
      rw [World.cell?_setCell_same _ _ _ h1, if_pos (by omega), fixP_yes hp]
      rfl
    · rw [World.cell?_setCell_other _ _ _ _ (by intro e; simp only [Addr.mk.injEq] at e; omega)]
      rw [if_neg (by omega)] at h1; rw [if_neg (by omega)]; exact h1
  · rw [World.cell?_setCell_other _ _ _ _ (by intro e; simp only [Addr.mk.injEq] at e; omega)]; exact h2
  · rw [World.cell?_setCell_other _ _ _ _ (by intro e; simp only [Addr.mk.injEq] at e; omega)]; exact h3
  · rw [World.cell?_setCell_other _ _ _ _ (by intro e; simp only [Addr.mk.injEq] at e; omega)]; exact h4
  · rw [World.cell?_setCell_other _ _ _ _ (by intro e; simp only [Addr.mk.injEq] at e; omega)]; exact h5
/-- Items that are told: what is read of them. -/
def ToldAt (l : List (ByteArray × Nat × Tree)) (g : Nat) (w : World) : Prop :=
  ∀ i x, l[i]? = some x → w.cell? ⟨g, i * 6, none⟩ = some (.string (fixP x.1)) ∧ w.cell? ⟨g, i * 6 + 2, none⟩ = some (.string x.2.2.kind) ∧ w.cell? ⟨g, i * 6 + 3, none⟩ = some (.string x.2.2.data)
theorem RowAt.told {l : List (ByteArray × Nat × Tree)} {us : Nat → Value} {g : Nat} {w : World} (h : RowAt l us g l.length w) : ToldAt l g w := fun i x hx => by
  have hi : i < l.length := (List.getElem?_eq_some_iff.1 hx).1
  obtain ⟨h1, h2, h3, _⟩ := h.2 i x hx
  rw [if_pos hi] at h1
  exact ⟨h1, h2, h3⟩
/-- Their nodes, whole. -/
def NodesAt (l : List (ByteArray × Nat × Tree)) (B g : Nat) (w : World) : Prop :=
  ∀ i x, l[i]? = some x → ∃ d u, w.cell? ⟨g, i * 6 + 4, none⟩ = some (.bool x.2.2.exec) ∧ w.cell? ⟨g, i * 6 + 5, none⟩ = some u ∧ Lies w B d x.2.2.kids u

set_option maxRecDepth 100000 in
set_option maxHeartbeats 4000000 in
theorem itemsOf_row (B d : Nat) (t : Tree) (u : Value) (w : World) (l : List (ByteArray × Nat × Tree)) (hll : l = listOf 200 8 t) (hB : B ≤ w.heap.size) (hl : Lies w B d t.kids u) :
    Calls Tryz.prog 41 #[.agg #[.string t.kind, .string t.data, .bool t.exec, u]] w fun e w' => ∃ g cap, e = .returned (.slice (some ⟨g, 0, none⟩) l.length cap) ∧ g < w'.heap.size ∧ ToldAt l g w' ∧ NodesAt l B g w' ∧ Below w.heap.size w w' ∧ ∃ cur, w'.heap[g]? = some (.cells cur 69 (0, 0)) := by
  obtain ⟨ta, tc, rfl⟩ := hl.form
  have hW : ∀ o, Below w.heap.size w (w.alloc o) := fun o => (Below.refl _ _).alloc (Nat.le_refl _) o
  have hcall := fun o => listOf_any B d 200 8 t (.slice ta t.kids.length tc) (w.alloc o) (by simp; omega) (hl.below (hW o) hB) (by omega) (by omega)
  have HCALL : Hid (∀ o, Calls Tryz.prog 30 #[.agg #[.string t.kind, .string t.data, .bool t.exec, .slice ta t.kids.length tc], .int .i64 200, .int .i64 8] (w.alloc o) fun e w' => ∃ L v, e = .returned v ∧ ListAt (w.alloc o) 200 8 B t (200 + 1) L v w') := hcall
  have HW : Hid _ := hW
  have HLL : Hid (l.length ≤ 1000000) := by
    have h1 := listTo_len (most := 200) (deep := 8) (l := [(ByteArray.empty, 0, t)]) (200 + 1)
    rw [hll]
    show (listTo 200 8 [(ByteArray.empty, 0, t)] (200 + 1)).length ≤ _
    simp only [List.length_cons, List.length_nil] at h1
    omega
  have HPOS : Hid (1 ≤ l.length) := by rw [hll]; exact list_len
  have HL0 : Hid (l = listOf 200 8 t) := hll
  clear hcall hW hl hll
  go_enter Tryz.func41, Tryz.ntmps41
  go_wp2_with fail
  refine Calls.mono (HCALL.out _) ?_
  rintro e w1 ⟨L, v, rfl, A⟩
  have HLO : Hid (L.map (·.1) = l) := A.strip.trans HL0.out.symm
  have hlen : L.length = l.length := by
    have h2 := congrArg List.length HLO.out
    rw [List.length_map] at h2
    exact h2
  have hbw : Below w.heap.size w w1 := (HW.out _).trans (A.below.mono (by simp))
  clear HL0
  have hpos := HPOS.out
  have hle := HLL.out
  obtain ⟨us, hus⟩ : ∃ us : Nat → Value, us = fun i => (L[i]?.map (·.2)).getD .nilIface := ⟨_, rfl⟩
  have HLI : Hid (∀ i x, l[i]? = some x → ∃ d, Lies w1 B d x.2.2.kids (us i)) := fun i x hx => by
    rw [← HLO.out, List.getElem?_map] at hx
    cases hz : L[i]? with
    | none => rw [hz] at hx; cases hx
    | some z =>
      rw [hz] at hx
      simp only [Option.map_some, Option.some.injEq] at hx
      rw [hus]
      simp only [hz, Option.map_some, Option.getD_some]
      rw [← hx]
      exact A.lies z (List.mem_of_getElem? hz)
  obtain ⟨g, cap, rfl, hg0, hrow0⟩ : ∃ g cap, v = .slice (some ⟨g, 0, none⟩) l.length cap ∧ w.heap.size ≤ g ∧ RowAt l us g 0 w1 := by
    rcases A.own.2 with ⟨h, h'⟩ | ⟨g, cap, cur, h, hg, hcur, _⟩
    · omega
    · refine ⟨g, cap, by rw [← hlen]; exact h, by simp at hg; omega, ⟨cur, hcur⟩, fun i x hx => ?_⟩
      have hcs := A.own.cells (g := g) (by rw [h]; rfl)
      have hadd : ∀ o, (⟨g, 0, none⟩ : Addr).add o = ⟨g, o, none⟩ := fun o => by unfold Addr.add; split <;> simp_all
      obtain ⟨z, hz, hzx⟩ : ∃ z, L[i]? = some z ∧ z.1 = x := by
        rw [← HLO.out, List.getElem?_map] at hx
        cases hz : L[i]? with
        | none => rw [hz] at hx; cases hx
        | some z => rw [hz] at hx; exact ⟨z, rfl, by simpa using hx⟩
      obtain ⟨y0, y1, y2, y3, y4, y5⟩ := itCells_at hz
      have c0 := hcs _ _ y0
      have c2 := hcs _ _ y2
      have c3 := hcs _ _ y3
      have c4 := hcs _ _ y4
      have c5 := hcs _ _ y5
      rw [hadd] at c0 c2 c3 c4 c5
      rw [hzx] at c0 c2 c3 c4
      exact ⟨by rw [if_neg (by omega)]; exact c0, c2, c3, c4, by rw [c5, hus]; simp [hz]⟩
  have HBW : Hid (Below w.heap.size w w1) := hbw
  clear A hus hbw
  go_wp2_with fail
  go_loopw [4] (fun i wr => ∃ j : Nat, j ≤ l.length ∧ i = .int .i64 j ∧ Below w.heap.size w1 wr ∧ RowAt l us g j wr) (fun i _ => l.length - (intOf i).toNat)
  case atStart => exact ⟨0, Nat.zero_le _, rfl, Below.refl _ _, hrow0⟩
  case round =>
    obtain ⟨j, hj, rfl, hb, hrow⟩ := hrel
    have HROW : Hid (RowAt l us g j wr) := hrow
    by_cases hlt : j < l.length
    · obtain ⟨x, hx⟩ : ∃ x, l[j]? = some x := ⟨l[j], List.getElem?_eq_getElem hlt⟩
      have c0 := hrow.at hx
      have hfz : wr.frozen? ⟨g, j * 6, none⟩ = false := by
        obtain ⟨cur, hc⟩ := hrow.1
        exact frozen_of_row wr g (j * 6) cur 69 hc
      have HX : Hid _ := hx
      clear hx hrow hrow0
      cases hp : x.1.toList.isEmpty
      · have HR : Hid _ := HROW.out.next HX.out hp
        go_wp2_with fail
        go_roundw
        case rel => exact ⟨j + 1, by omega, by go_num, hb, HR.out⟩
        case measure => simp [intOf]; omega
      · have HR : Hid _ := HROW.out.set HX.out hp
        go_wp2_with fail
        go_roundw
        case rel => exact ⟨j + 1, by omega, by go_num, hb.setCell hg0 _, HR.out⟩
        case measure => simp [intOf]; omega
    · have ej : j = l.length := by omega
      have HT : Hid (ToldAt l g wr) := by
        have := HROW.out
        rw [ej] at this
        exact this.told
      have HG : Hid (g < wr.heap.size) := by
        obtain ⟨cur, hc⟩ := HROW.out.1
        exact lt_of_row hc
      have HNN : Hid (NodesAt l B g wr) := fun i x hx => by
        obtain ⟨_, _, _, h4, h5⟩ := HROW.out.2 i x hx
        obtain ⟨dd, hd⟩ := HLI.out i x hx
        exact ⟨dd, us i, h4, h5, hd.below hb hB⟩
      clear hrow hrow0 ej
      go_wp2_with fail
      go_ret
      exact ⟨g, cap, rfl, HG.out, HT.out, HNN.out, HBW.out.trans hb, HROW.out.1⟩

theorem itemsOf_all (B d : Nat) (t : Tree) (u : Value) (w : World) (l : List (ByteArray × Nat × Tree)) (hll : l = listOf 200 8 t) (hB : B ≤ w.heap.size) (hl : Lies w B d t.kids u) :
    Calls Tryz.prog 41 #[.agg #[.string t.kind, .string t.data, .bool t.exec, u]] w fun e w' => ∃ g cap, e = .returned (.slice (some ⟨g, 0, none⟩) l.length cap) ∧ g < w'.heap.size ∧ ToldAt l g w' ∧ NodesAt l B g w' ∧ Below w.heap.size w w' :=
  Calls.mono (itemsOf_row B d t u w l hll hB hl) fun _ _ ⟨g, cap, h1, h2, h3, h4, h5, _⟩ => ⟨g, cap, h1, h2, h3, h4, h5⟩

theorem itemsOf_any (B d : Nat) (t : Tree) (u : Value) (w : World) (l : List (ByteArray × Nat × Tree)) (hll : l = listOf 200 8 t) (hB : B ≤ w.heap.size) (hl : Lies w B d t.kids u) :
    Calls Tryz.prog 41 #[.agg #[.string t.kind, .string t.data, .bool t.exec, u]] w fun e w' => ∃ g cap, e = .returned (.slice (some ⟨g, 0, none⟩) l.length cap) ∧ g < w'.heap.size ∧ ToldAt l g w' ∧ Below w.heap.size w w' :=
  Calls.mono (itemsOf_all B d t u w l hll hB hl) fun _ _ ⟨g, cap, h1, h2, h3, _, h5⟩ => ⟨g, cap, h1, h2, h3, h5⟩
end Go.Proofs.YtpjjpmikhjlgnaaGreatDoor
namespace Go.Proofs.YtpjjpmikhjlgnaaGreatDoor
open Go.RowKit

def dotB : ByteArray := { data := #[46] }
def dotsB : ByteArray := { data := #[46, 46] }
/-- A text cut by strokes, as texts. -/
def cutB (s : ByteArray) : List ByteArray := (cutL s.data.toList).map fun x => (⟨x.toArray⟩ : ByteArray)
def rooted (s : ByteArray) : Bool := Lib.hasPrefix s.data.toList [47]
/-- Where it is, what is left, how many links it met. -/
structure WkS where
  here : List ByteArray
  ahead : List ByteArray
  links : Nat
/-- A link. -/
def linkR (s : ByteArray) (h a : List ByteArray) (n : Nat) : Except Nat WkS := if 16 < n + 1 then .error 8 else .ok ⟨if rooted s = true then [] else h, cutB s ++ a, n + 1⟩
/-- One name. -/
def stepR (t : Tree) (x : ByteArray) (h a : List ByteArray) (n : Nat) : Except Nat WkS :=
  if x = ByteArray.empty ∨ x = dotB then .ok ⟨h, a, n⟩ else if x = dotsB then .ok ⟨h.dropLast, a, n⟩ else if nameB x = false then .error 4 else match atR (h ++ [x]) t with
    | none => .error 5
    | some k => if isLink k = true then linkR k.data h a n else .ok ⟨h ++ [x], a, n⟩
/-- All names, with so many steps at most. -/
def followR (t : Tree) : Nat → WkS → Except Nat (List ByteArray)
  | 0, _ => .error 99
  | f + 1, s => match s.ahead with
    | [] => .ok s.here
    | x :: a => match stepR t x s.here a s.links with
      | .error e => .error e
      | .ok s' => followR t f s'
/-- So many steps are enough. -/
def wkM (s : WkS) : Nat := s.ahead.length + 42 * (17 - s.links)
theorem cutB_len (s : ByteArray) : (cutB s).length ≤ s.size + 1 := by
  unfold cutB
  rw [List.length_map]
  have := cutL_le s.data.toList
  simpa using this
/-- Links are short. -/
def ShortD : Nat → Tree → Prop
  | 0, _ => False
  | d + 1, t => (isLink t = true → t.data.size ≤ 40) ∧ ∀ x ∈ t.kids, ShortD d x.2
theorem short_at : ∀ {l : List ByteArray} {d : Nat} {t k : Tree}, ShortD d t → atR l t = some k → ∃ e, ShortD e k
  | [], d, t, k, h, e => by
    simp only [atR, Option.some.injEq] at e
    subst e
    exact ⟨d, h⟩
  | x :: l, d, t, k, h, e => by
    simp only [atR] at e
    cases hk : kidOf t x with
    | none => rw [hk] at e; cases e
    | some y =>
      rw [hk] at e
      simp only at e
      unfold kidOf at hk
      split at hk
      · cases hx : t.kids[placeOf t.kids x]? with
        | none => rw [hx] at hk; cases hk
        | some z =>
          rw [hx] at hk
          simp only [Option.map_some, Option.some.injEq] at hk
          subst hk
          cases d with
          | zero => exact h.elim
          | succ d => exact short_at (h.2 z (List.mem_of_getElem? hx)) e
      · cases hk
theorem short_link {l : List ByteArray} {d : Nat} {t k : Tree} (h : ShortD d t) (e : atR l t = some k) (hl : isLink k = true) : k.data.size ≤ 40 := by
  obtain ⟨f, hf⟩ := short_at h e
  cases f with
  | zero => exact hf.elim
  | succ f => exact hf.1 hl
/-- Each step comes nearer to the end. -/
theorem step_less {t : Tree} {d : Nat} (hs : ShortD d t) {x : ByteArray} {h a : List ByteArray} {n : Nat} {s : WkS} (hn : n ≤ 16) (e : stepR t x h a n = .ok s) : wkM s < wkM ⟨h, x :: a, n⟩ ∧ s.links ≤ 16 := by
  unfold stepR at e
  unfold wkM
  simp only [List.length_cons]
  split at e
  · injection e with e
    subst e
    simp only
    omega
  · split at e
    · injection e with e
      subst e
      simp only
      omega
    · split at e
      · cases e
      · split at e
        · cases e
        · rename_i k hk
          split at e
          · rename_i hl
            unfold linkR at e
            split at e
            · cases e
            · injection e with e
              subst e
              have h1 := short_link hs hk hl
              have h2 := cutB_len k.data
              simp only [List.length_append]
              omega
          · injection e with e
            subst e
            simp only
            omega
theorem follow_enough {t : Tree} {d : Nat} (hs : ShortD d t) : ∀ (f g : Nat) (s : WkS), s.links ≤ 16 → wkM s < f → wkM s < g → followR t f s = followR t g s
  | 0, _, _, _, h, _ => by omega
  | _ + 1, 0, _, _, _, h => by omega
  | f + 1, g + 1, s, hl, h1, h2 => by
    obtain ⟨h, a, n⟩ := s
    simp only [followR]
    cases a with
    | nil => rfl
    | cons x a =>
      simp only
      cases hst : stepR t x h a n with
      | error e => rfl
      | ok s' =>
        simp only
        have hl' : n ≤ 16 := hl
        have := step_less hs hl' hst
        exact follow_enough hs f g s' this.2 (by omega) (by omega)
/-- What Follow comes to. -/
def followS (t : Tree) (s : WkS) : Except Nat (List ByteArray) := followR t (wkM s + 1) s
theorem followS_end {t : Tree} {h : List ByteArray} {n : Nat} : followS t ⟨h, [], n⟩ = .ok h := rfl
theorem followS_err {t : Tree} {x : ByteArray} {h a : List ByteArray} {n e : Nat} (hst : stepR t x h a n = .error e) : followS t ⟨h, x :: a, n⟩ = .error e := by
  unfold followS followR
  simp only [hst]
theorem followS_on {t : Tree} {d : Nat} (hs : ShortD d t) {x : ByteArray} {h a : List ByteArray} {n : Nat} {s : WkS} (hn : n ≤ 16) (hst : stepR t x h a n = .ok s) : followS t ⟨h, x :: a, n⟩ = followS t s := by
  unfold followS
  rw [show wkM ⟨h, x :: a, n⟩ + 1 = (wkM ⟨h, x :: a, n⟩) + 1 from rfl]
  rw [followR]
  simp only [hst]
  have := step_less hs hn hst
  exact follow_enough hs _ _ s this.2 (by omega) (by omega)
end Go.Proofs.YtpjjpmikhjlgnaaGreatDoor
namespace Go.Proofs.YtpjjpmikhjlgnaaGreatDoor
open Go.RowKit

/-- Names that lead on, and to no link. -/
def Clear (t : Tree) (h : List ByteArray) : Prop := (∀ y ∈ h, nameB y = true) ∧ ∀ j, 1 ≤ j → j ≤ h.length → ∃ k, atR (h.take j) t = some k ∧ isLink k = false
theorem clear_nil (t : Tree) : Clear t [] := ⟨fun y hy => by simp at hy, fun j h1 h2 => by simp only [List.length_nil] at h2; omega⟩
theorem clear_take {t : Tree} {h : List ByteArray} (c : Clear t h) (m : Nat) : Clear t (h.take m) := by
  refine ⟨fun y hy => c.1 y (List.mem_of_mem_take hy), fun j h1 h2 => ?_⟩
  rw [List.length_take] at h2
  rw [List.take_take, Nat.min_eq_left (by omega)]
  exact c.2 j h1 (by omega)
theorem clear_snoc {t k : Tree} {h : List ByteArray} {x : ByteArray} (c : Clear t h) (hx : nameB x = true) (hk : atR (h ++ [x]) t = some k) (hl : isLink k = false) : Clear t (h ++ [x]) := by
  refine ⟨fun y hy => ?_, fun j h1 h2 => ?_⟩
  · rcases List.mem_append.1 hy with hy | hy
    · exact c.1 y hy
    · rw [List.mem_singleton.1 hy]; exact hx
  · rw [List.length_append, List.length_singleton] at h2
    by_cases e : j = h.length + 1
    · rw [List.take_of_length_le (by simp; omega)]
      exact ⟨k, hk, hl⟩
    · rw [List.take_append_of_le_length (by omega)]
      exact c.2 j h1 (by omega)
theorem clear_step {t : Tree} {x : ByteArray} {h a : List ByteArray} {n : Nat} {s : WkS} (c : Clear t h) (e : stepR t x h a n = .ok s) : Clear t s.here := by
  unfold stepR at e
  split at e
  · injection e with e
    subst e
    exact c
  · split at e
    · injection e with e
      subst e
      rw [List.dropLast_eq_take]
      exact clear_take c _
    · split at e
      · cases e
      · rename_i hn
        split at e
        · cases e
        · rename_i k hk
          split at e
          · unfold linkR at e
            split at e
            · cases e
            · injection e with e
              subst e
              simp only
              split
              · exact clear_nil t
              · exact c
          · rename_i hl
            injection e with e
            subst e
            exact clear_snoc c (by simpa using hn) hk (by simpa using hl)
theorem clear_follow {t : Tree} : ∀ {f : Nat} {s : WkS} {r : List ByteArray}, Clear t s.here → followR t f s = .ok r → Clear t r
  | 0, _, _, _, e => by cases e
  | f + 1, s, r, c, e => by
    obtain ⟨h, a, n⟩ := s
    simp only [followR] at e
    cases a with
    | nil =>
      simp only at e
      injection e with e
      subst e
      exact c
    | cons x a =>
      simp only at e
      cases hst : stepR t x h a n with
      | error er => rw [hst] at e; cases e
      | ok s' =>
        rw [hst] at e
        exact clear_follow (clear_step c hst) e
theorem name_not {x : ByteArray} (h : nameB x = true) : ¬ (x = ByteArray.empty ∨ x = dotB) ∧ x ≠ dotsB := by
  refine ⟨fun e => ?_, fun e => ?_⟩
  · rcases e with rfl | rfl
    · exact absurd h (by decide)
    · unfold nameB at h
      rw [show (dotB.toList == [46]) = true by rw [ba_toList]; rfl] at h
      simp at h
  · subst e
    unfold nameB at h
    rw [show (dotsB.toList == [46, 46]) = true by rw [ba_toList]; rfl] at h
    simp at h
/-- Where there is no link, the names are the place. -/
theorem follow_clear {t : Tree} : ∀ {a : List ByteArray} {f n : Nat} {h : List ByteArray}, Clear t (h ++ a) → a.length < f → followR t f ⟨h, a, n⟩ = .ok (h ++ a)
  | _, 0, _, _, _, hf => by omega
  | [], f + 1, n, h, _, _ => by simp [followR]
  | x :: a, f + 1, n, h, c, hf => by
    have hx := c.1 x (by simp)
    obtain ⟨k, hk, hl⟩ := c.2 (h.length + 1) (by omega) (by simp)
    have e : (h ++ x :: a).take (h.length + 1) = h ++ [x] := by
      rw [List.take_append, List.take_of_length_le (by omega), Nat.add_sub_cancel_left]
      rfl
    rw [e] at hk
    have hs : stepR t x h a n = .ok ⟨h ++ [x], a, n⟩ := by
      unfold stepR
      rw [if_neg (name_not hx).1, if_neg (name_not hx).2, if_neg (by rw [hx]; decide), hk]
      simp only
      rw [if_neg (by rw [hl]; decide)]
    simp only [followR, hs]
    have c2 : Clear t ((h ++ [x]) ++ a) := by rw [List.append_assoc]; exact c
    rw [follow_clear (n := n) c2 (by simpa using hf), List.append_assoc]
    rfl
theorem at_pre : ∀ {l : List ByteArray} {d : Nat} {p : ByteArray} {k0 : Nat} {t k : Tree}, Fit d t → atR l t = some k → ∃ q, (q, k0 + l.length, k) ∈ pre d p k0 t
  | _, 0, _, _, _, _, h, _ => h.elim
  | [], d + 1, p, k0, t, k, _, e => by
    simp only [atR, Option.some.injEq] at e
    subst e
    exact ⟨p, by simp [pre]⟩
  | x :: l, d + 1, p, k0, t, k, h, e => by
    simp only [atR] at e
    cases hk : kidOf t x with
    | none => rw [hk] at e; cases e
    | some y =>
      rw [hk] at e
      simp only at e
      unfold kidOf at hk
      split at hk
      · cases hx : t.kids[placeOf t.kids x]? with
        | none => rw [hx] at hk; cases hk
        | some z =>
          rw [hx] at hk
          simp only [Option.map_some, Option.some.injEq] at hk
          subst hk
          have hm := List.mem_of_getElem? hx
          obtain ⟨q, hq⟩ := at_pre (d := d) (p := p ++ slash ++ z.1) (k0 := k0 + 1) (h z hm) e
          refine ⟨q, ?_⟩
          simp only [pre]
          rw [List.length_cons, show k0 + (l.length + 1) = k0 + 1 + l.length by omega]
          exact List.mem_cons_of_mem _ (List.mem_flatMap.2 ⟨z, hm, hq⟩)
      · cases hk
theorem at_len {l : List ByteArray} {d : Nat} {t k : Tree} (hf : Fit d t) (h : treeErr d t = none) (e : atR l t = some k) : l.length ≤ 8 := by
  obtain ⟨q, hq⟩ := at_pre (p := ByteArray.empty) (k0 := 0) hf e
  have := ((treeErr_none.1 h).2 _ hq).1
  simp only [Nat.zero_add] at this
  exact this
theorem clear_at {t : Tree} {l : List ByteArray} (c : Clear t l) : ∃ k, atR l t = some k ∧ (l ≠ [] → isLink k = false) := by
  cases l with
  | nil => exact ⟨t, rfl, fun h => absurd rfl h⟩
  | cons x l =>
    obtain ⟨k, hk, hl⟩ := c.2 (x :: l).length (by simp) (Nat.le_refl _)
    rw [List.take_of_length_le (Nat.le_refl _)] at hk
    exact ⟨k, hk, fun _ => hl⟩
theorem clear_len {t : Tree} {l : List ByteArray} {d : Nat} (hf : Fit d t) (h : treeErr d t = none) (c : Clear t l) : l.length ≤ 8 := by
  obtain ⟨k, hk, _⟩ := clear_at c
  exact at_len hf h hk
theorem short_dir {t : Tree} (h : nodeErr t = none) (hl : isLink t = true) : t.data.size ≤ 40 := by
  unfold nodeErr at h
  have hnf : isFile t = false := by
    unfold isFile isLink at *
    have := eq_of_beq hl
    rw [this]; rfl
  have hnd : isDir t = false := by
    unfold isDir isLink at *
    have := eq_of_beq hl
    rw [this]; rfl
  rw [if_neg (by rw [hnf]; decide), if_neg (by rw [hnd]; decide), if_pos hl] at h
  unfold linkErr at h
  split at h
  · cases h
  · split at h
    · cases h
    · rename_i h1
      omega
theorem short_tree : ∀ {d : Nat} {p : ByteArray} {k : Nat} {t : Tree}, Fit d t → (∀ x ∈ pre d p k t, nodeErr x.2.2 = none) → ShortD d t
  | 0, _, _, _, h, _ => h
  | d + 1, p, k, t, h, ho => by
    simp only [pre] at ho
    exact ⟨short_dir (ho (p, k, t) List.mem_cons_self), fun y hy => short_tree (p := p ++ slash ++ y.1) (k := k + 1) (h y hy) fun x hx => ho x (List.mem_cons_of_mem _ (List.mem_flatMap.2 ⟨y, hy, hx⟩))⟩
theorem short_well {d : Nat} {t : Tree} (hf : Fit d t) (h : treeErr d t = none) : ShortD d t := short_tree (p := ByteArray.empty) (k := 0) hf fun x hx => ((treeErr_none.1 h).2 x hx).2
theorem cutL_piece_le : ∀ (l : List UInt8), ∀ x ∈ cutL l, x.length ≤ l.length
  | [], x, hx => by
    rw [show cutL [] = [[]] from rfl] at hx
    rw [List.mem_singleton.1 hx]
    simp
  | c :: l, x, hx => by
    have ih := cutL_piece_le l
    by_cases hc : c = 47
    · subst hc
      rw [cutL_stroke] at hx
      rcases List.mem_cons.1 hx with rfl | hx
      · simp
      · have := ih x hx; simp only [List.length_cons]; omega
    · obtain ⟨h, t, e⟩ : ∃ h t, cutL l = h :: t := by
        cases h : cutL l with
        | nil => exact absurd h (cutL_ne l)
        | cons a b => exact ⟨a, b, rfl⟩
      rw [cutL_byte hc e] at hx
      rw [e] at ih
      rcases List.mem_cons.1 hx with rfl | hx
      · have := ih h (by simp); simp only [List.length_cons]; omega
      · have := ih x (by simp [hx]); simp only [List.length_cons]; omega
theorem cutB_sizes (s : ByteArray) : ∀ x ∈ cutB s, x.size ≤ s.size := fun x hx => by
  unfold cutB at hx
  obtain ⟨y, hy, rfl⟩ := List.mem_map.1 hx
  have := cutL_piece_le s.data.toList y hy
  show y.toArray.size ≤ _
  simpa using this
/-- What is left are short texts. -/
theorem sizes_step {t : Tree} {d : Nat} (hs : ShortD d t) {x : ByteArray} {h a : List ByteArray} {n : Nat} {s : WkS} (e : stepR t x h a n = .ok s) (ha : ∀ y ∈ a, y.size ≤ 40) : ∀ y ∈ s.ahead, y.size ≤ 40 := by
  unfold stepR at e
  split at e
  · injection e with e
    subst e
    exact ha
  · split at e
    · injection e with e
      subst e
      exact ha
    · split at e
      · cases e
      · split at e
        · cases e
        · rename_i k hk
          split at e
          · rename_i hl
            have h1 := short_link hs hk hl
            unfold linkR at e
            split at e
            · cases e
            · injection e with e
              subst e
              intro y hy
              rcases List.mem_append.1 hy with hy | hy
              · have := cutB_sizes k.data y hy; omega
              · exact ha y hy
          · injection e with e
            subst e
            exact ha
theorem name_short {x : ByteArray} (h : nameB x = true) : x.size ≤ 40 := by
  unfold nameB at h
  simp only [Bool.and_eq_true, decide_eq_true_eq] at h
  omega
end Go.Proofs.YtpjjpmikhjlgnaaGreatDoor
