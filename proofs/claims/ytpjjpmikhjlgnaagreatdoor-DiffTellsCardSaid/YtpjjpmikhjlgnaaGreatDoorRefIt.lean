/-
  The contract of the document's answer for a tree's nodes with their paths: stillroomref1's ItemsOf.
  Conditions: the tree lies in memory below block B.
-/
import Derived.Test.YtpjjpmikhjlgnaaGreatDoorRefT
namespace Go.Proofs.YtpjjpmikhjlgnaaGreatDoor
open Go.RowKit
attribute [local go_sem ↓] Go.wp_at_zero Go.wp_at_succ

def fixP (p : ByteArray) : ByteArray := if p.toList.isEmpty = true then slash else p
theorem fixP_yes {p : ByteArray} (h : p.toList.isEmpty = true) : fixP p = slash := by unfold fixP; rw [if_pos h]
theorem fixP_no {p : ByteArray} (h : p.toList.isEmpty = false) : fixP p = p := by unfold fixP; rw [if_neg (by simp [h])]
/-- Items in a row, their paths told up to a place. -/
def RowAt (l : List (ByteArray × Nat × Tree)) (us : Nat → Value) (g j : Nat) (w : World) : Prop :=
  (∃ cur, w.heap[g]? = some (.cells cur 69 (0, 0))) ∧ ∀ i x, l[i]? = some x → w.cell? ⟨g, i * 6, none⟩ = some (.string (if i < j then fixP x.1 else x.1)) ∧ w.cell? ⟨g, i * 6 + 2, none⟩ = some (.string x.2.2.kind) ∧ w.cell? ⟨g, i * 6 + 3, none⟩ = some (.string x.2.2.data) ∧ w.cell? ⟨g, i * 6 + 4, none⟩ = some (.bool x.2.2.exec) ∧ w.cell? ⟨g, i * 6 + 5, none⟩ = some (us i)
theorem RowAt.at {l : List (ByteArray × Nat × Tree)} {us : Nat → Value} {g j : Nat} {w : World} (h : RowAt l us g j w) {x : ByteArray × Nat × Tree} (hx : l[j]? = some x) : w.cell? ⟨g, j * 6, none⟩ = some (.string x.1) := by
  have := (h.2 j x hx).1
  rw [if_neg (by omega)] at this
  exact this
theorem RowAt.next {l : List (ByteArray × Nat × Tree)} {us : Nat → Value} {g j : Nat} {w : World} (h : RowAt l us g j w) {x : ByteArray × Nat × Tree} (hx : l[j]? = some x) (hp : x.1.toList.isEmpty = false) : RowAt l us g (j + 1) w := by
  refine ⟨h.1, fun i y hy => ⟨?_, (h.2 i y hy).2⟩⟩
  have h1 := (h.2 i y hy).1
  rcases Nat.lt_trichotomy i j with hi | hi | hi
  · rw [if_pos hi] at h1; rw [if_pos (by omega)]; exact h1
  · subst hi
    rw [hx] at hy
    simp only [Option.some.injEq] at hy
    subst hy
    rw [if_neg (by omega)] at h1
    rw [if_pos (by omega), fixP_no hp]
    exact h1
  · rw [if_neg (by omega)] at h1; rw [if_neg (by omega)]; exact h1
theorem RowAt.set {l : List (ByteArray × Nat × Tree)} {us : Nat → Value} {g j : Nat} {w : World} (h : RowAt l us g j w) {x : ByteArray × Nat × Tree} (hx : l[j]? = some x) (hp : x.1.toList.isEmpty = true) : RowAt l us g (j + 1) (w.setCell ⟨g, j * 6, none⟩ (.string { data := #[47] })) := by
  obtain ⟨⟨cur, hc⟩, hr⟩ := h
  refine ⟨⟨_, heap_setCell_same w g (j * 6) cur 69 _ hc⟩, fun i y hy => ?_⟩
  obtain ⟨h1, h2, h3, h4, h5⟩ := hr i y hy
  refine ⟨?_, ?_, ?_, ?_, ?_⟩
  · rcases Nat.lt_trichotomy i j with hi | hi | hi
    · rw [World.cell?_setCell_other _ _ _ _ (by intro e; simp only [Addr.mk.injEq] at e; omega)]
      rw [if_pos hi] at h1; rw [if_pos (by omega)]; exact h1
    · subst hi
      rw [hx] at hy
      simp only [Option.some.injEq] at hy
      subst hy
      rw [World.cell?_setCell_same _ _ _ h1, if_pos (by omega), fixP_yes hp]
      rfl
    · rw [World.cell?_setCell_other _ _ _ _ (by intro e; simp only [Addr.mk.injEq] at e; omega)]
      rw [if_neg (by omega)] at h1; rw [if_neg (by omega)]; exact h1
  · rw [World.cell?_setCell_other _ _ _ _ (by intro e; simp only [Addr.mk.injEq] at e; omega)]; exact h2
  · rw [World.cell?_setCell_other _ _ _ _ (by intro e; simp only [Addr.mk.injEq] at e; omega)]; exact h3
  · rw [World.cell?_setCell_other _ _ _ _ (by intro e; simp only [Addr.mk.injEq] at e; omega)]; exact h4
  · rw [World.cell?_setCell_other _ _ _ _ (by intro e; simp only [Addr.mk.injEq] at e; omega)]; exact h5
/-- Items that are told: what is read of them. -/
def ToldAt (l : List (ByteArray × Nat × Tree)) (g : Nat) (w : World) : Prop :=
  ∀ i x, l[i]? = some x → w.cell? ⟨g, i * 6, none⟩ = some (.string (fixP x.1)) ∧ w.cell? ⟨g, i * 6 + 2, none⟩ = some (.string x.2.2.kind) ∧ w.cell? ⟨g, i * 6 + 3, none⟩ = some (.string x.2.2.data)
theorem RowAt.told {l : List (ByteArray × Nat × Tree)} {us : Nat → Value} {g : Nat} {w : World} (h : RowAt l us g l.length w) : ToldAt l g w := fun i x hx => by
  have hi : i < l.length := (List.getElem?_eq_some_iff.1 hx).1
  obtain ⟨h1, h2, h3, _⟩ := h.2 i x hx
  rw [if_pos hi] at h1
  exact ⟨h1, h2, h3⟩
/-- Their nodes, whole. -/
def NodesAt (l : List (ByteArray × Nat × Tree)) (B g : Nat) (w : World) : Prop :=
  ∀ i x, l[i]? = some x → ∃ d u, w.cell? ⟨g, i * 6 + 4, none⟩ = some (.bool x.2.2.exec) ∧ w.cell? ⟨g, i * 6 + 5, none⟩ = some u ∧ Lies w B d x.2.2.kids u

set_option maxRecDepth 100000 in
set_option maxHeartbeats 4000000 in
theorem itemsOf_row (B d : Nat) (t : Tree) (u : Value) (w : World) (l : List (ByteArray × Nat × Tree)) (hll : l = listOf 200 8 t) (hB : B ≤ w.heap.size) (hl : Lies w B d t.kids u) :
    Calls Tryz.prog 41 #[.agg #[.string t.kind, .string t.data, .bool t.exec, u]] w fun e w' => ∃ g cap, e = .returned (.slice (some ⟨g, 0, none⟩) l.length cap) ∧ g < w'.heap.size ∧ ToldAt l g w' ∧ NodesAt l B g w' ∧ Below w.heap.size w w' ∧ ∃ cur, w'.heap[g]? = some (.cells cur 69 (0, 0)) := by
  obtain ⟨ta, tc, rfl⟩ := hl.form
  have hW : ∀ o, Below w.heap.size w (w.alloc o) := fun o => (Below.refl _ _).alloc (Nat.le_refl _) o
  have hcall := fun o => listOf_any B d 200 8 t (.slice ta t.kids.length tc) (w.alloc o) (by simp; omega) (hl.below (hW o) hB) (by omega) (by omega)
  have HCALL : Hid (∀ o, Calls Tryz.prog 30 #[.agg #[.string t.kind, .string t.data, .bool t.exec, .slice ta t.kids.length tc], .int .i64 200, .int .i64 8] (w.alloc o) fun e w' => ∃ L v, e = .returned v ∧ ListAt (w.alloc o) 200 8 B t (200 + 1) L v w') := hcall
  have HW : Hid _ := hW
  have HLL : Hid (l.length ≤ 1000000) := by
    have h1 := listTo_len (most := 200) (deep := 8) (l := [(ByteArray.empty, 0, t)]) (200 + 1)
    rw [hll]
    show (listTo 200 8 [(ByteArray.empty, 0, t)] (200 + 1)).length ≤ _
    simp only [List.length_cons, List.length_nil] at h1
    omega
  have HPOS : Hid (1 ≤ l.length) := by rw [hll]; exact list_len
  have HL0 : Hid (l = listOf 200 8 t) := hll
  clear hcall hW hl hll
  go_enter Tryz.func41, Tryz.ntmps41
  go_wp2_with fail
  refine Calls.mono (HCALL.out _) ?_
  rintro e w1 ⟨L, v, rfl, A⟩
  have HLO : Hid (L.map (·.1) = l) := A.strip.trans HL0.out.symm
  have hlen : L.length = l.length := by
    have h2 := congrArg List.length HLO.out
    rw [List.length_map] at h2
    exact h2
  have hbw : Below w.heap.size w w1 := (HW.out _).trans (A.below.mono (by simp))
  clear HL0
  have hpos := HPOS.out
  have hle := HLL.out
  obtain ⟨us, hus⟩ : ∃ us : Nat → Value, us = fun i => (L[i]?.map (·.2)).getD .nilIface := ⟨_, rfl⟩
  have HLI : Hid (∀ i x, l[i]? = some x → ∃ d, Lies w1 B d x.2.2.kids (us i)) := fun i x hx => by
    rw [← HLO.out, List.getElem?_map] at hx
    cases hz : L[i]? with
    | none => rw [hz] at hx; cases hx
    | some z =>
      rw [hz] at hx
      simp only [Option.map_some, Option.some.injEq] at hx
      rw [hus]
      simp only [hz, Option.map_some, Option.getD_some]
      rw [← hx]
      exact A.lies z (List.mem_of_getElem? hz)
  obtain ⟨g, cap, rfl, hg0, hrow0⟩ : ∃ g cap, v = .slice (some ⟨g, 0, none⟩) l.length cap ∧ w.heap.size ≤ g ∧ RowAt l us g 0 w1 := by
    rcases A.own.2 with ⟨h, h'⟩ | ⟨g, cap, cur, h, hg, hcur, _⟩
    · omega
    · refine ⟨g, cap, by rw [← hlen]; exact h, by simp at hg; omega, ⟨cur, hcur⟩, fun i x hx => ?_⟩
      have hcs := A.own.cells (g := g) (by rw [h]; rfl)
      have hadd : ∀ o, (⟨g, 0, none⟩ : Addr).add o = ⟨g, o, none⟩ := fun o => by unfold Addr.add; split <;> simp_all
      obtain ⟨z, hz, hzx⟩ : ∃ z, L[i]? = some z ∧ z.1 = x := by
        rw [← HLO.out, List.getElem?_map] at hx
        cases hz : L[i]? with
        | none => rw [hz] at hx; cases hx
        | some z => rw [hz] at hx; exact ⟨z, rfl, by simpa using hx⟩
      obtain ⟨y0, y1, y2, y3, y4, y5⟩ := itCells_at hz
      have c0 := hcs _ _ y0
      have c2 := hcs _ _ y2
      have c3 := hcs _ _ y3
      have c4 := hcs _ _ y4
      have c5 := hcs _ _ y5
      rw [hadd] at c0 c2 c3 c4 c5
      rw [hzx] at c0 c2 c3 c4
      exact ⟨by rw [if_neg (by omega)]; exact c0, c2, c3, c4, by rw [c5, hus]; simp [hz]⟩
  have HBW : Hid (Below w.heap.size w w1) := hbw
  clear A hus hbw
  go_wp2_with fail
  go_loopw [4] (fun i wr => ∃ j : Nat, j ≤ l.length ∧ i = .int .i64 j ∧ Below w.heap.size w1 wr ∧ RowAt l us g j wr) (fun i _ => l.length - (intOf i).toNat)
  case atStart => exact ⟨0, Nat.zero_le _, rfl, Below.refl _ _, hrow0⟩
  case round =>
    obtain ⟨j, hj, rfl, hb, hrow⟩ := hrel
    have HROW : Hid (RowAt l us g j wr) := hrow
    by_cases hlt : j < l.length
    · obtain ⟨x, hx⟩ : ∃ x, l[j]? = some x := ⟨l[j], List.getElem?_eq_getElem hlt⟩
      have c0 := hrow.at hx
      have hfz : wr.frozen? ⟨g, j * 6, none⟩ = false := by
        obtain ⟨cur, hc⟩ := hrow.1
        exact frozen_of_row wr g (j * 6) cur 69 hc
      have HX : Hid _ := hx
      clear hx hrow hrow0
      cases hp : x.1.toList.isEmpty
      · have HR : Hid _ := HROW.out.next HX.out hp
        go_wp2_with fail
        go_roundw
        case rel => exact ⟨j + 1, by omega, by go_num, hb, HR.out⟩
        case measure => simp [intOf]; omega
      · have HR : Hid _ := HROW.out.set HX.out hp
        go_wp2_with fail
        go_roundw
        case rel => exact ⟨j + 1, by omega, by go_num, hb.setCell hg0 _, HR.out⟩
        case measure => simp [intOf]; omega
    · have ej : j = l.length := by omega
      have HT : Hid (ToldAt l g wr) := by
        have := HROW.out
        rw [ej] at this
        exact this.told
      have HG : Hid (g < wr.heap.size) := by
        obtain ⟨cur, hc⟩ := HROW.out.1
        exact lt_of_row hc
      have HNN : Hid (NodesAt l B g wr) := fun i x hx => by
        obtain ⟨_, _, _, h4, h5⟩ := HROW.out.2 i x hx
        obtain ⟨dd, hd⟩ := HLI.out i x hx
        exact ⟨dd, us i, h4, h5, hd.below hb hB⟩
      clear hrow hrow0 ej
      go_wp2_with fail
      go_ret
      exact ⟨g, cap, rfl, HG.out, HT.out, HNN.out, HBW.out.trans hb, HROW.out.1⟩

theorem itemsOf_all (B d : Nat) (t : Tree) (u : Value) (w : World) (l : List (ByteArray × Nat × Tree)) (hll : l = listOf 200 8 t) (hB : B ≤ w.heap.size) (hl : Lies w B d t.kids u) :
    Calls Tryz.prog 41 #[.agg #[.string t.kind, .string t.data, .bool t.exec, u]] w fun e w' => ∃ g cap, e = .returned (.slice (some ⟨g, 0, none⟩) l.length cap) ∧ g < w'.heap.size ∧ ToldAt l g w' ∧ NodesAt l B g w' ∧ Below w.heap.size w w' :=
  Calls.mono (itemsOf_row B d t u w l hll hB hl) fun _ _ ⟨g, cap, h1, h2, h3, h4, h5, _⟩ => ⟨g, cap, h1, h2, h3, h4, h5⟩

theorem itemsOf_any (B d : Nat) (t : Tree) (u : Value) (w : World) (l : List (ByteArray × Nat × Tree)) (hll : l = listOf 200 8 t) (hB : B ≤ w.heap.size) (hl : Lies w B d t.kids u) :
    Calls Tryz.prog 41 #[.agg #[.string t.kind, .string t.data, .bool t.exec, u]] w fun e w' => ∃ g cap, e = .returned (.slice (some ⟨g, 0, none⟩) l.length cap) ∧ g < w'.heap.size ∧ ToldAt l g w' ∧ Below w.heap.size w w' :=
  Calls.mono (itemsOf_all B d t u w l hll hB hl) fun _ _ ⟨g, cap, h1, h2, h3, _, h5⟩ => ⟨g, cap, h1, h2, h3, h5⟩
end Go.Proofs.YtpjjpmikhjlgnaaGreatDoor
