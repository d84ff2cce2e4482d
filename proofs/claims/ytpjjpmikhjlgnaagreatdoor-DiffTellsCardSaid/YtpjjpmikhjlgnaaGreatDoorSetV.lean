/-
  The contract of the document's way to a tree with a node put or taken out: stillroomref1's setOf.
  Conditions: both trees lie in memory below block B; names rise; the names lie in memory below it, their room told.
-/
import Derived.Test.YtpjjpmikhjlgnaaGreatDoorSetP
import Derived.Test.YtpjjpmikhjlgnaaGreatDoorPGet
import Derived.Test.YtpjjpmikhjlgnaaGreatDoorRefG
namespace Go.Proofs.YtpjjpmikhjlgnaaGreatDoor
open Go.RowKit
attribute [local go_sem ↓] Go.wp_at_zero Go.wp_at_succ

/-- Names in a row, below a block. -/
def NamesB (w : World) (B : Nat) (v : Value) (l : List ByteArray) : Prop := ∃ ad cap, v = .slice ad l.length cap ∧ l.length ≤ cap ∧ cap ≤ maxLen ∧ ∀ i x, l[i]? = some x → ∃ b off, ad = some ⟨b, off, none⟩ ∧ b < B ∧ w.cell? ⟨b, off + i, none⟩ = some (.string x)
/-- Not too many kids, all the way down. -/
def KidsD : Nat → Tree → Prop
  | 0, _ => False
  | d + 1, t => t.kids.length ≤ 1000000 ∧ ∀ x ∈ t.kids, KidsD d x.2
/-- What setOf hands back. -/
def SetPost (B D : Nat) (t X : Tree) (dr : Bool) (l : List ByteArray) (w : World) (e : Ending) (w' : World) : Prop := Below w.heap.size w w' ∧
  ((∃ (kd dd : ByteArray) (ex : Bool) (sa : Option Addr) (sn sc : Nat), setS X dr l t = none ∧ e = .returned (.tuple #[.agg #[.string kd, .string dd, .bool ex, .slice sa sn sc], .bool false])) ∨
   (∃ Y u, setS X dr l t = some Y ∧ e = .returned (.tuple #[.agg #[.string Y.kind, .string Y.data, .bool Y.exec, u], .bool true]) ∧ LiesQ w' (fun b => b < B ∨ (w.heap.size ≤ b ∧ b < w'.heap.size)) D Y.kids u))
def zeroN : Value := .agg #[.string { data := #[] }, .string { data := #[] }, .bool false, .slice none 0 0]

set_option maxRecDepth 100000 in
set_option maxHeartbeats 4000000 in
theorem setOf_any (B dX : Nat) (X : Tree) (ux : Value) (dr : Bool) : ∀ (l : List ByteArray) (d : Nat) (t : Tree) (u v : Value) (w : World), B ≤ w.heap.size → Lies w B d t.kids u → Lies w B dX X.kids ux → RisesD d t → KidsD d t → NamesB w w.heap.size v l →
    l.length ≤ 1000 → (∀ y ∈ l, y.size ≤ 1000) → Calls Tryz.prog 45 #[.agg #[.string t.kind, .string t.data, .bool t.exec, u], v, .agg #[.string X.kind, .string X.data, .bool X.exec, ux], .bool dr] w (SetPost B (d + dX) t X dr l w) := by
  intro l
  induction l with
  | nil =>
    intro d t u v w hB hl hlx hr hq hv hll hns
    obtain ⟨ta, tc, rfl⟩ := hl.form
    obtain ⟨xa, xc, rfl⟩ := hlx.form
    obtain ⟨va, vc, rfl, _, _, _⟩ := hv
    have HLX : Hid (Lies w B dX X.kids (.slice xa X.kids.length xc)) := hlx
    have HP : Hid (setS X dr [] t = some X) := rfl
    clear hl hlx hr hq
    go_enter Tryz.func45, Tryz.ntmps45
    go_wp2_with fail
    have hb : Below w.heap.size w (((w.alloc (.cells #[.string t.kind, .string t.data, .bool t.exec, .slice ta t.kids.length tc] 24)).alloc (.cells #[.string X.kind, .string X.data, .bool X.exec, .slice xa X.kids.length xc] 24)).alloc (.cells #[.string X.kind, .string X.data, .bool X.exec, .slice xa X.kids.length xc] 24)) := (((Below.refl _ _).alloc (Nat.le_refl _) _).alloc (by simp) _).alloc (by simp; omega) _
    have hrow := row_alloc' ((w.alloc (.cells #[.string t.kind, .string t.data, .bool t.exec, .slice ta t.kids.length tc] 24)).alloc (.cells #[.string X.kind, .string X.data, .bool X.exec, .slice xa X.kids.length xc] 24)) #[.string X.kind, .string X.data, .bool X.exec, .slice xa X.kids.length xc] 24
    rw [show ((w.alloc (.cells #[.string t.kind, .string t.data, .bool t.exec, .slice ta t.kids.length tc] 24)).alloc (.cells #[.string X.kind, .string X.data, .bool X.exec, .slice xa X.kids.length xc] 24)).heap.size = w.heap.size + 1 + 1 by simp] at hrow
    obtain ⟨⟨q0, q1, q2, q3⟩, _⟩ := row4b hrow
    refine bodyPost_ret (v := .tuple #[.agg #[.string X.kind, .string X.data, .bool X.exec, .slice xa X.kids.length xc], .bool true]) (by simp [results, Tryz.results45, go_sem, q0, q1, q2, q3]) rfl ?_
    exact ⟨hb, .inr ⟨X, _, HP.out, rfl, ((HLX.out.below hb hB).toQ fun b hb => .inl hb).up (by omega)⟩⟩
  | cons x r ih =>
    intro d t u v w hB hl hlx hr hq hv hll hns
    cases d with
    | zero => exact hl.elim
    | succ d =>
    have hlo := hl.open
    obtain ⟨ta, tc, rfl⟩ := hl.form
    obtain ⟨xa, xc, rfl⟩ := hlx.form
    obtain ⟨va, vc, rfl, hvc1, hvc2, hvn⟩ := hv
    obtain ⟨nb, no, rfl, hnb, hn0⟩ := hvn 0 x rfl
    have hvt : ∀ w', Below w.heap.size w w' → NamesB w' w'.heap.size (.slice (some ⟨nb, no + 1, none⟩) r.length (vc - 1)) r := fun w' hb => by
      rw [List.length_cons] at hvc1
      refine ⟨_, _, rfl, by omega, by omega, fun i y hy => ?_⟩
      obtain ⟨b, off, e, h1, h2⟩ := hvn (i + 1) y hy
      simp only [Option.some.injEq, Addr.mk.injEq] at e
      obtain ⟨rfl, rfl, _⟩ := e
      refine ⟨_, _, rfl, by have := hb.size; omega, ?_⟩
      rw [hb.cell (p := ⟨nb, no + 1 + i, none⟩) (by show nb < _; omega), show no + 1 + i = no + (i + 1) by omega]
      exact h2
    have HVT : Hid _ := hvt
    have HLX : Hid (Lies w B dX X.kids (.slice xa X.kids.length xc)) := hlx
    have HL : Hid _ := hlo
    have HIH : Hid _ := ih
    have HR : Hid (RisesD (d + 1) t) := hr
    have hlen : t.kids.length ≤ 1000000 := hq.1
    have HQ : Hid (∀ y ∈ t.kids, KidsD d y.2) := hq.2
    have HNS : Hid (∀ y ∈ x :: r, y.size ≤ 1000) := hns
    have HKN : Hid (∀ x ∈ t.kids, x.1.size ≤ 140737488355328) := fun x hx => by
      obtain ⟨i, hi, he⟩ := List.getElem_of_mem hx
      have hxi : t.kids[i]? = some x := by rw [List.getElem?_eq_getElem hi, he]
      rcases hlo.2 with ⟨h0, _⟩ | ⟨b, off, cp, _, _, hk⟩
      · rw [h0] at hxi; simp at hxi
      · obtain ⟨u, K⟩ := hk i x hxi
        exact K.size
    obtain ⟨i0, hi0, hz0', hz1', hz2'⟩ := info_parts infoKid
    obtain ⟨W0, hW0⟩ : ∃ W0, W0 = ((w.alloc (.cells #[.string t.kind, .string t.data, .bool t.exec, .slice ta t.kids.length tc] 24)).alloc (.cells #[.string X.kind, .string X.data, .bool X.exec, .slice xa X.kids.length xc] 24)).alloc (.cells #[.string { data := #[] }, .string { data := #[] }, .bool false, .slice none 0 0] 24) := ⟨_, rfl⟩
    have hsz : W0.heap.size = w.heap.size + 3 := by rw [hW0]; simp
    have hbW : Below w.heap.size w W0 := by rw [hW0]; exact (((Below.refl _ _).alloc (Nat.le_refl _) _).alloc (by simp) _).alloc (by simp; omega) _
    have hx0 : W0.heap[w.heap.size]? = some (.cells #[.string t.kind, .string t.data, .bool t.exec, .slice ta t.kids.length tc] 24 (0, 0)) := by
      rw [hW0, Below.heap_alloc _ _ _ (by simp; omega), Below.heap_alloc _ _ _ (by simp)]; exact row_alloc' _ _ _
    have hx1 : W0.heap[w.heap.size + 1]? = some (.cells #[.string X.kind, .string X.data, .bool X.exec, .slice xa X.kids.length xc] 24 (0, 0)) := by
      rw [hW0, Below.heap_alloc _ _ _ (by simp)]
      have := row_alloc' (w.alloc (.cells #[.string t.kind, .string t.data, .bool t.exec, .slice ta t.kids.length tc] 24)) #[.string X.kind, .string X.data, .bool X.exec, .slice xa X.kids.length xc] 24
      simpa using this
    have hx2 : W0.heap[w.heap.size + 1 + 1]? = some (.cells #[.string { data := #[] }, .string { data := #[] }, .bool false, .slice none 0 0] 24 (0, 0)) := by
      rw [hW0]
      have := row_alloc' ((w.alloc (.cells #[.string t.kind, .string t.data, .bool t.exec, .slice ta t.kids.length tc] 24)).alloc (.cells #[.string X.kind, .string X.data, .bool X.exec, .slice xa X.kids.length xc] 24)) #[.string { data := #[] }, .string { data := #[] }, .bool false, .slice none 0 0] 24
      simpa using this
    have HW0 : Hid (W0 = ((w.alloc (.cells #[.string t.kind, .string t.data, .bool t.exec, .slice ta t.kids.length tc] 24)).alloc (.cells #[.string X.kind, .string X.data, .bool X.exec, .slice xa X.kids.length xc] 24)).alloc (.cells #[.string { data := #[] }, .string { data := #[] }, .bool false, .slice none 0 0] 24)) := hW0
    have HX0 : Hid _ := hx0
    have HX1 : Hid _ := hx1
    have HX2 : Hid _ := hx2
    have HBW : Hid _ := hbW
    have HN0 : Hid (w.cell? ⟨nb, no, none⟩ = some (.string x)) := hn0
    rw [List.length_cons] at hll hvc1
    clear hvt hlo hl hlx ih hr hq hns hvn hx0 hx1 hx2 hbW hW0 hn0
    cases hd : t.kind.toList == [100, 105, 114] with
    | false =>
      have HS : Hid (setS X dr (x :: r) t = none) := show _ = _ by unfold setS; rw [if_pos (show isDir t = false from hd)]
      go_enter Tryz.func45, Tryz.ntmps45
      go_wp2_with fail
      have hb : Below w.heap.size w (((w.alloc (.cells #[.string t.kind, .string t.data, .bool t.exec, .slice ta t.kids.length tc] 24)).alloc (.cells #[.string X.kind, .string X.data, .bool X.exec, .slice xa X.kids.length xc] 24)).alloc (.cells #[.string t.kind, .string t.data, .bool t.exec, .slice ta t.kids.length tc] 24)) := (((Below.refl _ _).alloc (Nat.le_refl _) _).alloc (by simp) _).alloc (by simp; omega) _
      have hrow := row_alloc' ((w.alloc (.cells #[.string t.kind, .string t.data, .bool t.exec, .slice ta t.kids.length tc] 24)).alloc (.cells #[.string X.kind, .string X.data, .bool X.exec, .slice xa X.kids.length xc] 24)) #[.string t.kind, .string t.data, .bool t.exec, .slice ta t.kids.length tc] 24
      rw [show ((w.alloc (.cells #[.string t.kind, .string t.data, .bool t.exec, .slice ta t.kids.length tc] 24)).alloc (.cells #[.string X.kind, .string X.data, .bool X.exec, .slice xa X.kids.length xc] 24)).heap.size = w.heap.size + 1 + 1 by simp] at hrow
      obtain ⟨⟨q0, q1, q2, q3⟩, _⟩ := row4b hrow
      refine bodyPost_ret (v := .tuple #[.agg #[.string t.kind, .string t.data, .bool t.exec, .slice ta t.kids.length tc], .bool false]) (by simp [results, Tryz.results45, go_sem, q0, q1, q2, q3]) rfl ?_
      exact ⟨hb, .inl ⟨_, _, _, _, _, _, HS.out, rfl⟩⟩
    | true =>
    have HD : Hid (isDir t = true) := hd
    go_enter Tryz.func45, Tryz.ntmps45
    go_wp2_with fail
    rw [← HW0.out]
    clear hd HW0
    obtain ⟨p, hp⟩ : ∃ p, p = placeOf t.kids x := ⟨_, rfl⟩
    go_loopw [10, 11, 12] (fun kv dn i wr => ∃ (j : Nat) (K : List (ByteArray × Tree)) (ka : Option Addr) (kc : Nat) (b : Bool), j ≤ t.kids.length ∧ i = .int .i64 j ∧ dn = .bool b ∧ kv = .slice ka K.length kc ∧ K.length ≤ j + 1 ∧ (∀ z ∈ K, z.1.size ≤ 140737488355328) ∧ Below (w.heap.size + 3) W0 wr ∧ RowQ wr B (w.heap.size + 3) (d + dX) K (.slice ka K.length kc) ∧
      (if b then p < j ∧ ∃ H, K = H ++ (t.kids.drop (p + 1)).take (j - (p + 1)) ∧ setS X dr (x :: r) t = some { t with kids := H ++ t.kids.drop (p + 1) } else j ≤ p ∧ K = t.kids.take j)) (fun _ _ i _ => t.kids.length - (intOf i).toNat)
    case atStart => exact ⟨0, [], none, 0, false, Nat.zero_le _, rfl, rfl, rfl, by simp, by simp, by rw [← hsz]; exact Below.refl _ _, RowQ.nil _ _ _ _, ⟨Nat.zero_le _, by simp⟩⟩
    case round =>
      obtain ⟨j, K, ka, kc, b, hj, rfl, rfl, rfl, hKj, hKn, hb, hK, hin⟩ := hrel
      have HKS : Hid (∀ z ∈ K, z.1.size ≤ 140737488355328) := hKn
      clear hKn
      have hbw : Below w.heap.size w wr := HBW.out.trans (hb.mono (by omega))
      have hws := hb.size
      rw [hsz] at hws
      obtain ⟨⟨y0, y1, y2, y3⟩, f0, f1, f2, f3⟩ := row4b ((hb.block w.heap.size (by omega)).trans HX0.out)
      have HB : Hid (Below (w.heap.size + 3) W0 wr) := hb
      have HBR : Hid (Below w.heap.size w wr) := hbw
      have HK : Hid (RowQ wr B (w.heap.size + 3) (d + dX) K (.slice ka K.length kc)) := hK
      have n0 : wr.cell? ⟨nb, no, none⟩ = some (.string x) := by rw [hbw.cell (p := ⟨nb, no, none⟩) (by show nb < _; omega)]; exact HN0.out
      clear hb hbw hK
      by_cases hlt : j < t.kids.length
      · obtain ⟨y, hy⟩ : ∃ y, t.kids[j]? = some y := ⟨t.kids[j], List.getElem?_eq_getElem hlt⟩
        obtain ⟨kb, ko, rfl, uy, K0⟩ : ∃ b off, ta = some ⟨b, off, none⟩ ∧ ∃ u, KidAt w B d b off j y u := by
          rcases HL.out.2 with ⟨h0, _⟩ | ⟨b, off, cp, e, _, hk⟩
          · rw [h0] at hlt; exact absurd hlt (by simp)
          · simp only [Value.slice.injEq] at e
            exact ⟨b, off, e.1, hk j y hy⟩
        have K1 := K0.below HBR.out hB
        obtain ⟨ya, yc, rfl⟩ := K1.lies.form
        have k0 := K1.name
        have k1 := K1.kind
        have k2 := K1.data
        have k3 := K1.exec
        have k4 := K1.kids
        have hkb : kb < wr.heap.size := by have := K1.lt; omega
        have HLY : Hid (Lies wr B d y.2.kids (.slice ya y.2.kids.length yc)) := K1.lies
        have HKB : Hid (kb < B) := K1.lt
        have HY : Hid _ := hy
        have hj0 : (0 : Int) ≤ (j : Int) := by omega
        have hj1 : (j : Int) < (t.kids.length : Int) := by omega
        clear K0 K1 hy
        cases b with
        | true =>
          have HIN : Hid (p < j ∧ ∃ H, K = H ++ (t.kids.drop (p + 1)).take (j - (p + 1)) ∧ setS X dr (x :: r) t = some { t with kids := H ++ t.kids.drop (p + 1) }) := hin
          clear hin
          go_upto_region 11 with fail
          go_quiet (fail)
          obtain ⟨W1, hW1⟩ : ∃ W1, W1 = (wr.alloc (.cells #[.string y.1, .string y.2.kind, .string y.2.data, .bool y.2.exec, .slice ya y.2.kids.length yc] 65)).drewN nq := ⟨_, rfl⟩
          have hz1 : wr.heap.size + 1 ≤ W1.heap.size := by rw [hW1]; simp
          have HB1 : Hid (Below wr.heap.size wr W1) := by rw [hW1]; exact below_drewN ((Below.refl _ _).alloc (Nat.le_refl _) _) _
          have hkx : W1.heap[wr.heap.size]? = some (.cells #[.string y.1, .string y.2.kind, .string y.2.data, .bool y.2.exec, .slice ya y.2.kids.length yc] 65 (0, 0)) := by rw [hW1]; exact row_alloc' _ _ _
          have m0 : W1.cell? ⟨wr.heap.size, 0, none⟩ = some (.string y.1) := by rw [cell_of_row W1 _ _ _ _ _ hkx]; rfl
          have m1 : W1.cell? ⟨wr.heap.size, 1, none⟩ = some (.string y.2.kind) := by rw [cell_of_row W1 _ _ _ _ _ hkx]; rfl
          have m2 : W1.cell? ⟨wr.heap.size, 2, none⟩ = some (.string y.2.data) := by rw [cell_of_row W1 _ _ _ _ _ hkx]; rfl
          have m3 : W1.cell? ⟨wr.heap.size, 3, none⟩ = some (.bool y.2.exec) := by rw [cell_of_row W1 _ _ _ _ _ hkx]; rfl
          have m4 : W1.cell? ⟨wr.heap.size, 4, none⟩ = some (.slice ya y.2.kids.length yc) := by rw [cell_of_row W1 _ _ _ _ _ hkx]; rfl
          have n1 : W1.cell? ⟨nb, no, none⟩ = some (.string x) := by rw [HB1.out.cell (p := ⟨nb, no, none⟩) (by show nb < _; omega)]; exact n0
          have HLY1 : Hid (Lies W1 B d y.2.kids (.slice ya y.2.kids.length yc)) := HLY.out.below HB1.out (by omega)
          have HK1 : Hid (RowQ W1 B (w.heap.size + 3) (d + dX) K (.slice ka K.length kc)) := HK.out.below (by omega) (by omega) HB1.out
          have HBW1 : Hid (Below (w.heap.size + 3) W0 W1) := HB.out.trans (HB1.out.mono (by omega))
          have a3 : (Value.slice ka K.length kc).ownBlock ≠ some wr.heap.size := fun e => by
            obtain ⟨us, _, h, _⟩ := HK.out.row
            have := (h.lt _ e).2
            omega
          rw [← hW1]
          clear hW1 hkx k0 k1 k2 k3 k4 y0 y1 y2 f0 f1 f2 f3 n0 HLY HK HB HBR
          obtain ⟨us, hus, hrow, hkk⟩ := HK1.out.row
          have HROW : Hid (W1.ownsRow (w.heap.size + 3) 65 5 (.slice ka K.length kc) K.length (kidCells K us)) := hrow
          have HN : Hid ((W1.alloc (.cells #[.string y.1, .string y.2.kind, .string y.2.data, .bool y.2.exec, .slice ya y.2.kids.length yc] 65)).heap[W1.heap.size]? = some (.cells #[.string y.1, .string y.2.kind, .string y.2.data, .bool y.2.exec, .slice ya y.2.kids.length yc] 65 (0, 0))) := row_alloc' W1 #[.string y.1, .string y.2.kind, .string y.2.data, .bool y.2.exec, .slice ya y.2.kids.length yc] 65
          have HKK : Hid _ := hkk
          clear hrow hkk
          go_wp2_with (at_builtin; go_must (refine wpList_append_lies _ (by rfl) _ _ 22 (by rfl) (w.heap.size + 3) 65 i0 _ 5 80 Tryz.underlying22 hi0 hz0' hz1' hz2' rfl (by omega) _ K.length (kidCells K us) (by rfl) (World.ownsRow.alloc HROW.out _) ⟨W1.heap.size, 0, none⟩ 1 1 [.string y.1, .string y.2.kind, .string y.2.data, .bool y.2.exec, .slice ya y.2.kids.length yc] (by rfl) (by rfl) (World.news_of_block (cs := #[.string y.1, .string y.2.kind, .string y.2.data, .bool y.2.exec, .slice ya y.2.kids.length yc]) (t := 65) (fr := (0, 0)) HN.out) (by simp [Value.oneCell']) (by omega) (by unfold maxLen; omega) (by omega) (by simp; omega) (W1.heap.size + 1) (by simp) ?_; intro g cap' w5 hown5 hgrow hat hlt5; have HG : Hid _ := hgrow; have HO5 : Hid _ := hown5; have HAT : Hid _ := hat; clear hgrow hown5 hat))
          have HK5 : Hid (RowQ w5 B (w.heap.size + 3) (d + dX) (K ++ [y]) (.slice (some ⟨g, 0, none⟩) (K.length + 1) cap')) := rowQ_more (x := y) (by omega) (by omega) ((Below.refl _ _).alloc (Nat.le_refl _) _) ((HLY1.out.toQ fun b hb => .inl hb).up (by omega)) us hus HROW.out HKK.out HO5.out HG.out HAT.out (Nat.le_succ _)
          have HB5 : Hid (Below (w.heap.size + 3) W0 w5) := (HBW1.out.alloc (by omega) _).grown HG.out (by simp; omega) fun k hk => (World.ownsRow.lt HROW.out k hk).1
          have HIN5 : Hid (p < j + 1 ∧ ∃ H, K ++ [y] = H ++ (t.kids.drop (p + 1)).take (j + 1 - (p + 1)) ∧ setS X dr (x :: r) t = some { t with kids := H ++ t.kids.drop (p + 1) }) := by
            obtain ⟨h1, H, h2, h3⟩ := HIN.out
            refine ⟨by omega, H, ?_, h3⟩
            have hdl : (t.kids.drop (p + 1))[j - (p + 1)]? = some y := by rw [List.getElem?_drop, show p + 1 + (j - (p + 1)) = j by omega]; exact HY.out
            have hdi := (List.getElem?_eq_some_iff.1 hdl).1
            rw [h2, show j + 1 - (p + 1) = j - (p + 1) + 1 by omega, List.take_succ_eq_append_getElem hdi, (List.getElem?_eq_some_iff.1 hdl).2, List.append_assoc]
          go_roundw
          case rel =>
            refine ⟨_, _, _, _, _, _, _, _, _, _, _, _, _, _, _, _, _, _, _, _, _, _, _, _, _, _, _, _, _, _, _, _, _, _, _, _, _, _, _, _, _, _, _, _, _, _, _, _, _, _, _, _, _, _, _, _, _, _, _, _, _, _, _, _, _, _, _, _, _, _, _, _, _, _, _, _, _, _, _, _, ?_, rfl⟩
            exact ⟨j + 1, K ++ [y], some ⟨g, 0, none⟩, cap', true, by omega, by go_num, rfl, by rw [List.length_append]; rfl, by rw [List.length_append, List.length_singleton]; omega, (fun z hz => by
              rcases List.mem_append.1 hz with h | h
              · exact HKS.out z h
              · rw [List.mem_singleton.1 h]; exact HKN.out y (List.mem_of_getElem? HY.out)), HB5.out, by rw [List.length_append]; exact HK5.out, HIN5.out⟩
          case measure => simp [intOf]; omega
        | false =>
          obtain ⟨hjp, hKe⟩ : j ≤ p ∧ K = t.kids.take j := hin
          have HKE : Hid (K = t.kids.take j) := hKe
          have hpi := place_iff (s := x) HR.out.1 j y HY.out
          rw [← hp] at hpi
          clear hKe
          by_cases hjl : j < p
          · have c1 : Op.bytesLess y.1.toList x.toList = true := hpi.2 hjl
            obtain ⟨c2, c3⟩ := less_yes _ _ c1
            have c4 : (y.1.toList == x.toList) = false := by rw [beq_eq_false_iff_ne] at c3 ⊢; exact fun e => c3 e.symm
            clear hpi
            have kx0 : (wr.alloc (.cells #[.string y.1, .string y.2.kind, .string y.2.data, .bool y.2.exec, .slice ya y.2.kids.length yc] 65)).cell? ⟨wr.heap.size, 0, none⟩ = some (.string y.1) := by rw [cell_of_row _ _ _ _ _ _ (row_alloc' wr #[.string y.1, .string y.2.kind, .string y.2.data, .bool y.2.exec, .slice ya y.2.kids.length yc] 65)]; rfl
            have nx0 : (wr.alloc (.cells #[.string y.1, .string y.2.kind, .string y.2.data, .bool y.2.exec, .slice ya y.2.kids.length yc] 65)).cell? ⟨nb, no, none⟩ = some (.string x) := by rw [((Below.refl wr.heap.size wr).alloc (Nat.le_refl _) (.cells #[.string y.1, .string y.2.kind, .string y.2.data, .bool y.2.exec, .slice ya y.2.kids.length yc] 65)).cell (p := ⟨nb, no, none⟩) (by show nb < _; omega)]; exact n0
            go_upto_region 11 with fail
            refine wp_region_held_drew (S := fun w' => w'.cell? ⟨wr.heap.size, 0, none⟩ = some (.string y.1) ∧ w'.cell? ⟨nb, no, none⟩ = some (.string x)) (by kernel_rfl) (by exact ⟨kx0, nx0⟩) (fun hHeld => ?_)
            refine wpAnyH_take (i := 0) (v := .bool false) rfl (by kernel_rfl) (by kernel_rfl) (by kernel_rfl) (fun _ _ _ h => h) (Or.inl ⟨by rfl, ?_⟩) hHeld ?_
            · intro w hSw; (try dsimp only at hSw); simp only [List.getElem_toArray, List.getElem_cons_zero]; go_simp
            simp only [List.getElem_toArray, List.getElem_cons_zero, Act.put, List.setIfInBounds_toArray, List.set_cons_zero, List.set_cons_succ]
            refine wpAnyH_take (i := 1) (v := .bool true) rfl (by kernel_rfl) (by kernel_rfl) (by kernel_rfl) (fun _ _ _ h => h) (Or.inl ⟨by rfl, ?_⟩) hHeld ?_
            · intro w hSw; (try dsimp only at hSw); simp only [List.getElem_toArray, List.getElem_cons_zero, List.getElem_cons_succ]; go_simp
            simp only [List.getElem_toArray, List.getElem_cons_zero, List.getElem_cons_succ, Act.put, List.setIfInBounds_toArray, List.set_cons_zero, List.set_cons_succ]
            refine wpAnyH_take (i := 2) (v := .bool true) rfl (by kernel_rfl) (by kernel_rfl) (by kernel_rfl) (fun _ _ _ h => h) (Or.inl ⟨by rfl, ?_⟩) hHeld ?_
            · intro w hSw; (try dsimp only at hSw); simp only [List.getElem_toArray, List.getElem_cons_zero, List.getElem_cons_succ]; go_simp
            simp only [List.getElem_toArray, List.getElem_cons_zero, List.getElem_cons_succ, Act.put, List.setIfInBounds_toArray, List.set_cons_zero, List.set_cons_succ]
            refine wpAnyH_take (i := 3) (v := .pointer (some ⟨wr.heap.size, 0, none⟩)) rfl (by kernel_rfl) (by kernel_rfl) (by kernel_rfl) (fun _ _ _ h => h) (Or.inl ⟨by rfl, ?_⟩) hHeld ?_
            · intro w hSw; (try dsimp only at hSw); simp only [List.getElem_toArray, List.getElem_cons_zero, List.getElem_cons_succ]; go_simp
            simp only [List.getElem_toArray, List.getElem_cons_zero, List.getElem_cons_succ, Act.put, List.setIfInBounds_toArray, List.set_cons_zero, List.set_cons_succ]
            refine wpAnyH_take (i := 4) (v := .string y.1) rfl (by kernel_rfl) (by kernel_rfl) (by kernel_rfl) (fun _ _ _ h => h) (Or.inl ⟨by rfl, ?_⟩) hHeld ?_
            · intro w hSw; (try dsimp only at hSw); simp only [List.getElem_toArray, List.getElem_cons_zero, List.getElem_cons_succ]; obtain ⟨s1, s2⟩ := hSw; go_simp
            simp only [List.getElem_toArray, List.getElem_cons_zero, List.getElem_cons_succ, Act.put, List.setIfInBounds_toArray, List.set_cons_zero, List.set_cons_succ]
            refine wpAnyH_take (i := 5) (v := .slice (some ⟨nb, no, none⟩) (r.length + 1) vc) rfl (by kernel_rfl) (by kernel_rfl) (by kernel_rfl) (fun _ _ _ h => h) (Or.inl ⟨by rfl, ?_⟩) hHeld ?_
            · intro w hSw; (try dsimp only at hSw); simp only [List.getElem_toArray, List.getElem_cons_zero, List.getElem_cons_succ]; go_simp
            simp only [List.getElem_toArray, List.getElem_cons_zero, List.getElem_cons_succ, Act.put, List.setIfInBounds_toArray, List.set_cons_zero, List.set_cons_succ]
            refine wpAnyH_take (i := 6) (v := .pointer (some ⟨nb, no, none⟩)) rfl (by kernel_rfl) (by kernel_rfl) (by kernel_rfl) (fun _ _ _ h => h) (Or.inl ⟨by rfl, ?_⟩) hHeld ?_
            · intro w hSw; (try dsimp only at hSw); simp only [List.getElem_toArray, List.getElem_cons_zero, List.getElem_cons_succ]; go_simp
            simp only [List.getElem_toArray, List.getElem_cons_zero, List.getElem_cons_succ, Act.put, List.setIfInBounds_toArray, List.set_cons_zero, List.set_cons_succ]
            refine wpAnyH_take (i := 7) (v := .string x) rfl (by kernel_rfl) (by kernel_rfl) (by kernel_rfl) (fun _ _ _ h => h) (Or.inl ⟨by rfl, ?_⟩) hHeld ?_
            · intro w hSw; (try dsimp only at hSw); simp only [List.getElem_toArray, List.getElem_cons_zero, List.getElem_cons_succ]; obtain ⟨s1, s2⟩ := hSw; go_simp
            simp only [List.getElem_toArray, List.getElem_cons_zero, List.getElem_cons_succ, Act.put, List.setIfInBounds_toArray, List.set_cons_zero, List.set_cons_succ]
            refine wpAnyH_take (i := 8) (v := .bool false) rfl (by kernel_rfl) (by kernel_rfl) (by kernel_rfl) (fun _ _ _ h => h) (Or.inl ⟨by rfl, ?_⟩) hHeld ?_
            · intro w hSw; (try dsimp only at hSw); simp only [List.getElem_toArray, List.getElem_cons_zero, List.getElem_cons_succ]; go_simp
            simp only [List.getElem_toArray, List.getElem_cons_zero, List.getElem_cons_succ, Act.put, List.setIfInBounds_toArray, List.set_cons_zero, List.set_cons_succ]
            refine wpAnyH_take (i := 9) (v := .bool false) rfl (by kernel_rfl) (by kernel_rfl) (by kernel_rfl) (fun _ _ _ h => h) (Or.inl ⟨by rfl, ?_⟩) hHeld ?_
            · intro w hSw; (try dsimp only at hSw); simp only [List.getElem_toArray, List.getElem_cons_zero, List.getElem_cons_succ]; go_simp
            simp only [List.getElem_toArray, List.getElem_cons_zero, List.getElem_cons_succ, Act.put, List.setIfInBounds_toArray, List.set_cons_zero, List.set_cons_succ]
            refine wpAnyH_done (by kernel_rfl) ?_ _
            obtain ⟨W1, hW1⟩ : ∃ W1, W1 = (wr.alloc (.cells #[.string y.1, .string y.2.kind, .string y.2.data, .bool y.2.exec, .slice ya y.2.kids.length yc] 65)).drew := ⟨_, rfl⟩
            have hz1 : wr.heap.size + 1 ≤ W1.heap.size := by rw [hW1]; simp
            have HB1 : Hid (Below wr.heap.size wr W1) := by rw [hW1]; exact ((Below.refl _ _).alloc (Nat.le_refl _) _).drew
            have hkx : W1.heap[wr.heap.size]? = some (.cells #[.string y.1, .string y.2.kind, .string y.2.data, .bool y.2.exec, .slice ya y.2.kids.length yc] 65 (0, 0)) := by rw [hW1]; exact row_alloc' _ _ _
            have m0 : W1.cell? ⟨wr.heap.size, 0, none⟩ = some (.string y.1) := by rw [cell_of_row W1 _ _ _ _ _ hkx]; rfl
            have m1 : W1.cell? ⟨wr.heap.size, 1, none⟩ = some (.string y.2.kind) := by rw [cell_of_row W1 _ _ _ _ _ hkx]; rfl
            have m2 : W1.cell? ⟨wr.heap.size, 2, none⟩ = some (.string y.2.data) := by rw [cell_of_row W1 _ _ _ _ _ hkx]; rfl
            have m3 : W1.cell? ⟨wr.heap.size, 3, none⟩ = some (.bool y.2.exec) := by rw [cell_of_row W1 _ _ _ _ _ hkx]; rfl
            have m4 : W1.cell? ⟨wr.heap.size, 4, none⟩ = some (.slice ya y.2.kids.length yc) := by rw [cell_of_row W1 _ _ _ _ _ hkx]; rfl
            have n1 : W1.cell? ⟨nb, no, none⟩ = some (.string x) := by rw [HB1.out.cell (p := ⟨nb, no, none⟩) (by show nb < _; omega)]; exact n0
            have HLY1 : Hid (Lies W1 B d y.2.kids (.slice ya y.2.kids.length yc)) := HLY.out.below HB1.out (by omega)
            have HK1 : Hid (RowQ W1 B (w.heap.size + 3) (d + dX) K (.slice ka K.length kc)) := HK.out.below (by omega) (by omega) HB1.out
            have HBW1 : Hid (Below (w.heap.size + 3) W0 W1) := HB.out.trans (HB1.out.mono (by omega))
            have a3 : (Value.slice ka K.length kc).ownBlock ≠ some wr.heap.size := fun e => by
              obtain ⟨us, _, h, _⟩ := HK.out.row
              have := (h.lt _ e).2
              omega
            rw [← hW1]
            clear hW1 hkx k0 k1 k2 k3 k4 y0 y1 y2 f0 f1 f2 f3 n0 HLY HK HB HBR kx0 nx0
            obtain ⟨us, hus, hrow, hkk⟩ := HK1.out.row
            have HROW : Hid (W1.ownsRow (w.heap.size + 3) 65 5 (.slice ka K.length kc) K.length (kidCells K us)) := hrow
            have HN : Hid ((W1.alloc (.cells #[.string y.1, .string y.2.kind, .string y.2.data, .bool y.2.exec, .slice ya y.2.kids.length yc] 65)).heap[W1.heap.size]? = some (.cells #[.string y.1, .string y.2.kind, .string y.2.data, .bool y.2.exec, .slice ya y.2.kids.length yc] 65 (0, 0))) := row_alloc' W1 #[.string y.1, .string y.2.kind, .string y.2.data, .bool y.2.exec, .slice ya y.2.kids.length yc] 65
            have HKK : Hid _ := hkk
            clear hrow hkk
            go_wp2_with (at_builtin; go_must (refine wpList_append_lies _ (by rfl) _ _ 22 (by rfl) (w.heap.size + 3) 65 i0 _ 5 80 Tryz.underlying22 hi0 hz0' hz1' hz2' rfl (by omega) _ K.length (kidCells K us) (by rfl) (World.ownsRow.alloc HROW.out _) ⟨W1.heap.size, 0, none⟩ 1 1 [.string y.1, .string y.2.kind, .string y.2.data, .bool y.2.exec, .slice ya y.2.kids.length yc] (by rfl) (by rfl) (World.news_of_block (cs := #[.string y.1, .string y.2.kind, .string y.2.data, .bool y.2.exec, .slice ya y.2.kids.length yc]) (t := 65) (fr := (0, 0)) HN.out) (by simp [Value.oneCell']) (by omega) (by unfold maxLen; omega) (by omega) (by simp; omega) (W1.heap.size + 1) (by simp) ?_; intro g cap' w5 hown5 hgrow hat hlt5; have HG : Hid _ := hgrow; have HO5 : Hid _ := hown5; have HAT : Hid _ := hat; clear hgrow hown5 hat))
            have HK5 : Hid (RowQ w5 B (w.heap.size + 3) (d + dX) (K ++ [y]) (.slice (some ⟨g, 0, none⟩) (K.length + 1) cap')) := rowQ_more (x := y) (by omega) (by omega) ((Below.refl _ _).alloc (Nat.le_refl _) _) ((HLY1.out.toQ fun b hb => .inl hb).up (by omega)) us hus HROW.out HKK.out HO5.out HG.out HAT.out (Nat.le_succ _)
            have HB5 : Hid (Below (w.heap.size + 3) W0 w5) := (HBW1.out.alloc (by omega) _).grown HG.out (by simp; omega) fun k hk => (World.ownsRow.lt HROW.out k hk).1
            have HKE5 : Hid (K ++ [y] = t.kids.take (j + 1)) := show _ = _ by rw [HKE.out, List.take_succ_eq_append_getElem hlt, (List.getElem?_eq_some_iff.1 HY.out).2]
            go_roundw
            case rel =>
              refine ⟨_, _, _, _, _, _, _, _, _, _, _, _, _, _, _, _, _, _, _, _, _, _, _, _, _, _, _, _, _, _, _, _, _, _, _, _, _, _, _, _, _, _, _, _, _, _, _, _, _, _, _, _, _, _, _, _, _, _, _, _, _, _, _, _, _, _, _, _, _, _, _, _, _, _, _, _, _, _, _, _, ?_, rfl⟩
              exact ⟨j + 1, K ++ [y], some ⟨g, 0, none⟩, cap', false, by omega, by go_num, rfl, by rw [List.length_append]; rfl, by rw [List.length_append, List.length_singleton]; omega, (fun z hz => by
                rcases List.mem_append.1 hz with h | h
                · exact HKS.out z h
                · rw [List.mem_singleton.1 h]; exact HKN.out y (List.mem_of_getElem? HY.out)), HB5.out, by rw [List.length_append]; exact HK5.out, ⟨by omega, HKE5.out⟩⟩
            case measure => simp [intOf]; omega
          · have HJP : Hid (j = p) := show _ = _ by omega
            have c1 : Op.bytesLess y.1.toList x.toList = false := by
              cases hc : Op.bytesLess y.1.toList x.toList with
              | false => rfl
              | true => exact absurd (hpi.1 hc) hjl
            clear hpi
            have kx0 : (wr.alloc (.cells #[.string y.1, .string y.2.kind, .string y.2.data, .bool y.2.exec, .slice ya y.2.kids.length yc] 65)).cell? ⟨wr.heap.size, 0, none⟩ = some (.string y.1) := by rw [cell_of_row _ _ _ _ _ _ (row_alloc' wr #[.string y.1, .string y.2.kind, .string y.2.data, .bool y.2.exec, .slice ya y.2.kids.length yc] 65)]; rfl
            have nx0 : (wr.alloc (.cells #[.string y.1, .string y.2.kind, .string y.2.data, .bool y.2.exec, .slice ya y.2.kids.length yc] 65)).cell? ⟨nb, no, none⟩ = some (.string x) := by rw [((Below.refl wr.heap.size wr).alloc (Nat.le_refl _) (.cells #[.string y.1, .string y.2.kind, .string y.2.data, .bool y.2.exec, .slice ya y.2.kids.length yc] 65)).cell (p := ⟨nb, no, none⟩) (by show nb < _; omega)]; exact n0
            have HTH : Hid (thereAt t.kids x = decide (y.1 = x)) := there_of hp.symm (by rw [← HJP.out]; exact HY.out)
            by_cases hyx : y.1 = x
            · have c2 : Op.bytesLess x.toList y.1.toList = false := by rw [hyx]; exact less_irrefl _
              have c3 : (y.1.toList == x.toList) = true := by rw [hyx]; simp
              have c4 : (x.toList == y.1.toList) = true := by rw [hyx]; simp
              have HT1 : Hid (thereAt t.kids x = true) := show _ = _ by rw [HTH.out]; exact decide_eq_true hyx
              have HYX : Hid (y.1 = x) := hyx
              clear hyx
              go_upto_region 11 with fail
              refine wp_region_held_drew (S := fun w' => w'.cell? ⟨wr.heap.size, 0, none⟩ = some (.string y.1) ∧ w'.cell? ⟨nb, no, none⟩ = some (.string x)) (by kernel_rfl) (by exact ⟨kx0, nx0⟩) (fun hHeld => ?_)
              refine wpAnyH_take (i := 0) (v := .bool false) rfl (by kernel_rfl) (by kernel_rfl) (by kernel_rfl) (fun _ _ _ h => h) (Or.inl ⟨by rfl, ?_⟩) hHeld ?_
              · intro w hSw; (try dsimp only at hSw); simp only [List.getElem_toArray, List.getElem_cons_zero]; go_simp
              simp only [List.getElem_toArray, List.getElem_cons_zero, Act.put, List.setIfInBounds_toArray, List.set_cons_zero, List.set_cons_succ]
              refine wpAnyH_take (i := 1) (v := .bool true) rfl (by kernel_rfl) (by kernel_rfl) (by kernel_rfl) (fun _ _ _ h => h) (Or.inl ⟨by rfl, ?_⟩) hHeld ?_
              · intro w hSw; (try dsimp only at hSw); simp only [List.getElem_toArray, List.getElem_cons_zero, List.getElem_cons_succ]; go_simp
              simp only [List.getElem_toArray, List.getElem_cons_zero, List.getElem_cons_succ, Act.put, List.setIfInBounds_toArray, List.set_cons_zero, List.set_cons_succ]
              refine wpAnyH_take (i := 2) (v := .bool true) rfl (by kernel_rfl) (by kernel_rfl) (by kernel_rfl) (fun _ _ _ h => h) (Or.inl ⟨by rfl, ?_⟩) hHeld ?_
              · intro w hSw; (try dsimp only at hSw); simp only [List.getElem_toArray, List.getElem_cons_zero, List.getElem_cons_succ]; go_simp
              simp only [List.getElem_toArray, List.getElem_cons_zero, List.getElem_cons_succ, Act.put, List.setIfInBounds_toArray, List.set_cons_zero, List.set_cons_succ]
              refine wpAnyH_take (i := 3) (v := .pointer (some ⟨wr.heap.size, 0, none⟩)) rfl (by kernel_rfl) (by kernel_rfl) (by kernel_rfl) (fun _ _ _ h => h) (Or.inl ⟨by rfl, ?_⟩) hHeld ?_
              · intro w hSw; (try dsimp only at hSw); simp only [List.getElem_toArray, List.getElem_cons_zero, List.getElem_cons_succ]; go_simp
              simp only [List.getElem_toArray, List.getElem_cons_zero, List.getElem_cons_succ, Act.put, List.setIfInBounds_toArray, List.set_cons_zero, List.set_cons_succ]
              refine wpAnyH_take (i := 4) (v := .string y.1) rfl (by kernel_rfl) (by kernel_rfl) (by kernel_rfl) (fun _ _ _ h => h) (Or.inl ⟨by rfl, ?_⟩) hHeld ?_
              · intro w hSw; (try dsimp only at hSw); simp only [List.getElem_toArray, List.getElem_cons_zero, List.getElem_cons_succ]; obtain ⟨s1, s2⟩ := hSw; go_simp
              simp only [List.getElem_toArray, List.getElem_cons_zero, List.getElem_cons_succ, Act.put, List.setIfInBounds_toArray, List.set_cons_zero, List.set_cons_succ]
              refine wpAnyH_take (i := 5) (v := .slice (some ⟨nb, no, none⟩) (r.length + 1) vc) rfl (by kernel_rfl) (by kernel_rfl) (by kernel_rfl) (fun _ _ _ h => h) (Or.inl ⟨by rfl, ?_⟩) hHeld ?_
              · intro w hSw; (try dsimp only at hSw); simp only [List.getElem_toArray, List.getElem_cons_zero, List.getElem_cons_succ]; go_simp
              simp only [List.getElem_toArray, List.getElem_cons_zero, List.getElem_cons_succ, Act.put, List.setIfInBounds_toArray, List.set_cons_zero, List.set_cons_succ]
              refine wpAnyH_take (i := 6) (v := .pointer (some ⟨nb, no, none⟩)) rfl (by kernel_rfl) (by kernel_rfl) (by kernel_rfl) (fun _ _ _ h => h) (Or.inl ⟨by rfl, ?_⟩) hHeld ?_
              · intro w hSw; (try dsimp only at hSw); simp only [List.getElem_toArray, List.getElem_cons_zero, List.getElem_cons_succ]; go_simp
              simp only [List.getElem_toArray, List.getElem_cons_zero, List.getElem_cons_succ, Act.put, List.setIfInBounds_toArray, List.set_cons_zero, List.set_cons_succ]
              refine wpAnyH_take (i := 7) (v := .string x) rfl (by kernel_rfl) (by kernel_rfl) (by kernel_rfl) (fun _ _ _ h => h) (Or.inl ⟨by rfl, ?_⟩) hHeld ?_
              · intro w hSw; (try dsimp only at hSw); simp only [List.getElem_toArray, List.getElem_cons_zero, List.getElem_cons_succ]; obtain ⟨s1, s2⟩ := hSw; go_simp
              simp only [List.getElem_toArray, List.getElem_cons_zero, List.getElem_cons_succ, Act.put, List.setIfInBounds_toArray, List.set_cons_zero, List.set_cons_succ]
              refine wpAnyH_take (i := 8) (v := .bool true) rfl (by kernel_rfl) (by kernel_rfl) (by kernel_rfl) (fun _ _ _ h => h) (Or.inl ⟨by rfl, ?_⟩) hHeld ?_
              · intro w hSw; (try dsimp only at hSw); simp only [List.getElem_toArray, List.getElem_cons_zero, List.getElem_cons_succ]; go_simp
              simp only [List.getElem_toArray, List.getElem_cons_zero, List.getElem_cons_succ, Act.put, List.setIfInBounds_toArray, List.set_cons_zero, List.set_cons_succ]
              refine wpAnyH_take (i := 9) (v := .bool true) rfl (by kernel_rfl) (by kernel_rfl) (by kernel_rfl) (fun _ _ _ h => h) (Or.inl ⟨by rfl, ?_⟩) hHeld ?_
              · intro w hSw; (try dsimp only at hSw); simp only [List.getElem_toArray, List.getElem_cons_zero, List.getElem_cons_succ]; go_simp
              simp only [List.getElem_toArray, List.getElem_cons_zero, List.getElem_cons_succ, Act.put, List.setIfInBounds_toArray, List.set_cons_zero, List.set_cons_succ]
              refine wpAnyH_done (by kernel_rfl) ?_ _
              go_upto_region 13 with fail
              refine wp_region_held_drew (S := fun w' => w'.cell? ⟨wr.heap.size, 0, none⟩ = some (.string y.1) ∧ w'.cell? ⟨nb, no, none⟩ = some (.string x)) (by kernel_rfl) (by first | exact ⟨kx0, nx0⟩ | (trace_state; constructor <;> simp [kx0, nx0])) (fun hHeld => ?_)
              refine wpAnyH_take (i := 0) (v := .pointer (some ⟨wr.heap.size, 0, none⟩)) rfl (by kernel_rfl) (by kernel_rfl) (by kernel_rfl) (fun _ _ _ h => h) (Or.inl ⟨by rfl, ?_⟩) hHeld ?_
              · intro w hSw; (try dsimp only at hSw); simp only [List.getElem_toArray, List.getElem_cons_zero]; go_simp
              simp only [List.getElem_toArray, List.getElem_cons_zero, Act.put, List.setIfInBounds_toArray, List.set_cons_zero, List.set_cons_succ]
              refine wpAnyH_take (i := 1) (v := .string y.1) rfl (by kernel_rfl) (by kernel_rfl) (by kernel_rfl) (fun _ _ _ h => h) (Or.inl ⟨by rfl, ?_⟩) hHeld ?_
              · intro w hSw; (try dsimp only at hSw); simp only [List.getElem_toArray, List.getElem_cons_zero, List.getElem_cons_succ]; obtain ⟨s1, s2⟩ := hSw; go_simp
              simp only [List.getElem_toArray, List.getElem_cons_zero, List.getElem_cons_succ, Act.put, List.setIfInBounds_toArray, List.set_cons_zero, List.set_cons_succ]
              refine wpAnyH_take (i := 2) (v := .slice (some ⟨nb, no, none⟩) (r.length + 1) vc) rfl (by kernel_rfl) (by kernel_rfl) (by kernel_rfl) (fun _ _ _ h => h) (Or.inl ⟨by rfl, ?_⟩) hHeld ?_
              · intro w hSw; (try dsimp only at hSw); simp only [List.getElem_toArray, List.getElem_cons_zero, List.getElem_cons_succ]; go_simp
              simp only [List.getElem_toArray, List.getElem_cons_zero, List.getElem_cons_succ, Act.put, List.setIfInBounds_toArray, List.set_cons_zero, List.set_cons_succ]
              refine wpAnyH_take (i := 3) (v := .pointer (some ⟨nb, no, none⟩)) rfl (by kernel_rfl) (by kernel_rfl) (by kernel_rfl) (fun _ _ _ h => h) (Or.inl ⟨by rfl, ?_⟩) hHeld ?_
              · intro w hSw; (try dsimp only at hSw); simp only [List.getElem_toArray, List.getElem_cons_zero, List.getElem_cons_succ]; go_simp
              simp only [List.getElem_toArray, List.getElem_cons_zero, List.getElem_cons_succ, Act.put, List.setIfInBounds_toArray, List.set_cons_zero, List.set_cons_succ]
              refine wpAnyH_take (i := 4) (v := .string x) rfl (by kernel_rfl) (by kernel_rfl) (by kernel_rfl) (fun _ _ _ h => h) (Or.inl ⟨by rfl, ?_⟩) hHeld ?_
              · intro w hSw; (try dsimp only at hSw); simp only [List.getElem_toArray, List.getElem_cons_zero, List.getElem_cons_succ]; obtain ⟨s1, s2⟩ := hSw; go_simp
              simp only [List.getElem_toArray, List.getElem_cons_zero, List.getElem_cons_succ, Act.put, List.setIfInBounds_toArray, List.set_cons_zero, List.set_cons_succ]
              refine wpAnyH_take (i := 5) (v := .bool true) rfl (by kernel_rfl) (by kernel_rfl) (by kernel_rfl) (fun _ _ _ h => h) (Or.inl ⟨by rfl, ?_⟩) hHeld ?_
              · intro w hSw; (try dsimp only at hSw); simp only [List.getElem_toArray, List.getElem_cons_zero, List.getElem_cons_succ]; go_simp
              simp only [List.getElem_toArray, List.getElem_cons_zero, List.getElem_cons_succ, Act.put, List.setIfInBounds_toArray, List.set_cons_zero, List.set_cons_succ]
              refine wpAnyH_done (by kernel_rfl) ?_ _
              obtain ⟨W1, hW1⟩ : ∃ W1, W1 = (wr.alloc (.cells #[.string y.1, .string y.2.kind, .string y.2.data, .bool y.2.exec, .slice ya y.2.kids.length yc] 65)).drew.drew := ⟨_, rfl⟩
              have hz1 : wr.heap.size + 1 ≤ W1.heap.size := by rw [hW1]; simp
              have HB1 : Hid (Below wr.heap.size wr W1) := by rw [hW1]; exact (((Below.refl _ _).alloc (Nat.le_refl _) _).drew).drew
              have hkx : W1.heap[wr.heap.size]? = some (.cells #[.string y.1, .string y.2.kind, .string y.2.data, .bool y.2.exec, .slice ya y.2.kids.length yc] 65 (0, 0)) := by rw [hW1]; exact row_alloc' _ _ _
              have m0 : W1.cell? ⟨wr.heap.size, 0, none⟩ = some (.string y.1) := by rw [cell_of_row W1 _ _ _ _ _ hkx]; rfl
              have m1 : W1.cell? ⟨wr.heap.size, 1, none⟩ = some (.string y.2.kind) := by rw [cell_of_row W1 _ _ _ _ _ hkx]; rfl
              have m2 : W1.cell? ⟨wr.heap.size, 2, none⟩ = some (.string y.2.data) := by rw [cell_of_row W1 _ _ _ _ _ hkx]; rfl
              have m3 : W1.cell? ⟨wr.heap.size, 3, none⟩ = some (.bool y.2.exec) := by rw [cell_of_row W1 _ _ _ _ _ hkx]; rfl
              have m4 : W1.cell? ⟨wr.heap.size, 4, none⟩ = some (.slice ya y.2.kids.length yc) := by rw [cell_of_row W1 _ _ _ _ _ hkx]; rfl
              have n1 : W1.cell? ⟨nb, no, none⟩ = some (.string x) := by rw [HB1.out.cell (p := ⟨nb, no, none⟩) (by show nb < _; omega)]; exact n0
              have HLY1 : Hid (Lies W1 B d y.2.kids (.slice ya y.2.kids.length yc)) := HLY.out.below HB1.out (by omega)
              have HK1 : Hid (RowQ W1 B (w.heap.size + 3) (d + dX) K (.slice ka K.length kc)) := HK.out.below (by omega) (by omega) HB1.out
              have HBW1 : Hid (Below (w.heap.size + 3) W0 W1) := HB.out.trans (HB1.out.mono (by omega))
              have a3 : (Value.slice ka K.length kc).ownBlock ≠ some wr.heap.size := fun e => by
                obtain ⟨us, _, h, _⟩ := HK.out.row
                have := (h.lt _ e).2
                omega
              rw [← hW1]
              clear hW1 hkx k0 k1 k2 k3 k4 y0 y1 y2 f0 f1 f2 f3 n0 HLY HK HB HBR kx0 nx0
              obtain ⟨⟨z0, z1, z2, z3⟩, _⟩ := row4b ((HBW1.out.block w.heap.size (by omega)).trans HX0.out)
              obtain ⟨⟨o0, o1, o2, o3⟩, _⟩ := row4b ((HBW1.out.block (w.heap.size + 1) (by omega)).trans HX1.out)
              obtain ⟨⟨q0, q1, q2, q3⟩, g0, g1, g2, g3⟩ := row4b ((HBW1.out.block (w.heap.size + 1 + 1) (by omega)).trans HX2.out)
              cases r with
              | nil =>
                cases dr with
                | true =>
                  have HIN5 : Hid (p < j + 1 ∧ ∃ H, K = H ++ (t.kids.drop (p + 1)).take (j + 1 - (p + 1)) ∧ setS X true [x] t = some { t with kids := H ++ t.kids.drop (p + 1) }) := by
                    have hjj := HJP.out
                    refine ⟨by omega, K, by rw [HJP.out, Nat.sub_self]; simp, ?_⟩
                    unfold setS
                    rw [if_neg (by rw [HD.out]; decide), if_pos HT1.out, if_pos (by simp), ← hp, List.eraseIdx_eq_take_drop_succ, HKE.out, HJP.out]
                  go_wp2_with fail
                  go_roundw
                  case rel =>
                    exact ⟨j + 1, K, ka, kc, true, by omega, by go_num, rfl, rfl, by omega, HKS.out, HBW1.out, HK1.out, HIN5.out⟩
                  case measure => simp [intOf]; omega
                | false =>
                  by_cases hv1 : vc = 1
                  · subst hv1
                    have hmem : y ∈ t.kids := List.mem_of_getElem? HY.out
                    have HBWW : Hid (Below w.heap.size w W1) := HBW.out.trans (HBW1.out.mono (by omega))
                    have HKO : Hid (kidOf t x = some y.2) := show _ = _ by unfold kidOf; rw [if_pos HT1.out, ← hp, ← HJP.out, HY.out]; rfl
                    have HCALL : Hid (∀ wx, Below W1.heap.size W1 wx → Calls Tryz.prog 45 #[.agg #[.string y.2.kind, .string y.2.data, .bool y.2.exec, .slice ya y.2.kids.length yc], .slice (some ⟨nb, no, none⟩) 0 0, .agg #[.string X.kind, .string X.data, .bool X.exec, .slice xa X.kids.length xc], .bool false] wx (SetPost B (d + dX) y.2 X false [] wx)) := fun wx hx =>
                      HIH.out d y.2 _ _ wx (by have := hx.size; omega) (HLY1.out.below hx (by omega)) (HLX.out.below (HBWW.out.trans (hx.mono (by omega))) hB) (HR.out.2 y hmem) (HQ.out y hmem) (⟨_, _, rfl, Nat.le_refl _, Nat.zero_le _, fun i z hz => by simp at hz⟩) (by first | omega | (simp only [List.length_cons, List.length_nil] at hll ⊢; omega)) (fun z hz => HNS.out z (List.mem_cons_of_mem _ hz))
                    have HSS : Hid (∀ wx, Below W1.heap.size W1 wx → ((fun w' => (w'.cell? ⟨wr.heap.size, 1, none⟩ = some (.string y.2.kind) ∧ w'.cell? ⟨wr.heap.size, 2, none⟩ = some (.string y.2.data) ∧ w'.cell? ⟨wr.heap.size, 3, none⟩ = some (.bool y.2.exec) ∧ w'.cell? ⟨wr.heap.size, 4, none⟩ = some (.slice ya y.2.kids.length yc)) ∧ (w'.cell? ⟨w.heap.size + 1, 0, none⟩ = some (.string X.kind) ∧ w'.cell? ⟨w.heap.size + 1, 1, none⟩ = some (.string X.data) ∧ w'.cell? ⟨w.heap.size + 1, 2, none⟩ = some (.bool X.exec) ∧ w'.cell? ⟨w.heap.size + 1, 3, none⟩ = some (.slice xa X.kids.length xc))) wx : Prop)) := fun wx hx => by
                      have e1 : ∀ o, wx.cell? ⟨wr.heap.size, o, none⟩ = W1.cell? ⟨wr.heap.size, o, none⟩ := fun o => hx.cell (p := ⟨wr.heap.size, o, none⟩) (by show wr.heap.size < _; omega)
                      have e2 : ∀ o, wx.cell? ⟨w.heap.size + 1, o, none⟩ = W1.cell? ⟨w.heap.size + 1, o, none⟩ := fun o => hx.cell (p := ⟨w.heap.size + 1, o, none⟩) (by show w.heap.size + 1 < _; omega)
                      exact ⟨⟨(e1 1).trans m1, (e1 2).trans m2, (e1 3).trans m3, (e1 4).trans m4⟩, (e2 0).trans o0, (e2 1).trans o1, (e2 2).trans o2, (e2 3).trans o3⟩
                    have HM0 : Hid (W1.cell? ⟨wr.heap.size, 0, none⟩ = some (.string y.1)) := m0
                    clear hmem
                    go_upto_region 15 with fail
                    refine wp_region_held_drew (S := fun w' => (w'.cell? ⟨wr.heap.size, 1, none⟩ = some (.string y.2.kind) ∧ w'.cell? ⟨wr.heap.size, 2, none⟩ = some (.string y.2.data) ∧ w'.cell? ⟨wr.heap.size, 3, none⟩ = some (.bool y.2.exec) ∧ w'.cell? ⟨wr.heap.size, 4, none⟩ = some (.slice ya y.2.kids.length yc)) ∧ (w'.cell? ⟨w.heap.size + 1, 0, none⟩ = some (.string X.kind) ∧ w'.cell? ⟨w.heap.size + 1, 1, none⟩ = some (.string X.data) ∧ w'.cell? ⟨w.heap.size + 1, 2, none⟩ = some (.bool X.exec) ∧ w'.cell? ⟨w.heap.size + 1, 3, none⟩ = some (.slice xa X.kids.length xc))) (by kernel_rfl) (HSS.out _ (Below.refl _ _).drew) (fun hHeld => ?_)
                    refine wpAnyH_take (i := 0) (v := .pointer (some ⟨wr.heap.size, 1, none⟩)) rfl (by kernel_rfl) (by kernel_rfl) (by kernel_rfl) (fun _ _ _ h => h) (Or.inl ⟨by rfl, ?_⟩) hHeld ?_
                    · intro w hSw; (try dsimp only at hSw); simp only [List.getElem_toArray, List.getElem_cons_zero]; go_simp
                    simp only [List.getElem_toArray, List.getElem_cons_zero, Act.put, List.setIfInBounds_toArray, List.set_cons_zero, List.set_cons_succ]
                    refine wpAnyH_take (i := 1) (v := .agg #[.string y.2.kind, .string y.2.data, .bool y.2.exec, .slice ya y.2.kids.length yc]) rfl (by kernel_rfl) (by kernel_rfl) (by kernel_rfl) (fun _ _ _ h => h) (Or.inl ⟨by rfl, ?_⟩) hHeld ?_
                    · intro w hSw; (try dsimp only at hSw); simp only [List.getElem_toArray, List.getElem_cons_zero, List.getElem_cons_succ]; obtain ⟨⟨s1, s2, s3, s4⟩, s5, s6, s7, s8⟩ := hSw; go_simp
                    simp only [List.getElem_toArray, List.getElem_cons_zero, List.getElem_cons_succ, Act.put, List.setIfInBounds_toArray, List.set_cons_zero, List.set_cons_succ]
                    refine wpAnyH_take (i := 2) (v := .slice (some ⟨nb, no, none⟩) (([] : List ByteArray).length + 1) 1) rfl (by kernel_rfl) (by kernel_rfl) (by kernel_rfl) (fun _ _ _ h => h) (Or.inl ⟨by rfl, ?_⟩) hHeld ?_
                    · intro w hSw; (try dsimp only at hSw); simp only [List.getElem_toArray, List.getElem_cons_zero, List.getElem_cons_succ]; go_simp
                    simp only [List.getElem_toArray, List.getElem_cons_zero, List.getElem_cons_succ, Act.put, List.setIfInBounds_toArray, List.set_cons_zero, List.set_cons_succ]
                    refine wpAnyH_take (i := 3) (v := .slice (some ⟨nb, no, none⟩) 0 0) rfl (by kernel_rfl) (by kernel_rfl) (by kernel_rfl) (fun _ _ _ h => h) (Or.inl ⟨by rfl, ?_⟩) hHeld ?_
                    · intro w hSw; (try dsimp only at hSw); simp only [List.getElem_toArray, List.getElem_cons_zero, List.getElem_cons_succ]; go_simp
                    simp only [List.getElem_toArray, List.getElem_cons_zero, List.getElem_cons_succ, Act.put, List.setIfInBounds_toArray, List.set_cons_zero, List.set_cons_succ]
                    refine wpAnyH_take (i := 4) (v := .agg #[.string X.kind, .string X.data, .bool X.exec, .slice xa X.kids.length xc]) rfl (by kernel_rfl) (by kernel_rfl) (by kernel_rfl) (fun _ _ _ h => h) (Or.inl ⟨by rfl, ?_⟩) hHeld ?_
                    · intro w hSw; (try dsimp only at hSw); simp only [List.getElem_toArray, List.getElem_cons_zero, List.getElem_cons_succ]; obtain ⟨⟨s1, s2, s3, s4⟩, s5, s6, s7, s8⟩ := hSw; go_simp
                    simp only [List.getElem_toArray, List.getElem_cons_zero, List.getElem_cons_succ, Act.put, List.setIfInBounds_toArray, List.set_cons_zero, List.set_cons_succ]
                    refine wpAnyH_take (i := 5) (v := .bool false) rfl (by kernel_rfl) (by kernel_rfl) (by kernel_rfl) (fun _ _ _ h => h) (Or.inl ⟨by rfl, ?_⟩) hHeld ?_
                    · intro w hSw; (try dsimp only at hSw); simp only [List.getElem_toArray, List.getElem_cons_zero, List.getElem_cons_succ]; go_simp
                    simp only [List.getElem_toArray, List.getElem_cons_zero, List.getElem_cons_succ, Act.put, List.setIfInBounds_toArray, List.set_cons_zero, List.set_cons_succ]
                    have HBA : Hid (Below W1.heap.size W1 (W1.drew.alloc (.cells #[.string { data := #[] }, .string { data := #[] }, .bool false, .slice none 0 0] 24))) := ((Below.refl _ _).drew).alloc (Nat.le_refl _) _
                    refine wpAnyH_ready (rs := [6, 10]) (by kernel_rfl) (by simp) ?_
                    refine AllReadyH.cons rfl (fun K' hK => ?_) (AllReadyH.cons rfl (fun K' hK => ?_) AllReadyH.nil)
                    · skip
                      simp only [List.getElem_toArray, List.getElem_cons_zero, List.getElem_cons_succ]
                      go_simp
                      refine Calls.mono (HCALL.out _ ((Below.refl _ _).drew)) ?_
                      rintro e wx ⟨hbx, ⟨kd, dd, ex, sa, sn, sc, hnone, rfl⟩ | ⟨Y, u, hsome, rfl, hq⟩⟩
                      · skip
                        have HBX : Hid (Below W1.heap.size W1 wx) := (Below.refl _ _).drew.trans hbx
                        have HNS0 : Hid (setS X false (x :: []) t = none) := show _ = _ by unfold setS; rw [if_neg (by rw [HD.out]; decide), if_pos HT1.out, if_neg (by decide), HKO.out, Option.getD_some, hnone]
                        clear hbx hnone
                        go_wp2_with fail
                        refine hK.out _ _ (HSS.out _ HBX.out) (fun hHeld' => ?_)
                        clear hK K' hHeld
                        have hHeld := hHeld'
                        clear hHeld'
                        refine wpAnyH_take (i := 7) (v := .tuple #[.agg #[.string kd, .string dd, .bool ex, .slice sa sn sc], .bool false]) rfl (by kernel_rfl) (by kernel_rfl) (by kernel_rfl) (fun _ _ _ h => h) (Or.inl ⟨by rfl, ?_⟩) hHeld ?_
                        · intro w hSw; (try dsimp only at hSw); simp only [List.getElem_toArray, List.getElem_cons_zero, List.getElem_cons_succ]; go_simp
                        simp only [List.getElem_toArray, List.getElem_cons_zero, List.getElem_cons_succ, Act.put, List.setIfInBounds_toArray, List.set_cons_zero, List.set_cons_succ]
                        refine wpAnyH_take (i := 8) (v := .agg #[.string kd, .string dd, .bool ex, .slice sa sn sc]) rfl (by kernel_rfl) (by kernel_rfl) (by kernel_rfl) (fun _ _ _ h => h) (Or.inl ⟨by rfl, ?_⟩) hHeld ?_
                        · intro w hSw; (try dsimp only at hSw); simp only [List.getElem_toArray, List.getElem_cons_zero, List.getElem_cons_succ]; go_simp
                        simp only [List.getElem_toArray, List.getElem_cons_zero, List.getElem_cons_succ, Act.put, List.setIfInBounds_toArray, List.set_cons_zero, List.set_cons_succ]
                        refine wpAnyH_take (i := 9) (v := .bool false) rfl (by kernel_rfl) (by kernel_rfl) (by kernel_rfl) (fun _ _ _ h => h) (Or.inl ⟨by rfl, ?_⟩) hHeld ?_
                        · intro w hSw; (try dsimp only at hSw); simp only [List.getElem_toArray, List.getElem_cons_zero, List.getElem_cons_succ]; go_simp
                        simp only [List.getElem_toArray, List.getElem_cons_zero, List.getElem_cons_succ, Act.put, List.setIfInBounds_toArray, List.set_cons_zero, List.set_cons_succ]
                        refine wpAnyH_ready (rs := [10]) (by kernel_rfl) (by simp) ?_
                        refine AllReadyH.cons rfl (fun K' hK => ?_) AllReadyH.nil
                        simp only [List.getElem_toArray, List.getElem_cons_zero, List.getElem_cons_succ]
                        go_simp
                        go_wp2_with fail
                        refine hK.out _ _ (HSS.out _ (HBX.out.alloc HBX.out.size _)) (fun hHeld' => ?_)
                        clear hK K' hHeld
                        have hHeld := hHeld'
                        clear hHeld'
                        refine wpAnyH_ready (rs := [11]) (by kernel_rfl) (by simp) ?_
                        refine AllReadyH.cons rfl (fun K' hK => ?_) AllReadyH.nil
                        simp only [List.getElem_toArray, List.getElem_cons_zero, List.getElem_cons_succ]
                        go_simp
                        go_wp2_with fail
                        refine hK.out _ _ (HSS.out _ (HBX.out.alloc HBX.out.size _)) (fun hHeld' => ?_)
                        clear hK K' hHeld
                        have hHeld := hHeld'
                        clear hHeld'
                        refine wpAnyH_take (i := 12) (v := .bool false) rfl (by kernel_rfl) (by kernel_rfl) (by kernel_rfl) (fun _ _ _ h => h) (Or.inl ⟨by rfl, ?_⟩) hHeld ?_
                        · intro w hSw; (try dsimp only at hSw); simp only [List.getElem_toArray, List.getElem_cons_zero, List.getElem_cons_succ]; go_simp
                        simp only [List.getElem_toArray, List.getElem_cons_zero, List.getElem_cons_succ, Act.put, List.setIfInBounds_toArray, List.set_cons_zero, List.set_cons_succ]
                        refine wpAnyH_done (by kernel_rfl) ?_ _
                        obtain ⟨W3, hW3⟩ : ∃ W3, W3 = wx.alloc (.cells #[.string kd, .string dd, .bool ex, .slice sa sn sc] 24) := ⟨_, rfl⟩
                        have HB3 : Hid (Below W1.heap.size W1 W3) := by rw [hW3]; exact HBX.out.alloc HBX.out.size _
                        have hz3 : W1.heap.size + 1 ≤ W3.heap.size := by have := HBX.out.size; rw [hW3]; simp; omega
                        have hz3' : wx.heap.size ≤ W3.heap.size := by rw [hW3]; simp
                        have HWX : Hid (∀ k, k ≠ wx.heap.size → k < wx.heap.size → W3.heap[k]? = wx.heap[k]?) := fun k _ hk => by rw [hW3]; exact Below.heap_alloc _ _ _ hk
                        have hx3 : W3.heap[wx.heap.size]? = some (.cells #[.string kd, .string dd, .bool ex, .slice sa sn sc] 24 (0, 0)) := by rw [hW3]; exact row_alloc' _ _ _
                        have HBW3 : Hid (Below (w.heap.size + 3) W0 W3) := HBW1.out.trans (HB3.out.mono (by omega))
                        obtain ⟨⟨v0, v1, v2, v3⟩, _⟩ := row4b hx3
                        have m0 : W3.cell? ⟨wr.heap.size, 0, none⟩ = some (.string y.1) := by rw [HB3.out.cell (p := ⟨wr.heap.size, 0, none⟩) (by show wr.heap.size < _; omega)]; exact HM0.out
                        clear z0 z1 z2 z3 q0 q1 q2 q3 g0 g1 g2 g3 o0 o1 o2 o3 n1 m1 m2 m3 m4
                        obtain ⟨⟨z0, z1, z2, z3⟩, _⟩ := row4b ((HBW3.out.block w.heap.size (by omega)).trans HX0.out)
                        obtain ⟨⟨q0, q1, q2, q3⟩, g0, g1, g2, g3⟩ := row4b ((HBW3.out.block (w.heap.size + 1 + 1) (by omega)).trans HX2.out)
                        rw [← hW3]
                        clear hW3 hx3
                        go_wp2_with fail
                        refine bodyPost_ret (v := .tuple #[.agg #[.string t.kind, .string t.data, .bool t.exec, .slice (some ⟨kb, ko, none⟩) t.kids.length tc], .bool false]) (by simp [results, Tryz.results45, go_sem, q0, q1, q2, q3]) rfl ?_
                        have hS := ((((But1.refl (w.heap.size + 1 + 1) W3).set 0 (.string t.kind)).set 1 (.string t.data)).set 2 (.bool t.exec)).set 3 (.slice (some ⟨kb, ko, none⟩) t.kids.length tc)
                        exact ⟨hS.below (HBW.out.trans (HBW3.out.mono (by omega))) (by omega), .inl ⟨_, _, _, _, _, _, HNS0.out, rfl⟩⟩
                      · obtain ⟨ua, uc, rfl⟩ := hq.form
                        have HBX : Hid (Below W1.heap.size W1 wx) := (Below.refl _ _).drew.trans hbx
                        have HLQ : Hid (LiesQ wx (fun b => b < B ∨ (W1.heap.size ≤ b ∧ b < wx.heap.size)) (d + dX) Y.kids (.slice ua Y.kids.length uc)) := hq
                        have HIN5 : Hid (p < j + 1 ∧ ∃ H, K ++ [(y.1, Y)] = H ++ (t.kids.drop (p + 1)).take (j + 1 - (p + 1)) ∧ setS X false (x :: []) t = some { t with kids := H ++ t.kids.drop (p + 1) }) := by
                          have hjj := HJP.out
                          refine ⟨by omega, K ++ [(y.1, Y)], by rw [hjj, Nat.sub_self]; simp, ?_⟩
                          unfold setS
                          rw [if_neg (by rw [HD.out]; decide), if_pos HT1.out, if_neg (by decide), HKO.out, Option.getD_some, hsome]
                          simp only
                          rw [← hp, List.set_eq_take_append_cons_drop, if_pos (by omega), HKE.out, hjj, HYX.out]
                          simp
                        clear hbx hsome hq
                        go_wp2_with fail
                        refine hK.out _ _ (HSS.out _ HBX.out) (fun hHeld' => ?_)
                        clear hK K' hHeld
                        have hHeld := hHeld'
                        clear hHeld'
                        refine wpAnyH_take (i := 7) (v := .tuple #[.agg #[.string Y.kind, .string Y.data, .bool Y.exec, .slice ua Y.kids.length uc], .bool true]) rfl (by kernel_rfl) (by kernel_rfl) (by kernel_rfl) (fun _ _ _ h => h) (Or.inl ⟨by rfl, ?_⟩) hHeld ?_
                        · intro w hSw; (try dsimp only at hSw); simp only [List.getElem_toArray, List.getElem_cons_zero, List.getElem_cons_succ]; go_simp
                        simp only [List.getElem_toArray, List.getElem_cons_zero, List.getElem_cons_succ, Act.put, List.setIfInBounds_toArray, List.set_cons_zero, List.set_cons_succ]
                        refine wpAnyH_take (i := 8) (v := .agg #[.string Y.kind, .string Y.data, .bool Y.exec, .slice ua Y.kids.length uc]) rfl (by kernel_rfl) (by kernel_rfl) (by kernel_rfl) (fun _ _ _ h => h) (Or.inl ⟨by rfl, ?_⟩) hHeld ?_
                        · intro w hSw; (try dsimp only at hSw); simp only [List.getElem_toArray, List.getElem_cons_zero, List.getElem_cons_succ]; go_simp
                        simp only [List.getElem_toArray, List.getElem_cons_zero, List.getElem_cons_succ, Act.put, List.setIfInBounds_toArray, List.set_cons_zero, List.set_cons_succ]
                        refine wpAnyH_take (i := 9) (v := .bool true) rfl (by kernel_rfl) (by kernel_rfl) (by kernel_rfl) (fun _ _ _ h => h) (Or.inl ⟨by rfl, ?_⟩) hHeld ?_
                        · intro w hSw; (try dsimp only at hSw); simp only [List.getElem_toArray, List.getElem_cons_zero, List.getElem_cons_succ]; go_simp
                        simp only [List.getElem_toArray, List.getElem_cons_zero, List.getElem_cons_succ, Act.put, List.setIfInBounds_toArray, List.set_cons_zero, List.set_cons_succ]
                        refine wpAnyH_ready (rs := [10]) (by kernel_rfl) (by simp) ?_
                        refine AllReadyH.cons rfl (fun K' hK => ?_) AllReadyH.nil
                        simp only [List.getElem_toArray, List.getElem_cons_zero, List.getElem_cons_succ]
                        go_simp
                        go_wp2_with fail
                        refine hK.out _ _ (HSS.out _ (HBX.out.alloc HBX.out.size _)) (fun hHeld' => ?_)
                        clear hK K' hHeld
                        have hHeld := hHeld'
                        clear hHeld'
                        refine wpAnyH_ready (rs := [11]) (by kernel_rfl) (by simp) ?_
                        refine AllReadyH.cons rfl (fun K' hK => ?_) AllReadyH.nil
                        simp only [List.getElem_toArray, List.getElem_cons_zero, List.getElem_cons_succ]
                        go_simp
                        go_wp2_with fail
                        refine hK.out _ _ (HSS.out _ (HBX.out.alloc HBX.out.size _)) (fun hHeld' => ?_)
                        clear hK K' hHeld
                        have hHeld := hHeld'
                        clear hHeld'
                        refine wpAnyH_take (i := 12) (v := .bool true) rfl (by kernel_rfl) (by kernel_rfl) (by kernel_rfl) (fun _ _ _ h => h) (Or.inl ⟨by rfl, ?_⟩) hHeld ?_
                        · intro w hSw; (try dsimp only at hSw); simp only [List.getElem_toArray, List.getElem_cons_zero, List.getElem_cons_succ]; go_simp
                        simp only [List.getElem_toArray, List.getElem_cons_zero, List.getElem_cons_succ, Act.put, List.setIfInBounds_toArray, List.set_cons_zero, List.set_cons_succ]
                        refine wpAnyH_done (by kernel_rfl) ?_ _
                        obtain ⟨W3, hW3⟩ : ∃ W3, W3 = wx.alloc (.cells #[.string Y.kind, .string Y.data, .bool Y.exec, .slice ua Y.kids.length uc] 24) := ⟨_, rfl⟩
                        have HB3 : Hid (Below W1.heap.size W1 W3) := by rw [hW3]; exact HBX.out.alloc HBX.out.size _
                        have hz3 : W1.heap.size + 1 ≤ W3.heap.size := by have := HBX.out.size; rw [hW3]; simp; omega
                        have hz3' : wx.heap.size ≤ W3.heap.size := by rw [hW3]; simp
                        have HWX : Hid (∀ k, k ≠ wx.heap.size → k < wx.heap.size → W3.heap[k]? = wx.heap[k]?) := fun k _ hk => by rw [hW3]; exact Below.heap_alloc _ _ _ hk
                        have hx3 : W3.heap[wx.heap.size]? = some (.cells #[.string Y.kind, .string Y.data, .bool Y.exec, .slice ua Y.kids.length uc] 24 (0, 0)) := by rw [hW3]; exact row_alloc' _ _ _
                        have HBW3 : Hid (Below (w.heap.size + 3) W0 W3) := HBW1.out.trans (HB3.out.mono (by omega))
                        obtain ⟨⟨v0, v1, v2, v3⟩, _⟩ := row4b hx3
                        have m0 : W3.cell? ⟨wr.heap.size, 0, none⟩ = some (.string y.1) := by rw [HB3.out.cell (p := ⟨wr.heap.size, 0, none⟩) (by show wr.heap.size < _; omega)]; exact HM0.out
                        clear z0 z1 z2 z3 q0 q1 q2 q3 g0 g1 g2 g3 o0 o1 o2 o3 n1 m1 m2 m3 m4
                        obtain ⟨⟨z0, z1, z2, z3⟩, _⟩ := row4b ((HBW3.out.block w.heap.size (by omega)).trans HX0.out)
                        obtain ⟨⟨q0, q1, q2, q3⟩, g0, g1, g2, g3⟩ := row4b ((HBW3.out.block (w.heap.size + 1 + 1) (by omega)).trans HX2.out)
                        rw [← hW3]
                        clear hW3 hx3
                        have HKW3 : Hid (RowQ W3 B (w.heap.size + 3) (d + dX) K (.slice ka K.length kc)) := HK1.out.below (by omega) (by omega) HB3.out
                        have HYQ : Hid (LiesQ W3 (fun b => b < B ∨ (w.heap.size + 3 ≤ b ∧ b < W3.heap.size ∧ (Value.slice ka K.length kc).ownBlock ≠ some b)) (d + dX) Y.kids (.slice ua Y.kids.length uc)) := by
                          obtain ⟨us0, _, h0, _⟩ := HK1.out.row
                          have hsx := HBX.out.size
                          refine HLQ.out.kept (fun k hk => HWX.out k (by rcases hk with h | h <;> omega) (by rcases hk with h | h <;> omega)) (fun k hk => ?_)
                          rcases hk with h | h
                          · exact .inl h
                          · exact .inr ⟨by omega, by omega, fun e => by have := (h0.lt k e).2; omega⟩
                        have hKl : K.length ≤ j := by rw [HKE.out, List.length_take]; omega
                        obtain ⟨us, hus, hrow, hkk⟩ := HKW3.out.row
                        have HROW : Hid (W3.ownsRow (w.heap.size + 3) 65 5 (.slice ka K.length kc) K.length (kidCells K us)) := hrow
                        have HN : Hid ((W3.alloc (.cells #[.string y.1, .string Y.kind, .string Y.data, .bool Y.exec, .slice ua Y.kids.length uc] 65)).heap[W3.heap.size]? = some (.cells #[.string y.1, .string Y.kind, .string Y.data, .bool Y.exec, .slice ua Y.kids.length uc] 65 (0, 0))) := row_alloc' W3 #[.string y.1, .string Y.kind, .string Y.data, .bool Y.exec, .slice ua Y.kids.length uc] 65
                        have HKK : Hid _ := hkk
                        clear hrow hkk
                        go_wp2_with (at_builtin; go_must (refine wpList_append_lies _ (by rfl) _ _ 22 (by rfl) (w.heap.size + 3) 65 i0 _ 5 80 Tryz.underlying22 hi0 hz0' hz1' hz2' rfl (by omega) _ K.length (kidCells K us) (by rfl) (World.ownsRow.alloc HROW.out _) ⟨W3.heap.size, 0, none⟩ 1 1 [.string y.1, .string Y.kind, .string Y.data, .bool Y.exec, .slice ua Y.kids.length uc] (by rfl) (by rfl) (World.news_of_block (cs := #[.string y.1, .string Y.kind, .string Y.data, .bool Y.exec, .slice ua Y.kids.length uc]) (t := 65) (fr := (0, 0)) HN.out) (by simp [Value.oneCell']) (by omega) (by unfold maxLen; omega) (by omega) (by simp; omega) (W3.heap.size + 1) (by simp) ?_; intro g cap' w5 hown5 hgrow hat hlt5; have HG : Hid _ := hgrow; have HO5 : Hid _ := hown5; have HAT : Hid _ := hat; clear hgrow hown5 hat))
                        have HK5 : Hid (RowQ w5 B (w.heap.size + 3) (d + dX) (K ++ [(y.1, Y)]) (.slice (some ⟨g, 0, none⟩) (K.length + 1) cap')) := rowQ_more (x := (y.1, Y)) (by omega) (by omega) ((Below.refl _ _).alloc (Nat.le_refl _) _) (HYQ.out) us hus HROW.out HKK.out HO5.out HG.out HAT.out (Nat.le_succ _)
                        have HB5 : Hid (Below (w.heap.size + 3) W0 w5) := (HBW3.out.alloc (by omega) _).grown HG.out (by simp; omega) fun k hk => (World.ownsRow.lt HROW.out k hk).1
                        go_roundw
                        case rel =>
                          refine ⟨_, _, _, _, _, _, _, _, _, _, _, _, _, _, _, _, _, _, _, _, _, _, _, _, _, _, _, _, _, _, _, _, _, _, _, _, _, _, _, _, _, _, _, _, _, _, _, _, _, _, _, _, _, _, _, _, _, _, _, _, _, _, _, _, _, _, _, _, _, _, _, _, _, _, _, _, _, _, _, _, ?_, rfl⟩
                          exact ⟨j + 1, K ++ [(y.1, Y)], some ⟨g, 0, none⟩, cap', true, by omega, by go_num, rfl, by rw [List.length_append]; rfl, by rw [List.length_append, List.length_singleton]; omega, (fun z hz => by
                            rcases List.mem_append.1 hz with h | h
                            · exact HKS.out z h
                            · rw [List.mem_singleton.1 h]; exact HKN.out y (List.mem_of_getElem? HY.out)), HB5.out, by rw [List.length_append]; exact HK5.out, HIN5.out⟩
                        case measure => simp [intOf]; omega
                    · skip
                      simp only [List.getElem_toArray, List.getElem_cons_zero, List.getElem_cons_succ]
                      go_simp
                      go_wp2_with fail
                      refine hK.out _ _ (HSS.out _ HBA.out) (fun hHeld' => ?_)
                      clear hK K' hHeld
                      have hHeld := hHeld'
                      clear hHeld'
                      refine wpAnyH_ready (rs := [6]) (by kernel_rfl) (by simp) ?_
                      refine AllReadyH.cons rfl (fun K' hK => ?_) AllReadyH.nil
                      simp only [List.getElem_toArray, List.getElem_cons_zero, List.getElem_cons_succ]
                      go_simp
                      refine Calls.mono (HCALL.out _ (HBA.out)) ?_
                      rintro e wx ⟨hbx, ⟨kd, dd, ex, sa, sn, sc, hnone, rfl⟩ | ⟨Y, u, hsome, rfl, hq⟩⟩
                      · skip
                        have HBX : Hid (Below W1.heap.size W1 wx) := HBA.out.trans (hbx.mono (by simp))
                        have HZR : Hid (wx.heap[W1.heap.size]? = some (.cells #[.string { data := #[] }, .string { data := #[] }, .bool false, .slice none 0 0] 24 (0, 0))) := (hbx.block W1.heap.size (by simp)).trans (row_alloc' W1.drew #[.string { data := #[] }, .string { data := #[] }, .bool false, .slice none 0 0] 24)
                        have hzx : W1.heap.size < wx.heap.size := lt_of_row HZR.out
                        have HNS0 : Hid (setS X false (x :: []) t = none) := show _ = _ by unfold setS; rw [if_neg (by rw [HD.out]; decide), if_pos HT1.out, if_neg (by decide), HKO.out, Option.getD_some, hnone]
                        clear hbx hnone
                        go_wp2_with fail
                        refine hK.out _ _ (HSS.out _ HBX.out) (fun hHeld' => ?_)
                        clear hK K' hHeld
                        have hHeld := hHeld'
                        clear hHeld'
                        refine wpAnyH_take (i := 7) (v := .tuple #[.agg #[.string kd, .string dd, .bool ex, .slice sa sn sc], .bool false]) rfl (by kernel_rfl) (by kernel_rfl) (by kernel_rfl) (fun _ _ _ h => h) (Or.inl ⟨by rfl, ?_⟩) hHeld ?_
                        · intro w hSw; (try dsimp only at hSw); simp only [List.getElem_toArray, List.getElem_cons_zero, List.getElem_cons_succ]; go_simp
                        simp only [List.getElem_toArray, List.getElem_cons_zero, List.getElem_cons_succ, Act.put, List.setIfInBounds_toArray, List.set_cons_zero, List.set_cons_succ]
                        refine wpAnyH_take (i := 8) (v := .agg #[.string kd, .string dd, .bool ex, .slice sa sn sc]) rfl (by kernel_rfl) (by kernel_rfl) (by kernel_rfl) (fun _ _ _ h => h) (Or.inl ⟨by rfl, ?_⟩) hHeld ?_
                        · intro w hSw; (try dsimp only at hSw); simp only [List.getElem_toArray, List.getElem_cons_zero, List.getElem_cons_succ]; go_simp
                        simp only [List.getElem_toArray, List.getElem_cons_zero, List.getElem_cons_succ, Act.put, List.setIfInBounds_toArray, List.set_cons_zero, List.set_cons_succ]
                        refine wpAnyH_take (i := 9) (v := .bool false) rfl (by kernel_rfl) (by kernel_rfl) (by kernel_rfl) (fun _ _ _ h => h) (Or.inl ⟨by rfl, ?_⟩) hHeld ?_
                        · intro w hSw; (try dsimp only at hSw); simp only [List.getElem_toArray, List.getElem_cons_zero, List.getElem_cons_succ]; go_simp
                        simp only [List.getElem_toArray, List.getElem_cons_zero, List.getElem_cons_succ, Act.put, List.setIfInBounds_toArray, List.set_cons_zero, List.set_cons_succ]
                        refine wpAnyH_ready (rs := [11]) (by kernel_rfl) (by simp) ?_
                        refine AllReadyH.cons rfl (fun K' hK => ?_) AllReadyH.nil
                        simp only [List.getElem_toArray, List.getElem_cons_zero, List.getElem_cons_succ]
                        obtain ⟨⟨e0, e1, e2, e3⟩, j0, j1, j2, j3⟩ := row4b HZR.out
                        go_simp
                        go_wp2_with fail
                        clear e0 e1 e2 e3 j0 j1 j2 j3
                        refine hK.out _ _ (HSS.out _ ((((HBX.out.setCell (p := ⟨W1.heap.size, 0, none⟩) (Nat.le_refl _) (.string kd)).setCell (p := ⟨W1.heap.size, 1, none⟩) (Nat.le_refl _) (.string dd)).setCell (p := ⟨W1.heap.size, 2, none⟩) (Nat.le_refl _) (.bool ex)).setCell (p := ⟨W1.heap.size, 3, none⟩) (Nat.le_refl _) (.slice sa sn sc))) (fun hHeld' => ?_)
                        clear hK K' hHeld
                        have hHeld := hHeld'
                        clear hHeld'
                        refine wpAnyH_take (i := 12) (v := .bool false) rfl (by kernel_rfl) (by kernel_rfl) (by kernel_rfl) (fun _ _ _ h => h) (Or.inl ⟨by rfl, ?_⟩) hHeld ?_
                        · intro w hSw; (try dsimp only at hSw); simp only [List.getElem_toArray, List.getElem_cons_zero, List.getElem_cons_succ]; go_simp
                        simp only [List.getElem_toArray, List.getElem_cons_zero, List.getElem_cons_succ, Act.put, List.setIfInBounds_toArray, List.set_cons_zero, List.set_cons_succ]
                        refine wpAnyH_done (by kernel_rfl) ?_ _
                        obtain ⟨W3, hW3⟩ : ∃ W3, W3 = (((wx.setCell ⟨W1.heap.size, 0, none⟩ (.string kd)).setCell ⟨W1.heap.size, 1, none⟩ (.string dd)).setCell ⟨W1.heap.size, 2, none⟩ (.bool ex)).setCell ⟨W1.heap.size, 3, none⟩ (.slice sa sn sc) := ⟨_, rfl⟩
                        have HB3 : Hid (Below W1.heap.size W1 W3) := by rw [hW3]; exact ((((HBX.out.setCell (p := ⟨W1.heap.size, 0, none⟩) (Nat.le_refl _) (.string kd)).setCell (p := ⟨W1.heap.size, 1, none⟩) (Nat.le_refl _) (.string dd)).setCell (p := ⟨W1.heap.size, 2, none⟩) (Nat.le_refl _) (.bool ex)).setCell (p := ⟨W1.heap.size, 3, none⟩) (Nat.le_refl _) (.slice sa sn sc))
                        have hs3 : W3.heap.size = wx.heap.size := by rw [hW3]; simp [World.setCell]
                        have hz3 : W1.heap.size + 1 ≤ W3.heap.size := by omega
                        have hz3' : wx.heap.size ≤ W3.heap.size := by omega
                        have HWX : Hid (∀ k, k ≠ W1.heap.size → k < wx.heap.size → W3.heap[k]? = wx.heap[k]?) := fun k hk _ => by rw [hW3, Below.heap_setCell _ _ _ _ hk, Below.heap_setCell _ _ _ _ hk, Below.heap_setCell _ _ _ _ hk, Below.heap_setCell _ _ _ _ hk]
                        have hx3 : W3.heap[W1.heap.size]? = some (.cells #[.string kd, .string dd, .bool ex, .slice sa sn sc] 24 (0, 0)) := by rw [hW3]; exact set4b_row HZR.out _ _ _ _
                        clear hs3
                        have HBW3 : Hid (Below (w.heap.size + 3) W0 W3) := HBW1.out.trans (HB3.out.mono (by omega))
                        obtain ⟨⟨v0, v1, v2, v3⟩, _⟩ := row4b hx3
                        have m0 : W3.cell? ⟨wr.heap.size, 0, none⟩ = some (.string y.1) := by rw [HB3.out.cell (p := ⟨wr.heap.size, 0, none⟩) (by show wr.heap.size < _; omega)]; exact HM0.out
                        clear z0 z1 z2 z3 q0 q1 q2 q3 g0 g1 g2 g3 o0 o1 o2 o3 n1 m1 m2 m3 m4
                        obtain ⟨⟨z0, z1, z2, z3⟩, _⟩ := row4b ((HBW3.out.block w.heap.size (by omega)).trans HX0.out)
                        obtain ⟨⟨q0, q1, q2, q3⟩, g0, g1, g2, g3⟩ := row4b ((HBW3.out.block (w.heap.size + 1 + 1) (by omega)).trans HX2.out)
                        rw [← hW3]
                        clear hW3 hx3
                        go_wp2_with fail
                        refine bodyPost_ret (v := .tuple #[.agg #[.string t.kind, .string t.data, .bool t.exec, .slice (some ⟨kb, ko, none⟩) t.kids.length tc], .bool false]) (by simp [results, Tryz.results45, go_sem, q0, q1, q2, q3]) rfl ?_
                        have hS := ((((But1.refl (w.heap.size + 1 + 1) W3).set 0 (.string t.kind)).set 1 (.string t.data)).set 2 (.bool t.exec)).set 3 (.slice (some ⟨kb, ko, none⟩) t.kids.length tc)
                        exact ⟨hS.below (HBW.out.trans (HBW3.out.mono (by omega))) (by omega), .inl ⟨_, _, _, _, _, _, HNS0.out, rfl⟩⟩
                      · obtain ⟨ua, uc, rfl⟩ := hq.form
                        have HBX : Hid (Below W1.heap.size W1 wx) := HBA.out.trans (hbx.mono (by simp))
                        have HZR : Hid (wx.heap[W1.heap.size]? = some (.cells #[.string { data := #[] }, .string { data := #[] }, .bool false, .slice none 0 0] 24 (0, 0))) := (hbx.block W1.heap.size (by simp)).trans (row_alloc' W1.drew #[.string { data := #[] }, .string { data := #[] }, .bool false, .slice none 0 0] 24)
                        have hzx : W1.heap.size < wx.heap.size := lt_of_row HZR.out
                        have HLQ : Hid (LiesQ wx (fun b => b < B ∨ (W1.heap.size + 1 ≤ b ∧ b < wx.heap.size)) (d + dX) Y.kids (.slice ua Y.kids.length uc)) := hq.kept (fun _ _ => rfl) (fun k hk => by rcases hk with h | h; exact .inl h; exact .inr ⟨by have := h.1; simp at this; omega, h.2⟩)
                        have HIN5 : Hid (p < j + 1 ∧ ∃ H, K ++ [(y.1, Y)] = H ++ (t.kids.drop (p + 1)).take (j + 1 - (p + 1)) ∧ setS X false (x :: []) t = some { t with kids := H ++ t.kids.drop (p + 1) }) := by
                          have hjj := HJP.out
                          refine ⟨by omega, K ++ [(y.1, Y)], by rw [hjj, Nat.sub_self]; simp, ?_⟩
                          unfold setS
                          rw [if_neg (by rw [HD.out]; decide), if_pos HT1.out, if_neg (by decide), HKO.out, Option.getD_some, hsome]
                          simp only
                          rw [← hp, List.set_eq_take_append_cons_drop, if_pos (by omega), HKE.out, hjj, HYX.out]
                          simp
                        clear hbx hsome hq
                        go_wp2_with fail
                        refine hK.out _ _ (HSS.out _ HBX.out) (fun hHeld' => ?_)
                        clear hK K' hHeld
                        have hHeld := hHeld'
                        clear hHeld'
                        refine wpAnyH_take (i := 7) (v := .tuple #[.agg #[.string Y.kind, .string Y.data, .bool Y.exec, .slice ua Y.kids.length uc], .bool true]) rfl (by kernel_rfl) (by kernel_rfl) (by kernel_rfl) (fun _ _ _ h => h) (Or.inl ⟨by rfl, ?_⟩) hHeld ?_
                        · intro w hSw; (try dsimp only at hSw); simp only [List.getElem_toArray, List.getElem_cons_zero, List.getElem_cons_succ]; go_simp
                        simp only [List.getElem_toArray, List.getElem_cons_zero, List.getElem_cons_succ, Act.put, List.setIfInBounds_toArray, List.set_cons_zero, List.set_cons_succ]
                        refine wpAnyH_take (i := 8) (v := .agg #[.string Y.kind, .string Y.data, .bool Y.exec, .slice ua Y.kids.length uc]) rfl (by kernel_rfl) (by kernel_rfl) (by kernel_rfl) (fun _ _ _ h => h) (Or.inl ⟨by rfl, ?_⟩) hHeld ?_
                        · intro w hSw; (try dsimp only at hSw); simp only [List.getElem_toArray, List.getElem_cons_zero, List.getElem_cons_succ]; go_simp
                        simp only [List.getElem_toArray, List.getElem_cons_zero, List.getElem_cons_succ, Act.put, List.setIfInBounds_toArray, List.set_cons_zero, List.set_cons_succ]
                        refine wpAnyH_take (i := 9) (v := .bool true) rfl (by kernel_rfl) (by kernel_rfl) (by kernel_rfl) (fun _ _ _ h => h) (Or.inl ⟨by rfl, ?_⟩) hHeld ?_
                        · intro w hSw; (try dsimp only at hSw); simp only [List.getElem_toArray, List.getElem_cons_zero, List.getElem_cons_succ]; go_simp
                        simp only [List.getElem_toArray, List.getElem_cons_zero, List.getElem_cons_succ, Act.put, List.setIfInBounds_toArray, List.set_cons_zero, List.set_cons_succ]
                        refine wpAnyH_ready (rs := [11]) (by kernel_rfl) (by simp) ?_
                        refine AllReadyH.cons rfl (fun K' hK => ?_) AllReadyH.nil
                        simp only [List.getElem_toArray, List.getElem_cons_zero, List.getElem_cons_succ]
                        obtain ⟨⟨e0, e1, e2, e3⟩, j0, j1, j2, j3⟩ := row4b HZR.out
                        go_simp
                        go_wp2_with fail
                        clear e0 e1 e2 e3 j0 j1 j2 j3
                        refine hK.out _ _ (HSS.out _ ((((HBX.out.setCell (p := ⟨W1.heap.size, 0, none⟩) (Nat.le_refl _) (.string Y.kind)).setCell (p := ⟨W1.heap.size, 1, none⟩) (Nat.le_refl _) (.string Y.data)).setCell (p := ⟨W1.heap.size, 2, none⟩) (Nat.le_refl _) (.bool Y.exec)).setCell (p := ⟨W1.heap.size, 3, none⟩) (Nat.le_refl _) (.slice ua Y.kids.length uc))) (fun hHeld' => ?_)
                        clear hK K' hHeld
                        have hHeld := hHeld'
                        clear hHeld'
                        refine wpAnyH_take (i := 12) (v := .bool true) rfl (by kernel_rfl) (by kernel_rfl) (by kernel_rfl) (fun _ _ _ h => h) (Or.inl ⟨by rfl, ?_⟩) hHeld ?_
                        · intro w hSw; (try dsimp only at hSw); simp only [List.getElem_toArray, List.getElem_cons_zero, List.getElem_cons_succ]; go_simp
                        simp only [List.getElem_toArray, List.getElem_cons_zero, List.getElem_cons_succ, Act.put, List.setIfInBounds_toArray, List.set_cons_zero, List.set_cons_succ]
                        refine wpAnyH_done (by kernel_rfl) ?_ _
                        obtain ⟨W3, hW3⟩ : ∃ W3, W3 = (((wx.setCell ⟨W1.heap.size, 0, none⟩ (.string Y.kind)).setCell ⟨W1.heap.size, 1, none⟩ (.string Y.data)).setCell ⟨W1.heap.size, 2, none⟩ (.bool Y.exec)).setCell ⟨W1.heap.size, 3, none⟩ (.slice ua Y.kids.length uc) := ⟨_, rfl⟩
                        have HB3 : Hid (Below W1.heap.size W1 W3) := by rw [hW3]; exact ((((HBX.out.setCell (p := ⟨W1.heap.size, 0, none⟩) (Nat.le_refl _) (.string Y.kind)).setCell (p := ⟨W1.heap.size, 1, none⟩) (Nat.le_refl _) (.string Y.data)).setCell (p := ⟨W1.heap.size, 2, none⟩) (Nat.le_refl _) (.bool Y.exec)).setCell (p := ⟨W1.heap.size, 3, none⟩) (Nat.le_refl _) (.slice ua Y.kids.length uc))
                        have hs3 : W3.heap.size = wx.heap.size := by rw [hW3]; simp [World.setCell]
                        have hz3 : W1.heap.size + 1 ≤ W3.heap.size := by omega
                        have hz3' : wx.heap.size ≤ W3.heap.size := by omega
                        have HWX : Hid (∀ k, k ≠ W1.heap.size → k < wx.heap.size → W3.heap[k]? = wx.heap[k]?) := fun k hk _ => by rw [hW3, Below.heap_setCell _ _ _ _ hk, Below.heap_setCell _ _ _ _ hk, Below.heap_setCell _ _ _ _ hk, Below.heap_setCell _ _ _ _ hk]
                        have hx3 : W3.heap[W1.heap.size]? = some (.cells #[.string Y.kind, .string Y.data, .bool Y.exec, .slice ua Y.kids.length uc] 24 (0, 0)) := by rw [hW3]; exact set4b_row HZR.out _ _ _ _
                        clear hs3
                        have HBW3 : Hid (Below (w.heap.size + 3) W0 W3) := HBW1.out.trans (HB3.out.mono (by omega))
                        obtain ⟨⟨v0, v1, v2, v3⟩, _⟩ := row4b hx3
                        have m0 : W3.cell? ⟨wr.heap.size, 0, none⟩ = some (.string y.1) := by rw [HB3.out.cell (p := ⟨wr.heap.size, 0, none⟩) (by show wr.heap.size < _; omega)]; exact HM0.out
                        clear z0 z1 z2 z3 q0 q1 q2 q3 g0 g1 g2 g3 o0 o1 o2 o3 n1 m1 m2 m3 m4
                        obtain ⟨⟨z0, z1, z2, z3⟩, _⟩ := row4b ((HBW3.out.block w.heap.size (by omega)).trans HX0.out)
                        obtain ⟨⟨q0, q1, q2, q3⟩, g0, g1, g2, g3⟩ := row4b ((HBW3.out.block (w.heap.size + 1 + 1) (by omega)).trans HX2.out)
                        rw [← hW3]
                        clear hW3 hx3
                        have HKW3 : Hid (RowQ W3 B (w.heap.size + 3) (d + dX) K (.slice ka K.length kc)) := HK1.out.below (by omega) (by omega) HB3.out
                        have HYQ : Hid (LiesQ W3 (fun b => b < B ∨ (w.heap.size + 3 ≤ b ∧ b < W3.heap.size ∧ (Value.slice ka K.length kc).ownBlock ≠ some b)) (d + dX) Y.kids (.slice ua Y.kids.length uc)) := by
                          obtain ⟨us0, _, h0, _⟩ := HK1.out.row
                          have hsx := HBX.out.size
                          refine HLQ.out.kept (fun k hk => HWX.out k (by rcases hk with h | h <;> omega) (by rcases hk with h | h <;> omega)) (fun k hk => ?_)
                          rcases hk with h | h
                          · exact .inl h
                          · exact .inr ⟨by omega, by omega, fun e => by have := (h0.lt k e).2; omega⟩
                        have hKl : K.length ≤ j := by rw [HKE.out, List.length_take]; omega
                        obtain ⟨us, hus, hrow, hkk⟩ := HKW3.out.row
                        have HROW : Hid (W3.ownsRow (w.heap.size + 3) 65 5 (.slice ka K.length kc) K.length (kidCells K us)) := hrow
                        have HN : Hid ((W3.alloc (.cells #[.string y.1, .string Y.kind, .string Y.data, .bool Y.exec, .slice ua Y.kids.length uc] 65)).heap[W3.heap.size]? = some (.cells #[.string y.1, .string Y.kind, .string Y.data, .bool Y.exec, .slice ua Y.kids.length uc] 65 (0, 0))) := row_alloc' W3 #[.string y.1, .string Y.kind, .string Y.data, .bool Y.exec, .slice ua Y.kids.length uc] 65
                        have HKK : Hid _ := hkk
                        clear hrow hkk
                        go_wp2_with (at_builtin; go_must (refine wpList_append_lies _ (by rfl) _ _ 22 (by rfl) (w.heap.size + 3) 65 i0 _ 5 80 Tryz.underlying22 hi0 hz0' hz1' hz2' rfl (by omega) _ K.length (kidCells K us) (by rfl) (World.ownsRow.alloc HROW.out _) ⟨W3.heap.size, 0, none⟩ 1 1 [.string y.1, .string Y.kind, .string Y.data, .bool Y.exec, .slice ua Y.kids.length uc] (by rfl) (by rfl) (World.news_of_block (cs := #[.string y.1, .string Y.kind, .string Y.data, .bool Y.exec, .slice ua Y.kids.length uc]) (t := 65) (fr := (0, 0)) HN.out) (by simp [Value.oneCell']) (by omega) (by unfold maxLen; omega) (by omega) (by simp; omega) (W3.heap.size + 1) (by simp) ?_; intro g cap' w5 hown5 hgrow hat hlt5; have HG : Hid _ := hgrow; have HO5 : Hid _ := hown5; have HAT : Hid _ := hat; clear hgrow hown5 hat))
                        have HK5 : Hid (RowQ w5 B (w.heap.size + 3) (d + dX) (K ++ [(y.1, Y)]) (.slice (some ⟨g, 0, none⟩) (K.length + 1) cap')) := rowQ_more (x := (y.1, Y)) (by omega) (by omega) ((Below.refl _ _).alloc (Nat.le_refl _) _) (HYQ.out) us hus HROW.out HKK.out HO5.out HG.out HAT.out (Nat.le_succ _)
                        have HB5 : Hid (Below (w.heap.size + 3) W0 w5) := (HBW3.out.alloc (by omega) _).grown HG.out (by simp; omega) fun k hk => (World.ownsRow.lt HROW.out k hk).1
                        go_roundw
                        case rel =>
                          refine ⟨_, _, _, _, _, _, _, _, _, _, _, _, _, _, _, _, _, _, _, _, _, _, _, _, _, _, _, _, _, _, _, _, _, _, _, _, _, _, _, _, _, _, _, _, _, _, _, _, _, _, _, _, _, _, _, _, _, _, _, _, _, _, _, _, _, _, _, _, _, _, _, _, _, _, _, _, _, _, _, _, ?_, rfl⟩
                          exact ⟨j + 1, K ++ [(y.1, Y)], some ⟨g, 0, none⟩, cap', true, by omega, by go_num, rfl, by rw [List.length_append]; rfl, by rw [List.length_append, List.length_singleton]; omega, (fun z hz => by
                            rcases List.mem_append.1 hz with h | h
                            · exact HKS.out z h
                            · rw [List.mem_singleton.1 h]; exact HKN.out y (List.mem_of_getElem? HY.out)), HB5.out, by rw [List.length_append]; exact HK5.out, HIN5.out⟩
                        case measure => simp [intOf]; omega
                  · skip
                    have hmem : y ∈ t.kids := List.mem_of_getElem? HY.out
                    have HBWW : Hid (Below w.heap.size w W1) := HBW.out.trans (HBW1.out.mono (by omega))
                    have HKO : Hid (kidOf t x = some y.2) := show _ = _ by unfold kidOf; rw [if_pos HT1.out, ← hp, ← HJP.out, HY.out]; rfl
                    have HCALL : Hid (∀ wx, Below W1.heap.size W1 wx → Calls Tryz.prog 45 #[.agg #[.string y.2.kind, .string y.2.data, .bool y.2.exec, .slice ya y.2.kids.length yc], .slice (some ⟨nb, no + 1, none⟩) 0 (vc - 1), .agg #[.string X.kind, .string X.data, .bool X.exec, .slice xa X.kids.length xc], .bool false] wx (SetPost B (d + dX) y.2 X false [] wx)) := fun wx hx =>
                      HIH.out d y.2 _ _ wx (by have := hx.size; omega) (HLY1.out.below hx (by omega)) (HLX.out.below (HBWW.out.trans (hx.mono (by omega))) hB) (HR.out.2 y hmem) (HQ.out y hmem) (HVT.out wx (HBWW.out.trans (hx.mono (by omega)))) (by first | omega | (simp only [List.length_cons, List.length_nil] at hll ⊢; omega)) (fun z hz => HNS.out z (List.mem_cons_of_mem _ hz))
                    have HSS : Hid (∀ wx, Below W1.heap.size W1 wx → ((fun w' => (w'.cell? ⟨wr.heap.size, 1, none⟩ = some (.string y.2.kind) ∧ w'.cell? ⟨wr.heap.size, 2, none⟩ = some (.string y.2.data) ∧ w'.cell? ⟨wr.heap.size, 3, none⟩ = some (.bool y.2.exec) ∧ w'.cell? ⟨wr.heap.size, 4, none⟩ = some (.slice ya y.2.kids.length yc)) ∧ (w'.cell? ⟨w.heap.size + 1, 0, none⟩ = some (.string X.kind) ∧ w'.cell? ⟨w.heap.size + 1, 1, none⟩ = some (.string X.data) ∧ w'.cell? ⟨w.heap.size + 1, 2, none⟩ = some (.bool X.exec) ∧ w'.cell? ⟨w.heap.size + 1, 3, none⟩ = some (.slice xa X.kids.length xc))) wx : Prop)) := fun wx hx => by
                      have e1 : ∀ o, wx.cell? ⟨wr.heap.size, o, none⟩ = W1.cell? ⟨wr.heap.size, o, none⟩ := fun o => hx.cell (p := ⟨wr.heap.size, o, none⟩) (by show wr.heap.size < _; omega)
                      have e2 : ∀ o, wx.cell? ⟨w.heap.size + 1, o, none⟩ = W1.cell? ⟨w.heap.size + 1, o, none⟩ := fun o => hx.cell (p := ⟨w.heap.size + 1, o, none⟩) (by show w.heap.size + 1 < _; omega)
                      exact ⟨⟨(e1 1).trans m1, (e1 2).trans m2, (e1 3).trans m3, (e1 4).trans m4⟩, (e2 0).trans o0, (e2 1).trans o1, (e2 2).trans o2, (e2 3).trans o3⟩
                    have HM0 : Hid (W1.cell? ⟨wr.heap.size, 0, none⟩ = some (.string y.1)) := m0
                    clear hmem
                    go_upto_region 15 with fail
                    refine wp_region_held_drew (S := fun w' => (w'.cell? ⟨wr.heap.size, 1, none⟩ = some (.string y.2.kind) ∧ w'.cell? ⟨wr.heap.size, 2, none⟩ = some (.string y.2.data) ∧ w'.cell? ⟨wr.heap.size, 3, none⟩ = some (.bool y.2.exec) ∧ w'.cell? ⟨wr.heap.size, 4, none⟩ = some (.slice ya y.2.kids.length yc)) ∧ (w'.cell? ⟨w.heap.size + 1, 0, none⟩ = some (.string X.kind) ∧ w'.cell? ⟨w.heap.size + 1, 1, none⟩ = some (.string X.data) ∧ w'.cell? ⟨w.heap.size + 1, 2, none⟩ = some (.bool X.exec) ∧ w'.cell? ⟨w.heap.size + 1, 3, none⟩ = some (.slice xa X.kids.length xc))) (by kernel_rfl) (HSS.out _ (Below.refl _ _).drew) (fun hHeld => ?_)
                    refine wpAnyH_take (i := 0) (v := .pointer (some ⟨wr.heap.size, 1, none⟩)) rfl (by kernel_rfl) (by kernel_rfl) (by kernel_rfl) (fun _ _ _ h => h) (Or.inl ⟨by rfl, ?_⟩) hHeld ?_
                    · intro w hSw; (try dsimp only at hSw); simp only [List.getElem_toArray, List.getElem_cons_zero]; go_simp
                    simp only [List.getElem_toArray, List.getElem_cons_zero, Act.put, List.setIfInBounds_toArray, List.set_cons_zero, List.set_cons_succ]
                    refine wpAnyH_take (i := 1) (v := .agg #[.string y.2.kind, .string y.2.data, .bool y.2.exec, .slice ya y.2.kids.length yc]) rfl (by kernel_rfl) (by kernel_rfl) (by kernel_rfl) (fun _ _ _ h => h) (Or.inl ⟨by rfl, ?_⟩) hHeld ?_
                    · intro w hSw; (try dsimp only at hSw); simp only [List.getElem_toArray, List.getElem_cons_zero, List.getElem_cons_succ]; obtain ⟨⟨s1, s2, s3, s4⟩, s5, s6, s7, s8⟩ := hSw; go_simp
                    simp only [List.getElem_toArray, List.getElem_cons_zero, List.getElem_cons_succ, Act.put, List.setIfInBounds_toArray, List.set_cons_zero, List.set_cons_succ]
                    refine wpAnyH_take (i := 2) (v := .slice (some ⟨nb, no, none⟩) (([] : List ByteArray).length + 1) vc) rfl (by kernel_rfl) (by kernel_rfl) (by kernel_rfl) (fun _ _ _ h => h) (Or.inl ⟨by rfl, ?_⟩) hHeld ?_
                    · intro w hSw; (try dsimp only at hSw); simp only [List.getElem_toArray, List.getElem_cons_zero, List.getElem_cons_succ]; go_simp
                    simp only [List.getElem_toArray, List.getElem_cons_zero, List.getElem_cons_succ, Act.put, List.setIfInBounds_toArray, List.set_cons_zero, List.set_cons_succ]
                    refine wpAnyH_take (i := 3) (v := .slice (some ⟨nb, no + 1, none⟩) 0 (vc - 1)) rfl (by kernel_rfl) (by kernel_rfl) (by kernel_rfl) (fun _ _ _ h => h) (Or.inl ⟨by rfl, ?_⟩) hHeld ?_
                    · intro w hSw; (try dsimp only at hSw); simp only [List.getElem_toArray, List.getElem_cons_zero, List.getElem_cons_succ]; go_simp
                    simp only [List.getElem_toArray, List.getElem_cons_zero, List.getElem_cons_succ, Act.put, List.setIfInBounds_toArray, List.set_cons_zero, List.set_cons_succ]
                    refine wpAnyH_take (i := 4) (v := .agg #[.string X.kind, .string X.data, .bool X.exec, .slice xa X.kids.length xc]) rfl (by kernel_rfl) (by kernel_rfl) (by kernel_rfl) (fun _ _ _ h => h) (Or.inl ⟨by rfl, ?_⟩) hHeld ?_
                    · intro w hSw; (try dsimp only at hSw); simp only [List.getElem_toArray, List.getElem_cons_zero, List.getElem_cons_succ]; obtain ⟨⟨s1, s2, s3, s4⟩, s5, s6, s7, s8⟩ := hSw; go_simp
                    simp only [List.getElem_toArray, List.getElem_cons_zero, List.getElem_cons_succ, Act.put, List.setIfInBounds_toArray, List.set_cons_zero, List.set_cons_succ]
                    refine wpAnyH_take (i := 5) (v := .bool false) rfl (by kernel_rfl) (by kernel_rfl) (by kernel_rfl) (fun _ _ _ h => h) (Or.inl ⟨by rfl, ?_⟩) hHeld ?_
                    · intro w hSw; (try dsimp only at hSw); simp only [List.getElem_toArray, List.getElem_cons_zero, List.getElem_cons_succ]; go_simp
                    simp only [List.getElem_toArray, List.getElem_cons_zero, List.getElem_cons_succ, Act.put, List.setIfInBounds_toArray, List.set_cons_zero, List.set_cons_succ]
                    have HBA : Hid (Below W1.heap.size W1 (W1.drew.alloc (.cells #[.string { data := #[] }, .string { data := #[] }, .bool false, .slice none 0 0] 24))) := ((Below.refl _ _).drew).alloc (Nat.le_refl _) _
                    refine wpAnyH_ready (rs := [6, 10]) (by kernel_rfl) (by simp) ?_
                    refine AllReadyH.cons rfl (fun K' hK => ?_) (AllReadyH.cons rfl (fun K' hK => ?_) AllReadyH.nil)
                    · skip
                      simp only [List.getElem_toArray, List.getElem_cons_zero, List.getElem_cons_succ]
                      go_simp
                      refine Calls.mono (HCALL.out _ ((Below.refl _ _).drew)) ?_
                      rintro e wx ⟨hbx, ⟨kd, dd, ex, sa, sn, sc, hnone, rfl⟩ | ⟨Y, u, hsome, rfl, hq⟩⟩
                      · skip
                        have HBX : Hid (Below W1.heap.size W1 wx) := (Below.refl _ _).drew.trans hbx
                        have HNS0 : Hid (setS X false (x :: []) t = none) := show _ = _ by unfold setS; rw [if_neg (by rw [HD.out]; decide), if_pos HT1.out, if_neg (by decide), HKO.out, Option.getD_some, hnone]
                        clear hbx hnone
                        go_wp2_with fail
                        refine hK.out _ _ (HSS.out _ HBX.out) (fun hHeld' => ?_)
                        clear hK K' hHeld
                        have hHeld := hHeld'
                        clear hHeld'
                        refine wpAnyH_take (i := 7) (v := .tuple #[.agg #[.string kd, .string dd, .bool ex, .slice sa sn sc], .bool false]) rfl (by kernel_rfl) (by kernel_rfl) (by kernel_rfl) (fun _ _ _ h => h) (Or.inl ⟨by rfl, ?_⟩) hHeld ?_
                        · intro w hSw; (try dsimp only at hSw); simp only [List.getElem_toArray, List.getElem_cons_zero, List.getElem_cons_succ]; go_simp
                        simp only [List.getElem_toArray, List.getElem_cons_zero, List.getElem_cons_succ, Act.put, List.setIfInBounds_toArray, List.set_cons_zero, List.set_cons_succ]
                        refine wpAnyH_take (i := 8) (v := .agg #[.string kd, .string dd, .bool ex, .slice sa sn sc]) rfl (by kernel_rfl) (by kernel_rfl) (by kernel_rfl) (fun _ _ _ h => h) (Or.inl ⟨by rfl, ?_⟩) hHeld ?_
                        · intro w hSw; (try dsimp only at hSw); simp only [List.getElem_toArray, List.getElem_cons_zero, List.getElem_cons_succ]; go_simp
                        simp only [List.getElem_toArray, List.getElem_cons_zero, List.getElem_cons_succ, Act.put, List.setIfInBounds_toArray, List.set_cons_zero, List.set_cons_succ]
                        refine wpAnyH_take (i := 9) (v := .bool false) rfl (by kernel_rfl) (by kernel_rfl) (by kernel_rfl) (fun _ _ _ h => h) (Or.inl ⟨by rfl, ?_⟩) hHeld ?_
                        · intro w hSw; (try dsimp only at hSw); simp only [List.getElem_toArray, List.getElem_cons_zero, List.getElem_cons_succ]; go_simp
                        simp only [List.getElem_toArray, List.getElem_cons_zero, List.getElem_cons_succ, Act.put, List.setIfInBounds_toArray, List.set_cons_zero, List.set_cons_succ]
                        refine wpAnyH_ready (rs := [10]) (by kernel_rfl) (by simp) ?_
                        refine AllReadyH.cons rfl (fun K' hK => ?_) AllReadyH.nil
                        simp only [List.getElem_toArray, List.getElem_cons_zero, List.getElem_cons_succ]
                        go_simp
                        go_wp2_with fail
                        refine hK.out _ _ (HSS.out _ (HBX.out.alloc HBX.out.size _)) (fun hHeld' => ?_)
                        clear hK K' hHeld
                        have hHeld := hHeld'
                        clear hHeld'
                        refine wpAnyH_ready (rs := [11]) (by kernel_rfl) (by simp) ?_
                        refine AllReadyH.cons rfl (fun K' hK => ?_) AllReadyH.nil
                        simp only [List.getElem_toArray, List.getElem_cons_zero, List.getElem_cons_succ]
                        go_simp
                        go_wp2_with fail
                        refine hK.out _ _ (HSS.out _ (HBX.out.alloc HBX.out.size _)) (fun hHeld' => ?_)
                        clear hK K' hHeld
                        have hHeld := hHeld'
                        clear hHeld'
                        refine wpAnyH_take (i := 12) (v := .bool false) rfl (by kernel_rfl) (by kernel_rfl) (by kernel_rfl) (fun _ _ _ h => h) (Or.inl ⟨by rfl, ?_⟩) hHeld ?_
                        · intro w hSw; (try dsimp only at hSw); simp only [List.getElem_toArray, List.getElem_cons_zero, List.getElem_cons_succ]; go_simp
                        simp only [List.getElem_toArray, List.getElem_cons_zero, List.getElem_cons_succ, Act.put, List.setIfInBounds_toArray, List.set_cons_zero, List.set_cons_succ]
                        refine wpAnyH_done (by kernel_rfl) ?_ _
                        obtain ⟨W3, hW3⟩ : ∃ W3, W3 = wx.alloc (.cells #[.string kd, .string dd, .bool ex, .slice sa sn sc] 24) := ⟨_, rfl⟩
                        have HB3 : Hid (Below W1.heap.size W1 W3) := by rw [hW3]; exact HBX.out.alloc HBX.out.size _
                        have hz3 : W1.heap.size + 1 ≤ W3.heap.size := by have := HBX.out.size; rw [hW3]; simp; omega
                        have hz3' : wx.heap.size ≤ W3.heap.size := by rw [hW3]; simp
                        have HWX : Hid (∀ k, k ≠ wx.heap.size → k < wx.heap.size → W3.heap[k]? = wx.heap[k]?) := fun k _ hk => by rw [hW3]; exact Below.heap_alloc _ _ _ hk
                        have hx3 : W3.heap[wx.heap.size]? = some (.cells #[.string kd, .string dd, .bool ex, .slice sa sn sc] 24 (0, 0)) := by rw [hW3]; exact row_alloc' _ _ _
                        have HBW3 : Hid (Below (w.heap.size + 3) W0 W3) := HBW1.out.trans (HB3.out.mono (by omega))
                        obtain ⟨⟨v0, v1, v2, v3⟩, _⟩ := row4b hx3
                        have m0 : W3.cell? ⟨wr.heap.size, 0, none⟩ = some (.string y.1) := by rw [HB3.out.cell (p := ⟨wr.heap.size, 0, none⟩) (by show wr.heap.size < _; omega)]; exact HM0.out
                        clear z0 z1 z2 z3 q0 q1 q2 q3 g0 g1 g2 g3 o0 o1 o2 o3 n1 m1 m2 m3 m4
                        obtain ⟨⟨z0, z1, z2, z3⟩, _⟩ := row4b ((HBW3.out.block w.heap.size (by omega)).trans HX0.out)
                        obtain ⟨⟨q0, q1, q2, q3⟩, g0, g1, g2, g3⟩ := row4b ((HBW3.out.block (w.heap.size + 1 + 1) (by omega)).trans HX2.out)
                        rw [← hW3]
                        clear hW3 hx3
                        go_wp2_with fail
                        refine bodyPost_ret (v := .tuple #[.agg #[.string t.kind, .string t.data, .bool t.exec, .slice (some ⟨kb, ko, none⟩) t.kids.length tc], .bool false]) (by simp [results, Tryz.results45, go_sem, q0, q1, q2, q3]) rfl ?_
                        have hS := ((((But1.refl (w.heap.size + 1 + 1) W3).set 0 (.string t.kind)).set 1 (.string t.data)).set 2 (.bool t.exec)).set 3 (.slice (some ⟨kb, ko, none⟩) t.kids.length tc)
                        exact ⟨hS.below (HBW.out.trans (HBW3.out.mono (by omega))) (by omega), .inl ⟨_, _, _, _, _, _, HNS0.out, rfl⟩⟩
                      · obtain ⟨ua, uc, rfl⟩ := hq.form
                        have HBX : Hid (Below W1.heap.size W1 wx) := (Below.refl _ _).drew.trans hbx
                        have HLQ : Hid (LiesQ wx (fun b => b < B ∨ (W1.heap.size ≤ b ∧ b < wx.heap.size)) (d + dX) Y.kids (.slice ua Y.kids.length uc)) := hq
                        have HIN5 : Hid (p < j + 1 ∧ ∃ H, K ++ [(y.1, Y)] = H ++ (t.kids.drop (p + 1)).take (j + 1 - (p + 1)) ∧ setS X false (x :: []) t = some { t with kids := H ++ t.kids.drop (p + 1) }) := by
                          have hjj := HJP.out
                          refine ⟨by omega, K ++ [(y.1, Y)], by rw [hjj, Nat.sub_self]; simp, ?_⟩
                          unfold setS
                          rw [if_neg (by rw [HD.out]; decide), if_pos HT1.out, if_neg (by decide), HKO.out, Option.getD_some, hsome]
                          simp only
                          rw [← hp, List.set_eq_take_append_cons_drop, if_pos (by omega), HKE.out, hjj, HYX.out]
                          simp
                        clear hbx hsome hq
                        go_wp2_with fail
                        refine hK.out _ _ (HSS.out _ HBX.out) (fun hHeld' => ?_)
                        clear hK K' hHeld
                        have hHeld := hHeld'
                        clear hHeld'
                        refine wpAnyH_take (i := 7) (v := .tuple #[.agg #[.string Y.kind, .string Y.data, .bool Y.exec, .slice ua Y.kids.length uc], .bool true]) rfl (by kernel_rfl) (by kernel_rfl) (by kernel_rfl) (fun _ _ _ h => h) (Or.inl ⟨by rfl, ?_⟩) hHeld ?_
                        · intro w hSw; (try dsimp only at hSw); simp only [List.getElem_toArray, List.getElem_cons_zero, List.getElem_cons_succ]; go_simp
                        simp only [List.getElem_toArray, List.getElem_cons_zero, List.getElem_cons_succ, Act.put, List.setIfInBounds_toArray, List.set_cons_zero, List.set_cons_succ]
                        refine wpAnyH_take (i := 8) (v := .agg #[.string Y.kind, .string Y.data, .bool Y.exec, .slice ua Y.kids.length uc]) rfl (by kernel_rfl) (by kernel_rfl) (by kernel_rfl) (fun _ _ _ h => h) (Or.inl ⟨by rfl, ?_⟩) hHeld ?_
                        · intro w hSw; (try dsimp only at hSw); simp only [List.getElem_toArray, List.getElem_cons_zero, List.getElem_cons_succ]; go_simp
                        simp only [List.getElem_toArray, List.getElem_cons_zero, List.getElem_cons_succ, Act.put, List.setIfInBounds_toArray, List.set_cons_zero, List.set_cons_succ]
                        refine wpAnyH_take (i := 9) (v := .bool true) rfl (by kernel_rfl) (by kernel_rfl) (by kernel_rfl) (fun _ _ _ h => h) (Or.inl ⟨by rfl, ?_⟩) hHeld ?_
                        · intro w hSw; (try dsimp only at hSw); simp only [List.getElem_toArray, List.getElem_cons_zero, List.getElem_cons_succ]; go_simp
                        simp only [List.getElem_toArray, List.getElem_cons_zero, List.getElem_cons_succ, Act.put, List.setIfInBounds_toArray, List.set_cons_zero, List.set_cons_succ]
                        refine wpAnyH_ready (rs := [10]) (by kernel_rfl) (by simp) ?_
                        refine AllReadyH.cons rfl (fun K' hK => ?_) AllReadyH.nil
                        simp only [List.getElem_toArray, List.getElem_cons_zero, List.getElem_cons_succ]
                        go_simp
                        go_wp2_with fail
                        refine hK.out _ _ (HSS.out _ (HBX.out.alloc HBX.out.size _)) (fun hHeld' => ?_)
                        clear hK K' hHeld
                        have hHeld := hHeld'
                        clear hHeld'
                        refine wpAnyH_ready (rs := [11]) (by kernel_rfl) (by simp) ?_
                        refine AllReadyH.cons rfl (fun K' hK => ?_) AllReadyH.nil
                        simp only [List.getElem_toArray, List.getElem_cons_zero, List.getElem_cons_succ]
                        go_simp
                        go_wp2_with fail
                        refine hK.out _ _ (HSS.out _ (HBX.out.alloc HBX.out.size _)) (fun hHeld' => ?_)
                        clear hK K' hHeld
                        have hHeld := hHeld'
                        clear hHeld'
                        refine wpAnyH_take (i := 12) (v := .bool true) rfl (by kernel_rfl) (by kernel_rfl) (by kernel_rfl) (fun _ _ _ h => h) (Or.inl ⟨by rfl, ?_⟩) hHeld ?_
                        · intro w hSw; (try dsimp only at hSw); simp only [List.getElem_toArray, List.getElem_cons_zero, List.getElem_cons_succ]; go_simp
                        simp only [List.getElem_toArray, List.getElem_cons_zero, List.getElem_cons_succ, Act.put, List.setIfInBounds_toArray, List.set_cons_zero, List.set_cons_succ]
                        refine wpAnyH_done (by kernel_rfl) ?_ _
                        obtain ⟨W3, hW3⟩ : ∃ W3, W3 = wx.alloc (.cells #[.string Y.kind, .string Y.data, .bool Y.exec, .slice ua Y.kids.length uc] 24) := ⟨_, rfl⟩
                        have HB3 : Hid (Below W1.heap.size W1 W3) := by rw [hW3]; exact HBX.out.alloc HBX.out.size _
                        have hz3 : W1.heap.size + 1 ≤ W3.heap.size := by have := HBX.out.size; rw [hW3]; simp; omega
                        have hz3' : wx.heap.size ≤ W3.heap.size := by rw [hW3]; simp
                        have HWX : Hid (∀ k, k ≠ wx.heap.size → k < wx.heap.size → W3.heap[k]? = wx.heap[k]?) := fun k _ hk => by rw [hW3]; exact Below.heap_alloc _ _ _ hk
                        have hx3 : W3.heap[wx.heap.size]? = some (.cells #[.string Y.kind, .string Y.data, .bool Y.exec, .slice ua Y.kids.length uc] 24 (0, 0)) := by rw [hW3]; exact row_alloc' _ _ _
                        have HBW3 : Hid (Below (w.heap.size + 3) W0 W3) := HBW1.out.trans (HB3.out.mono (by omega))
                        obtain ⟨⟨v0, v1, v2, v3⟩, _⟩ := row4b hx3
                        have m0 : W3.cell? ⟨wr.heap.size, 0, none⟩ = some (.string y.1) := by rw [HB3.out.cell (p := ⟨wr.heap.size, 0, none⟩) (by show wr.heap.size < _; omega)]; exact HM0.out
                        clear z0 z1 z2 z3 q0 q1 q2 q3 g0 g1 g2 g3 o0 o1 o2 o3 n1 m1 m2 m3 m4
                        obtain ⟨⟨z0, z1, z2, z3⟩, _⟩ := row4b ((HBW3.out.block w.heap.size (by omega)).trans HX0.out)
                        obtain ⟨⟨q0, q1, q2, q3⟩, g0, g1, g2, g3⟩ := row4b ((HBW3.out.block (w.heap.size + 1 + 1) (by omega)).trans HX2.out)
                        rw [← hW3]
                        clear hW3 hx3
                        have HKW3 : Hid (RowQ W3 B (w.heap.size + 3) (d + dX) K (.slice ka K.length kc)) := HK1.out.below (by omega) (by omega) HB3.out
                        have HYQ : Hid (LiesQ W3 (fun b => b < B ∨ (w.heap.size + 3 ≤ b ∧ b < W3.heap.size ∧ (Value.slice ka K.length kc).ownBlock ≠ some b)) (d + dX) Y.kids (.slice ua Y.kids.length uc)) := by
                          obtain ⟨us0, _, h0, _⟩ := HK1.out.row
                          have hsx := HBX.out.size
                          refine HLQ.out.kept (fun k hk => HWX.out k (by rcases hk with h | h <;> omega) (by rcases hk with h | h <;> omega)) (fun k hk => ?_)
                          rcases hk with h | h
                          · exact .inl h
                          · exact .inr ⟨by omega, by omega, fun e => by have := (h0.lt k e).2; omega⟩
                        have hKl : K.length ≤ j := by rw [HKE.out, List.length_take]; omega
                        obtain ⟨us, hus, hrow, hkk⟩ := HKW3.out.row
                        have HROW : Hid (W3.ownsRow (w.heap.size + 3) 65 5 (.slice ka K.length kc) K.length (kidCells K us)) := hrow
                        have HN : Hid ((W3.alloc (.cells #[.string y.1, .string Y.kind, .string Y.data, .bool Y.exec, .slice ua Y.kids.length uc] 65)).heap[W3.heap.size]? = some (.cells #[.string y.1, .string Y.kind, .string Y.data, .bool Y.exec, .slice ua Y.kids.length uc] 65 (0, 0))) := row_alloc' W3 #[.string y.1, .string Y.kind, .string Y.data, .bool Y.exec, .slice ua Y.kids.length uc] 65
                        have HKK : Hid _ := hkk
                        clear hrow hkk
                        go_wp2_with (at_builtin; go_must (refine wpList_append_lies _ (by rfl) _ _ 22 (by rfl) (w.heap.size + 3) 65 i0 _ 5 80 Tryz.underlying22 hi0 hz0' hz1' hz2' rfl (by omega) _ K.length (kidCells K us) (by rfl) (World.ownsRow.alloc HROW.out _) ⟨W3.heap.size, 0, none⟩ 1 1 [.string y.1, .string Y.kind, .string Y.data, .bool Y.exec, .slice ua Y.kids.length uc] (by rfl) (by rfl) (World.news_of_block (cs := #[.string y.1, .string Y.kind, .string Y.data, .bool Y.exec, .slice ua Y.kids.length uc]) (t := 65) (fr := (0, 0)) HN.out) (by simp [Value.oneCell']) (by omega) (by unfold maxLen; omega) (by omega) (by simp; omega) (W3.heap.size + 1) (by simp) ?_; intro g cap' w5 hown5 hgrow hat hlt5; have HG : Hid _ := hgrow; have HO5 : Hid _ := hown5; have HAT : Hid _ := hat; clear hgrow hown5 hat))
                        have HK5 : Hid (RowQ w5 B (w.heap.size + 3) (d + dX) (K ++ [(y.1, Y)]) (.slice (some ⟨g, 0, none⟩) (K.length + 1) cap')) := rowQ_more (x := (y.1, Y)) (by omega) (by omega) ((Below.refl _ _).alloc (Nat.le_refl _) _) (HYQ.out) us hus HROW.out HKK.out HO5.out HG.out HAT.out (Nat.le_succ _)
                        have HB5 : Hid (Below (w.heap.size + 3) W0 w5) := (HBW3.out.alloc (by omega) _).grown HG.out (by simp; omega) fun k hk => (World.ownsRow.lt HROW.out k hk).1
                        go_roundw
                        case rel =>
                          refine ⟨_, _, _, _, _, _, _, _, _, _, _, _, _, _, _, _, _, _, _, _, _, _, _, _, _, _, _, _, _, _, _, _, _, _, _, _, _, _, _, _, _, _, _, _, _, _, _, _, _, _, _, _, _, _, _, _, _, _, _, _, _, _, _, _, _, _, _, _, _, _, _, _, _, _, _, _, _, _, _, _, ?_, rfl⟩
                          exact ⟨j + 1, K ++ [(y.1, Y)], some ⟨g, 0, none⟩, cap', true, by omega, by go_num, rfl, by rw [List.length_append]; rfl, by rw [List.length_append, List.length_singleton]; omega, (fun z hz => by
                            rcases List.mem_append.1 hz with h | h
                            · exact HKS.out z h
                            · rw [List.mem_singleton.1 h]; exact HKN.out y (List.mem_of_getElem? HY.out)), HB5.out, by rw [List.length_append]; exact HK5.out, HIN5.out⟩
                        case measure => simp [intOf]; omega
                    · skip
                      simp only [List.getElem_toArray, List.getElem_cons_zero, List.getElem_cons_succ]
                      go_simp
                      go_wp2_with fail
                      refine hK.out _ _ (HSS.out _ HBA.out) (fun hHeld' => ?_)
                      clear hK K' hHeld
                      have hHeld := hHeld'
                      clear hHeld'
                      refine wpAnyH_ready (rs := [6]) (by kernel_rfl) (by simp) ?_
                      refine AllReadyH.cons rfl (fun K' hK => ?_) AllReadyH.nil
                      simp only [List.getElem_toArray, List.getElem_cons_zero, List.getElem_cons_succ]
                      go_simp
                      refine Calls.mono (HCALL.out _ (HBA.out)) ?_
                      rintro e wx ⟨hbx, ⟨kd, dd, ex, sa, sn, sc, hnone, rfl⟩ | ⟨Y, u, hsome, rfl, hq⟩⟩
                      · skip
                        have HBX : Hid (Below W1.heap.size W1 wx) := HBA.out.trans (hbx.mono (by simp))
                        have HZR : Hid (wx.heap[W1.heap.size]? = some (.cells #[.string { data := #[] }, .string { data := #[] }, .bool false, .slice none 0 0] 24 (0, 0))) := (hbx.block W1.heap.size (by simp)).trans (row_alloc' W1.drew #[.string { data := #[] }, .string { data := #[] }, .bool false, .slice none 0 0] 24)
                        have hzx : W1.heap.size < wx.heap.size := lt_of_row HZR.out
                        have HNS0 : Hid (setS X false (x :: []) t = none) := show _ = _ by unfold setS; rw [if_neg (by rw [HD.out]; decide), if_pos HT1.out, if_neg (by decide), HKO.out, Option.getD_some, hnone]
                        clear hbx hnone
                        go_wp2_with fail
                        refine hK.out _ _ (HSS.out _ HBX.out) (fun hHeld' => ?_)
                        clear hK K' hHeld
                        have hHeld := hHeld'
                        clear hHeld'
                        refine wpAnyH_take (i := 7) (v := .tuple #[.agg #[.string kd, .string dd, .bool ex, .slice sa sn sc], .bool false]) rfl (by kernel_rfl) (by kernel_rfl) (by kernel_rfl) (fun _ _ _ h => h) (Or.inl ⟨by rfl, ?_⟩) hHeld ?_
                        · intro w hSw; (try dsimp only at hSw); simp only [List.getElem_toArray, List.getElem_cons_zero, List.getElem_cons_succ]; go_simp
                        simp only [List.getElem_toArray, List.getElem_cons_zero, List.getElem_cons_succ, Act.put, List.setIfInBounds_toArray, List.set_cons_zero, List.set_cons_succ]
                        refine wpAnyH_take (i := 8) (v := .agg #[.string kd, .string dd, .bool ex, .slice sa sn sc]) rfl (by kernel_rfl) (by kernel_rfl) (by kernel_rfl) (fun _ _ _ h => h) (Or.inl ⟨by rfl, ?_⟩) hHeld ?_
                        · intro w hSw; (try dsimp only at hSw); simp only [List.getElem_toArray, List.getElem_cons_zero, List.getElem_cons_succ]; go_simp
                        simp only [List.getElem_toArray, List.getElem_cons_zero, List.getElem_cons_succ, Act.put, List.setIfInBounds_toArray, List.set_cons_zero, List.set_cons_succ]
                        refine wpAnyH_take (i := 9) (v := .bool false) rfl (by kernel_rfl) (by kernel_rfl) (by kernel_rfl) (fun _ _ _ h => h) (Or.inl ⟨by rfl, ?_⟩) hHeld ?_
                        · intro w hSw; (try dsimp only at hSw); simp only [List.getElem_toArray, List.getElem_cons_zero, List.getElem_cons_succ]; go_simp
                        simp only [List.getElem_toArray, List.getElem_cons_zero, List.getElem_cons_succ, Act.put, List.setIfInBounds_toArray, List.set_cons_zero, List.set_cons_succ]
                        refine wpAnyH_ready (rs := [11]) (by kernel_rfl) (by simp) ?_
                        refine AllReadyH.cons rfl (fun K' hK => ?_) AllReadyH.nil
                        simp only [List.getElem_toArray, List.getElem_cons_zero, List.getElem_cons_succ]
                        obtain ⟨⟨e0, e1, e2, e3⟩, j0, j1, j2, j3⟩ := row4b HZR.out
                        go_simp
                        go_wp2_with fail
                        clear e0 e1 e2 e3 j0 j1 j2 j3
                        refine hK.out _ _ (HSS.out _ ((((HBX.out.setCell (p := ⟨W1.heap.size, 0, none⟩) (Nat.le_refl _) (.string kd)).setCell (p := ⟨W1.heap.size, 1, none⟩) (Nat.le_refl _) (.string dd)).setCell (p := ⟨W1.heap.size, 2, none⟩) (Nat.le_refl _) (.bool ex)).setCell (p := ⟨W1.heap.size, 3, none⟩) (Nat.le_refl _) (.slice sa sn sc))) (fun hHeld' => ?_)
                        clear hK K' hHeld
                        have hHeld := hHeld'
                        clear hHeld'
                        refine wpAnyH_take (i := 12) (v := .bool false) rfl (by kernel_rfl) (by kernel_rfl) (by kernel_rfl) (fun _ _ _ h => h) (Or.inl ⟨by rfl, ?_⟩) hHeld ?_
                        · intro w hSw; (try dsimp only at hSw); simp only [List.getElem_toArray, List.getElem_cons_zero, List.getElem_cons_succ]; go_simp
                        simp only [List.getElem_toArray, List.getElem_cons_zero, List.getElem_cons_succ, Act.put, List.setIfInBounds_toArray, List.set_cons_zero, List.set_cons_succ]
                        refine wpAnyH_done (by kernel_rfl) ?_ _
                        obtain ⟨W3, hW3⟩ : ∃ W3, W3 = (((wx.setCell ⟨W1.heap.size, 0, none⟩ (.string kd)).setCell ⟨W1.heap.size, 1, none⟩ (.string dd)).setCell ⟨W1.heap.size, 2, none⟩ (.bool ex)).setCell ⟨W1.heap.size, 3, none⟩ (.slice sa sn sc) := ⟨_, rfl⟩
                        have HB3 : Hid (Below W1.heap.size W1 W3) := by rw [hW3]; exact ((((HBX.out.setCell (p := ⟨W1.heap.size, 0, none⟩) (Nat.le_refl _) (.string kd)).setCell (p := ⟨W1.heap.size, 1, none⟩) (Nat.le_refl _) (.string dd)).setCell (p := ⟨W1.heap.size, 2, none⟩) (Nat.le_refl _) (.bool ex)).setCell (p := ⟨W1.heap.size, 3, none⟩) (Nat.le_refl _) (.slice sa sn sc))
                        have hs3 : W3.heap.size = wx.heap.size := by rw [hW3]; simp [World.setCell]
                        have hz3 : W1.heap.size + 1 ≤ W3.heap.size := by omega
                        have hz3' : wx.heap.size ≤ W3.heap.size := by omega
                        have HWX : Hid (∀ k, k ≠ W1.heap.size → k < wx.heap.size → W3.heap[k]? = wx.heap[k]?) := fun k hk _ => by rw [hW3, Below.heap_setCell _ _ _ _ hk, Below.heap_setCell _ _ _ _ hk, Below.heap_setCell _ _ _ _ hk, Below.heap_setCell _ _ _ _ hk]
                        have hx3 : W3.heap[W1.heap.size]? = some (.cells #[.string kd, .string dd, .bool ex, .slice sa sn sc] 24 (0, 0)) := by rw [hW3]; exact set4b_row HZR.out _ _ _ _
                        clear hs3
                        have HBW3 : Hid (Below (w.heap.size + 3) W0 W3) := HBW1.out.trans (HB3.out.mono (by omega))
                        obtain ⟨⟨v0, v1, v2, v3⟩, _⟩ := row4b hx3
                        have m0 : W3.cell? ⟨wr.heap.size, 0, none⟩ = some (.string y.1) := by rw [HB3.out.cell (p := ⟨wr.heap.size, 0, none⟩) (by show wr.heap.size < _; omega)]; exact HM0.out
                        clear z0 z1 z2 z3 q0 q1 q2 q3 g0 g1 g2 g3 o0 o1 o2 o3 n1 m1 m2 m3 m4
                        obtain ⟨⟨z0, z1, z2, z3⟩, _⟩ := row4b ((HBW3.out.block w.heap.size (by omega)).trans HX0.out)
                        obtain ⟨⟨q0, q1, q2, q3⟩, g0, g1, g2, g3⟩ := row4b ((HBW3.out.block (w.heap.size + 1 + 1) (by omega)).trans HX2.out)
                        rw [← hW3]
                        clear hW3 hx3
                        go_wp2_with fail
                        refine bodyPost_ret (v := .tuple #[.agg #[.string t.kind, .string t.data, .bool t.exec, .slice (some ⟨kb, ko, none⟩) t.kids.length tc], .bool false]) (by simp [results, Tryz.results45, go_sem, q0, q1, q2, q3]) rfl ?_
                        have hS := ((((But1.refl (w.heap.size + 1 + 1) W3).set 0 (.string t.kind)).set 1 (.string t.data)).set 2 (.bool t.exec)).set 3 (.slice (some ⟨kb, ko, none⟩) t.kids.length tc)
                        exact ⟨hS.below (HBW.out.trans (HBW3.out.mono (by omega))) (by omega), .inl ⟨_, _, _, _, _, _, HNS0.out, rfl⟩⟩
                      · obtain ⟨ua, uc, rfl⟩ := hq.form
                        have HBX : Hid (Below W1.heap.size W1 wx) := HBA.out.trans (hbx.mono (by simp))
                        have HZR : Hid (wx.heap[W1.heap.size]? = some (.cells #[.string { data := #[] }, .string { data := #[] }, .bool false, .slice none 0 0] 24 (0, 0))) := (hbx.block W1.heap.size (by simp)).trans (row_alloc' W1.drew #[.string { data := #[] }, .string { data := #[] }, .bool false, .slice none 0 0] 24)
                        have hzx : W1.heap.size < wx.heap.size := lt_of_row HZR.out
                        have HLQ : Hid (LiesQ wx (fun b => b < B ∨ (W1.heap.size + 1 ≤ b ∧ b < wx.heap.size)) (d + dX) Y.kids (.slice ua Y.kids.length uc)) := hq.kept (fun _ _ => rfl) (fun k hk => by rcases hk with h | h; exact .inl h; exact .inr ⟨by have := h.1; simp at this; omega, h.2⟩)
                        have HIN5 : Hid (p < j + 1 ∧ ∃ H, K ++ [(y.1, Y)] = H ++ (t.kids.drop (p + 1)).take (j + 1 - (p + 1)) ∧ setS X false (x :: []) t = some { t with kids := H ++ t.kids.drop (p + 1) }) := by
                          have hjj := HJP.out
                          refine ⟨by omega, K ++ [(y.1, Y)], by rw [hjj, Nat.sub_self]; simp, ?_⟩
                          unfold setS
                          rw [if_neg (by rw [HD.out]; decide), if_pos HT1.out, if_neg (by decide), HKO.out, Option.getD_some, hsome]
                          simp only
                          rw [← hp, List.set_eq_take_append_cons_drop, if_pos (by omega), HKE.out, hjj, HYX.out]
                          simp
                        clear hbx hsome hq
                        go_wp2_with fail
                        refine hK.out _ _ (HSS.out _ HBX.out) (fun hHeld' => ?_)
                        clear hK K' hHeld
                        have hHeld := hHeld'
                        clear hHeld'
                        refine wpAnyH_take (i := 7) (v := .tuple #[.agg #[.string Y.kind, .string Y.data, .bool Y.exec, .slice ua Y.kids.length uc], .bool true]) rfl (by kernel_rfl) (by kernel_rfl) (by kernel_rfl) (fun _ _ _ h => h) (Or.inl ⟨by rfl, ?_⟩) hHeld ?_
                        · intro w hSw; (try dsimp only at hSw); simp only [List.getElem_toArray, List.getElem_cons_zero, List.getElem_cons_succ]; go_simp
                        simp only [List.getElem_toArray, List.getElem_cons_zero, List.getElem_cons_succ, Act.put, List.setIfInBounds_toArray, List.set_cons_zero, List.set_cons_succ]
                        refine wpAnyH_take (i := 8) (v := .agg #[.string Y.kind, .string Y.data, .bool Y.exec, .slice ua Y.kids.length uc]) rfl (by kernel_rfl) (by kernel_rfl) (by kernel_rfl) (fun _ _ _ h => h) (Or.inl ⟨by rfl, ?_⟩) hHeld ?_
                        · intro w hSw; (try dsimp only at hSw); simp only [List.getElem_toArray, List.getElem_cons_zero, List.getElem_cons_succ]; go_simp
                        simp only [List.getElem_toArray, List.getElem_cons_zero, List.getElem_cons_succ, Act.put, List.setIfInBounds_toArray, List.set_cons_zero, List.set_cons_succ]
                        refine wpAnyH_take (i := 9) (v := .bool true) rfl (by kernel_rfl) (by kernel_rfl) (by kernel_rfl) (fun _ _ _ h => h) (Or.inl ⟨by rfl, ?_⟩) hHeld ?_
                        · intro w hSw; (try dsimp only at hSw); simp only [List.getElem_toArray, List.getElem_cons_zero, List.getElem_cons_succ]; go_simp
                        simp only [List.getElem_toArray, List.getElem_cons_zero, List.getElem_cons_succ, Act.put, List.setIfInBounds_toArray, List.set_cons_zero, List.set_cons_succ]
                        refine wpAnyH_ready (rs := [11]) (by kernel_rfl) (by simp) ?_
                        refine AllReadyH.cons rfl (fun K' hK => ?_) AllReadyH.nil
                        simp only [List.getElem_toArray, List.getElem_cons_zero, List.getElem_cons_succ]
                        obtain ⟨⟨e0, e1, e2, e3⟩, j0, j1, j2, j3⟩ := row4b HZR.out
                        go_simp
                        go_wp2_with fail
                        clear e0 e1 e2 e3 j0 j1 j2 j3
                        refine hK.out _ _ (HSS.out _ ((((HBX.out.setCell (p := ⟨W1.heap.size, 0, none⟩) (Nat.le_refl _) (.string Y.kind)).setCell (p := ⟨W1.heap.size, 1, none⟩) (Nat.le_refl _) (.string Y.data)).setCell (p := ⟨W1.heap.size, 2, none⟩) (Nat.le_refl _) (.bool Y.exec)).setCell (p := ⟨W1.heap.size, 3, none⟩) (Nat.le_refl _) (.slice ua Y.kids.length uc))) (fun hHeld' => ?_)
                        clear hK K' hHeld
                        have hHeld := hHeld'
                        clear hHeld'
                        refine wpAnyH_take (i := 12) (v := .bool true) rfl (by kernel_rfl) (by kernel_rfl) (by kernel_rfl) (fun _ _ _ h => h) (Or.inl ⟨by rfl, ?_⟩) hHeld ?_
                        · intro w hSw; (try dsimp only at hSw); simp only [List.getElem_toArray, List.getElem_cons_zero, List.getElem_cons_succ]; go_simp
                        simp only [List.getElem_toArray, List.getElem_cons_zero, List.getElem_cons_succ, Act.put, List.setIfInBounds_toArray, List.set_cons_zero, List.set_cons_succ]
                        refine wpAnyH_done (by kernel_rfl) ?_ _
                        obtain ⟨W3, hW3⟩ : ∃ W3, W3 = (((wx.setCell ⟨W1.heap.size, 0, none⟩ (.string Y.kind)).setCell ⟨W1.heap.size, 1, none⟩ (.string Y.data)).setCell ⟨W1.heap.size, 2, none⟩ (.bool Y.exec)).setCell ⟨W1.heap.size, 3, none⟩ (.slice ua Y.kids.length uc) := ⟨_, rfl⟩
                        have HB3 : Hid (Below W1.heap.size W1 W3) := by rw [hW3]; exact ((((HBX.out.setCell (p := ⟨W1.heap.size, 0, none⟩) (Nat.le_refl _) (.string Y.kind)).setCell (p := ⟨W1.heap.size, 1, none⟩) (Nat.le_refl _) (.string Y.data)).setCell (p := ⟨W1.heap.size, 2, none⟩) (Nat.le_refl _) (.bool Y.exec)).setCell (p := ⟨W1.heap.size, 3, none⟩) (Nat.le_refl _) (.slice ua Y.kids.length uc))
                        have hs3 : W3.heap.size = wx.heap.size := by rw [hW3]; simp [World.setCell]
                        have hz3 : W1.heap.size + 1 ≤ W3.heap.size := by omega
                        have hz3' : wx.heap.size ≤ W3.heap.size := by omega
                        have HWX : Hid (∀ k, k ≠ W1.heap.size → k < wx.heap.size → W3.heap[k]? = wx.heap[k]?) := fun k hk _ => by rw [hW3, Below.heap_setCell _ _ _ _ hk, Below.heap_setCell _ _ _ _ hk, Below.heap_setCell _ _ _ _ hk, Below.heap_setCell _ _ _ _ hk]
                        have hx3 : W3.heap[W1.heap.size]? = some (.cells #[.string Y.kind, .string Y.data, .bool Y.exec, .slice ua Y.kids.length uc] 24 (0, 0)) := by rw [hW3]; exact set4b_row HZR.out _ _ _ _
                        clear hs3
                        have HBW3 : Hid (Below (w.heap.size + 3) W0 W3) := HBW1.out.trans (HB3.out.mono (by omega))
                        obtain ⟨⟨v0, v1, v2, v3⟩, _⟩ := row4b hx3
                        have m0 : W3.cell? ⟨wr.heap.size, 0, none⟩ = some (.string y.1) := by rw [HB3.out.cell (p := ⟨wr.heap.size, 0, none⟩) (by show wr.heap.size < _; omega)]; exact HM0.out
                        clear z0 z1 z2 z3 q0 q1 q2 q3 g0 g1 g2 g3 o0 o1 o2 o3 n1 m1 m2 m3 m4
                        obtain ⟨⟨z0, z1, z2, z3⟩, _⟩ := row4b ((HBW3.out.block w.heap.size (by omega)).trans HX0.out)
                        obtain ⟨⟨q0, q1, q2, q3⟩, g0, g1, g2, g3⟩ := row4b ((HBW3.out.block (w.heap.size + 1 + 1) (by omega)).trans HX2.out)
                        rw [← hW3]
                        clear hW3 hx3
                        have HKW3 : Hid (RowQ W3 B (w.heap.size + 3) (d + dX) K (.slice ka K.length kc)) := HK1.out.below (by omega) (by omega) HB3.out
                        have HYQ : Hid (LiesQ W3 (fun b => b < B ∨ (w.heap.size + 3 ≤ b ∧ b < W3.heap.size ∧ (Value.slice ka K.length kc).ownBlock ≠ some b)) (d + dX) Y.kids (.slice ua Y.kids.length uc)) := by
                          obtain ⟨us0, _, h0, _⟩ := HK1.out.row
                          have hsx := HBX.out.size
                          refine HLQ.out.kept (fun k hk => HWX.out k (by rcases hk with h | h <;> omega) (by rcases hk with h | h <;> omega)) (fun k hk => ?_)
                          rcases hk with h | h
                          · exact .inl h
                          · exact .inr ⟨by omega, by omega, fun e => by have := (h0.lt k e).2; omega⟩
                        have hKl : K.length ≤ j := by rw [HKE.out, List.length_take]; omega
                        obtain ⟨us, hus, hrow, hkk⟩ := HKW3.out.row
                        have HROW : Hid (W3.ownsRow (w.heap.size + 3) 65 5 (.slice ka K.length kc) K.length (kidCells K us)) := hrow
                        have HN : Hid ((W3.alloc (.cells #[.string y.1, .string Y.kind, .string Y.data, .bool Y.exec, .slice ua Y.kids.length uc] 65)).heap[W3.heap.size]? = some (.cells #[.string y.1, .string Y.kind, .string Y.data, .bool Y.exec, .slice ua Y.kids.length uc] 65 (0, 0))) := row_alloc' W3 #[.string y.1, .string Y.kind, .string Y.data, .bool Y.exec, .slice ua Y.kids.length uc] 65
                        have HKK : Hid _ := hkk
                        clear hrow hkk
                        go_wp2_with (at_builtin; go_must (refine wpList_append_lies _ (by rfl) _ _ 22 (by rfl) (w.heap.size + 3) 65 i0 _ 5 80 Tryz.underlying22 hi0 hz0' hz1' hz2' rfl (by omega) _ K.length (kidCells K us) (by rfl) (World.ownsRow.alloc HROW.out _) ⟨W3.heap.size, 0, none⟩ 1 1 [.string y.1, .string Y.kind, .string Y.data, .bool Y.exec, .slice ua Y.kids.length uc] (by rfl) (by rfl) (World.news_of_block (cs := #[.string y.1, .string Y.kind, .string Y.data, .bool Y.exec, .slice ua Y.kids.length uc]) (t := 65) (fr := (0, 0)) HN.out) (by simp [Value.oneCell']) (by omega) (by unfold maxLen; omega) (by omega) (by simp; omega) (W3.heap.size + 1) (by simp) ?_; intro g cap' w5 hown5 hgrow hat hlt5; have HG : Hid _ := hgrow; have HO5 : Hid _ := hown5; have HAT : Hid _ := hat; clear hgrow hown5 hat))
                        have HK5 : Hid (RowQ w5 B (w.heap.size + 3) (d + dX) (K ++ [(y.1, Y)]) (.slice (some ⟨g, 0, none⟩) (K.length + 1) cap')) := rowQ_more (x := (y.1, Y)) (by omega) (by omega) ((Below.refl _ _).alloc (Nat.le_refl _) _) (HYQ.out) us hus HROW.out HKK.out HO5.out HG.out HAT.out (Nat.le_succ _)
                        have HB5 : Hid (Below (w.heap.size + 3) W0 w5) := (HBW3.out.alloc (by omega) _).grown HG.out (by simp; omega) fun k hk => (World.ownsRow.lt HROW.out k hk).1
                        go_roundw
                        case rel =>
                          refine ⟨_, _, _, _, _, _, _, _, _, _, _, _, _, _, _, _, _, _, _, _, _, _, _, _, _, _, _, _, _, _, _, _, _, _, _, _, _, _, _, _, _, _, _, _, _, _, _, _, _, _, _, _, _, _, _, _, _, _, _, _, _, _, _, _, _, _, _, _, _, _, _, _, _, _, _, _, _, _, _, _, ?_, rfl⟩
                          exact ⟨j + 1, K ++ [(y.1, Y)], some ⟨g, 0, none⟩, cap', true, by omega, by go_num, rfl, by rw [List.length_append]; rfl, by rw [List.length_append, List.length_singleton]; omega, (fun z hz => by
                            rcases List.mem_append.1 hz with h | h
                            · exact HKS.out z h
                            · rw [List.mem_singleton.1 h]; exact HKN.out y (List.mem_of_getElem? HY.out)), HB5.out, by rw [List.length_append]; exact HK5.out, HIN5.out⟩
                        case measure => simp [intOf]; omega
              | cons r0 r1 =>
                have hv1 : ¬ vc = 1 := by simp only [List.length_cons] at hvc1; omega
                have hv2 : ¬ ((r1.length : Int) + 1 + 1 < 1) := by omega
                have hv3 : ¬ ((vc : Int) < (r1.length : Int) + 1 + 1) := by simp only [List.length_cons] at hvc1; omega
                have hmem : y ∈ t.kids := List.mem_of_getElem? HY.out
                have HBWW : Hid (Below w.heap.size w W1) := HBW.out.trans (HBW1.out.mono (by omega))
                have HKO : Hid (kidOf t x = some y.2) := show _ = _ by unfold kidOf; rw [if_pos HT1.out, ← hp, ← HJP.out, HY.out]; rfl
                have HCALL : Hid (∀ wx, Below W1.heap.size W1 wx → Calls Tryz.prog 45 #[.agg #[.string y.2.kind, .string y.2.data, .bool y.2.exec, .slice ya y.2.kids.length yc], .slice (some ⟨nb, no + 1, none⟩) (r1.length + 1) (vc - 1), .agg #[.string X.kind, .string X.data, .bool X.exec, .slice xa X.kids.length xc], .bool dr] wx (SetPost B (d + dX) y.2 X dr (r0 :: r1) wx)) := fun wx hx =>
                  HIH.out d y.2 _ _ wx (by have := hx.size; omega) (HLY1.out.below hx (by omega)) (HLX.out.below (HBWW.out.trans (hx.mono (by omega))) hB) (HR.out.2 y hmem) (HQ.out y hmem) (HVT.out wx (HBWW.out.trans (hx.mono (by omega)))) (by first | omega | (simp only [List.length_cons, List.length_nil] at hll ⊢; omega)) (fun z hz => HNS.out z (List.mem_cons_of_mem _ hz))
                have HSS : Hid (∀ wx, Below W1.heap.size W1 wx → ((fun w' => (w'.cell? ⟨wr.heap.size, 1, none⟩ = some (.string y.2.kind) ∧ w'.cell? ⟨wr.heap.size, 2, none⟩ = some (.string y.2.data) ∧ w'.cell? ⟨wr.heap.size, 3, none⟩ = some (.bool y.2.exec) ∧ w'.cell? ⟨wr.heap.size, 4, none⟩ = some (.slice ya y.2.kids.length yc)) ∧ (w'.cell? ⟨w.heap.size + 1, 0, none⟩ = some (.string X.kind) ∧ w'.cell? ⟨w.heap.size + 1, 1, none⟩ = some (.string X.data) ∧ w'.cell? ⟨w.heap.size + 1, 2, none⟩ = some (.bool X.exec) ∧ w'.cell? ⟨w.heap.size + 1, 3, none⟩ = some (.slice xa X.kids.length xc))) wx : Prop)) := fun wx hx => by
                  have e1 : ∀ o, wx.cell? ⟨wr.heap.size, o, none⟩ = W1.cell? ⟨wr.heap.size, o, none⟩ := fun o => hx.cell (p := ⟨wr.heap.size, o, none⟩) (by show wr.heap.size < _; omega)
                  have e2 : ∀ o, wx.cell? ⟨w.heap.size + 1, o, none⟩ = W1.cell? ⟨w.heap.size + 1, o, none⟩ := fun o => hx.cell (p := ⟨w.heap.size + 1, o, none⟩) (by show w.heap.size + 1 < _; omega)
                  exact ⟨⟨(e1 1).trans m1, (e1 2).trans m2, (e1 3).trans m3, (e1 4).trans m4⟩, (e2 0).trans o0, (e2 1).trans o1, (e2 2).trans o2, (e2 3).trans o3⟩
                have HM0 : Hid (W1.cell? ⟨wr.heap.size, 0, none⟩ = some (.string y.1)) := m0
                clear hmem
                go_upto_region 15 with fail
                refine wp_region_held_drew (S := fun w' => (w'.cell? ⟨wr.heap.size, 1, none⟩ = some (.string y.2.kind) ∧ w'.cell? ⟨wr.heap.size, 2, none⟩ = some (.string y.2.data) ∧ w'.cell? ⟨wr.heap.size, 3, none⟩ = some (.bool y.2.exec) ∧ w'.cell? ⟨wr.heap.size, 4, none⟩ = some (.slice ya y.2.kids.length yc)) ∧ (w'.cell? ⟨w.heap.size + 1, 0, none⟩ = some (.string X.kind) ∧ w'.cell? ⟨w.heap.size + 1, 1, none⟩ = some (.string X.data) ∧ w'.cell? ⟨w.heap.size + 1, 2, none⟩ = some (.bool X.exec) ∧ w'.cell? ⟨w.heap.size + 1, 3, none⟩ = some (.slice xa X.kids.length xc))) (by kernel_rfl) (HSS.out _ (Below.refl _ _).drew) (fun hHeld => ?_)
                refine wpAnyH_take (i := 0) (v := .pointer (some ⟨wr.heap.size, 1, none⟩)) rfl (by kernel_rfl) (by kernel_rfl) (by kernel_rfl) (fun _ _ _ h => h) (Or.inl ⟨by rfl, ?_⟩) hHeld ?_
                · intro w hSw; (try dsimp only at hSw); simp only [List.getElem_toArray, List.getElem_cons_zero]; go_simp
                simp only [List.getElem_toArray, List.getElem_cons_zero, Act.put, List.setIfInBounds_toArray, List.set_cons_zero, List.set_cons_succ]
                refine wpAnyH_take (i := 1) (v := .agg #[.string y.2.kind, .string y.2.data, .bool y.2.exec, .slice ya y.2.kids.length yc]) rfl (by kernel_rfl) (by kernel_rfl) (by kernel_rfl) (fun _ _ _ h => h) (Or.inl ⟨by rfl, ?_⟩) hHeld ?_
                · intro w hSw; (try dsimp only at hSw); simp only [List.getElem_toArray, List.getElem_cons_zero, List.getElem_cons_succ]; obtain ⟨⟨s1, s2, s3, s4⟩, s5, s6, s7, s8⟩ := hSw; go_simp
                simp only [List.getElem_toArray, List.getElem_cons_zero, List.getElem_cons_succ, Act.put, List.setIfInBounds_toArray, List.set_cons_zero, List.set_cons_succ]
                refine wpAnyH_take (i := 2) (v := .slice (some ⟨nb, no, none⟩) (r1.length + 1 + 1) vc) rfl (by kernel_rfl) (by kernel_rfl) (by kernel_rfl) (fun _ _ _ h => h) (Or.inl ⟨by rfl, ?_⟩) hHeld ?_
                · intro w hSw; (try dsimp only at hSw); simp only [List.getElem_toArray, List.getElem_cons_zero, List.getElem_cons_succ]; go_simp
                simp only [List.getElem_toArray, List.getElem_cons_zero, List.getElem_cons_succ, Act.put, List.setIfInBounds_toArray, List.set_cons_zero, List.set_cons_succ]
                refine wpAnyH_take (i := 3) (v := .slice (some ⟨nb, no + 1, none⟩) (r1.length + 1) (vc - 1)) rfl (by kernel_rfl) (by kernel_rfl) (by kernel_rfl) (fun _ _ _ h => h) (Or.inl ⟨by rfl, ?_⟩) hHeld ?_
                · intro w hSw; (try dsimp only at hSw); simp only [List.getElem_toArray, List.getElem_cons_zero, List.getElem_cons_succ]; go_simp
                simp only [List.getElem_toArray, List.getElem_cons_zero, List.getElem_cons_succ, Act.put, List.setIfInBounds_toArray, List.set_cons_zero, List.set_cons_succ]
                refine wpAnyH_take (i := 4) (v := .agg #[.string X.kind, .string X.data, .bool X.exec, .slice xa X.kids.length xc]) rfl (by kernel_rfl) (by kernel_rfl) (by kernel_rfl) (fun _ _ _ h => h) (Or.inl ⟨by rfl, ?_⟩) hHeld ?_
                · intro w hSw; (try dsimp only at hSw); simp only [List.getElem_toArray, List.getElem_cons_zero, List.getElem_cons_succ]; obtain ⟨⟨s1, s2, s3, s4⟩, s5, s6, s7, s8⟩ := hSw; go_simp
                simp only [List.getElem_toArray, List.getElem_cons_zero, List.getElem_cons_succ, Act.put, List.setIfInBounds_toArray, List.set_cons_zero, List.set_cons_succ]
                refine wpAnyH_take (i := 5) (v := .bool dr) rfl (by kernel_rfl) (by kernel_rfl) (by kernel_rfl) (fun _ _ _ h => h) (Or.inl ⟨by rfl, ?_⟩) hHeld ?_
                · intro w hSw; (try dsimp only at hSw); simp only [List.getElem_toArray, List.getElem_cons_zero, List.getElem_cons_succ]; go_simp
                simp only [List.getElem_toArray, List.getElem_cons_zero, List.getElem_cons_succ, Act.put, List.setIfInBounds_toArray, List.set_cons_zero, List.set_cons_succ]
                have HBA : Hid (Below W1.heap.size W1 (W1.drew.alloc (.cells #[.string { data := #[] }, .string { data := #[] }, .bool false, .slice none 0 0] 24))) := ((Below.refl _ _).drew).alloc (Nat.le_refl _) _
                refine wpAnyH_ready (rs := [6, 10]) (by kernel_rfl) (by simp) ?_
                refine AllReadyH.cons rfl (fun K' hK => ?_) (AllReadyH.cons rfl (fun K' hK => ?_) AllReadyH.nil)
                · skip
                  simp only [List.getElem_toArray, List.getElem_cons_zero, List.getElem_cons_succ]
                  go_simp
                  refine Calls.mono (HCALL.out _ ((Below.refl _ _).drew)) ?_
                  rintro e wx ⟨hbx, ⟨kd, dd, ex, sa, sn, sc, hnone, rfl⟩ | ⟨Y, u, hsome, rfl, hq⟩⟩
                  · skip
                    have HBX : Hid (Below W1.heap.size W1 wx) := (Below.refl _ _).drew.trans hbx
                    have HNS0 : Hid (setS X dr (x :: (r0 :: r1)) t = none) := show _ = _ by unfold setS; rw [if_neg (by rw [HD.out]; decide), if_pos HT1.out, if_neg (by simp), HKO.out, Option.getD_some, hnone]
                    clear hbx hnone
                    go_wp2_with fail
                    refine hK.out _ _ (HSS.out _ HBX.out) (fun hHeld' => ?_)
                    clear hK K' hHeld
                    have hHeld := hHeld'
                    clear hHeld'
                    refine wpAnyH_take (i := 7) (v := .tuple #[.agg #[.string kd, .string dd, .bool ex, .slice sa sn sc], .bool false]) rfl (by kernel_rfl) (by kernel_rfl) (by kernel_rfl) (fun _ _ _ h => h) (Or.inl ⟨by rfl, ?_⟩) hHeld ?_
                    · intro w hSw; (try dsimp only at hSw); simp only [List.getElem_toArray, List.getElem_cons_zero, List.getElem_cons_succ]; go_simp
                    simp only [List.getElem_toArray, List.getElem_cons_zero, List.getElem_cons_succ, Act.put, List.setIfInBounds_toArray, List.set_cons_zero, List.set_cons_succ]
                    refine wpAnyH_take (i := 8) (v := .agg #[.string kd, .string dd, .bool ex, .slice sa sn sc]) rfl (by kernel_rfl) (by kernel_rfl) (by kernel_rfl) (fun _ _ _ h => h) (Or.inl ⟨by rfl, ?_⟩) hHeld ?_
                    · intro w hSw; (try dsimp only at hSw); simp only [List.getElem_toArray, List.getElem_cons_zero, List.getElem_cons_succ]; go_simp
                    simp only [List.getElem_toArray, List.getElem_cons_zero, List.getElem_cons_succ, Act.put, List.setIfInBounds_toArray, List.set_cons_zero, List.set_cons_succ]
                    refine wpAnyH_take (i := 9) (v := .bool false) rfl (by kernel_rfl) (by kernel_rfl) (by kernel_rfl) (fun _ _ _ h => h) (Or.inl ⟨by rfl, ?_⟩) hHeld ?_
                    · intro w hSw; (try dsimp only at hSw); simp only [List.getElem_toArray, List.getElem_cons_zero, List.getElem_cons_succ]; go_simp
                    simp only [List.getElem_toArray, List.getElem_cons_zero, List.getElem_cons_succ, Act.put, List.setIfInBounds_toArray, List.set_cons_zero, List.set_cons_succ]
                    refine wpAnyH_ready (rs := [10]) (by kernel_rfl) (by simp) ?_
                    refine AllReadyH.cons rfl (fun K' hK => ?_) AllReadyH.nil
                    simp only [List.getElem_toArray, List.getElem_cons_zero, List.getElem_cons_succ]
                    go_simp
                    go_wp2_with fail
                    refine hK.out _ _ (HSS.out _ (HBX.out.alloc HBX.out.size _)) (fun hHeld' => ?_)
                    clear hK K' hHeld
                    have hHeld := hHeld'
                    clear hHeld'
                    refine wpAnyH_ready (rs := [11]) (by kernel_rfl) (by simp) ?_
                    refine AllReadyH.cons rfl (fun K' hK => ?_) AllReadyH.nil
                    simp only [List.getElem_toArray, List.getElem_cons_zero, List.getElem_cons_succ]
                    go_simp
                    go_wp2_with fail
                    refine hK.out _ _ (HSS.out _ (HBX.out.alloc HBX.out.size _)) (fun hHeld' => ?_)
                    clear hK K' hHeld
                    have hHeld := hHeld'
                    clear hHeld'
                    refine wpAnyH_take (i := 12) (v := .bool false) rfl (by kernel_rfl) (by kernel_rfl) (by kernel_rfl) (fun _ _ _ h => h) (Or.inl ⟨by rfl, ?_⟩) hHeld ?_
                    · intro w hSw; (try dsimp only at hSw); simp only [List.getElem_toArray, List.getElem_cons_zero, List.getElem_cons_succ]; go_simp
                    simp only [List.getElem_toArray, List.getElem_cons_zero, List.getElem_cons_succ, Act.put, List.setIfInBounds_toArray, List.set_cons_zero, List.set_cons_succ]
                    refine wpAnyH_done (by kernel_rfl) ?_ _
                    obtain ⟨W3, hW3⟩ : ∃ W3, W3 = wx.alloc (.cells #[.string kd, .string dd, .bool ex, .slice sa sn sc] 24) := ⟨_, rfl⟩
                    have HB3 : Hid (Below W1.heap.size W1 W3) := by rw [hW3]; exact HBX.out.alloc HBX.out.size _
                    have hz3 : W1.heap.size + 1 ≤ W3.heap.size := by have := HBX.out.size; rw [hW3]; simp; omega
                    have hz3' : wx.heap.size ≤ W3.heap.size := by rw [hW3]; simp
                    have HWX : Hid (∀ k, k ≠ wx.heap.size → k < wx.heap.size → W3.heap[k]? = wx.heap[k]?) := fun k _ hk => by rw [hW3]; exact Below.heap_alloc _ _ _ hk
                    have hx3 : W3.heap[wx.heap.size]? = some (.cells #[.string kd, .string dd, .bool ex, .slice sa sn sc] 24 (0, 0)) := by rw [hW3]; exact row_alloc' _ _ _
                    have HBW3 : Hid (Below (w.heap.size + 3) W0 W3) := HBW1.out.trans (HB3.out.mono (by omega))
                    obtain ⟨⟨v0, v1, v2, v3⟩, _⟩ := row4b hx3
                    have m0 : W3.cell? ⟨wr.heap.size, 0, none⟩ = some (.string y.1) := by rw [HB3.out.cell (p := ⟨wr.heap.size, 0, none⟩) (by show wr.heap.size < _; omega)]; exact HM0.out
                    clear z0 z1 z2 z3 q0 q1 q2 q3 g0 g1 g2 g3 o0 o1 o2 o3 n1 m1 m2 m3 m4
                    obtain ⟨⟨z0, z1, z2, z3⟩, _⟩ := row4b ((HBW3.out.block w.heap.size (by omega)).trans HX0.out)
                    obtain ⟨⟨q0, q1, q2, q3⟩, g0, g1, g2, g3⟩ := row4b ((HBW3.out.block (w.heap.size + 1 + 1) (by omega)).trans HX2.out)
                    rw [← hW3]
                    clear hW3 hx3
                    go_wp2_with fail
                    refine bodyPost_ret (v := .tuple #[.agg #[.string t.kind, .string t.data, .bool t.exec, .slice (some ⟨kb, ko, none⟩) t.kids.length tc], .bool false]) (by simp [results, Tryz.results45, go_sem, q0, q1, q2, q3]) rfl ?_
                    have hS := ((((But1.refl (w.heap.size + 1 + 1) W3).set 0 (.string t.kind)).set 1 (.string t.data)).set 2 (.bool t.exec)).set 3 (.slice (some ⟨kb, ko, none⟩) t.kids.length tc)
                    exact ⟨hS.below (HBW.out.trans (HBW3.out.mono (by omega))) (by omega), .inl ⟨_, _, _, _, _, _, HNS0.out, rfl⟩⟩
                  · obtain ⟨ua, uc, rfl⟩ := hq.form
                    have HBX : Hid (Below W1.heap.size W1 wx) := (Below.refl _ _).drew.trans hbx
                    have HLQ : Hid (LiesQ wx (fun b => b < B ∨ (W1.heap.size ≤ b ∧ b < wx.heap.size)) (d + dX) Y.kids (.slice ua Y.kids.length uc)) := hq
                    have HIN5 : Hid (p < j + 1 ∧ ∃ H, K ++ [(y.1, Y)] = H ++ (t.kids.drop (p + 1)).take (j + 1 - (p + 1)) ∧ setS X dr (x :: (r0 :: r1)) t = some { t with kids := H ++ t.kids.drop (p + 1) }) := by
                      have hjj := HJP.out
                      refine ⟨by omega, K ++ [(y.1, Y)], by rw [hjj, Nat.sub_self]; simp, ?_⟩
                      unfold setS
                      rw [if_neg (by rw [HD.out]; decide), if_pos HT1.out, if_neg (by simp), HKO.out, Option.getD_some, hsome]
                      simp only
                      rw [← hp, List.set_eq_take_append_cons_drop, if_pos (by omega), HKE.out, hjj, HYX.out]
                      simp
                    clear hbx hsome hq
                    go_wp2_with fail
                    refine hK.out _ _ (HSS.out _ HBX.out) (fun hHeld' => ?_)
                    clear hK K' hHeld
                    have hHeld := hHeld'
                    clear hHeld'
                    refine wpAnyH_take (i := 7) (v := .tuple #[.agg #[.string Y.kind, .string Y.data, .bool Y.exec, .slice ua Y.kids.length uc], .bool true]) rfl (by kernel_rfl) (by kernel_rfl) (by kernel_rfl) (fun _ _ _ h => h) (Or.inl ⟨by rfl, ?_⟩) hHeld ?_
                    · intro w hSw; (try dsimp only at hSw); simp only [List.getElem_toArray, List.getElem_cons_zero, List.getElem_cons_succ]; go_simp
                    simp only [List.getElem_toArray, List.getElem_cons_zero, List.getElem_cons_succ, Act.put, List.setIfInBounds_toArray, List.set_cons_zero, List.set_cons_succ]
                    refine wpAnyH_take (i := 8) (v := .agg #[.string Y.kind, .string Y.data, .bool Y.exec, .slice ua Y.kids.length uc]) rfl (by kernel_rfl) (by kernel_rfl) (by kernel_rfl) (fun _ _ _ h => h) (Or.inl ⟨by rfl, ?_⟩) hHeld ?_
                    · intro w hSw; (try dsimp only at hSw); simp only [List.getElem_toArray, List.getElem_cons_zero, List.getElem_cons_succ]; go_simp
                    simp only [List.getElem_toArray, List.getElem_cons_zero, List.getElem_cons_succ, Act.put, List.setIfInBounds_toArray, List.set_cons_zero, List.set_cons_succ]
                    refine wpAnyH_take (i := 9) (v := .bool true) rfl (by kernel_rfl) (by kernel_rfl) (by kernel_rfl) (fun _ _ _ h => h) (Or.inl ⟨by rfl, ?_⟩) hHeld ?_
                    · intro w hSw; (try dsimp only at hSw); simp only [List.getElem_toArray, List.getElem_cons_zero, List.getElem_cons_succ]; go_simp
                    simp only [List.getElem_toArray, List.getElem_cons_zero, List.getElem_cons_succ, Act.put, List.setIfInBounds_toArray, List.set_cons_zero, List.set_cons_succ]
                    refine wpAnyH_ready (rs := [10]) (by kernel_rfl) (by simp) ?_
                    refine AllReadyH.cons rfl (fun K' hK => ?_) AllReadyH.nil
                    simp only [List.getElem_toArray, List.getElem_cons_zero, List.getElem_cons_succ]
                    go_simp
                    go_wp2_with fail
                    refine hK.out _ _ (HSS.out _ (HBX.out.alloc HBX.out.size _)) (fun hHeld' => ?_)
                    clear hK K' hHeld
                    have hHeld := hHeld'
                    clear hHeld'
                    refine wpAnyH_ready (rs := [11]) (by kernel_rfl) (by simp) ?_
                    refine AllReadyH.cons rfl (fun K' hK => ?_) AllReadyH.nil
                    simp only [List.getElem_toArray, List.getElem_cons_zero, List.getElem_cons_succ]
                    go_simp
                    go_wp2_with fail
                    refine hK.out _ _ (HSS.out _ (HBX.out.alloc HBX.out.size _)) (fun hHeld' => ?_)
                    clear hK K' hHeld
                    have hHeld := hHeld'
                    clear hHeld'
                    refine wpAnyH_take (i := 12) (v := .bool true) rfl (by kernel_rfl) (by kernel_rfl) (by kernel_rfl) (fun _ _ _ h => h) (Or.inl ⟨by rfl, ?_⟩) hHeld ?_
                    · intro w hSw; (try dsimp only at hSw); simp only [List.getElem_toArray, List.getElem_cons_zero, List.getElem_cons_succ]; go_simp
                    simp only [List.getElem_toArray, List.getElem_cons_zero, List.getElem_cons_succ, Act.put, List.setIfInBounds_toArray, List.set_cons_zero, List.set_cons_succ]
                    refine wpAnyH_done (by kernel_rfl) ?_ _
                    obtain ⟨W3, hW3⟩ : ∃ W3, W3 = wx.alloc (.cells #[.string Y.kind, .string Y.data, .bool Y.exec, .slice ua Y.kids.length uc] 24) := ⟨_, rfl⟩
                    have HB3 : Hid (Below W1.heap.size W1 W3) := by rw [hW3]; exact HBX.out.alloc HBX.out.size _
                    have hz3 : W1.heap.size + 1 ≤ W3.heap.size := by have := HBX.out.size; rw [hW3]; simp; omega
                    have hz3' : wx.heap.size ≤ W3.heap.size := by rw [hW3]; simp
                    have HWX : Hid (∀ k, k ≠ wx.heap.size → k < wx.heap.size → W3.heap[k]? = wx.heap[k]?) := fun k _ hk => by rw [hW3]; exact Below.heap_alloc _ _ _ hk
                    have hx3 : W3.heap[wx.heap.size]? = some (.cells #[.string Y.kind, .string Y.data, .bool Y.exec, .slice ua Y.kids.length uc] 24 (0, 0)) := by rw [hW3]; exact row_alloc' _ _ _
                    have HBW3 : Hid (Below (w.heap.size + 3) W0 W3) := HBW1.out.trans (HB3.out.mono (by omega))
                    obtain ⟨⟨v0, v1, v2, v3⟩, _⟩ := row4b hx3
                    have m0 : W3.cell? ⟨wr.heap.size, 0, none⟩ = some (.string y.1) := by rw [HB3.out.cell (p := ⟨wr.heap.size, 0, none⟩) (by show wr.heap.size < _; omega)]; exact HM0.out
                    clear z0 z1 z2 z3 q0 q1 q2 q3 g0 g1 g2 g3 o0 o1 o2 o3 n1 m1 m2 m3 m4
                    obtain ⟨⟨z0, z1, z2, z3⟩, _⟩ := row4b ((HBW3.out.block w.heap.size (by omega)).trans HX0.out)
                    obtain ⟨⟨q0, q1, q2, q3⟩, g0, g1, g2, g3⟩ := row4b ((HBW3.out.block (w.heap.size + 1 + 1) (by omega)).trans HX2.out)
                    rw [← hW3]
                    clear hW3 hx3
                    have HKW3 : Hid (RowQ W3 B (w.heap.size + 3) (d + dX) K (.slice ka K.length kc)) := HK1.out.below (by omega) (by omega) HB3.out
                    have HYQ : Hid (LiesQ W3 (fun b => b < B ∨ (w.heap.size + 3 ≤ b ∧ b < W3.heap.size ∧ (Value.slice ka K.length kc).ownBlock ≠ some b)) (d + dX) Y.kids (.slice ua Y.kids.length uc)) := by
                      obtain ⟨us0, _, h0, _⟩ := HK1.out.row
                      have hsx := HBX.out.size
                      refine HLQ.out.kept (fun k hk => HWX.out k (by rcases hk with h | h <;> omega) (by rcases hk with h | h <;> omega)) (fun k hk => ?_)
                      rcases hk with h | h
                      · exact .inl h
                      · exact .inr ⟨by omega, by omega, fun e => by have := (h0.lt k e).2; omega⟩
                    have hKl : K.length ≤ j := by rw [HKE.out, List.length_take]; omega
                    obtain ⟨us, hus, hrow, hkk⟩ := HKW3.out.row
                    have HROW : Hid (W3.ownsRow (w.heap.size + 3) 65 5 (.slice ka K.length kc) K.length (kidCells K us)) := hrow
                    have HN : Hid ((W3.alloc (.cells #[.string y.1, .string Y.kind, .string Y.data, .bool Y.exec, .slice ua Y.kids.length uc] 65)).heap[W3.heap.size]? = some (.cells #[.string y.1, .string Y.kind, .string Y.data, .bool Y.exec, .slice ua Y.kids.length uc] 65 (0, 0))) := row_alloc' W3 #[.string y.1, .string Y.kind, .string Y.data, .bool Y.exec, .slice ua Y.kids.length uc] 65
                    have HKK : Hid _ := hkk
                    clear hrow hkk
                    go_wp2_with (at_builtin; go_must (refine wpList_append_lies _ (by rfl) _ _ 22 (by rfl) (w.heap.size + 3) 65 i0 _ 5 80 Tryz.underlying22 hi0 hz0' hz1' hz2' rfl (by omega) _ K.length (kidCells K us) (by rfl) (World.ownsRow.alloc HROW.out _) ⟨W3.heap.size, 0, none⟩ 1 1 [.string y.1, .string Y.kind, .string Y.data, .bool Y.exec, .slice ua Y.kids.length uc] (by rfl) (by rfl) (World.news_of_block (cs := #[.string y.1, .string Y.kind, .string Y.data, .bool Y.exec, .slice ua Y.kids.length uc]) (t := 65) (fr := (0, 0)) HN.out) (by simp [Value.oneCell']) (by omega) (by unfold maxLen; omega) (by omega) (by simp; omega) (W3.heap.size + 1) (by simp) ?_; intro g cap' w5 hown5 hgrow hat hlt5; have HG : Hid _ := hgrow; have HO5 : Hid _ := hown5; have HAT : Hid _ := hat; clear hgrow hown5 hat))
                    have HK5 : Hid (RowQ w5 B (w.heap.size + 3) (d + dX) (K ++ [(y.1, Y)]) (.slice (some ⟨g, 0, none⟩) (K.length + 1) cap')) := rowQ_more (x := (y.1, Y)) (by omega) (by omega) ((Below.refl _ _).alloc (Nat.le_refl _) _) (HYQ.out) us hus HROW.out HKK.out HO5.out HG.out HAT.out (Nat.le_succ _)
                    have HB5 : Hid (Below (w.heap.size + 3) W0 w5) := (HBW3.out.alloc (by omega) _).grown HG.out (by simp; omega) fun k hk => (World.ownsRow.lt HROW.out k hk).1
                    go_roundw
                    case rel =>
                      refine ⟨_, _, _, _, _, _, _, _, _, _, _, _, _, _, _, _, _, _, _, _, _, _, _, _, _, _, _, _, _, _, _, _, _, _, _, _, _, _, _, _, _, _, _, _, _, _, _, _, _, _, _, _, _, _, _, _, _, _, _, _, _, _, _, _, _, _, _, _, _, _, _, _, _, _, _, _, _, _, _, _, ?_, rfl⟩
                      exact ⟨j + 1, K ++ [(y.1, Y)], some ⟨g, 0, none⟩, cap', true, by omega, by go_num, rfl, by rw [List.length_append]; rfl, by rw [List.length_append, List.length_singleton]; omega, (fun z hz => by
                        rcases List.mem_append.1 hz with h | h
                        · exact HKS.out z h
                        · rw [List.mem_singleton.1 h]; exact HKN.out y (List.mem_of_getElem? HY.out)), HB5.out, by rw [List.length_append]; exact HK5.out, HIN5.out⟩
                    case measure => simp [intOf]; omega
                · skip
                  simp only [List.getElem_toArray, List.getElem_cons_zero, List.getElem_cons_succ]
                  go_simp
                  go_wp2_with fail
                  refine hK.out _ _ (HSS.out _ HBA.out) (fun hHeld' => ?_)
                  clear hK K' hHeld
                  have hHeld := hHeld'
                  clear hHeld'
                  refine wpAnyH_ready (rs := [6]) (by kernel_rfl) (by simp) ?_
                  refine AllReadyH.cons rfl (fun K' hK => ?_) AllReadyH.nil
                  simp only [List.getElem_toArray, List.getElem_cons_zero, List.getElem_cons_succ]
                  go_simp
                  refine Calls.mono (HCALL.out _ (HBA.out)) ?_
                  rintro e wx ⟨hbx, ⟨kd, dd, ex, sa, sn, sc, hnone, rfl⟩ | ⟨Y, u, hsome, rfl, hq⟩⟩
                  · skip
                    have HBX : Hid (Below W1.heap.size W1 wx) := HBA.out.trans (hbx.mono (by simp))
                    have HZR : Hid (wx.heap[W1.heap.size]? = some (.cells #[.string { data := #[] }, .string { data := #[] }, .bool false, .slice none 0 0] 24 (0, 0))) := (hbx.block W1.heap.size (by simp)).trans (row_alloc' W1.drew #[.string { data := #[] }, .string { data := #[] }, .bool false, .slice none 0 0] 24)
                    have hzx : W1.heap.size < wx.heap.size := lt_of_row HZR.out
                    have HNS0 : Hid (setS X dr (x :: (r0 :: r1)) t = none) := show _ = _ by unfold setS; rw [if_neg (by rw [HD.out]; decide), if_pos HT1.out, if_neg (by simp), HKO.out, Option.getD_some, hnone]
                    clear hbx hnone
                    go_wp2_with fail
                    refine hK.out _ _ (HSS.out _ HBX.out) (fun hHeld' => ?_)
                    clear hK K' hHeld
                    have hHeld := hHeld'
                    clear hHeld'
                    refine wpAnyH_take (i := 7) (v := .tuple #[.agg #[.string kd, .string dd, .bool ex, .slice sa sn sc], .bool false]) rfl (by kernel_rfl) (by kernel_rfl) (by kernel_rfl) (fun _ _ _ h => h) (Or.inl ⟨by rfl, ?_⟩) hHeld ?_
                    · intro w hSw; (try dsimp only at hSw); simp only [List.getElem_toArray, List.getElem_cons_zero, List.getElem_cons_succ]; go_simp
                    simp only [List.getElem_toArray, List.getElem_cons_zero, List.getElem_cons_succ, Act.put, List.setIfInBounds_toArray, List.set_cons_zero, List.set_cons_succ]
                    refine wpAnyH_take (i := 8) (v := .agg #[.string kd, .string dd, .bool ex, .slice sa sn sc]) rfl (by kernel_rfl) (by kernel_rfl) (by kernel_rfl) (fun _ _ _ h => h) (Or.inl ⟨by rfl, ?_⟩) hHeld ?_
                    · intro w hSw; (try dsimp only at hSw); simp only [List.getElem_toArray, List.getElem_cons_zero, List.getElem_cons_succ]; go_simp
                    simp only [List.getElem_toArray, List.getElem_cons_zero, List.getElem_cons_succ, Act.put, List.setIfInBounds_toArray, List.set_cons_zero, List.set_cons_succ]
                    refine wpAnyH_take (i := 9) (v := .bool false) rfl (by kernel_rfl) (by kernel_rfl) (by kernel_rfl) (fun _ _ _ h => h) (Or.inl ⟨by rfl, ?_⟩) hHeld ?_
                    · intro w hSw; (try dsimp only at hSw); simp only [List.getElem_toArray, List.getElem_cons_zero, List.getElem_cons_succ]; go_simp
                    simp only [List.getElem_toArray, List.getElem_cons_zero, List.getElem_cons_succ, Act.put, List.setIfInBounds_toArray, List.set_cons_zero, List.set_cons_succ]
                    refine wpAnyH_ready (rs := [11]) (by kernel_rfl) (by simp) ?_
                    refine AllReadyH.cons rfl (fun K' hK => ?_) AllReadyH.nil
                    simp only [List.getElem_toArray, List.getElem_cons_zero, List.getElem_cons_succ]
                    obtain ⟨⟨e0, e1, e2, e3⟩, j0, j1, j2, j3⟩ := row4b HZR.out
                    go_simp
                    go_wp2_with fail
                    clear e0 e1 e2 e3 j0 j1 j2 j3
                    refine hK.out _ _ (HSS.out _ ((((HBX.out.setCell (p := ⟨W1.heap.size, 0, none⟩) (Nat.le_refl _) (.string kd)).setCell (p := ⟨W1.heap.size, 1, none⟩) (Nat.le_refl _) (.string dd)).setCell (p := ⟨W1.heap.size, 2, none⟩) (Nat.le_refl _) (.bool ex)).setCell (p := ⟨W1.heap.size, 3, none⟩) (Nat.le_refl _) (.slice sa sn sc))) (fun hHeld' => ?_)
                    clear hK K' hHeld
                    have hHeld := hHeld'
                    clear hHeld'
                    refine wpAnyH_take (i := 12) (v := .bool false) rfl (by kernel_rfl) (by kernel_rfl) (by kernel_rfl) (fun _ _ _ h => h) (Or.inl ⟨by rfl, ?_⟩) hHeld ?_
                    · intro w hSw; (try dsimp only at hSw); simp only [List.getElem_toArray, List.getElem_cons_zero, List.getElem_cons_succ]; go_simp
                    simp only [List.getElem_toArray, List.getElem_cons_zero, List.getElem_cons_succ, Act.put, List.setIfInBounds_toArray, List.set_cons_zero, List.set_cons_succ]
                    refine wpAnyH_done (by kernel_rfl) ?_ _
                    obtain ⟨W3, hW3⟩ : ∃ W3, W3 = (((wx.setCell ⟨W1.heap.size, 0, none⟩ (.string kd)).setCell ⟨W1.heap.size, 1, none⟩ (.string dd)).setCell ⟨W1.heap.size, 2, none⟩ (.bool ex)).setCell ⟨W1.heap.size, 3, none⟩ (.slice sa sn sc) := ⟨_, rfl⟩
                    have HB3 : Hid (Below W1.heap.size W1 W3) := by rw [hW3]; exact ((((HBX.out.setCell (p := ⟨W1.heap.size, 0, none⟩) (Nat.le_refl _) (.string kd)).setCell (p := ⟨W1.heap.size, 1, none⟩) (Nat.le_refl _) (.string dd)).setCell (p := ⟨W1.heap.size, 2, none⟩) (Nat.le_refl _) (.bool ex)).setCell (p := ⟨W1.heap.size, 3, none⟩) (Nat.le_refl _) (.slice sa sn sc))
                    have hs3 : W3.heap.size = wx.heap.size := by rw [hW3]; simp [World.setCell]
                    have hz3 : W1.heap.size + 1 ≤ W3.heap.size := by omega
                    have hz3' : wx.heap.size ≤ W3.heap.size := by omega
                    have HWX : Hid (∀ k, k ≠ W1.heap.size → k < wx.heap.size → W3.heap[k]? = wx.heap[k]?) := fun k hk _ => by rw [hW3, Below.heap_setCell _ _ _ _ hk, Below.heap_setCell _ _ _ _ hk, Below.heap_setCell _ _ _ _ hk, Below.heap_setCell _ _ _ _ hk]
                    have hx3 : W3.heap[W1.heap.size]? = some (.cells #[.string kd, .string dd, .bool ex, .slice sa sn sc] 24 (0, 0)) := by rw [hW3]; exact set4b_row HZR.out _ _ _ _
                    clear hs3
                    have HBW3 : Hid (Below (w.heap.size + 3) W0 W3) := HBW1.out.trans (HB3.out.mono (by omega))
                    obtain ⟨⟨v0, v1, v2, v3⟩, _⟩ := row4b hx3
                    have m0 : W3.cell? ⟨wr.heap.size, 0, none⟩ = some (.string y.1) := by rw [HB3.out.cell (p := ⟨wr.heap.size, 0, none⟩) (by show wr.heap.size < _; omega)]; exact HM0.out
                    clear z0 z1 z2 z3 q0 q1 q2 q3 g0 g1 g2 g3 o0 o1 o2 o3 n1 m1 m2 m3 m4
                    obtain ⟨⟨z0, z1, z2, z3⟩, _⟩ := row4b ((HBW3.out.block w.heap.size (by omega)).trans HX0.out)
                    obtain ⟨⟨q0, q1, q2, q3⟩, g0, g1, g2, g3⟩ := row4b ((HBW3.out.block (w.heap.size + 1 + 1) (by omega)).trans HX2.out)
                    rw [← hW3]
                    clear hW3 hx3
                    go_wp2_with fail
                    refine bodyPost_ret (v := .tuple #[.agg #[.string t.kind, .string t.data, .bool t.exec, .slice (some ⟨kb, ko, none⟩) t.kids.length tc], .bool false]) (by simp [results, Tryz.results45, go_sem, q0, q1, q2, q3]) rfl ?_
                    have hS := ((((But1.refl (w.heap.size + 1 + 1) W3).set 0 (.string t.kind)).set 1 (.string t.data)).set 2 (.bool t.exec)).set 3 (.slice (some ⟨kb, ko, none⟩) t.kids.length tc)
                    exact ⟨hS.below (HBW.out.trans (HBW3.out.mono (by omega))) (by omega), .inl ⟨_, _, _, _, _, _, HNS0.out, rfl⟩⟩
                  · obtain ⟨ua, uc, rfl⟩ := hq.form
                    have HBX : Hid (Below W1.heap.size W1 wx) := HBA.out.trans (hbx.mono (by simp))
                    have HZR : Hid (wx.heap[W1.heap.size]? = some (.cells #[.string { data := #[] }, .string { data := #[] }, .bool false, .slice none 0 0] 24 (0, 0))) := (hbx.block W1.heap.size (by simp)).trans (row_alloc' W1.drew #[.string { data := #[] }, .string { data := #[] }, .bool false, .slice none 0 0] 24)
                    have hzx : W1.heap.size < wx.heap.size := lt_of_row HZR.out
                    have HLQ : Hid (LiesQ wx (fun b => b < B ∨ (W1.heap.size + 1 ≤ b ∧ b < wx.heap.size)) (d + dX) Y.kids (.slice ua Y.kids.length uc)) := hq.kept (fun _ _ => rfl) (fun k hk => by rcases hk with h | h; exact .inl h; exact .inr ⟨by have := h.1; simp at this; omega, h.2⟩)
                    have HIN5 : Hid (p < j + 1 ∧ ∃ H, K ++ [(y.1, Y)] = H ++ (t.kids.drop (p + 1)).take (j + 1 - (p + 1)) ∧ setS X dr (x :: (r0 :: r1)) t = some { t with kids := H ++ t.kids.drop (p + 1) }) := by
                      have hjj := HJP.out
                      refine ⟨by omega, K ++ [(y.1, Y)], by rw [hjj, Nat.sub_self]; simp, ?_⟩
                      unfold setS
                      rw [if_neg (by rw [HD.out]; decide), if_pos HT1.out, if_neg (by simp), HKO.out, Option.getD_some, hsome]
                      simp only
                      rw [← hp, List.set_eq_take_append_cons_drop, if_pos (by omega), HKE.out, hjj, HYX.out]
                      simp
                    clear hbx hsome hq
                    go_wp2_with fail
                    refine hK.out _ _ (HSS.out _ HBX.out) (fun hHeld' => ?_)
                    clear hK K' hHeld
                    have hHeld := hHeld'
                    clear hHeld'
                    refine wpAnyH_take (i := 7) (v := .tuple #[.agg #[.string Y.kind, .string Y.data, .bool Y.exec, .slice ua Y.kids.length uc], .bool true]) rfl (by kernel_rfl) (by kernel_rfl) (by kernel_rfl) (fun _ _ _ h => h) (Or.inl ⟨by rfl, ?_⟩) hHeld ?_
                    · intro w hSw; (try dsimp only at hSw); simp only [List.getElem_toArray, List.getElem_cons_zero, List.getElem_cons_succ]; go_simp
                    simp only [List.getElem_toArray, List.getElem_cons_zero, List.getElem_cons_succ, Act.put, List.setIfInBounds_toArray, List.set_cons_zero, List.set_cons_succ]
                    refine wpAnyH_take (i := 8) (v := .agg #[.string Y.kind, .string Y.data, .bool Y.exec, .slice ua Y.kids.length uc]) rfl (by kernel_rfl) (by kernel_rfl) (by kernel_rfl) (fun _ _ _ h => h) (Or.inl ⟨by rfl, ?_⟩) hHeld ?_
                    · intro w hSw; (try dsimp only at hSw); simp only [List.getElem_toArray, List.getElem_cons_zero, List.getElem_cons_succ]; go_simp
                    simp only [List.getElem_toArray, List.getElem_cons_zero, List.getElem_cons_succ, Act.put, List.setIfInBounds_toArray, List.set_cons_zero, List.set_cons_succ]
                    refine wpAnyH_take (i := 9) (v := .bool true) rfl (by kernel_rfl) (by kernel_rfl) (by kernel_rfl) (fun _ _ _ h => h) (Or.inl ⟨by rfl, ?_⟩) hHeld ?_
                    · intro w hSw; (try dsimp only at hSw); simp only [List.getElem_toArray, List.getElem_cons_zero, List.getElem_cons_succ]; go_simp
                    simp only [List.getElem_toArray, List.getElem_cons_zero, List.getElem_cons_succ, Act.put, List.setIfInBounds_toArray, List.set_cons_zero, List.set_cons_succ]
                    refine wpAnyH_ready (rs := [11]) (by kernel_rfl) (by simp) ?_
                    refine AllReadyH.cons rfl (fun K' hK => ?_) AllReadyH.nil
                    simp only [List.getElem_toArray, List.getElem_cons_zero, List.getElem_cons_succ]
                    obtain ⟨⟨e0, e1, e2, e3⟩, j0, j1, j2, j3⟩ := row4b HZR.out
                    go_simp
                    go_wp2_with fail
                    clear e0 e1 e2 e3 j0 j1 j2 j3
                    refine hK.out _ _ (HSS.out _ ((((HBX.out.setCell (p := ⟨W1.heap.size, 0, none⟩) (Nat.le_refl _) (.string Y.kind)).setCell (p := ⟨W1.heap.size, 1, none⟩) (Nat.le_refl _) (.string Y.data)).setCell (p := ⟨W1.heap.size, 2, none⟩) (Nat.le_refl _) (.bool Y.exec)).setCell (p := ⟨W1.heap.size, 3, none⟩) (Nat.le_refl _) (.slice ua Y.kids.length uc))) (fun hHeld' => ?_)
                    clear hK K' hHeld
                    have hHeld := hHeld'
                    clear hHeld'
                    refine wpAnyH_take (i := 12) (v := .bool true) rfl (by kernel_rfl) (by kernel_rfl) (by kernel_rfl) (fun _ _ _ h => h) (Or.inl ⟨by rfl, ?_⟩) hHeld ?_
                    · intro w hSw; (try dsimp only at hSw); simp only [List.getElem_toArray, List.getElem_cons_zero, List.getElem_cons_succ]; go_simp
                    simp only [List.getElem_toArray, List.getElem_cons_zero, List.getElem_cons_succ, Act.put, List.setIfInBounds_toArray, List.set_cons_zero, List.set_cons_succ]
                    refine wpAnyH_done (by kernel_rfl) ?_ _
                    obtain ⟨W3, hW3⟩ : ∃ W3, W3 = (((wx.setCell ⟨W1.heap.size, 0, none⟩ (.string Y.kind)).setCell ⟨W1.heap.size, 1, none⟩ (.string Y.data)).setCell ⟨W1.heap.size, 2, none⟩ (.bool Y.exec)).setCell ⟨W1.heap.size, 3, none⟩ (.slice ua Y.kids.length uc) := ⟨_, rfl⟩
                    have HB3 : Hid (Below W1.heap.size W1 W3) := by rw [hW3]; exact ((((HBX.out.setCell (p := ⟨W1.heap.size, 0, none⟩) (Nat.le_refl _) (.string Y.kind)).setCell (p := ⟨W1.heap.size, 1, none⟩) (Nat.le_refl _) (.string Y.data)).setCell (p := ⟨W1.heap.size, 2, none⟩) (Nat.le_refl _) (.bool Y.exec)).setCell (p := ⟨W1.heap.size, 3, none⟩) (Nat.le_refl _) (.slice ua Y.kids.length uc))
                    have hs3 : W3.heap.size = wx.heap.size := by rw [hW3]; simp [World.setCell]
                    have hz3 : W1.heap.size + 1 ≤ W3.heap.size := by omega
                    have hz3' : wx.heap.size ≤ W3.heap.size := by omega
                    have HWX : Hid (∀ k, k ≠ W1.heap.size → k < wx.heap.size → W3.heap[k]? = wx.heap[k]?) := fun k hk _ => by rw [hW3, Below.heap_setCell _ _ _ _ hk, Below.heap_setCell _ _ _ _ hk, Below.heap_setCell _ _ _ _ hk, Below.heap_setCell _ _ _ _ hk]
                    have hx3 : W3.heap[W1.heap.size]? = some (.cells #[.string Y.kind, .string Y.data, .bool Y.exec, .slice ua Y.kids.length uc] 24 (0, 0)) := by rw [hW3]; exact set4b_row HZR.out _ _ _ _
                    clear hs3
                    have HBW3 : Hid (Below (w.heap.size + 3) W0 W3) := HBW1.out.trans (HB3.out.mono (by omega))
                    obtain ⟨⟨v0, v1, v2, v3⟩, _⟩ := row4b hx3
                    have m0 : W3.cell? ⟨wr.heap.size, 0, none⟩ = some (.string y.1) := by rw [HB3.out.cell (p := ⟨wr.heap.size, 0, none⟩) (by show wr.heap.size < _; omega)]; exact HM0.out
                    clear z0 z1 z2 z3 q0 q1 q2 q3 g0 g1 g2 g3 o0 o1 o2 o3 n1 m1 m2 m3 m4
                    obtain ⟨⟨z0, z1, z2, z3⟩, _⟩ := row4b ((HBW3.out.block w.heap.size (by omega)).trans HX0.out)
                    obtain ⟨⟨q0, q1, q2, q3⟩, g0, g1, g2, g3⟩ := row4b ((HBW3.out.block (w.heap.size + 1 + 1) (by omega)).trans HX2.out)
                    rw [← hW3]
                    clear hW3 hx3
                    have HKW3 : Hid (RowQ W3 B (w.heap.size + 3) (d + dX) K (.slice ka K.length kc)) := HK1.out.below (by omega) (by omega) HB3.out
                    have HYQ : Hid (LiesQ W3 (fun b => b < B ∨ (w.heap.size + 3 ≤ b ∧ b < W3.heap.size ∧ (Value.slice ka K.length kc).ownBlock ≠ some b)) (d + dX) Y.kids (.slice ua Y.kids.length uc)) := by
                      obtain ⟨us0, _, h0, _⟩ := HK1.out.row
                      have hsx := HBX.out.size
                      refine HLQ.out.kept (fun k hk => HWX.out k (by rcases hk with h | h <;> omega) (by rcases hk with h | h <;> omega)) (fun k hk => ?_)
                      rcases hk with h | h
                      · exact .inl h
                      · exact .inr ⟨by omega, by omega, fun e => by have := (h0.lt k e).2; omega⟩
                    have hKl : K.length ≤ j := by rw [HKE.out, List.length_take]; omega
                    obtain ⟨us, hus, hrow, hkk⟩ := HKW3.out.row
                    have HROW : Hid (W3.ownsRow (w.heap.size + 3) 65 5 (.slice ka K.length kc) K.length (kidCells K us)) := hrow
                    have HN : Hid ((W3.alloc (.cells #[.string y.1, .string Y.kind, .string Y.data, .bool Y.exec, .slice ua Y.kids.length uc] 65)).heap[W3.heap.size]? = some (.cells #[.string y.1, .string Y.kind, .string Y.data, .bool Y.exec, .slice ua Y.kids.length uc] 65 (0, 0))) := row_alloc' W3 #[.string y.1, .string Y.kind, .string Y.data, .bool Y.exec, .slice ua Y.kids.length uc] 65
                    have HKK : Hid _ := hkk
                    clear hrow hkk
                    go_wp2_with (at_builtin; go_must (refine wpList_append_lies _ (by rfl) _ _ 22 (by rfl) (w.heap.size + 3) 65 i0 _ 5 80 Tryz.underlying22 hi0 hz0' hz1' hz2' rfl (by omega) _ K.length (kidCells K us) (by rfl) (World.ownsRow.alloc HROW.out _) ⟨W3.heap.size, 0, none⟩ 1 1 [.string y.1, .string Y.kind, .string Y.data, .bool Y.exec, .slice ua Y.kids.length uc] (by rfl) (by rfl) (World.news_of_block (cs := #[.string y.1, .string Y.kind, .string Y.data, .bool Y.exec, .slice ua Y.kids.length uc]) (t := 65) (fr := (0, 0)) HN.out) (by simp [Value.oneCell']) (by omega) (by unfold maxLen; omega) (by omega) (by simp; omega) (W3.heap.size + 1) (by simp) ?_; intro g cap' w5 hown5 hgrow hat hlt5; have HG : Hid _ := hgrow; have HO5 : Hid _ := hown5; have HAT : Hid _ := hat; clear hgrow hown5 hat))
                    have HK5 : Hid (RowQ w5 B (w.heap.size + 3) (d + dX) (K ++ [(y.1, Y)]) (.slice (some ⟨g, 0, none⟩) (K.length + 1) cap')) := rowQ_more (x := (y.1, Y)) (by omega) (by omega) ((Below.refl _ _).alloc (Nat.le_refl _) _) (HYQ.out) us hus HROW.out HKK.out HO5.out HG.out HAT.out (Nat.le_succ _)
                    have HB5 : Hid (Below (w.heap.size + 3) W0 w5) := (HBW3.out.alloc (by omega) _).grown HG.out (by simp; omega) fun k hk => (World.ownsRow.lt HROW.out k hk).1
                    go_roundw
                    case rel =>
                      refine ⟨_, _, _, _, _, _, _, _, _, _, _, _, _, _, _, _, _, _, _, _, _, _, _, _, _, _, _, _, _, _, _, _, _, _, _, _, _, _, _, _, _, _, _, _, _, _, _, _, _, _, _, _, _, _, _, _, _, _, _, _, _, _, _, _, _, _, _, _, _, _, _, _, _, _, _, _, _, _, _, _, ?_, rfl⟩
                      exact ⟨j + 1, K ++ [(y.1, Y)], some ⟨g, 0, none⟩, cap', true, by omega, by go_num, rfl, by rw [List.length_append]; rfl, by rw [List.length_append, List.length_singleton]; omega, (fun z hz => by
                        rcases List.mem_append.1 hz with h | h
                        · exact HKS.out z h
                        · rw [List.mem_singleton.1 h]; exact HKN.out y (List.mem_of_getElem? HY.out)), HB5.out, by rw [List.length_append]; exact HK5.out, HIN5.out⟩
                    case measure => simp [intOf]; omega
            · have hyn : (y.1.toList == x.toList) = false := by rw [beq_eq_false_iff_ne]; exact fun e => hyx (ba_ext e)
              have hyn2 : (x.toList == y.1.toList) = false := by rw [beq_eq_false_iff_ne]; exact fun e => hyx (ba_ext e).symm
              have c2 : Op.bytesLess x.toList y.1.toList = true := by
                rcases less_not _ _ c1 with h | h
                · exact h
                · rw [hyn2] at h; cases h.2
              have HT1 : Hid (thereAt t.kids x = false) := show _ = _ by rw [HTH.out]; exact decide_eq_false hyx
              go_upto_region 11 with fail
              refine wp_region_held_drew (S := fun w' => w'.cell? ⟨wr.heap.size, 0, none⟩ = some (.string y.1) ∧ w'.cell? ⟨nb, no, none⟩ = some (.string x)) (by kernel_rfl) (by exact ⟨kx0, nx0⟩) (fun hHeld => ?_)
              refine wpAnyH_take (i := 0) (v := .bool false) rfl (by kernel_rfl) (by kernel_rfl) (by kernel_rfl) (fun _ _ _ h => h) (Or.inl ⟨by rfl, ?_⟩) hHeld ?_
              · intro w hSw; (try dsimp only at hSw); simp only [List.getElem_toArray, List.getElem_cons_zero]; go_simp
              simp only [List.getElem_toArray, List.getElem_cons_zero, Act.put, List.setIfInBounds_toArray, List.set_cons_zero, List.set_cons_succ]
              refine wpAnyH_take (i := 1) (v := .bool true) rfl (by kernel_rfl) (by kernel_rfl) (by kernel_rfl) (fun _ _ _ h => h) (Or.inl ⟨by rfl, ?_⟩) hHeld ?_
              · intro w hSw; (try dsimp only at hSw); simp only [List.getElem_toArray, List.getElem_cons_zero, List.getElem_cons_succ]; go_simp
              simp only [List.getElem_toArray, List.getElem_cons_zero, List.getElem_cons_succ, Act.put, List.setIfInBounds_toArray, List.set_cons_zero, List.set_cons_succ]
              refine wpAnyH_take (i := 2) (v := .bool true) rfl (by kernel_rfl) (by kernel_rfl) (by kernel_rfl) (fun _ _ _ h => h) (Or.inl ⟨by rfl, ?_⟩) hHeld ?_
              · intro w hSw; (try dsimp only at hSw); simp only [List.getElem_toArray, List.getElem_cons_zero, List.getElem_cons_succ]; go_simp
              simp only [List.getElem_toArray, List.getElem_cons_zero, List.getElem_cons_succ, Act.put, List.setIfInBounds_toArray, List.set_cons_zero, List.set_cons_succ]
              refine wpAnyH_take (i := 3) (v := .pointer (some ⟨wr.heap.size, 0, none⟩)) rfl (by kernel_rfl) (by kernel_rfl) (by kernel_rfl) (fun _ _ _ h => h) (Or.inl ⟨by rfl, ?_⟩) hHeld ?_
              · intro w hSw; (try dsimp only at hSw); simp only [List.getElem_toArray, List.getElem_cons_zero, List.getElem_cons_succ]; go_simp
              simp only [List.getElem_toArray, List.getElem_cons_zero, List.getElem_cons_succ, Act.put, List.setIfInBounds_toArray, List.set_cons_zero, List.set_cons_succ]
              refine wpAnyH_take (i := 4) (v := .string y.1) rfl (by kernel_rfl) (by kernel_rfl) (by kernel_rfl) (fun _ _ _ h => h) (Or.inl ⟨by rfl, ?_⟩) hHeld ?_
              · intro w hSw; (try dsimp only at hSw); simp only [List.getElem_toArray, List.getElem_cons_zero, List.getElem_cons_succ]; obtain ⟨s1, s2⟩ := hSw; go_simp
              simp only [List.getElem_toArray, List.getElem_cons_zero, List.getElem_cons_succ, Act.put, List.setIfInBounds_toArray, List.set_cons_zero, List.set_cons_succ]
              refine wpAnyH_take (i := 5) (v := .slice (some ⟨nb, no, none⟩) (r.length + 1) vc) rfl (by kernel_rfl) (by kernel_rfl) (by kernel_rfl) (fun _ _ _ h => h) (Or.inl ⟨by rfl, ?_⟩) hHeld ?_
              · intro w hSw; (try dsimp only at hSw); simp only [List.getElem_toArray, List.getElem_cons_zero, List.getElem_cons_succ]; go_simp
              simp only [List.getElem_toArray, List.getElem_cons_zero, List.getElem_cons_succ, Act.put, List.setIfInBounds_toArray, List.set_cons_zero, List.set_cons_succ]
              refine wpAnyH_take (i := 6) (v := .pointer (some ⟨nb, no, none⟩)) rfl (by kernel_rfl) (by kernel_rfl) (by kernel_rfl) (fun _ _ _ h => h) (Or.inl ⟨by rfl, ?_⟩) hHeld ?_
              · intro w hSw; (try dsimp only at hSw); simp only [List.getElem_toArray, List.getElem_cons_zero, List.getElem_cons_succ]; go_simp
              simp only [List.getElem_toArray, List.getElem_cons_zero, List.getElem_cons_succ, Act.put, List.setIfInBounds_toArray, List.set_cons_zero, List.set_cons_succ]
              refine wpAnyH_take (i := 7) (v := .string x) rfl (by kernel_rfl) (by kernel_rfl) (by kernel_rfl) (fun _ _ _ h => h) (Or.inl ⟨by rfl, ?_⟩) hHeld ?_
              · intro w hSw; (try dsimp only at hSw); simp only [List.getElem_toArray, List.getElem_cons_zero, List.getElem_cons_succ]; obtain ⟨s1, s2⟩ := hSw; go_simp
              simp only [List.getElem_toArray, List.getElem_cons_zero, List.getElem_cons_succ, Act.put, List.setIfInBounds_toArray, List.set_cons_zero, List.set_cons_succ]
              refine wpAnyH_take (i := 8) (v := .bool true) rfl (by kernel_rfl) (by kernel_rfl) (by kernel_rfl) (fun _ _ _ h => h) (Or.inl ⟨by rfl, ?_⟩) hHeld ?_
              · intro w hSw; (try dsimp only at hSw); simp only [List.getElem_toArray, List.getElem_cons_zero, List.getElem_cons_succ]; go_simp
              simp only [List.getElem_toArray, List.getElem_cons_zero, List.getElem_cons_succ, Act.put, List.setIfInBounds_toArray, List.set_cons_zero, List.set_cons_succ]
              refine wpAnyH_take (i := 9) (v := .bool true) rfl (by kernel_rfl) (by kernel_rfl) (by kernel_rfl) (fun _ _ _ h => h) (Or.inl ⟨by rfl, ?_⟩) hHeld ?_
              · intro w hSw; (try dsimp only at hSw); simp only [List.getElem_toArray, List.getElem_cons_zero, List.getElem_cons_succ]; go_simp
              simp only [List.getElem_toArray, List.getElem_cons_zero, List.getElem_cons_succ, Act.put, List.setIfInBounds_toArray, List.set_cons_zero, List.set_cons_succ]
              refine wpAnyH_done (by kernel_rfl) ?_ _
              go_upto_region 13 with fail
              refine wp_region_held_drew (S := fun w' => w'.cell? ⟨wr.heap.size, 0, none⟩ = some (.string y.1) ∧ w'.cell? ⟨nb, no, none⟩ = some (.string x)) (by kernel_rfl) (by first | exact ⟨kx0, nx0⟩ | (trace_state; constructor <;> simp [kx0, nx0])) (fun hHeld => ?_)
              refine wpAnyH_take (i := 0) (v := .pointer (some ⟨wr.heap.size, 0, none⟩)) rfl (by kernel_rfl) (by kernel_rfl) (by kernel_rfl) (fun _ _ _ h => h) (Or.inl ⟨by rfl, ?_⟩) hHeld ?_
              · intro w hSw; (try dsimp only at hSw); simp only [List.getElem_toArray, List.getElem_cons_zero]; go_simp
              simp only [List.getElem_toArray, List.getElem_cons_zero, Act.put, List.setIfInBounds_toArray, List.set_cons_zero, List.set_cons_succ]
              refine wpAnyH_take (i := 1) (v := .string y.1) rfl (by kernel_rfl) (by kernel_rfl) (by kernel_rfl) (fun _ _ _ h => h) (Or.inl ⟨by rfl, ?_⟩) hHeld ?_
              · intro w hSw; (try dsimp only at hSw); simp only [List.getElem_toArray, List.getElem_cons_zero, List.getElem_cons_succ]; obtain ⟨s1, s2⟩ := hSw; go_simp
              simp only [List.getElem_toArray, List.getElem_cons_zero, List.getElem_cons_succ, Act.put, List.setIfInBounds_toArray, List.set_cons_zero, List.set_cons_succ]
              refine wpAnyH_take (i := 2) (v := .slice (some ⟨nb, no, none⟩) (r.length + 1) vc) rfl (by kernel_rfl) (by kernel_rfl) (by kernel_rfl) (fun _ _ _ h => h) (Or.inl ⟨by rfl, ?_⟩) hHeld ?_
              · intro w hSw; (try dsimp only at hSw); simp only [List.getElem_toArray, List.getElem_cons_zero, List.getElem_cons_succ]; go_simp
              simp only [List.getElem_toArray, List.getElem_cons_zero, List.getElem_cons_succ, Act.put, List.setIfInBounds_toArray, List.set_cons_zero, List.set_cons_succ]
              refine wpAnyH_take (i := 3) (v := .pointer (some ⟨nb, no, none⟩)) rfl (by kernel_rfl) (by kernel_rfl) (by kernel_rfl) (fun _ _ _ h => h) (Or.inl ⟨by rfl, ?_⟩) hHeld ?_
              · intro w hSw; (try dsimp only at hSw); simp only [List.getElem_toArray, List.getElem_cons_zero, List.getElem_cons_succ]; go_simp
              simp only [List.getElem_toArray, List.getElem_cons_zero, List.getElem_cons_succ, Act.put, List.setIfInBounds_toArray, List.set_cons_zero, List.set_cons_succ]
              refine wpAnyH_take (i := 4) (v := .string x) rfl (by kernel_rfl) (by kernel_rfl) (by kernel_rfl) (fun _ _ _ h => h) (Or.inl ⟨by rfl, ?_⟩) hHeld ?_
              · intro w hSw; (try dsimp only at hSw); simp only [List.getElem_toArray, List.getElem_cons_zero, List.getElem_cons_succ]; obtain ⟨s1, s2⟩ := hSw; go_simp
              simp only [List.getElem_toArray, List.getElem_cons_zero, List.getElem_cons_succ, Act.put, List.setIfInBounds_toArray, List.set_cons_zero, List.set_cons_succ]
              refine wpAnyH_take (i := 5) (v := .bool false) rfl (by kernel_rfl) (by kernel_rfl) (by kernel_rfl) (fun _ _ _ h => h) (Or.inl ⟨by rfl, ?_⟩) hHeld ?_
              · intro w hSw; (try dsimp only at hSw); simp only [List.getElem_toArray, List.getElem_cons_zero, List.getElem_cons_succ]; go_simp
              simp only [List.getElem_toArray, List.getElem_cons_zero, List.getElem_cons_succ, Act.put, List.setIfInBounds_toArray, List.set_cons_zero, List.set_cons_succ]
              refine wpAnyH_done (by kernel_rfl) ?_ _
              obtain ⟨W1, hW1⟩ : ∃ W1, W1 = (wr.alloc (.cells #[.string y.1, .string y.2.kind, .string y.2.data, .bool y.2.exec, .slice ya y.2.kids.length yc] 65)).drew.drew := ⟨_, rfl⟩
              have hz1 : wr.heap.size + 1 ≤ W1.heap.size := by rw [hW1]; simp
              have HB1 : Hid (Below wr.heap.size wr W1) := by rw [hW1]; exact (((Below.refl _ _).alloc (Nat.le_refl _) _).drew).drew
              have hkx : W1.heap[wr.heap.size]? = some (.cells #[.string y.1, .string y.2.kind, .string y.2.data, .bool y.2.exec, .slice ya y.2.kids.length yc] 65 (0, 0)) := by rw [hW1]; exact row_alloc' _ _ _
              have m0 : W1.cell? ⟨wr.heap.size, 0, none⟩ = some (.string y.1) := by rw [cell_of_row W1 _ _ _ _ _ hkx]; rfl
              have m1 : W1.cell? ⟨wr.heap.size, 1, none⟩ = some (.string y.2.kind) := by rw [cell_of_row W1 _ _ _ _ _ hkx]; rfl
              have m2 : W1.cell? ⟨wr.heap.size, 2, none⟩ = some (.string y.2.data) := by rw [cell_of_row W1 _ _ _ _ _ hkx]; rfl
              have m3 : W1.cell? ⟨wr.heap.size, 3, none⟩ = some (.bool y.2.exec) := by rw [cell_of_row W1 _ _ _ _ _ hkx]; rfl
              have m4 : W1.cell? ⟨wr.heap.size, 4, none⟩ = some (.slice ya y.2.kids.length yc) := by rw [cell_of_row W1 _ _ _ _ _ hkx]; rfl
              have n1 : W1.cell? ⟨nb, no, none⟩ = some (.string x) := by rw [HB1.out.cell (p := ⟨nb, no, none⟩) (by show nb < _; omega)]; exact n0
              have HLY1 : Hid (Lies W1 B d y.2.kids (.slice ya y.2.kids.length yc)) := HLY.out.below HB1.out (by omega)
              have HK1 : Hid (RowQ W1 B (w.heap.size + 3) (d + dX) K (.slice ka K.length kc)) := HK.out.below (by omega) (by omega) HB1.out
              have HBW1 : Hid (Below (w.heap.size + 3) W0 W1) := HB.out.trans (HB1.out.mono (by omega))
              have a3 : (Value.slice ka K.length kc).ownBlock ≠ some wr.heap.size := fun e => by
                obtain ⟨us, _, h, _⟩ := HK.out.row
                have := (h.lt _ e).2
                omega
              rw [← hW1]
              clear hW1 hkx k0 k1 k2 k3 k4 y0 y1 y2 f0 f1 f2 f3 n0 HLY HK HB HBR kx0 nx0
              obtain ⟨⟨z0, z1, z2, z3⟩, _⟩ := row4b ((HBW1.out.block w.heap.size (by omega)).trans HX0.out)
              obtain ⟨⟨o0, o1, o2, o3⟩, _⟩ := row4b ((HBW1.out.block (w.heap.size + 1) (by omega)).trans HX1.out)
              obtain ⟨⟨q0, q1, q2, q3⟩, g0, g1, g2, g3⟩ := row4b ((HBW1.out.block (w.heap.size + 1 + 1) (by omega)).trans HX2.out)
              cases r with
              | nil =>
                cases dr with
                | true =>
                  have HNS0 : Hid (setS X true [x] t = none) := show _ = _ by unfold setS; rw [if_neg (by rw [HD.out]; decide), if_neg (by rw [HT1.out]; decide), if_neg (by decide)]
                  go_wp2_with fail
                  refine bodyPost_ret (v := .tuple #[.agg #[.string t.kind, .string t.data, .bool t.exec, .slice (some ⟨kb, ko, none⟩) t.kids.length tc], .bool false]) (by simp [results, Tryz.results45, go_sem, q0, q1, q2, q3]) rfl ?_
                  have hS := ((((But1.refl (w.heap.size + 1 + 1) W1).set 0 (.string t.kind)).set 1 (.string t.data)).set 2 (.bool t.exec)).set 3 (.slice (some ⟨kb, ko, none⟩) t.kids.length tc)
                  exact ⟨hS.below (HBW.out.trans (HBW1.out.mono (by omega))) (by omega), .inl ⟨_, _, _, _, _, _, HNS0.out, rfl⟩⟩
                | false =>
                  obtain ⟨us, hus, hrow, hkk⟩ := HK1.out.row
                  have HROW : Hid (W1.ownsRow (w.heap.size + 3) 65 5 (.slice ka K.length kc) K.length (kidCells K us)) := hrow
                  have HN : Hid ((W1.alloc (.cells #[.string x, .string X.kind, .string X.data, .bool X.exec, .slice xa X.kids.length xc] 65)).heap[W1.heap.size]? = some (.cells #[.string x, .string X.kind, .string X.data, .bool X.exec, .slice xa X.kids.length xc] 65 (0, 0))) := row_alloc' W1 #[.string x, .string X.kind, .string X.data, .bool X.exec, .slice xa X.kids.length xc] 65
                  have HKK : Hid _ := hkk
                  have a1 : (Value.slice ka K.length kc).ownBlock ≠ some nb := fun e => by have := (hrow.lt _ e).1; omega
                  have a2 : (Value.slice ka K.length kc).ownBlock ≠ some (w.heap.size + 1) := fun e => by have := (hrow.lt _ e).1; omega
                  clear hrow hkk
                  go_upto_region 21 with fail
                  go_region_held3 (fun w' => w'.cell? ⟨nb, no, none⟩ = some (.string x) ∧ w'.cell? ⟨w.heap.size + 1, 0, none⟩ = some (.string X.kind) ∧ w'.cell? ⟨w.heap.size + 1, 1, none⟩ = some (.string X.data) ∧ w'.cell? ⟨w.heap.size + 1, 2, none⟩ = some (.bool X.exec) ∧ w'.cell? ⟨w.heap.size + 1, 3, none⟩ = some (.slice xa X.kids.length xc))
                    (first
                      | go_keep
                      | (go_split_ands
                         refine ⟨?_, ?_, ?_, ?_, ?_⟩
                         · (rw [hgrow.cell_far _ (by first | (simp; done) | (simp; omega)) (Ne.symm a1)]; assumption)
                         · (rw [hgrow.cell_far _ (by first | (simp; done) | (simp; omega)) (Ne.symm a2)]; assumption)
                         · (rw [hgrow.cell_far _ (by first | (simp; done) | (simp; omega)) (Ne.symm a2)]; assumption)
                         · (rw [hgrow.cell_far _ (by first | (simp; done) | (simp; omega)) (Ne.symm a2)]; assumption)
                         · (rw [hgrow.cell_far _ (by first | (simp; done) | (simp; omega)) (Ne.symm a2)]; assumption)))
                    ((refine step_append_lies _ (by rfl) _ _ _ (by rfl) (w.heap.size + 3) 65 i0 _ 5 80 Tryz.underlying22 hi0 hz0' hz1' hz2' rfl (by omega) (.slice ka K.length kc) K.length (kidCells K us) (by rfl) ((World.ownsRow.alloc HROW.out _).drew) ⟨W1.heap.size, 0, none⟩ 1 1 [.string x, .string X.kind, .string X.data, .bool X.exec, .slice xa X.kids.length xc] (by rfl) (by rfl) (World.news_of_block (cs := #[.string x, .string X.kind, .string X.data, .bool X.exec, .slice xa X.kids.length xc]) (t := 65) (fr := (0, 0)) HN.out) (by simp [Value.oneCell']) (by omega) (by unfold maxLen; omega) (by omega) (by simp; omega) (W1.heap.size + 1) (by simp) ?_; intro g cap' w5 hown5 hgrow hat hlt5))
                  have hbx : Below W1.heap.size W1 (W1.alloc (.cells #[.string x, .string X.kind, .string X.data, .bool X.exec, .slice xa X.kids.length xc] 65)).drew := ((Below.refl _ _).alloc (Nat.le_refl _) _).drew
                  have HK5 : Hid (RowQ w5 B (w.heap.size + 3) (d + dX) (K ++ [(x, X)]) (.slice (some ⟨g, 0, none⟩) (K.length + 1) cap')) := rowQ_more (x := (x, X)) (wa := (W1.alloc (.cells #[.string x, .string X.kind, .string X.data, .bool X.exec, .slice xa X.kids.length xc] 65)).drew) (by omega) (by omega) hbx (((HLX.out.below (HBW.out.trans (HBW1.out.mono (by omega))) hB).toQ fun b hb => .inl hb).up (by omega)) us hus HROW.out HKK.out hown5 hgrow hat (by omega)
                  have hb15 : Below (w.heap.size + 3) W1 w5 := (hbx.mono (by omega)).grown hgrow (by simp; omega) fun k hk => (World.ownsRow.lt HROW.out k hk).1
                  have HB5 : Hid (Below (w.heap.size + 3) W0 w5) := HBW1.out.trans hb15
                  have HLY5 : Hid (Lies w5 B d y.2.kids (.slice ya y.2.kids.length yc)) := HLY1.out.below hb15 (by omega)
                  have hcx : ∀ o, w5.cell? ⟨wr.heap.size, o, none⟩ = W1.cell? ⟨wr.heap.size, o, none⟩ := fun o => by
                    rw [hgrow.cell_far _ (by simp; omega) (Ne.symm a3)]
                    exact hbx.cell (p := ⟨wr.heap.size, o, none⟩) (by show wr.heap.size < _; omega)
                  have m0' : w5.cell? ⟨wr.heap.size, 0, none⟩ = _ := (hcx 0).trans m0
                  have m1' : w5.cell? ⟨wr.heap.size, 1, none⟩ = _ := (hcx 1).trans m1
                  have m2' : w5.cell? ⟨wr.heap.size, 2, none⟩ = _ := (hcx 2).trans m2
                  have m3' : w5.cell? ⟨wr.heap.size, 3, none⟩ = _ := (hcx 3).trans m3
                  have m4' : w5.cell? ⟨wr.heap.size, 4, none⟩ = _ := (hcx 4).trans m4
                  have hz5 : W1.heap.size ≤ w5.heap.size := hb15.size
                  have HIN5 : Hid (p < j + 1 ∧ ∃ H, K ++ [(x, X)] ++ [y] = H ++ (t.kids.drop (p + 1)).take (j + 1 - (p + 1)) ∧ setS X false [x] t = some { t with kids := H ++ t.kids.drop (p + 1) }) := by
                    have hjj := HJP.out
                    refine ⟨by omega, K ++ [(x, X)] ++ [y], by rw [hjj, Nat.sub_self]; simp, ?_⟩
                    have hdr : t.kids.drop p = y :: t.kids.drop (p + 1) := by
                      rw [← hjj, List.drop_eq_getElem_cons hlt, (List.getElem?_eq_some_iff.1 HY.out).2]
                    unfold setS
                    rw [if_neg (by rw [HD.out]; decide), if_neg (by rw [HT1.out]; decide), if_pos (by decide), ← hp, hdr, HKE.out, hjj]
                    simp
                  clear hgrow hown5 hat hbx hb15 hcx m0 m1 m2 m3 m4 z0 z1 z2 z3 o0 o1 o2 o3 q0 q1 q2 q3 g0 g1 g2 g3 n1 hus HROW HN HKK a1 a2 a3
                  clear us
                  obtain ⟨K5, hK5⟩ : ∃ K5, K5 = K ++ [(x, X)] := ⟨_, rfl⟩
                  have hl5 : K5.length = K.length + 1 := by rw [hK5, List.length_append]; rfl
                  have HKS5 : Hid (∀ z ∈ K5, z.1.size ≤ 140737488355328) := fun z hz => by
                    rw [hK5] at hz
                    rcases List.mem_append.1 hz with h | h
                    · exact HKS.out z h
                    · rw [List.mem_singleton.1 h]; have := HNS.out x (by simp); show x.size ≤ _; omega
                  rw [← hK5] at HK5 HIN5
                  obtain ⟨us, hus, hrow, hkk⟩ := HK5.out.row
                  have HROW : Hid (w5.ownsRow (w.heap.size + 3) 65 5 (.slice (some ⟨g, 0, none⟩) (K.length + 1) cap') K5.length (kidCells K5 us)) := hrow
                  have HN : Hid ((w5.alloc (.cells #[.string y.1, .string y.2.kind, .string y.2.data, .bool y.2.exec, .slice ya y.2.kids.length yc] 65)).heap[w5.heap.size]? = some (.cells #[.string y.1, .string y.2.kind, .string y.2.data, .bool y.2.exec, .slice ya y.2.kids.length yc] 65 (0, 0))) := row_alloc' w5 #[.string y.1, .string y.2.kind, .string y.2.data, .bool y.2.exec, .slice ya y.2.kids.length yc] 65
                  have HKK : Hid _ := hkk
                  have hl5' : K5.length ≤ 1000001 := by omega
                  have HL5 : Hid (K5.length = K.length + 1) := hl5
                  clear hrow hkk hK5 hl5
                  rw [← HL5.out] at HROW ⊢
                  have hKl : K.length ≤ j := by rw [HKE.out, List.length_take]; omega
                  go_wp2_with (at_builtin; go_must (refine wpList_append_lies _ (by rfl) _ _ 22 (by rfl) (w.heap.size + 3) 65 i0 _ 5 80 Tryz.underlying22 hi0 hz0' hz1' hz2' rfl (by omega) _ K5.length (kidCells K5 us) (by rfl) (World.ownsRow.alloc HROW.out _) ⟨w5.heap.size, 0, none⟩ 1 1 [.string y.1, .string y.2.kind, .string y.2.data, .bool y.2.exec, .slice ya y.2.kids.length yc] (by rfl) (by rfl) (World.news_of_block (cs := #[.string y.1, .string y.2.kind, .string y.2.data, .bool y.2.exec, .slice ya y.2.kids.length yc]) (t := 65) (fr := (0, 0)) HN.out) (by simp [Value.oneCell']) (by omega) (by unfold maxLen; omega) (by omega) (by simp; omega) (w5.heap.size + 1) (by simp) ?_; intro g2 cap2 w7 hown7 hgrow7 hat7 hlt7; have HG7 : Hid _ := hgrow7; have HO7 : Hid _ := hown7; have HAT7 : Hid _ := hat7; clear hgrow7 hown7 hat7))
                  have HK7 : Hid (RowQ w7 B (w.heap.size + 3) (d + dX) (K5 ++ [y]) (.slice (some ⟨g2, 0, none⟩) (K5.length + 1) cap2)) := rowQ_more (x := y) (by omega) (by omega) ((Below.refl _ _).alloc (Nat.le_refl _) _) ((HLY5.out.toQ fun b hb => .inl hb).up (by omega)) us hus HROW.out (by rw [HL5.out]; exact HKK.out) HO7.out HG7.out HAT7.out (Nat.le_succ _)
                  have HB7 : Hid (Below (w.heap.size + 3) W0 w7) := (HB5.out.alloc (by omega) _).grown HG7.out (by simp; omega) fun k hk => (World.ownsRow.lt HROW.out k hk).1
                  have hL5 := HL5.out
                  go_roundw
                  case rel =>
                    refine ⟨_, _, _, _, _, _, _, _, _, _, _, _, _, _, _, _, _, _, _, _, _, _, _, _, _, _, _, _, _, _, _, _, _, _, _, _, _, _, _, _, _, _, _, _, _, _, _, _, _, _, _, _, _, _, _, _, _, _, _, _, _, _, _, _, _, _, _, _, _, _, _, _, _, _, _, _, _, _, _, _, ?_, rfl⟩
                    exact ⟨j + 1, K5 ++ [y], some ⟨g2, 0, none⟩, cap2, true, by omega, by go_num, rfl, by rw [List.length_append]; rfl, by rw [List.length_append, List.length_singleton]; omega, (fun z hz => by
                      rcases List.mem_append.1 hz with h | h
                      · exact HKS5.out z h
                      · rw [List.mem_singleton.1 h]; exact HKN.out y (List.mem_of_getElem? HY.out)), HB7.out, by rw [List.length_append]; exact HK7.out, HIN5.out⟩
                  case measure => simp [intOf]; omega
              | cons r0 r1 =>
                have HNS0 : Hid (setS X dr (x :: r0 :: r1) t = none) := show _ = _ by unfold setS; rw [if_neg (by rw [HD.out]; decide), if_neg (by rw [HT1.out]; decide), if_neg (by simp)]
                go_wp2_with fail
                refine bodyPost_ret (v := .tuple #[.agg #[.string t.kind, .string t.data, .bool t.exec, .slice (some ⟨kb, ko, none⟩) t.kids.length tc], .bool false]) (by simp [results, Tryz.results45, go_sem, q0, q1, q2, q3]) rfl ?_
                have hS := ((((But1.refl (w.heap.size + 1 + 1) W1).set 0 (.string t.kind)).set 1 (.string t.data)).set 2 (.bool t.exec)).set 3 (.slice (some ⟨kb, ko, none⟩) t.kids.length tc)
                exact ⟨hS.below (HBW.out.trans (HBW1.out.mono (by omega))) (by omega), .inl ⟨_, _, _, _, _, _, HNS0.out, rfl⟩⟩
      · have hjl : j = t.kids.length := by omega
        have HJL : Hid (j = t.kids.length) := hjl
        clear hjl
        obtain ⟨⟨q0, q1, q2, q3⟩, g0, g1, g2, g3⟩ := row4b ((HB.out.block (w.heap.size + 1 + 1) (by omega)).trans HX2.out)
        cases b with
        | true =>
          have HIN : Hid (setS X dr (x :: r) t = some { t with kids := K }) := by
            obtain ⟨h1, H, h2, h3⟩ : p < j ∧ ∃ H, K = H ++ (t.kids.drop (p + 1)).take (j - (p + 1)) ∧ setS X dr (x :: r) t = some { t with kids := H ++ t.kids.drop (p + 1) } := hin
            show _ = _
            rw [h3, h2, List.take_of_length_le (by rw [List.length_drop, HJL.out]; exact Nat.le_refl _)]
          clear hin
          go_wp2_with fail
          refine bodyPost_ret (v := .tuple #[.agg #[.string t.kind, .string t.data, .bool t.exec, .slice ka K.length kc], .bool true]) (by simp [results, Tryz.results45, go_sem, q0, q1, q2, q3]) rfl ?_
          obtain ⟨w9, h9⟩ : ∃ w9, w9 = ((((wr.setCell ⟨w.heap.size, 3, none⟩ (.slice ka K.length kc)).setCell ⟨w.heap.size + 1 + 1, 0, none⟩ (.string t.kind)).setCell ⟨w.heap.size + 1 + 1, 1, none⟩ (.string t.data)).setCell ⟨w.heap.size + 1 + 1, 2, none⟩ (.bool t.exec)).setCell ⟨w.heap.size + 1 + 1, 3, none⟩ (.slice ka K.length kc) := ⟨_, rfl⟩
          have hb9 : Below w.heap.size w w9 := by
            rw [h9]
            exact ((((HBR.out.setCell (Nat.le_refl w.heap.size) _).setCell (show w.heap.size ≤ w.heap.size + 1 + 1 by omega) _).setCell (show w.heap.size ≤ w.heap.size + 1 + 1 by omega) _).setCell (show w.heap.size ≤ w.heap.size + 1 + 1 by omega) _).setCell (show w.heap.size ≤ w.heap.size + 1 + 1 by omega) _
          have hs9 : w9.heap.size = wr.heap.size := by rw [h9]; simp [World.setCell]
          have hk9 : ∀ k, k ≠ w.heap.size → k ≠ w.heap.size + 1 + 1 → w9.heap[k]? = wr.heap[k]? := fun k h1 h2 => by
            rw [h9, Below.heap_setCell _ _ _ _ h2, Below.heap_setCell _ _ _ _ h2, Below.heap_setCell _ _ _ _ h2, Below.heap_setCell _ _ _ _ h2, Below.heap_setCell _ _ _ _ h1]
          rw [← h9]
          refine ⟨hb9, .inr ⟨_, _, HIN.out, rfl, ((HK.out.lies (by omega) HKS.out).up (e := d + 1 + dX) (by omega)).kept (fun k hk => hk9 k (by omega) (by omega)) fun k hk => ?_⟩⟩
          rcases hk with hk | hk
          · exact .inl hk
          · exact .inr ⟨by omega, by rw [hs9]; exact hk.2⟩
        | false =>
          obtain ⟨hjp, hKe⟩ : j ≤ p ∧ K = t.kids.take j := hin
          have hple := place_le t.kids x
          have HPL : Hid (placeOf t.kids x = t.kids.length) := show _ = _ by have := HJL.out; omega
          have HT1 : Hid (thereAt t.kids x = false) := there_none HPL.out
          have HKE : Hid (K = t.kids) := show _ = _ by rw [hKe, HJL.out, List.take_length]
          clear hKe hple
          cases r with
          | nil =>
            cases dr with
            | true =>
              have HNS0 : Hid (setS X true [x] t = none) := show _ = _ by unfold setS; rw [if_neg (by rw [HD.out]; decide), if_neg (by rw [HT1.out]; decide), if_neg (by decide)]
              go_wp2_with fail
              refine bodyPost_ret (v := .tuple #[.agg #[.string t.kind, .string t.data, .bool t.exec, .slice ta t.kids.length tc], .bool false]) (by simp [results, Tryz.results45, go_sem, q0, q1, q2, q3]) rfl ?_
              have hS := ((((But1.refl (w.heap.size + 1 + 1) wr).set 0 (.string t.kind)).set 1 (.string t.data)).set 2 (.bool t.exec)).set 3 (.slice ta t.kids.length tc)
              exact ⟨hS.below (HBW.out.trans (HB.out.mono (by omega))) (by omega), .inl ⟨_, _, _, _, _, _, HNS0.out, rfl⟩⟩
            | false =>
              obtain ⟨⟨o0, o1, o2, o3⟩, _⟩ := row4b ((HB.out.block (w.heap.size + 1) (by omega)).trans HX1.out)
              obtain ⟨us, hus, hrow, hkk⟩ := HK.out.row
              have HROW : Hid (wr.ownsRow (w.heap.size + 3) 65 5 (.slice ka K.length kc) K.length (kidCells K us)) := hrow
              have HN : Hid ((wr.alloc (.cells #[.string x, .string X.kind, .string X.data, .bool X.exec, .slice xa X.kids.length xc] 65)).heap[wr.heap.size]? = some (.cells #[.string x, .string X.kind, .string X.data, .bool X.exec, .slice xa X.kids.length xc] 65 (0, 0))) := row_alloc' wr #[.string x, .string X.kind, .string X.data, .bool X.exec, .slice xa X.kids.length xc] 65
              have HKK : Hid _ := hkk
              have a1 : (Value.slice ka K.length kc).ownBlock ≠ some nb := fun e => by have := (hrow.lt _ e).1; omega
              have a2 : (Value.slice ka K.length kc).ownBlock ≠ some (w.heap.size + 1) := fun e => by have := (hrow.lt _ e).1; omega
              clear hrow hkk
              go_upto_region 26 with fail
              go_region_held3 (fun w' => w'.cell? ⟨nb, no, none⟩ = some (.string x) ∧ w'.cell? ⟨w.heap.size + 1, 0, none⟩ = some (.string X.kind) ∧ w'.cell? ⟨w.heap.size + 1, 1, none⟩ = some (.string X.data) ∧ w'.cell? ⟨w.heap.size + 1, 2, none⟩ = some (.bool X.exec) ∧ w'.cell? ⟨w.heap.size + 1, 3, none⟩ = some (.slice xa X.kids.length xc))
                (first
                  | go_keep
                  | (go_split_ands
                     refine ⟨?_, ?_, ?_, ?_, ?_⟩
                     · (rw [hgrow.cell_far _ (by first | (simp; done) | (simp; omega)) (Ne.symm a1)]; assumption)
                     · (rw [hgrow.cell_far _ (by first | (simp; done) | (simp; omega)) (Ne.symm a2)]; assumption)
                     · (rw [hgrow.cell_far _ (by first | (simp; done) | (simp; omega)) (Ne.symm a2)]; assumption)
                     · (rw [hgrow.cell_far _ (by first | (simp; done) | (simp; omega)) (Ne.symm a2)]; assumption)
                     · (rw [hgrow.cell_far _ (by first | (simp; done) | (simp; omega)) (Ne.symm a2)]; assumption)))
                ((refine step_append_lies _ (by rfl) _ _ _ (by rfl) (w.heap.size + 3) 65 i0 _ 5 80 Tryz.underlying22 hi0 hz0' hz1' hz2' rfl (by omega) (.slice ka K.length kc) K.length (kidCells K us) (by rfl) ((World.ownsRow.alloc HROW.out _).drew) ⟨wr.heap.size, 0, none⟩ 1 1 [.string x, .string X.kind, .string X.data, .bool X.exec, .slice xa X.kids.length xc] (by rfl) (by rfl) (World.news_of_block (cs := #[.string x, .string X.kind, .string X.data, .bool X.exec, .slice xa X.kids.length xc]) (t := 65) (fr := (0, 0)) HN.out) (by simp [Value.oneCell']) (by omega) (by unfold maxLen; omega) (by omega) (by simp; omega) (wr.heap.size + 1) (by simp) ?_; intro g cap' w5 hown5 hgrow hat hlt5))
              have HK5 : Hid (RowQ w5 B (w.heap.size + 3) (d + dX) (K ++ [(x, X)]) (.slice (some ⟨g, 0, none⟩) (K.length + 1) cap')) := rowQ_more (x := (x, X)) (wa := (wr.alloc (.cells #[.string x, .string X.kind, .string X.data, .bool X.exec, .slice xa X.kids.length xc] 65)).drew) (by omega) (by omega) ((Below.refl _ _).alloc (Nat.le_refl _) _).drew (((HLX.out.below HBR.out hB).toQ fun b hb => .inl hb).up (by omega)) us hus HROW.out HKK.out hown5 hgrow hat (by omega)
              have HB5 : Hid (Below (w.heap.size + 3) W0 w5) := ((HB.out.alloc (by omega) _).drew).grown hgrow (by simp; omega) fun k hk => (World.ownsRow.lt HROW.out k hk).1
              have HBR5 : Hid (Below w.heap.size w w5) := HBW.out.trans (HB5.out.mono (by omega))
              have HKS5 : Hid (∀ z ∈ K ++ [(x, X)], z.1.size ≤ 140737488355328) := fun z hz => by
                rcases List.mem_append.1 hz with h | h
                · exact HKS.out z h
                · rw [List.mem_singleton.1 h]; have := HNS.out x (by simp); show x.size ≤ _; omega
              have HIN : Hid (setS X false [x] t = some { t with kids := K ++ [(x, X)] }) := show _ = _ by
                unfold setS
                rw [if_neg (by rw [HD.out]; decide), if_neg (by rw [HT1.out]; decide), if_pos (by decide), HPL.out, List.take_length, List.drop_length, HKE.out]
              have HLIE : Hid (LiesQ w5 (fun b => b < B ∨ (w.heap.size + 3 ≤ b ∧ b < w5.heap.size)) (d + 1 + dX) (K ++ [(x, X)]) (.slice (some ⟨g, 0, none⟩) (K.length + 1) cap')) := (HK5.out.lies (by rw [List.length_append, List.length_singleton]; omega) HKS5.out).up (by omega)
              obtain ⟨⟨z0, z1, z2, z3⟩, e0, e1, e2, e3⟩ := row4b ((HB5.out.block w.heap.size (by omega)).trans HX0.out)
              obtain ⟨⟨p0, p1, p2, p3⟩, l0, l1, l2, l3⟩ := row4b ((HB5.out.block (w.heap.size + 1 + 1) (by omega)).trans HX2.out)
              clear q0 q1 q2 q3 g0 g1 g2 g3 o0 o1 o2 o3 y0 y1 y2 y3 f0 f1 f2 f3 hgrow hown5 hat
              go_wp2_with fail
              refine bodyPost_ret (v := .tuple #[.agg #[.string t.kind, .string t.data, .bool t.exec, .slice (some ⟨g, 0, none⟩) (K.length + 1) cap'], .bool true]) (by simp [results, Tryz.results45, go_sem, p0, p1, p2, p3]) rfl ?_
              obtain ⟨w9, h9⟩ : ∃ w9, w9 = ((((w5.setCell ⟨w.heap.size, 3, none⟩ (.slice (some ⟨g, 0, none⟩) (K.length + 1) cap')).setCell ⟨w.heap.size + 1 + 1, 0, none⟩ (.string t.kind)).setCell ⟨w.heap.size + 1 + 1, 1, none⟩ (.string t.data)).setCell ⟨w.heap.size + 1 + 1, 2, none⟩ (.bool t.exec)).setCell ⟨w.heap.size + 1 + 1, 3, none⟩ (.slice (some ⟨g, 0, none⟩) (K.length + 1) cap') := ⟨_, rfl⟩
              have hb9 : Below w.heap.size w w9 := by
                rw [h9]
                exact ((((HBR5.out.setCell (Nat.le_refl w.heap.size) _).setCell (show w.heap.size ≤ w.heap.size + 1 + 1 by omega) _).setCell (show w.heap.size ≤ w.heap.size + 1 + 1 by omega) _).setCell (show w.heap.size ≤ w.heap.size + 1 + 1 by omega) _).setCell (show w.heap.size ≤ w.heap.size + 1 + 1 by omega) _
              have hs9 : w9.heap.size = w5.heap.size := by rw [h9]; simp [World.setCell]
              have hk9 : ∀ k, k ≠ w.heap.size → k ≠ w.heap.size + 1 + 1 → w9.heap[k]? = w5.heap[k]? := fun k h1 h2 => by
                rw [h9, Below.heap_setCell _ _ _ _ h2, Below.heap_setCell _ _ _ _ h2, Below.heap_setCell _ _ _ _ h2, Below.heap_setCell _ _ _ _ h2, Below.heap_setCell _ _ _ _ h1]
              rw [← h9]
              refine ⟨hb9, .inr ⟨_, _, HIN.out, rfl, HLIE.out.kept (fun k hk => hk9 k (by omega) (by omega)) fun k hk => ?_⟩⟩
              rcases hk with hk | hk
              · exact .inl hk
              · exact .inr ⟨by omega, by rw [hs9]; exact hk.2⟩
          | cons r0 r1 =>
            have HNS0 : Hid (setS X dr (x :: r0 :: r1) t = none) := show _ = _ by unfold setS; rw [if_neg (by rw [HD.out]; decide), if_neg (by rw [HT1.out]; decide), if_neg (by simp)]
            go_wp2_with fail
            refine bodyPost_ret (v := .tuple #[.agg #[.string t.kind, .string t.data, .bool t.exec, .slice ta t.kids.length tc], .bool false]) (by simp [results, Tryz.results45, go_sem, q0, q1, q2, q3]) rfl ?_
            have hS := ((((But1.refl (w.heap.size + 1 + 1) wr).set 0 (.string t.kind)).set 1 (.string t.data)).set 2 (.bool t.exec)).set 3 (.slice ta t.kids.length tc)
            exact ⟨hS.below (HBW.out.trans (HB.out.mono (by omega))) (by omega), .inl ⟨_, _, _, _, _, _, HNS0.out, rfl⟩⟩
end Go.Proofs.YtpjjpmikhjlgnaaGreatDoor
