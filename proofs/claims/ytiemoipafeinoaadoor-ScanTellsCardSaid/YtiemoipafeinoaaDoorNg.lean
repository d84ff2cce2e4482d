/-
  The contracts of package scan's lookAll and Refs.
  Conditions: the tree and the names lie in memory, and are small.
-/
import Derived.Test.YtiemoipafeinoaaDoorNc
import Derived.Test.YtiemoipafeinoaaDoorCheck
import Derived.Test.YtiemoipafeinoaaDoorSmall
import Derived.Test.YtiemoipafeinoaaDoorOwn
namespace Go.Proofs.YtiemoipafeinoaaDoor
open Go.RowKit Go.Maps
attribute [local go_sem ↓] Go.wp_at_zero Go.wp_at_succ

/-- All mentions of a tree's texts. -/
def allM : Nat → Tree → List ByteArray
  | 0, _ => []
  | d + 1, t => mn t.data.data.toList ++ t.kids.flatMap fun x => allM d x.2
/-- A tree's texts are small, and in all so many bytes. -/
def SmA : Nat → Nat → Tree → Prop
  | 0, _, _ => True
  | d + 1, n, t => t.data.size ≤ 1000000 ∧ ∃ ns : List Nat, ns.length = t.kids.length ∧ t.data.size + ns.sum ≤ n ∧ ∀ (i : Nat) (x : ByteArray × Tree) (m : Nat), t.kids[i]? = some x → ns[i]? = some m → SmA d m x.2
theorem allM_len : ∀ (d n : Nat) (t : Tree), SmA d n t → (allM d t).length ≤ n
  | 0, _, _, _ => Nat.zero_le _
  | d + 1, n, t, ⟨_, ns, h1, h2, h3⟩ => by
    have hm := mn_len t.data.data.toList
    have hs : t.data.data.toList.length = t.data.size := rfl
    have hk : ∀ (l : List (ByteArray × Tree)) (ns : List Nat), ns.length = l.length → (∀ (i : Nat) (x : ByteArray × Tree) (m : Nat), l[i]? = some x → ns[i]? = some m → SmA d m x.2) → (l.flatMap fun x => allM d x.2).length ≤ ns.sum := by
      intro l
      induction l with
      | nil => intro ns _ _; simp
      | cons y l ih =>
        intro ns hl hx
        cases ns with
        | nil => simp at hl
        | cons m ns =>
          rw [List.flatMap_cons, List.length_append, List.sum_cons]
          have e1 := allM_len d m y.2 (hx 0 y m rfl rfl)
          have e2 := ih ns (by simpa using hl) (fun i x m h1 h2 => hx (i + 1) x m h1 h2)
          omega
    rw [allM, List.length_append]
    have := hk t.kids ns h1 h3
    omega
/-- What may stand ahead of kid j. -/
def allTo (d : Nat) (t : Tree) (j : Nat) : List ByteArray := mn t.data.data.toList ++ (t.kids.take j).flatMap fun x => allM d x.2
theorem allTo_succ {d : Nat} {t : Tree} {j : Nat} {x : ByteArray × Tree} (h : t.kids[j]? = some x) : allTo d t (j + 1) = allTo d t j ++ allM d x.2 := by
  obtain ⟨hj, e⟩ := List.getElem?_eq_some_iff.1 h
  unfold allTo
  rw [List.take_succ_eq_append_getElem hj, List.flatMap_append, e, List.append_assoc]
  simp
theorem allTo_all (d : Nat) (t : Tree) : allTo d t t.kids.length = allM (d + 1) t := by unfold allTo; rw [List.take_length]; rfl
theorem sum_take (ns : List Nat) {j m : Nat} (h : ns[j]? = some m) : (ns.take j).sum + m ≤ ns.sum := by
  obtain ⟨hj, e⟩ := List.getElem?_eq_some_iff.1 h
  have : ns = ns.take j ++ m :: ns.drop (j + 1) := by rw [← e, List.getElem_cons_drop, List.take_append_drop]
  have e2 : ns.sum = (ns.take j ++ m :: ns.drop (j + 1)).sum := by rw [← this]
  rw [List.sum_append, List.sum_cons] at e2
  omega
theorem allTo_len {d : Nat} {t : Tree} {ns : List Nat} (h1 : ns.length = t.kids.length) (h3 : ∀ (i : Nat) (x : ByteArray × Tree) (m : Nat), t.kids[i]? = some x → ns[i]? = some m → SmA d m x.2) (j : Nat) (hj : j ≤ t.kids.length) : (allTo d t j).length ≤ t.data.size + (ns.take j).sum := by
  induction j with
  | zero =>
    have hm := mn_len t.data.data.toList
    have hs : t.data.data.toList.length = t.data.size := rfl
    unfold allTo; simp; omega
  | succ j ih =>
    have hlt : j < t.kids.length := by omega
    have hx : t.kids[j]? = some t.kids[j] := List.getElem?_eq_getElem hlt
    have hlt2 : j < ns.length := by omega
    have hm : ns[j]? = some ns[j] := List.getElem?_eq_getElem hlt2
    rw [allTo_succ hx, List.length_append, List.take_succ_eq_append_getElem hlt2, List.sum_append]
    have := allM_len d _ _ (h3 j _ _ hx hm)
    have := ih (by omega)
    simp
    omega
set_option maxRecDepth 100000 in
set_option maxHeartbeats 2000000 in
theorem lookAll_any (B mb : Nat) (names : List ByteArray) (hBm : B ≤ mb) : ∀ (d n : Nat) (t : Tree) (u : Value) (M : List ByteArray) (w : World), Lies w B d t.kids u → TalAt w mb names M → SmA d n t → names.length + M.length + n ≤ 1000000000 →
    Calls Tryd.prog 26 #[.map (some mb), .agg #[.string t.kind, .string t.data, .bool t.exec, u]] w fun e w' => e = .returned (.tuple #[]) ∧ TalAt w' mb names (M ++ allM d t) ∧ w.grownBy w' (some mb) := by
  intro d
  induction d with
  | zero => intro n t u M w hl; exact absurd hl (by simp [Lies])
  | succ d ih =>
    intro n t u M w hl hT hS hM
    obtain ⟨hds, ns, hn1, hn2, hn3⟩ := hS
    have hlo := hl.open
    obtain ⟨ta, tc, rfl⟩ := hl.form
    have hlen := hlo.1
    have hmlt := hT.lt
    obtain ⟨w1, hw1⟩ : ∃ w1, w1 = w.alloc (.cells #[.string t.kind, .string t.data, .bool t.exec, .slice ta t.kids.length tc] 24) := ⟨_, rfl⟩
    have b1 : Below w.heap.size w w1 := by rw [hw1]; exact (Below.refl _ _).alloc (Nat.le_refl _) _
    have q1 : w1.heap[w.heap.size]? = some (.cells #[.string t.kind, .string t.data, .bool t.exec, .slice ta t.kids.length tc] 24 (0, 0)) := by rw [hw1]; exact heap_alloc_last _ _
    have g1 : w1.cell? ⟨w.heap.size, 1, none⟩ = some (.string t.data) := by rw [cell_of_row _ _ _ _ _ _ q1]; rfl
    have HLO : Hid _ := look_any t.data w1 (hT.below b1) hds (by omega)
    have HL : Hid _ := hlo
    have HIH : Hid _ := ih
    have HB1 : Hid (w.grownBy w1 (some mb)) := grown_of_below b1
    have HW1 : Hid (w1 = w.alloc (.cells #[.string t.kind, .string t.data, .bool t.exec, .slice ta t.kids.length tc] 24)) := hw1
    have HQ1 : Hid (w1.heap[w.heap.size]? = some (.cells #[.string t.kind, .string t.data, .bool t.exec, .slice ta t.kids.length tc] 24 (0, 0))) := q1
    have HN : Hid ((∀ (i : Nat) (x : ByteArray × Tree) (m : Nat), t.kids[i]? = some x → ns[i]? = some m → SmA d m x.2) ∧ ns.length = t.kids.length ∧ t.data.size + ns.sum ≤ n ∧ names.length + M.length + n ≤ 1000000000 ∧ mb < w.heap.size) := ⟨hn3, hn1, hn2, hM, hmlt⟩
    clear hlo hl ih hT b1 hn1 hn2 hn3 q1 hw1
    go_enter Tryd.func26, Tryd.ntmps26
    go_wp2_with fail
    rw [← HW1.out]
    go_wp2_with fail
    refine Calls.mono HLO.out ?_
    clear HLO
    rintro e w2 ⟨rfl, hT2, hg2⟩
    have q2 : w2.heap[w.heap.size]? = some (.cells #[.string t.kind, .string t.data, .bool t.exec, .slice ta t.kids.length tc] 24 (0, 0)) := by
      rw [hg2.block _ (lt_of_row HQ1.out) (fun e => by have e2 : w.heap.size = mb := Option.some.inj e; have := HN.out.2.2.2.2; omega)]; exact HQ1.out
    have g3 : w2.cell? ⟨w.heap.size, 3, none⟩ = some (.slice ta t.kids.length tc) := by rw [cell_of_row _ _ _ _ _ _ q2]; rfl
    have HI2 : Hid (TalAt w2 mb names (M ++ allTo d t 0) ∧ w.grownBy w2 (some mb)) := ⟨by unfold allTo; simpa using hT2, grown_trans HB1.out hg2⟩
    clear hT2 hg2 q2 g1 HQ1
    go_wp2_with fail
    go_loopw [13] (fun i wr => ∃ j : Nat, j ≤ t.kids.length ∧ i = .int .i64 j ∧ Hid (TalAt wr mb names (M ++ allTo d t j) ∧ w.grownBy wr (some mb))) (fun i _ => t.kids.length - (intOf i).toNat)
    case atStart => exact ⟨0, Nat.zero_le _, rfl, HI2⟩
    case round =>
      obtain ⟨j, hj, rfl, HI⟩ := hrel
      by_cases hlt : j < t.kids.length
      · obtain ⟨x, hx⟩ : ∃ x, t.kids[j]? = some x := ⟨t.kids[j], List.getElem?_eq_getElem hlt⟩
        obtain ⟨b, off, rfl, ux, K0⟩ : ∃ b off, ta = some ⟨b, off, none⟩ ∧ ∃ u, KidAt w B d b off j x u := by
          rcases HL.out.2 with ⟨h0, _⟩ | ⟨b, off, cp, e, _, hk⟩
          · rw [h0] at hlt; exact absurd hlt (by simp)
          · simp only [Value.slice.injEq] at e
            exact ⟨b, off, e.1, hk j x hx⟩
        have hbel : Below B w wr := ⟨HI.out.2.os, HI.out.2.tape, HI.out.2.output, HI.out.2.size, fun k hk => HI.out.2.block k (by have := HN.out.2.2.2.2; omega) (fun e => by have e2 : k = mb := Option.some.inj e; omega)⟩
        have K := K0.below hbel (Nat.le_refl _)
        obtain ⟨xa, xc, rfl⟩ := K.lies.form
        have n0 := K.name
        have n1 := K.kind
        have n2 := K.data
        have n3 := K.exec
        have n4 := K.kids
        have hltn : j < ns.length := by rw [HN.out.2.1]; exact hlt
        have hm : ns[j]? = some ns[j] := List.getElem?_eq_getElem hltn
        have hlen2 := allTo_len HN.out.2.1 HN.out.1 j hj
        have hsum := sum_take ns hm
        obtain ⟨w3, hw3⟩ : ∃ w3, w3 = wr.alloc (.cells #[.string x.1, .string x.2.kind, .string x.2.data, .bool x.2.exec, .slice xa x.2.kids.length xc] 48) := ⟨_, rfl⟩
        have b3 : Below wr.heap.size wr w3 := by rw [hw3]; exact (Below.refl _ _).alloc (Nat.le_refl _) _
        have HC : Hid _ := HIH.out ns[j] x.2 (.slice xa x.2.kids.length xc) (M ++ allTo d t j) w3 (K.lies.below b3 (by have := HN.out.2.2.2.2; have := HI.out.2.size; omega)) (HI.out.1.below b3) (HN.out.1 j x _ hx hm) (by rw [List.length_append]; have := HN.out.2.2; omega)
        have HG3 : Hid (w.grownBy w3 (some mb)) := grown_trans HI.out.2 (grown_of_below b3)
        have HW3 : Hid (w3 = wr.alloc (.cells #[.string x.1, .string x.2.kind, .string x.2.data, .bool x.2.exec, .slice xa x.2.kids.length xc] 48)) := hw3
        have q3 : w3.heap[wr.heap.size]? = some (.cells #[.string x.1, .string x.2.kind, .string x.2.data, .bool x.2.exec, .slice xa x.2.kids.length xc] 48 (0, 0)) := by rw [hw3]; exact heap_alloc_last _ _
        have HX : Hid (allTo d t (j + 1) = allTo d t j ++ allM d x.2) := allTo_succ hx
        have hj0 : (0 : Int) ≤ (j : Int) := by omega
        have hj1 : (j : Int) < (t.kids.length : Int) := by omega
        have c1 : w3.cell? ⟨wr.heap.size, 1, none⟩ = some (.string x.2.kind) := by rw [cell_of_row _ _ _ _ _ _ q3]; rfl
        have c2 : w3.cell? ⟨wr.heap.size, 2, none⟩ = some (.string x.2.data) := by rw [cell_of_row _ _ _ _ _ _ q3]; rfl
        have c3 : w3.cell? ⟨wr.heap.size, 3, none⟩ = some (.bool x.2.exec) := by rw [cell_of_row _ _ _ _ _ _ q3]; rfl
        have c4 : w3.cell? ⟨wr.heap.size, 4, none⟩ = some (.slice xa x.2.kids.length xc) := by rw [cell_of_row _ _ _ _ _ _ q3]; rfl
        clear K K0 hx hm hlen2 hsum hltn hbel b3 hw3 q3
        go_upto_region 5 with fail
        rw [← HW3.out]
        go_wp2_with fail
        refine Calls.mono HC.out ?_
        clear HC
        rintro e w4 ⟨rfl, h4, g4⟩
        have HI2 : Hid (TalAt w4 mb names (M ++ allTo d t (j + 1)) ∧ w.grownBy w4 (some mb)) := ⟨by rw [HX.out, ← List.append_assoc]; exact h4, grown_trans HG3.out g4⟩
        clear h4 g4
        go_wp2_with fail
        go_roundw
        case rel => exact ⟨j + 1, by omega, by go_num, HI2⟩
        case measure => simp [intOf]; omega
      · have e : j = t.kids.length := by omega
        subst e
        have HE : Hid (TalAt wr mb names (M ++ allM (d + 1) t) ∧ w.grownBy wr (some mb)) := by rw [← allTo_all]; exact HI.out
        go_wp2_with fail
        go_returns
        exact ⟨rfl, HE.out⟩

theorem allM_pre : ∀ (d : Nat) (p : ByteArray) (k : Nat) (t : Tree), allM d t = (pre d p k t).flatMap fun x => mn x.2.2.data.data.toList
  | 0, _, _, _ => rfl
  | d + 1, p, k, t => by
    rw [allM, pre, List.flatMap_cons, List.flatMap_assoc]
    congr 1
    congr 1
    funext y
    exact allM_pre d _ _ _
theorem smA_of : ∀ (d : Nat) (p : ByteArray) (k : Nat) (t : Tree), (∀ x ∈ pre d p k t, x.2.2.data.size ≤ 1000000) → SmA d (((pre d p k t).map fun x => x.2.2.data.size).sum) t
  | 0, _, _, _, _ => trivial
  | d + 1, p, k, t, h => by
    simp only [pre] at h ⊢
    refine ⟨h (p, k, t) List.mem_cons_self, t.kids.map fun y => ((pre d (p ++ slash ++ y.1) (k + 1) y.2).map fun x => x.2.2.data.size).sum, by simp, ?_, fun i x m hx hm => ?_⟩
    · rw [List.map_cons, List.sum_cons, List.map_flatMap]
      refine Nat.add_le_add_left (Nat.le_of_eq ?_) _
      generalize t.kids = l
      induction l with
      | nil => rfl
      | cons y l ih => rw [List.map_cons, List.sum_cons, List.flatMap_cons, List.sum_append, ih]
    · rw [List.getElem?_map, hx] at hm
      obtain rfl := Option.some.inj hm
      exact smA_of d _ _ x.2 fun z hz => h z (List.mem_cons_of_mem _ (List.mem_flatMap.2 ⟨x, List.mem_of_getElem? hx, hz⟩))
theorem sum_le : ∀ (l : List (ByteArray × Nat × Tree)), (∀ x ∈ l, x.2.2.data.size ≤ 2001) → (l.map fun x => x.2.2.data.size).sum ≤ l.length * 2001
  | [], _ => Nat.zero_le _
  | y :: l, h => by
    have h1 := h y List.mem_cons_self
    have h2 := sum_le l fun x hx => h x (List.mem_cons_of_mem _ hx)
    rw [List.map_cons, List.sum_cons, List.length_cons]
    omega
/-- What a tree mentions. -/
def refM (d : Nat) (t : Tree) : List ByteArray := if treeErr d t = none then allM d t else []
theorem fd_nil (names : List ByteArray) : IsFd names [] [] := ⟨List.Pairwise.nil, fun x => by simp⟩
theorem IsFd.len {names M r : List ByteArray} (h : IsFd names M r) : r.length ≤ names.length := nodup_len (h.1.imp fun h e => bl_ne h e) fun x hx => ((h.2 x).1 hx).1
set_option maxRecDepth 100000 in
set_option maxHeartbeats 1000000 in
theorem refs_any (a : Nat → Addr) (d B : Nat) (t : Tree) (u v : Value) (names : List ByteArray) (w : World) (S : SentsB a B w) (hB : B ≤ w.heap.size) (hl : Lies w B d t.kids u) (hok : OkItems (pre d ByteArray.empty 0 t)) (hfew : (pre d ByteArray.empty 0 t).length ≤ 1000) (hv : Texts w v names) (hz : ∀ x ∈ names, x.size ≤ 1000000) (hln : names.length ≤ 1000) :
    Calls Tryd.prog 11 #[.agg #[.string t.kind, .string t.data, .bool t.exec, u], v] w fun e w' => (∃ r va vc, e = .returned (.slice va r.length vc) ∧ r.length ≤ 1000 ∧ Hid (IsFd names (refM d t) r ∧ Texts w' (.slice va r.length vc) r)) ∧ Below w.heap.size w w' := by
  obtain ⟨ta, tc, rfl⟩ := hl.form
  obtain ⟨ad, cap, rfl, _⟩ := id hv
  obtain ⟨w1, hw1⟩ : ∃ w1, w1 = w.alloc (.cells #[.string t.kind, .string t.data, .bool t.exec, .slice ta t.kids.length tc] 24) := ⟨_, rfl⟩
  have b1 : Below w.heap.size w w1 := by rw [hw1]; exact (Below.refl _ _).alloc (Nat.le_refl _) _
  have q1 : w1.heap[w.heap.size]? = some (.cells #[.string t.kind, .string t.data, .bool t.exec, .slice ta t.kids.length tc] 24 (0, 0)) := by rw [hw1]; exact heap_alloc_last _ _
  have HCK : Hid _ := check_any a d B t (.slice ta t.kids.length tc) w1 (S.below b1 hB) (Nat.le_trans hB b1.size) (hl.below b1 hB) (alive_ck _ 0 (by omega) hok)
  have hsum := sum_le _ fun x hx => (hok x hx).2.2
  have hsm := smA_of d ByteArray.empty 0 t fun x hx => by have := (hok x hx).2.2; omega
  have HSM : Hid (∃ n, SmA d n t ∧ n ≤ 1000 * 2001) := ⟨_, hsm, Nat.le_trans hsum (Nat.mul_le_mul_right _ hfew)⟩
  have HL : Hid (Lies w1 B d t.kids (.slice ta t.kids.length tc)) := hl.below b1 hB
  have HV : Hid (Texts w1 (.slice ad names.length cap) names) := hv.below b1
  have HZ : Hid (∀ x ∈ names, x.size ≤ 1000000) := hz
  have HB1 : Hid (Below w.heap.size w w1) := b1
  have HQ1 : Hid (w1.heap[w.heap.size]? = some (.cells #[.string t.kind, .string t.data, .bool t.exec, .slice ta t.kids.length tc] 24 (0, 0))) := q1
  have HW1 : Hid (w1 = w.alloc (.cells #[.string t.kind, .string t.data, .bool t.exec, .slice ta t.kids.length tc] 24)) := hw1
  clear hl hok hfew hv hz b1 q1 hw1 hsum hsm S
  go_enter Tryd.func11, Tryd.ntmps11
  go_wp2_with fail
  rw [← HW1.out]
  refine Calls.mono HCK.out ?_
  clear HCK
  rintro e w2 ⟨rfl, hb2⟩
  have HB2 : Hid (Below w.heap.size w w2) := HB1.out.trans (hb2.mono HB1.out.size)
  cases hte : treeErr d t with
  | some c =>
    rw [show errV a (some c) = .iface 140 (.pointer (some (a c))) from rfl]
    have HF : Hid (IsFd names (refM d t) []) := by unfold refM; rw [if_neg (by rw [hte]; simp)]; exact fd_nil _
    clear hte
    go_wp2_with fail
    go_ret
    exact ⟨⟨[], none, 0, rfl, by simp, HF.out, ⟨none, 0, rfl, fun i x h => by simp at h⟩⟩, HB2.out⟩
  | none =>
    rw [show errV a none = .nilIface from rfl]
    have HF : Hid (refM d t = allM d t) := by show _ = _; unfold refM; rw [if_pos hte]
    have HA : Hid _ := ask_any (.slice ad names.length cap) names w2 (HV.out.below hb2) HZ.out (by omega)
    have HL2 : Hid (Lies w2 B d t.kids (.slice ta t.kids.length tc)) := HL.out.below hb2 (Nat.le_trans hB HB1.out.size)
    have HQ2 : Hid (w2.heap[w.heap.size]? = some (.cells #[.string t.kind, .string t.data, .bool t.exec, .slice ta t.kids.length tc] 24 (0, 0))) := (hb2.block _ (lt_of_row HQ1.out)).trans HQ1.out
    clear hte hb2 HL HQ1 HV HZ
    go_wp2_with fail
    refine Calls.mono HA.out ?_
    clear HA
    rintro e w3 ⟨rfl, h3, b3⟩
    have q3 : w3.heap[w.heap.size]? = some (.cells #[.string t.kind, .string t.data, .bool t.exec, .slice ta t.kids.length tc] 24 (0, 0)) := (b3.block _ (lt_of_row HQ2.out)).trans HQ2.out
    have y0 : w3.cell? ⟨w.heap.size, 0, none⟩ = some (.string t.kind) := by rw [cell_of_row _ _ _ _ _ _ q3]; rfl
    have y1 : w3.cell? ⟨w.heap.size, 1, none⟩ = some (.string t.data) := by rw [cell_of_row _ _ _ _ _ _ q3]; rfl
    have y2 : w3.cell? ⟨w.heap.size, 2, none⟩ = some (.bool t.exec) := by rw [cell_of_row _ _ _ _ _ _ q3]; rfl
    have y3 : w3.cell? ⟨w.heap.size, 3, none⟩ = some (.slice ta t.kids.length tc) := by rw [cell_of_row _ _ _ _ _ _ q3]; rfl
    have HB3 : Hid (Below w.heap.size w w3) := HB2.out.trans (b3.mono HB2.out.size)
    have HS2 : Hid (w.heap.size ≤ w2.heap.size) := HB2.out.size
    obtain ⟨n, hn, hn2⟩ := HSM.out
    have hBs : B ≤ w2.heap.size := Nat.le_trans hB HS2.out
    have HLA : Hid _ := lookAll_any B w2.heap.size names hBs d n t (.slice ta t.kids.length tc) [] w3 (HL2.out.below b3 hBs) h3 hn (by simp; omega)
    clear h3 b3 q3 HL2 HQ2 hn HSM
    go_wp2_with fail
    refine Calls.mono HLA.out ?_
    clear HLA y0 y1 y2 y3
    rintro e w4 ⟨rfl, h4, g4⟩
    have HB4 : Hid (Below w.heap.size w w4) := below_of_grown HB3.out HS2.out HB3.out.size g4
    rw [List.nil_append] at h4
    have HFO : Hid _ := found_any w4 h4 (by omega)
    clear h4 g4
    go_wp2_with fail
    refine Calls.mono HFO.out ?_
    clear HFO
    rintro e w5 ⟨⟨r, va, vc, rfl, hr, ho⟩, b5⟩
    have HE : Hid (IsFd names (refM d t) r ∧ Texts w5 (.slice va r.length vc) r) := ⟨by rw [HF.out]; exact hr, ho.texts⟩
    have HLE : Hid (r.length ≤ 1000) := Nat.le_trans hr.len hln
    have HB5 : Hid (Below w.heap.size w w5) := HB4.out.trans (b5.mono HB4.out.size)
    clear hr ho b5
    go_wp2_with fail
    go_ret
    exact ⟨⟨r, va, vc, rfl, HLE.out, HE⟩, HB5.out⟩
end Go.Proofs.YtiemoipafeinoaaDoor
