/-
  The contracts of the document's answer, trees as text: what is read is no larger than its text; TreeText, ReadTree, FirstOf.
  Conditions: the tree lies in memory below block B; its text has at most a million bytes.
-/
import Derived.Test.YtilkjafggfdjeaaDoorPackB
import Derived.Test.YtilkjafggfdjeaaDoorPacks3
import Derived.Test.YtilkjafggfdjeaaDoorRefT
import Derived.Test.YtilkjafggfdjeaaDoorRefV
import Derived.Test.YtilkjafggfdjeaaDoorRefW
import Derived.Test.YtilkjafggfdjeaaDoorPackH
namespace Go.Proofs.YtilkjafggfdjeaaDoor
open Go.RowKit

/-- Names and data in bounds, all the way down. -/
def RdOk (M : Nat) : Nat → Tree → Prop
  | 0, _ => False
  | d + 1, t => t.data.size ≤ M ∧ ∀ x ∈ t.kids, x.1.size ≤ M ∧ RdOk M d x.2
theorem bytesR_lens {l d r : List UInt8} (h : bytesR l = some (d, r)) : d.length ≤ l.length ∧ r.length ≤ l.length := by
  unfold bytesR at h
  split at h
  · cases h
  · rename_i n r' hn
    have := (numR_len hn).1
    split at h
    · cases h
    · injection h with h
      injection h with h1 h2
      subst h1; subst h2
      rw [List.length_take, List.length_drop]
      omega
theorem kidsR_ok {M f : Nat} {n : Nat} {l : List UInt8} (hl : l.length ≤ M)
    (ih : ∀ (m : Nat) (k : List UInt8) (t : Tree) (m' : Nat) (r : List UInt8), k.length ≤ M → nodeR f (m, k) = .ok (t, (m', r)) → RdOk M f t ∧ r.length ≤ k.length) : ∀ (c : Nat) (ks : List (ByteArray × Tree)) (m' : Nat) (r : List UInt8), kidsR (nodeR f) c (n, l) = .ok (ks, (m', r)) → (∀ x ∈ ks, x.1.size ≤ M ∧ RdOk M f x.2) ∧ r.length ≤ l.length := by
  intro c
  induction c with
  | zero =>
    intro ks m' r h
    simp only [kidsR] at h
    injection h with h
    injection h with h1 h2
    injection h2 with h2 h3
    subst h1; subst h3
    exact ⟨fun x hx => by simp at hx, Nat.le_refl _⟩
  | succ c ihc =>
    intro ks m' r h
    simp only [kidsR] at h
    cases hk : kidsR (nodeR f) c (n, l) with
    | error e => rw [hk] at h; cases h
    | ok v =>
      obtain ⟨k1, m1, r1⟩ := v
      rw [hk] at h
      simp only at h
      obtain ⟨i1, i2⟩ := ihc k1 m1 r1 hk
      unfold kidR at h
      simp only at h
      cases hb : bytesR r1 with
      | none => rw [hb] at h; cases h
      | some v =>
        obtain ⟨nm, r2⟩ := v
        rw [hb] at h
        simp only at h
        have hbl := bytesR_lens hb
        cases hn : nodeR f (m1, r2) with
        | error e => rw [hn] at h; cases h
        | ok v =>
          obtain ⟨t, m3, r3⟩ := v
          rw [hn] at h
          simp only at h
          injection h with h
          injection h with h1 h2
          injection h2 with h2 h3
          subst h1; subst h3
          obtain ⟨j1, j2⟩ := ih m1 r2 t m3 r3 (by omega) hn
          refine ⟨fun x hx => ?_, by omega⟩
          rcases List.mem_append.1 hx with hx | hx
          · exact i1 x hx
          · simp only [List.mem_singleton] at hx
            subst hx
            exact ⟨by rw [bs_size]; omega, j1⟩
theorem leafR_ok {k : ByteArray} {x : Bool} {n n' M f : Nat} {l r : List UInt8} {t : Tree} (hl : l.length ≤ M) (h : leafR k x n l = .ok (t, (n', r))) : RdOk M (f + 1) t ∧ r.length ≤ l.length := by
  unfold leafR at h
  split at h
  · cases h
  · rename_i d r' hb
    have := bytesR_lens hb
    injection h with h
    injection h with h1 h2
    injection h2 with h2 h3
    subst h1; subst h3
    exact ⟨⟨by show (bs d).size ≤ M; rw [bs_size]; omega, fun x hx => by simp at hx⟩, this.2⟩
theorem nodeR_ok {M : Nat} : ∀ (f m : Nat) (k : List UInt8) (t : Tree) (m' : Nat) (r : List UInt8), k.length ≤ M → nodeR f (m, k) = .ok (t, (m', r)) → RdOk M f t ∧ r.length ≤ k.length := by
  intro f
  induction f with
  | zero => intro m k t m' r _ h; simp only [nodeR] at h; cases h
  | succ f ih =>
    intro m k t m' r hk h
    unfold nodeR at h
    simp only at h
    split at h
    · cases h
    · cases k with
      | nil => cases h
      | cons c l =>
        simp only [List.length_cons] at hk ⊢
        simp only at h
        split at h
        · obtain ⟨h1, h2⟩ := leafR_ok (M := M) (f := f) (by omega) h
          exact ⟨h1, by omega⟩
        · split at h
          · obtain ⟨h1, h2⟩ := leafR_ok (M := M) (f := f) (by omega) h
            exact ⟨h1, by omega⟩
          · split at h
            · unfold dirR at h
              split at h
              · cases h
              · rename_i c' r' hn
                have hnl := (numR_len hn).1
                split at h
                · cases h
                · rename_i ks s hks
                  injection h with h
                  injection h with h1 h2
                  subst h1; subst h2
                  obtain ⟨i1, i2⟩ := kidsR_ok (M := M) (by omega) ih c' ks m' r hks
                  exact ⟨⟨by show ByteArray.empty.size ≤ M; simp, i1⟩, by omega⟩
            · cases h
theorem RdOk.fit {M : Nat} : ∀ {d : Nat} {t : Tree}, RdOk M d t → Fit d t
  | 0, _, h => h.elim
  | _ + 1, _, h => fun x hx => (h.2 x hx).2.fit
theorem RdOk.dat {M : Nat} : ∀ {d : Nat} {t : Tree}, RdOk M d t → DatM M d t
  | 0, _, h => h.elim
  | _ + 1, _, h => ⟨h.1, fun x hx => (h.2 x hx).2.dat⟩
theorem RdOk.items {M : Nat} : ∀ {d : Nat} {p : ByteArray} {k : Nat} {t : Tree}, RdOk M d t → ∀ x ∈ pre d p k t, x.1.size ≤ p.size + d * (M + 1) ∧ x.2.1 ≤ k + d ∧ x.2.2.data.size ≤ M
  | 0, _, _, _, h, _, _ => h.elim
  | d + 1, p, k, t, h, x, hx => by
    simp only [pre, List.mem_cons, List.mem_flatMap] at hx
    rcases hx with rfl | ⟨y, hy, hx⟩
    · exact ⟨by simp only; omega, by simp only; omega, h.1⟩
    · have hs := (h.2 y hy).1
      have := RdOk.items (h.2 y hy).2 x hx
      have e : (p ++ slash ++ y.1).size = p.size + 1 + y.1.size := by rw [ByteArray.size_append, ByteArray.size_append]; rfl
      rw [e] at this
      have e2 : (d + 1) * (M + 1) = d * (M + 1) + (M + 1) := Nat.succ_mul _ _
      omega
/-- What can be told of nodes whose texts are no longer than memory. -/
theorem alive_far : ∀ (l : List (ByteArray × Nat × Tree)) (n : Nat), n ≤ 200 → (∀ x ∈ l, x.1.size ≤ maxLen ∧ x.2.1 ≤ 4611686018427387904 ∧ x.2.2.data.size ≤ maxLen) → Alive ck ckOk n l
  | [], _, _, _ => trivial
  | x :: l, n, hn, h => by
    have hx := h x List.mem_cons_self
    refine ⟨⟨hn, hx.1, hx.2.1, hx.2.2⟩, fun he => ?_⟩
    refine alive_far l (n + 1) ?_ (fun y hy => h y (List.mem_cons_of_mem _ hy))
    unfold ck at he
    simp only at he
    split at he
    · cases he
    · split at he
      · cases he
      · omega
theorem RdOk.alive {M : Nat} (hM : M ≤ 1000000) {t : Tree} (h : RdOk M 9 t) : Alive ck ckOk 0 (pre 9 ByteArray.empty 0 t) :=
  alive_far _ 0 (by omega) fun x hx => by
    have := RdOk.items h x hx
    have e : ByteArray.empty.size = 0 := rfl
    rw [e] at this
    unfold maxLen
    omega
/-- A text that may be read: what it gives can be told. -/
theorem read_alive {s : ByteArray} (hs : s.size ≤ 1000000) : ∀ t n r, nodeR 9 (0, s.data.toList) = .ok (t, (n, r)) → Alive ck ckOk 0 (pre 9 ByteArray.empty 0 t) := fun t n r h =>
  (nodeR_ok (M := s.size) 9 0 s.data.toList t n r (by simp) h).1.alive hs
end Go.Proofs.YtilkjafggfdjeaaDoor
namespace Go.Proofs.YtilkjafggfdjeaaDoor
open Go.RowKit
attribute [local go_sem ↓] Go.wp_at_zero Go.wp_at_succ

set_option maxRecDepth 100000 in
set_option maxHeartbeats 2000000 in
theorem treeText_any (B d : Nat) (t : Tree) (u : Value) (w : World) (hB : B ≤ w.heap.size) (hl : Lies w B d t.kids u) (hdat : Dat d t) (hlen : treeErr d t = none → (textT d t).length ≤ 1000000) :
    Calls Tryd.prog 29 #[.agg #[.string t.kind, .string t.data, .bool t.exec, u]] w fun e w' => e = .returned (.string (bs (textOf d t))) ∧ Below w.heap.size w w' := by
  obtain ⟨ta, tc, rfl⟩ := hl.form
  have hfit : Fit d t := hl.fit
  have HG0 : Hid (TxG w #[.string t.kind, .string t.data, .bool t.exec, .slice ta t.kids.length tc] (w.alloc (.cells #[.string t.kind, .string t.data, .bool t.exec, .slice ta t.kids.length tc] 24))) := TxG.start w _
  have HTE : Hid (∀ o, Calls Tryd.prog 16 #[.agg #[.string t.kind, .string t.data, .bool t.exec, .slice ta t.kids.length tc]] (w.alloc o) fun e w' => e = .returned (.int .i64 (num (treeErr d t))) ∧ Below (w.alloc o).heap.size (w.alloc o) w') := fun o => by
    have h := treeError_any B d d t (.slice ta t.kids.length tc) (w.alloc o) (by simp; omega) (hl.below ((Below.refl _ _).alloc (Nat.le_refl _) o) hB) hdat
    rw [list_errs hfit] at h
    exact h
  have HLI : Hid (Lies w B d t.kids (.slice ta t.kids.length tc)) := hl
  cases ht : treeErr d t with
  | some er =>
    have HE : Hid (textOf d t = []) := textOf_not ht
    have HN : Hid (num (treeErr d t) = (er : Int) + 1) := show _ = _ by rw [ht]; rfl
    clear hl hdat hlen hfit ht HLI
    go_enter Tryd.func29, Tryd.ntmps29
    go_wp2_with fail
    refine Calls.mono (HTE.out _) ?_
    rintro e w1 ⟨rfl, hb1⟩
    have HG1 : Hid (TxG w _ w1) := HG0.out.on hb1
    rw [HN.out]
    clear hb1 HTE HG0
    go_wp2_with fail
    go_ret
    exact ⟨ret_str (by rw [HE.out]; rfl), HG1.out.1⟩
  | none =>
    have HE : Hid (textOf d t = textT d t) := textOf_well ht
    have HN : Hid (num (treeErr d t) = 0) := show _ = _ by rw [ht]; rfl
    have HKI : Hid (Kinds d t) := kinds_of (p := ByteArray.empty) (k := 0) hfit fun x hx => ((treeErr_none.1 ht).2 x hx).2
    have HLN : Hid ((textT d t).length ≤ 1000000) := hlen ht
    clear hl hdat hlen hfit ht
    go_enter Tryd.func29, Tryd.ntmps29
    go_wp2_with fail
    refine Calls.mono (HTE.out _) ?_
    rintro e w1 ⟨rfl, hb1⟩
    have HG1 : Hid (TxG w _ w1) := HG0.out.on hb1
    rw [HN.out]
    have hrow := HG1.out.2.1
    obtain ⟨q0, q1, q2, q3⟩ := row4w hrow
    have l0 := HG1.out.2.2
    have HTX : Hid _ := rText_any B d t _ w1 (by have := HG1.out.1.size; omega) (HLI.out.below HG1.out.1 hB) HKI.out HLN.out
    clear hb1 HTE HG0 hrow
    go_wp2_with fail
    refine Calls.mono HTX.out ?_
    rintro e w2 ⟨rfl, hb2⟩
    have HG2 : Hid (TxG w _ w2) := HG1.out.on hb2
    clear hb2
    go_wp2_with fail
    go_ret
    exact ⟨ret_str (by rw [HE.out]), HG2.out.1⟩

/-- What ReadTree hands back. -/
def RtPost (s : ByteArray) (w : World) (e : Ending) (w' : World) : Prop := Below w.heap.size w w' ∧
  ((∃ er : Nat, readR s = .error er ∧ e = .returned (.tuple #[.agg #[.string { data := #[] }, .string { data := #[] }, .bool false, .slice none 0 0], .int .i64 ((er : Int) + 1)])) ∨
   (∃ t u, readR s = .ok t ∧ e = .returned (.tuple #[.agg #[.string t.kind, .string t.data, .bool t.exec, u], .int .i64 0]) ∧ LiesQ w' (fun b => w.heap.size ≤ b ∧ b < w'.heap.size) 9 t.kids u))
/-- What FirstOf hands back. -/
def FtPost (s : ByteArray) (w : World) (e : Ending) (w' : World) : Prop := Below w.heap.size w w' ∧
  ((∃ er : Nat, firstR s = .error er ∧ e = .returned (.tuple #[.agg #[.string { data := #[] }, .string { data := #[] }, .bool false, .slice none 0 0], .string { data := #[] }, .int .i64 ((er : Int) + 1)])) ∨
   (∃ t r u, firstR s = .ok (t, r) ∧ e = .returned (.tuple #[.agg #[.string t.kind, .string t.data, .bool t.exec, u], .string (bs r), .int .i64 0]) ∧ LiesQ w' (fun b => w.heap.size ≤ b ∧ b < w'.heap.size) 9 t.kids u))

theorem zero_cells (w : World) : (w.alloc (.cells #[.string { data := #[] }, .string { data := #[] }, .bool false, .slice none 0 0] 24)).heap[w.heap.size]? = some (.cells #[.string { data := #[] }, .string { data := #[] }, .bool false, .slice none 0 0] 24 (0, 0)) := row_alloc' w _ _
/-- The world behind the reading's node, and its box. -/
structure RtAt (s : ByteArray) (w w1 : World) (o n : Nat) : Prop where
  res : w1.heap[w.heap.size]? = some (.cells #[.string { data := #[] }, .string { data := #[] }, .bool false, .slice none 0 0] 24 (0, 0))
  rg : Rg (w.heap.size + 1) s o n w1
  size : w.heap.size + 2 ≤ w1.heap.size
  below : Below w.heap.size w w1
theorem RtAt.of {s : ByteArray} {w w1 : World} {o n : Nat} (R : Rg (w.heap.size + 1) s o n w1)
    (K : Kept (fun k => k = w.heap.size + 1) ((w.alloc (.cells #[.string { data := #[] }, .string { data := #[] }, .bool false, .slice none 0 0] 24)).alloc (.cells #[.string s, .int .i64 0, .int .i64 0] 79)) w1) : RtAt s w w1 o n := by
  have hz := K.size
  simp only [World.size_alloc] at hz
  refine ⟨?_, R, by omega, ?_⟩
  · rw [K.block w.heap.size (by simp; omega) (by omega), Below.heap_alloc _ _ _ (by simp)]
    exact zero_cells w
  · exact (((Below.refl _ _).alloc (Nat.le_refl _) _).alloc (by simp) _).trans (K.below (fun k hk => by omega) (by simp; omega))
theorem rNode_start (s : ByteArray) (w : World) (hs : s.size ≤ 20000) :
    Calls Tryd.prog 54 #[.pointer (some ⟨w.heap.size + 1, 0, none⟩), .int .i64 0] ((w.alloc (.cells #[.string { data := #[] }, .string { data := #[] }, .bool false, .slice none 0 0] 24)).alloc (.cells #[.string s, .int .i64 0, .int .i64 0] 79)) fun e w1 => ∃ o n, RtAt s w w1 o n ∧
      ((∃ er : Nat, nodeR 9 (0, s.data.toList) = .error er ∧ e = .returned (.tuple #[.agg #[.string { data := #[] }, .string { data := #[] }, .bool false, .slice none 0 0], .int .i64 ((er : Int) + 1)])) ∨
       (∃ t u, nodeR 9 (0, s.data.toList) = .ok (t, (n, s.data.toList.drop o)) ∧ o ≤ s.size ∧ e = .returned (.tuple #[.agg #[.string t.kind, .string t.data, .bool t.exec, u], .int .i64 0]) ∧ LiesQ w1 (fun b => w.heap.size + 2 ≤ b ∧ b < w1.heap.size) 9 t.kids u ∧ RdOk s.size 9 t)) := by
  have hR : Rg (w.heap.size + 1) s 0 0 ((w.alloc (.cells #[.string { data := #[] }, .string { data := #[] }, .bool false, .slice none 0 0] 24)).alloc (.cells #[.string s, .int .i64 0, .int .i64 0] 79)) := by
    have := row_alloc' (w.alloc (.cells #[.string { data := #[] }, .string { data := #[] }, .bool false, .slice none 0 0] 24)) #[.string s, .int .i64 0, .int .i64 0] 79
    rw [World.size_alloc] at this
    exact this
  have h := rNode_any (w.heap.size + 1) s (by omega) 9 0 0 0 _ (by omega) hR (by omega) (by omega)
  refine Calls.mono h ?_
  rintro e w1 ⟨o, n, R, K, ⟨er, h1, h2⟩ | ⟨t, u, h1, ho, hn, h2, h3⟩⟩
  · exact ⟨o, n, RtAt.of R K, .inl ⟨er, h1, h2⟩⟩
  · exact ⟨o, n, RtAt.of R K, .inr ⟨t, u, h1, ho, h2, LiesQ.kept (fun _ _ => rfl) (fun k hk => by simpa using hk) h3, (nodeR_ok (M := s.size) 9 0 s.data.toList t n _ (by simp) h1).1⟩⟩

set_option maxRecDepth 100000 in
set_option maxHeartbeats 4000000 in
theorem readTree_any (s : ByteArray) (w : World) (hs : s.size ≤ 1000000) : Calls Tryd.prog 31 #[.string s] w (RtPost s w) := by
  by_cases hlong : 20000 < s.size
  · have hlong' : (20000 : Int) < (s.size : Int) := by omega
    have HF : Hid (readR s = .error 1) := readR_long hlong
    have HA : Hid (∀ o, Below w.heap.size w (w.alloc o)) := fun o => (Below.refl _ _).alloc (Nat.le_refl _) o
    have hz := zero_cells w
    obtain ⟨⟨q0, q1, q2, q3⟩, g0, g1, g2, g3⟩ := row4 hz
    go_enter Tryd.func31, Tryd.ntmps31
    go_wp2_with fail
    refine bodyPost_ret (v := .tuple #[.agg #[.string { data := #[] }, .string { data := #[] }, .bool false, .slice none 0 0], .int .i64 2]) (by simp [results, Tryd.results31, go_sem]) rfl ?_
    exact ⟨HA.out _, .inl ⟨1, HF.out, rfl⟩⟩
  · have hlong' : (s.size : Int) ≤ 20000 := by omega
    have HND : Hid _ := rNode_start s w (by omega)
    go_enter Tryd.func31, Tryd.ntmps31
    go_wp2_with fail
    refine Calls.mono HND.out ?_
    clear HND
    rintro e w1 ⟨o, n, A, ⟨er, hnd, rfl⟩ | ⟨t, u, hnd, ho, rfl, hlk, hok⟩⟩
    · have HA : Hid _ := A
      obtain ⟨⟨q0, q1, q2, q3⟩, g0, g1, g2, g3⟩ := row4 A.res
      have l0 : w.heap.size < w1.heap.size := by have := A.size; omega
      have HF : Hid (readR s = .error er) := readR_err hlong hnd
      have he0 : ((er : Int) + 1 == 0) = false := beq_eq_false_iff_ne.2 (by omega)
      have he1 : (0 : Int) < (er : Int) + 1 := by omega
      clear A hnd
      go_wp2_with fail
      refine bodyPost_ret (v := .tuple #[.agg #[.string { data := #[] }, .string { data := #[] }, .bool false, .slice none 0 0], .int .i64 ((er : Int) + 1)]) (by simp [results, Tryd.results31, go_sem, q0, q1, q2, q3, l0]) rfl ?_
      have hS := ((((SameBut.refl w.heap.size w1).set 0 (.string { data := #[] })).set 1 (.string { data := #[] })).set 2 (.bool false)).set 3 (.slice none 0 0)
      exact ⟨(hS.below HA.out.below (Nat.le_refl _)).alloc (by have := hS.size; omega) _, .inl ⟨er, HF.out, rfl⟩⟩
    · obtain ⟨xa, xc, rfl⟩ := hlk.form
      obtain ⟨⟨q0, q1, q2, q3⟩, g0, g1, g2, g3⟩ := row4 A.res
      have l0 : w.heap.size < w1.heap.size := by have := A.size; omega
      have l1 : w.heap.size + 1 < w1.heap.size := by have := A.size; omega
      have c1 := A.rg.cells.2.1
      have HA : Hid (RtAt s w w1 o n) := A
      have HND : Hid (nodeR 9 (0, s.data.toList) = .ok (t, (n, s.data.toList.drop o))) := hnd
      have HLK : Hid (LiesQ w1 (fun b => w.heap.size + 2 ≤ b ∧ b < w1.heap.size) 9 t.kids (.slice xa t.kids.length xc)) := hlk
      have HCK : Hid (∀ x, Calls Tryd.prog 16 #[.agg #[.string t.kind, .string t.data, .bool t.exec, .slice xa t.kids.length xc]] (w1.alloc x) fun e w' => e = .returned (.int .i64 (num (treeErr 9 t))) ∧ Below (w1.alloc x).heap.size (w1.alloc x) w') := fun x => by
        have h := treeError_any w1.heap.size 9 9 t (.slice xa t.kids.length xc) (w1.alloc x) (by simp) ((hlk.lies fun k hk => hk.2).below ((Below.refl _ _).alloc (Nat.le_refl _) x) (Nat.le_refl _)) hok.dat (by omega)
        rw [list_errs hok.fit] at h
        exact h
      clear hnd hlk hok A
      by_cases hlt : o < s.size
      · have HF : Hid (readR s = .error 0) := readR_more hlong HND.out (fun h => by have := congrArg List.length h; simp at this; omega)
        have hlt' : (o : Int) < (s.size : Int) := by omega
        clear HND HLK HCK
        go_wp2_with fail
        refine bodyPost_ret (v := .tuple #[.agg #[.string { data := #[] }, .string { data := #[] }, .bool false, .slice none 0 0], .int .i64 1]) (by simp [results, Tryd.results31, go_sem, q0, q1, q2, q3, l0]) rfl ?_
        have hS := ((((SameBut.refl w.heap.size w1).set 0 (.string { data := #[] })).set 1 (.string { data := #[] })).set 2 (.bool false)).set 3 (.slice none 0 0)
        exact ⟨(hS.below HA.out.below (Nat.le_refl _)).alloc (by have := hS.size; omega) _, .inl ⟨0, HF.out, rfl⟩⟩
      · have HR : Hid (s.data.toList.drop o = []) := List.drop_of_length_le (by simp; omega)
        have hlt' : (s.size : Int) ≤ (o : Int) := by omega
        go_wp2_with fail
        refine Calls.mono (HCK.out _) ?_
        rintro e w3 ⟨rfl, hb3⟩
        have hz3 := hb3.size
        simp only [World.size_alloc] at hz3
        have hA1 := Below.heap_alloc w1
        have hres3 : w3.heap[w.heap.size]? = some (.cells #[.string { data := #[] }, .string { data := #[] }, .bool false, .slice none 0 0] 24 (0, 0)) := by
          rw [hb3.block w.heap.size (by simp; omega), Below.heap_alloc _ _ _ l0]; exact HA.out.res
        have hrg3 : Rg (w.heap.size + 1) s o n w3 := by
          unfold Rg
          rw [hb3.block (w.heap.size + 1) (by simp; omega), Below.heap_alloc _ _ _ l1]; exact HA.out.rg
        have hnod3 := (hb3.block w1.heap.size (by simp)).trans (row_alloc' w1 #[.string t.kind, .string t.data, .bool t.exec, .slice xa t.kids.length xc] 24)
        have HB3 : Hid (Below w.heap.size w w3) := HA.out.below.trans ((((Below.refl w1.heap.size w1).alloc (Nat.le_refl _) _).mono (by omega)).trans (hb3.mono (by simp; omega)))
        have HL3 : Hid (LiesQ w3 (fun b => w.heap.size + 2 ≤ b ∧ b < w3.heap.size) 9 t.kids (.slice xa t.kids.length xc)) := LiesQ.kept (fun k hk => (hb3.block k (by simp; omega)).trans (Below.heap_alloc _ _ _ hk.2)) (fun k hk => ⟨hk.1, by omega⟩) HLK.out
        clear q0 q1 q2 q3 g0 g1 g2 g3 c1 hA1
        obtain ⟨⟨q0, q1, q2, q3⟩, g0, g1, g2, g3⟩ := row4 hres3
        obtain ⟨⟨m0, m1, m2, m3⟩, _⟩ := row4 hnod3
        have c1 := hrg3.cells.2.1
        have l2 : w.heap.size < w3.heap.size := by omega
        have l3 : w.heap.size + 1 < w3.heap.size := by omega
        have l4 : w1.heap.size < w3.heap.size := by omega
        have hne1 : w1.heap.size ≠ w.heap.size := by omega
        have hne2 : w.heap.size + 1 ≠ w.heap.size := by omega
        clear hb3 hres3 hnod3 HCK HLK hrg3
        cases ht : treeErr 9 t with
        | some er =>
          have HF : Hid (readR s = .error er) := readR_no hlong HND.out HR.out ht
          have he1 : (0 : Int) < (er : Int) + 1 := by omega
          have hnum : num (some er) = (er : Int) + 1 := rfl
          rw [hnum]
          clear ht hnum
          go_wp2_with fail
          refine bodyPost_ret (v := .tuple #[.agg #[.string { data := #[] }, .string { data := #[] }, .bool false, .slice none 0 0], .int .i64 ((er : Int) + 1)]) (by simp [results, Tryd.results31, go_sem, q0, q1, q2, q3]) rfl ?_
          have hS := ((((SameBut.refl w.heap.size w3).set 0 (.string { data := #[] })).set 1 (.string { data := #[] })).set 2 (.bool false)).set 3 (.slice none 0 0)
          exact ⟨hS.below HB3.out (Nat.le_refl _), .inl ⟨er, HF.out, rfl⟩⟩
        | none =>
          have HF : Hid (readR s = .ok t) := readR_ok hlong HND.out HR.out ht
          have hnum : num none = 0 := rfl
          rw [hnum]
          clear ht hnum
          go_wp2_with fail
          refine bodyPost_ret (v := .tuple #[.agg #[.string t.kind, .string t.data, .bool t.exec, .slice xa t.kids.length xc], .int .i64 0]) (by simp [results, Tryd.results31, go_sem, q0, q1, q2, q3]) rfl ?_
          have hS := ((((SameBut.refl w.heap.size w3).set 0 (.string t.kind)).set 1 (.string t.data)).set 2 (.bool t.exec)).set 3 (.slice xa t.kids.length xc)
          exact ⟨hS.below HB3.out (Nat.le_refl _), .inr ⟨t, _, HF.out, rfl, LiesQ.kept (fun k hk => hS.block k (by omega)) (fun k hk => ⟨by omega, by rw [hS.size]; exact hk.2⟩) HL3.out⟩⟩

set_option maxRecDepth 100000 in
set_option maxHeartbeats 4000000 in
theorem firstOf_any (s : ByteArray) (w : World) (hs : s.size ≤ 1000000) : Calls Tryd.prog 33 #[.string s] w (FtPost s w) := by
  by_cases hlong : 20000 < s.size
  · have hlong' : (20000 : Int) < (s.size : Int) := by omega
    have HF : Hid (firstR s = .error 1) := firstR_long hlong
    have HA : Hid (∀ o, Below w.heap.size w (w.alloc o)) := fun o => (Below.refl _ _).alloc (Nat.le_refl _) o
    go_enter Tryd.func33, Tryd.ntmps33
    go_wp2_with fail
    refine bodyPost_ret (v := .tuple #[.agg #[.string { data := #[] }, .string { data := #[] }, .bool false, .slice none 0 0], .string { data := #[] }, .int .i64 2]) (by simp [results, Tryd.results33, go_sem]) rfl ?_
    exact ⟨HA.out _, .inl ⟨1, HF.out, rfl⟩⟩
  · have hlong' : (s.size : Int) ≤ 20000 := by omega
    have HND : Hid _ := rNode_start s w (by omega)
    go_enter Tryd.func33, Tryd.ntmps33
    go_wp2_with fail
    refine Calls.mono HND.out ?_
    clear HND
    rintro e w1 ⟨o, n, A, ⟨er, hnd, rfl⟩ | ⟨t, u, hnd, ho, rfl, hlk, hok⟩⟩
    · have HA : Hid _ := A
      obtain ⟨⟨q0, q1, q2, q3⟩, g0, g1, g2, g3⟩ := row4 A.res
      have l0 : w.heap.size < w1.heap.size := by have := A.size; omega
      have HF : Hid (firstR s = .error er) := firstR_err hlong hnd
      have he0 : ((er : Int) + 1 == 0) = false := beq_eq_false_iff_ne.2 (by omega)
      have he1 : (0 : Int) < (er : Int) + 1 := by omega
      clear A hnd
      go_wp2_with fail
      refine bodyPost_ret (v := .tuple #[.agg #[.string { data := #[] }, .string { data := #[] }, .bool false, .slice none 0 0], .string { data := #[] }, .int .i64 ((er : Int) + 1)]) (by simp [results, Tryd.results33, go_sem, q0, q1, q2, q3, l0]) rfl ?_
      have hS := ((((SameBut.refl w.heap.size w1).set 0 (.string { data := #[] })).set 1 (.string { data := #[] })).set 2 (.bool false)).set 3 (.slice none 0 0)
      exact ⟨(hS.below HA.out.below (Nat.le_refl _)).alloc (by have := hS.size; omega) _, .inl ⟨er, HF.out, rfl⟩⟩
    · obtain ⟨xa, xc, rfl⟩ := hlk.form
      obtain ⟨⟨q0, q1, q2, q3⟩, g0, g1, g2, g3⟩ := row4 A.res
      have l0 : w.heap.size < w1.heap.size := by have := A.size; omega
      have l1 : w.heap.size + 1 < w1.heap.size := by have := A.size; omega
      have c1 := A.rg.cells.2.1
      have HA : Hid (RtAt s w w1 o n) := A
      have HND : Hid (nodeR 9 (0, s.data.toList) = .ok (t, (n, s.data.toList.drop o))) := hnd
      have HLK : Hid (LiesQ w1 (fun b => w.heap.size + 2 ≤ b ∧ b < w1.heap.size) 9 t.kids (.slice xa t.kids.length xc)) := hlk
      have HCK : Hid (∀ x, Calls Tryd.prog 16 #[.agg #[.string t.kind, .string t.data, .bool t.exec, .slice xa t.kids.length xc]] (w1.alloc x) fun e w' => e = .returned (.int .i64 (num (treeErr 9 t))) ∧ Below (w1.alloc x).heap.size (w1.alloc x) w') := fun x => by
        have h := treeError_any w1.heap.size 9 9 t (.slice xa t.kids.length xc) (w1.alloc x) (by simp) ((hlk.lies fun k hk => hk.2).below ((Below.refl _ _).alloc (Nat.le_refl _) x) (Nat.le_refl _)) hok.dat (by omega)
        rw [list_errs hok.fit] at h
        exact h
      clear hnd hlk hok A
      · have hoo : (o : Int) ≤ (s.size : Int) := by omega
        have hoo0 : (0 : Int) ≤ (o : Int) := by omega
        have HEX : Hid _ := extract_drop s o
        go_wp2_with fail
        refine Calls.mono (HCK.out _) ?_
        rintro e w3 ⟨rfl, hb3⟩
        have hz3 := hb3.size
        simp only [World.size_alloc] at hz3
        have hA1 := Below.heap_alloc w1
        have hres3 : w3.heap[w.heap.size]? = some (.cells #[.string { data := #[] }, .string { data := #[] }, .bool false, .slice none 0 0] 24 (0, 0)) := by
          rw [hb3.block w.heap.size (by simp; omega), Below.heap_alloc _ _ _ l0]; exact HA.out.res
        have hrg3 : Rg (w.heap.size + 1) s o n w3 := by
          unfold Rg
          rw [hb3.block (w.heap.size + 1) (by simp; omega), Below.heap_alloc _ _ _ l1]; exact HA.out.rg
        have hnod3 := (hb3.block w1.heap.size (by simp)).trans (row_alloc' w1 #[.string t.kind, .string t.data, .bool t.exec, .slice xa t.kids.length xc] 24)
        have HB3 : Hid (Below w.heap.size w w3) := HA.out.below.trans ((((Below.refl w1.heap.size w1).alloc (Nat.le_refl _) _).mono (by omega)).trans (hb3.mono (by simp; omega)))
        have HL3 : Hid (LiesQ w3 (fun b => w.heap.size + 2 ≤ b ∧ b < w3.heap.size) 9 t.kids (.slice xa t.kids.length xc)) := LiesQ.kept (fun k hk => (hb3.block k (by simp; omega)).trans (Below.heap_alloc _ _ _ hk.2)) (fun k hk => ⟨hk.1, by omega⟩) HLK.out
        clear q0 q1 q2 q3 g0 g1 g2 g3 c1 hA1
        obtain ⟨⟨q0, q1, q2, q3⟩, g0, g1, g2, g3⟩ := row4 hres3
        obtain ⟨⟨m0, m1, m2, m3⟩, _⟩ := row4 hnod3
        have c1 := hrg3.cells.2.1
        have l2 : w.heap.size < w3.heap.size := by omega
        have l3 : w.heap.size + 1 < w3.heap.size := by omega
        have l4 : w1.heap.size < w3.heap.size := by omega
        have hne1 : w1.heap.size ≠ w.heap.size := by omega
        have hne2 : w.heap.size + 1 ≠ w.heap.size := by omega
        clear hb3 hres3 hnod3 HCK HLK hrg3
        cases ht : treeErr 9 t with
        | some er =>
          have HF : Hid (firstR s = .error er) := firstR_no hlong HND.out ht
          have he1 : (0 : Int) < (er : Int) + 1 := by omega
          have hnum : num (some er) = (er : Int) + 1 := rfl
          rw [hnum]
          clear ht hnum
          go_wp2_with fail
          refine bodyPost_ret (v := .tuple #[.agg #[.string { data := #[] }, .string { data := #[] }, .bool false, .slice none 0 0], .string { data := #[] }, .int .i64 ((er : Int) + 1)]) (by simp [results, Tryd.results33, go_sem, q0, q1, q2, q3]) rfl ?_
          have hS := ((((SameBut.refl w.heap.size w3).set 0 (.string { data := #[] })).set 1 (.string { data := #[] })).set 2 (.bool false)).set 3 (.slice none 0 0)
          exact ⟨hS.below HB3.out (Nat.le_refl _), .inl ⟨er, HF.out, rfl⟩⟩
        | none =>
          have HF : Hid (firstR s = .ok (t, s.data.toList.drop o)) := firstR_ok hlong HND.out ht
          have hnum : num none = 0 := rfl
          rw [hnum]
          clear ht hnum
          go_wp2_with fail
          go_region
          go_wp2_with fail
          refine bodyPost_ret (v := .tuple #[.agg #[.string t.kind, .string t.data, .bool t.exec, .slice xa t.kids.length xc], .string (bs (s.data.toList.drop o)), .int .i64 0]) (by simp [results, Tryd.results33, go_sem, q0, q1, q2, q3, HEX.out]) rfl ?_
          have hS := ((((SameBut.refl w.heap.size w3).set 0 (.string t.kind)).set 1 (.string t.data)).set 2 (.bool t.exec)).set 3 (.slice xa t.kids.length xc)
          exact ⟨(hS.below HB3.out (Nat.le_refl _)).drew, .inr ⟨t, _, _, HF.out, rfl, LiesQ.kept (fun k hk => hS.block k (by omega)) (fun k hk => ⟨by omega, by have := hS.size; show k < (World.setCell _ _ _).heap.size; rw [this]; exact hk.2⟩) HL3.out⟩⟩
end Go.Proofs.YtilkjafggfdjeaaDoor
