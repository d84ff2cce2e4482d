/-
  What is read out of a text is no larger than it: names and data are in bounds, levels are counted. Plain mathematics.
  Conditions: none.
-/
import Derived.Test.YtfchgecbimaonaaDoorPackB
import Derived.Test.YtfchgecbimaonaaDoorPacks3
import Derived.Test.YtfchgecbimaonaaDoorRefT
namespace Go.Proofs.YtfchgecbimaonaaDoor
open Go.RowKit

/-- Names and data in bounds, all the way down. -/
def RdOk (M : Nat) : Nat → Tree → Prop
  | 0, _ => False
  | d + 1, t => t.data.size ≤ M ∧ ∀ x ∈ t.kids, x.1.size ≤ M ∧ RdOk M d x.2
theorem bytesR_len {l d r : List UInt8} (h : bytesR l = some (d, r)) : d.length ≤ l.length ∧ r.length ≤ l.length := by
  unfold bytesR at h
  split at h
  · cases h
  · rename_i n r' hn
    have := (numR_len hn).1
    split at h
    · cases h
    · injection h with h
      injection h with h1 h2
      subst h1; subst h2
      rw [List.length_take, List.length_drop]
      omega
theorem kidsR_ok {M f : Nat} {n : Nat} {l : List UInt8} (hl : l.length ≤ M)
    (ih : ∀ (m : Nat) (k : List UInt8) (t : Tree) (m' : Nat) (r : List UInt8), k.length ≤ M → nodeR f (m, k) = .ok (t, (m', r)) → RdOk M f t ∧ r.length ≤ k.length) : ∀ (c : Nat) (ks : List (ByteArray × Tree)) (m' : Nat) (r : List UInt8), kidsR (nodeR f) c (n, l) = .ok (ks, (m', r)) → (∀ x ∈ ks, x.1.size ≤ M ∧ RdOk M f x.2) ∧ r.length ≤ l.length := by
  intro c
  induction c with
  | zero =>
    intro ks m' r h
    simp only [kidsR] at h
    injection h with h
    injection h with h1 h2
    injection h2 with h2 h3
    subst h1; subst h3
    exact ⟨fun x hx => by simp at hx, Nat.le_refl _⟩
  | succ c ihc =>
    intro ks m' r h
    simp only [kidsR] at h
    cases hk : kidsR (nodeR f) c (n, l) with
    | error e => rw [hk] at h; cases h
    | ok v =>
      obtain ⟨k1, m1, r1⟩ := v
      rw [hk] at h
      simp only at h
      obtain ⟨i1, i2⟩ := ihc k1 m1 r1 hk
      unfold kidR at h
      simp only at h
      cases hb : bytesR r1 with
      | none => rw [hb] at h; cases h
      | some v =>
        obtain ⟨nm, r2⟩ := v
        rw [hb] at h
        simp only at h
        have hbl := bytesR_len hb
        cases hn : nodeR f (m1, r2) with
        | error e => rw [hn] at h; cases h
        | ok v =>
          obtain ⟨t, m3, r3⟩ := v
          rw [hn] at h
          simp only at h
          injection h with h
          injection h with h1 h2
          injection h2 with h2 h3
          subst h1; subst h3
          obtain ⟨j1, j2⟩ := ih m1 r2 t m3 r3 (by omega) hn
          refine ⟨fun x hx => ?_, by omega⟩
          rcases List.mem_append.1 hx with hx | hx
          · exact i1 x hx
          · simp only [List.mem_singleton] at hx
            subst hx
            exact ⟨by rw [bs_size]; omega, j1⟩
theorem leafR_ok {k : ByteArray} {x : Bool} {n n' M f : Nat} {l r : List UInt8} {t : Tree} (hl : l.length ≤ M) (h : leafR k x n l = .ok (t, (n', r))) : RdOk M (f + 1) t ∧ r.length ≤ l.length := by
  unfold leafR at h
  split at h
  · cases h
  · rename_i d r' hb
    have := bytesR_len hb
    injection h with h
    injection h with h1 h2
    injection h2 with h2 h3
    subst h1; subst h3
    exact ⟨⟨by show (bs d).size ≤ M; rw [bs_size]; omega, fun x hx => by simp at hx⟩, this.2⟩
theorem nodeR_ok {M : Nat} : ∀ (f m : Nat) (k : List UInt8) (t : Tree) (m' : Nat) (r : List UInt8), k.length ≤ M → nodeR f (m, k) = .ok (t, (m', r)) → RdOk M f t ∧ r.length ≤ k.length := by
  intro f
  induction f with
  | zero => intro m k t m' r _ h; simp only [nodeR] at h; cases h
  | succ f ih =>
    intro m k t m' r hk h
    unfold nodeR at h
    simp only at h
    split at h
    · cases h
    · cases k with
      | nil => cases h
      | cons c l =>
        simp only [List.length_cons] at hk ⊢
        simp only at h
        split at h
        · obtain ⟨h1, h2⟩ := leafR_ok (M := M) (f := f) (by omega) h
          exact ⟨h1, by omega⟩
        · split at h
          · obtain ⟨h1, h2⟩ := leafR_ok (M := M) (f := f) (by omega) h
            exact ⟨h1, by omega⟩
          · split at h
            · unfold dirR at h
              split at h
              · cases h
              · rename_i c' r' hn
                have hnl := (numR_len hn).1
                split at h
                · cases h
                · rename_i ks s hks
                  injection h with h
                  injection h with h1 h2
                  subst h1; subst h2
                  obtain ⟨i1, i2⟩ := kidsR_ok (M := M) (by omega) ih c' ks m' r hks
                  exact ⟨⟨by show ByteArray.empty.size ≤ M; simp, i1⟩, by omega⟩
            · cases h
theorem RdOk.fit {M : Nat} : ∀ {d : Nat} {t : Tree}, RdOk M d t → Fit d t
  | 0, _, h => h.elim
  | _ + 1, _, h => fun x hx => (h.2 x hx).2.fit
theorem RdOk.dat {M : Nat} : ∀ {d : Nat} {t : Tree}, RdOk M d t → DatM M d t
  | 0, _, h => h.elim
  | _ + 1, _, h => ⟨h.1, fun x hx => (h.2 x hx).2.dat⟩
theorem RdOk.items {M : Nat} : ∀ {d : Nat} {p : ByteArray} {k : Nat} {t : Tree}, RdOk M d t → ∀ x ∈ pre d p k t, x.1.size ≤ p.size + d * (M + 1) ∧ x.2.1 ≤ k + d ∧ x.2.2.data.size ≤ M
  | 0, _, _, _, h, _, _ => h.elim
  | d + 1, p, k, t, h, x, hx => by
    simp only [pre, List.mem_cons, List.mem_flatMap] at hx
    rcases hx with rfl | ⟨y, hy, hx⟩
    · exact ⟨by simp only; omega, by simp only; omega, h.1⟩
    · have hs := (h.2 y hy).1
      have := RdOk.items (h.2 y hy).2 x hx
      have e : (p ++ slash ++ y.1).size = p.size + 1 + y.1.size := by rw [ByteArray.size_append, ByteArray.size_append]; rfl
      rw [e] at this
      have e2 : (d + 1) * (M + 1) = d * (M + 1) + (M + 1) := Nat.succ_mul _ _
      omega
/-- What can be told of nodes whose texts are no longer than memory. -/
theorem alive_far : ∀ (l : List (ByteArray × Nat × Tree)) (n : Nat), n ≤ 200 → (∀ x ∈ l, x.1.size ≤ maxLen ∧ x.2.1 ≤ 4611686018427387904 ∧ x.2.2.data.size ≤ maxLen) → Alive ck ckOk n l
  | [], _, _, _ => trivial
  | x :: l, n, hn, h => by
    have hx := h x List.mem_cons_self
    refine ⟨⟨hn, hx.1, hx.2.1, hx.2.2⟩, fun he => ?_⟩
    refine alive_far l (n + 1) ?_ (fun y hy => h y (List.mem_cons_of_mem _ hy))
    unfold ck at he
    simp only at he
    split at he
    · cases he
    · split at he
      · cases he
      · omega
theorem RdOk.alive {M : Nat} (hM : M ≤ 1000000) {t : Tree} (h : RdOk M 9 t) : Alive ck ckOk 0 (pre 9 ByteArray.empty 0 t) :=
  alive_far _ 0 (by omega) fun x hx => by
    have := RdOk.items h x hx
    have e : ByteArray.empty.size = 0 := rfl
    rw [e] at this
    unfold maxLen
    omega
/-- A text that may be read: what it gives can be told. -/
theorem read_alive {s : ByteArray} (hs : s.size ≤ 1000000) : ∀ t n r, nodeR 9 (0, s.data.toList) = .ok (t, (n, r)) → Alive ck ckOk 0 (pre 9 ByteArray.empty 0 t) := fun t n r h =>
  (nodeR_ok (M := s.size) 9 0 s.data.toList t n r (by simp) h).1.alive hs
end Go.Proofs.YtfchgecbimaonaaDoor
