/-
  Who has which blocks, as lists; a queue of slices in memory, that is cut ahead and appended to.
  Conditions: none.
-/
import Derived.Test.YtddmpecljcfjnaaDoorSp
import Derived.Test.YtddmpecljcfjnaaDoorInts
import Derived.ArgAppend
import Derived.Maps.AppendAt
import Derived.WalkKit
namespace Go.Proofs.YtddmpecljcfjnaaDoor
open Go.RowKit

theorem nodup_len : ∀ {l m : List Nat}, l.Nodup → (∀ x ∈ l, x ∈ m) → l.length ≤ m.length
  | [], _, _, _ => Nat.zero_le _
  | a :: l, m, h, hs => by
    rw [List.nodup_cons] at h
    have ha := hs a List.mem_cons_self
    have := nodup_len (m := m.erase a) h.2 fun x hx => (List.mem_erase_of_ne (fun e => h.1 (by rw [← e]; exact hx))).2 (hs x (List.mem_cons_of_mem _ hx))
    rw [List.length_erase_of_mem ha] at this
    have : 0 < m.length := List.length_pos_of_mem ha
    simp only [List.length_cons]; omega
/-- What is used is just what somebody has, once. -/
structure Inv (n : Nat) (u : List Bool) (ow : List (List Nat)) : Prop where
  len : u.length = n
  nd : ow.flatten.Nodup
  own : ∀ k, u[k]? = some true ↔ k ∈ ow.flatten
namespace Inv
variable {n : Nat} {u : List Bool} {ow : List (List Nat)}
theorem used (h : Inv n u ow) : (usedR u).length = ow.flatten.length :=
  Nat.le_antisymm (nodup_len (whereR_nodup _ _ _) fun x hx => (h.own x).1 (mem_used.1 hx)) (nodup_len h.nd fun x hx => mem_used.2 ((h.own x).2 hx))
theorem free (h : Inv n u ow) : (freeR u).length + ow.flatten.length = n := by
  rw [← h.used, free_used_len, h.len]
theorem start (n : Nat) : Inv n (List.replicate n false) [] := ⟨by simp, by simp, fun k => by
  simp only [List.flatten_nil, List.not_mem_nil, iff_false]
  intro h
  have := List.mem_of_getElem? h
  simp at this⟩
theorem take (h : Inv n u ow) (k : Nat) : Inv n (markR u true ((freeR u).take k)) (ow ++ [(freeR u).take k]) := by
  have hfn : ∀ x, x ∈ (freeR u).take k → u[x]? = some false := fun x hx => mem_free.1 (List.mem_of_mem_take hx)
  refine ⟨by rw [markR_len, h.len], ?_, fun x => ?_⟩
  · simp only [List.flatten_append, List.flatten_cons, List.flatten_nil, List.append_nil]
    refine List.nodup_append.2 ⟨h.nd, List.Pairwise.sublist (List.take_sublist _ _) (whereR_nodup _ _ _), fun a ha b hb e => ?_⟩
    subst e
    have h1 := (h.own a).2 ha
    rw [hfn a hb] at h1; cases h1
  · simp only [List.flatten_append, List.flatten_cons, List.flatten_nil, List.append_nil, List.mem_append]
    by_cases hx : x ∈ (freeR u).take k
    · rw [markR_in hx (List.getElem?_eq_some_iff.1 (hfn x hx)).1]
      simp [hx]
    · rw [markR_not hx, h.own]
      simp [hx]
theorem give {x : List Nat} (h : Inv n u (x :: ow)) : giveR u x = true ∧ (∀ k ∈ x, k < n) ∧ Inv n (markR u false x) ow := by
  have hnd := h.nd
  rw [List.flatten_cons] at hnd
  obtain ⟨h1, h2, h3⟩ := List.nodup_append.1 hnd
  have hx : ∀ k ∈ x, u[k]? = some true := fun k hk => (h.own k).2 (by rw [List.flatten_cons]; exact List.mem_append_left _ hk)
  refine ⟨(giveR_iff x u).2 ⟨h1, hx⟩, fun k hk => by rw [← h.len]; exact (List.getElem?_eq_some_iff.1 (hx k hk)).1, ⟨by rw [markR_len, h.len], h2, fun k => ?_⟩⟩
  by_cases hk : k ∈ x
  · rw [markR_in hk (List.getElem?_eq_some_iff.1 (hx k hk)).1]
    simp only [Option.some.injEq, Bool.false_eq_true, false_iff]
    intro hm
    exact h3 k hk k hm rfl
  · rw [markR_not hk, h.own, List.flatten_cons, List.mem_append]
    simp [hk]
theorem again {x : List Nat} (h : Inv n u (x :: ow)) (hx : x ≠ []) : giveR (markR u false x) x = false := by
  obtain ⟨_, h2, _⟩ := h.give
  cases hg : giveR (markR u false x) x with
  | false => rfl
  | true =>
    obtain ⟨k, hk⟩ := List.exists_mem_of_ne_nil x hx
    have := ((giveR_iff _ _).1 hg).2 k hk
    rw [markR_in hk (by rw [h.len]; exact h2 k hk)] at this
    cases this
end Inv

/-- A row of slices that is cut ahead. -/
def QAt (w : World) (B : Nat) (v : Value) (vs : List Value) : Prop := (∃ ad, v = .slice ad 0 0 ∧ vs = []) ∨
  ∃ g off cap cur, v = .slice (some ⟨g, off, none⟩) vs.length cap ∧ B ≤ g ∧ w.heap[g]? = some (.cells cur 22 (0, 0)) ∧ off + cap ≤ cur.size ∧ vs.length ≤ cap ∧ ∀ i x, vs[i]? = some x → cur[off + i]? = some x
theorem QAt.nil (w : World) (B : Nat) : QAt w B (.slice none 0 0) [] := .inl ⟨none, rfl, rfl⟩
theorem QAt.form {w : World} {B : Nat} {v : Value} {vs : List Value} (h : QAt w B v vs) : ∃ ad c, v = .slice ad vs.length c := by
  rcases h with ⟨ad, rfl, rfl⟩ | ⟨g, off, cap, cur, rfl, _⟩
  · exact ⟨ad, 0, rfl⟩
  · exact ⟨_, _, rfl⟩
theorem QAt.keep {w w' : World} {B : Nat} {v : Value} {vs : List Value} (h : QAt w B v vs) (hb : ∀ (b : Nat) (cur : Array Value), w.heap[b]? = some (Obj.cells cur 22 (0, 0)) → w'.heap[b]? = w.heap[b]?) : QAt w' B v vs := by
  rcases h with h | ⟨g, off, cap, cur, e, h1, h2, h3⟩
  · exact .inl h
  · exact .inr ⟨g, off, cap, cur, e, h1, by rw [hb g cur h2]; exact h2, h3⟩
theorem QAt.at {w : World} {B : Nat} {ad : Option Addr} {n c : Nat} {vs : List Value} (h : QAt w B (.slice ad n c) vs) {i : Nat} {x : Value} (hx : vs[i]? = some x) : ∃ g off, ad = some ⟨g, off, none⟩ ∧ w.cell? ⟨g, off + i, none⟩ = some x := by
  rcases h with ⟨a, _, rfl⟩ | ⟨g, off, cap, cur, e, h1, h2, h3, h4, h5⟩
  · simp at hx
  · simp only [Value.slice.injEq] at e
    exact ⟨g, off, e.1, by rw [cell_of_row _ _ _ _ _ _ h2]; exact h5 i x hx⟩
theorem QAt.tail {w : World} {B : Nat} {ad : Option Addr} {n c : Nat} {x : Value} {vs : List Value} (h : QAt w B (.slice ad n c) (x :: vs)) : QAt w B (.slice (if c = 1 then ad else ad.map fun a => a.add 1) vs.length (c - 1)) vs := by
  rcases h with ⟨a, _, h⟩ | ⟨g, off, cap, cur, e, h1, h2, h3, h4, h5⟩
  · cases h
  · simp only [Value.slice.injEq] at e
    obtain ⟨rfl, rfl, rfl⟩ := e
    simp only [List.length_cons] at h4
    by_cases hc : c = 1
    · rw [if_pos hc]
      have : vs.length = 0 := by omega
      have : vs = [] := List.eq_nil_of_length_eq_zero this
      subst this; subst hc
      exact .inl ⟨_, rfl, rfl⟩
    · rw [if_neg hc]
      refine .inr ⟨g, off + 1, c - 1, cur, rfl, h1, h2, by omega, by omega, fun i y hy => ?_⟩
      have := h5 (i + 1) y (by simpa using hy)
      rw [← this]; congr 1; omega
theorem QAt.alloc {w : World} {B : Nat} {v : Value} {vs : List Value} (h : QAt w B v vs) (X : Obj) : QAt (w.alloc X) B v vs :=
  h.keep fun _ _ hb => Below.heap_alloc _ _ _ (Array.getElem?_eq_some_iff.1 hb).1
/-- Only rows of slices turn. -/
def KeepQ (w w' : World) : Prop := ∀ (k : Nat) (o : Obj), w.heap[k]? = some o → (∀ cur f, o ≠ .cells cur 22 f) → w'.heap[k]? = w.heap[k]?
theorem run_append_q {P : Program} (w : World) (t ty : TypeId) (i : TypeInfo) (z : Value) (bytes : Nat) (ht : P.underlying t = some (.slice 22)) (hi : P.info? 22 = some i) (hz : i.zero = some z) (hsize : i.size = 1) (hby : i.bytes = bytes) (hzs : z.cells.size = 1)
    (B : Nat) (v : Value) (vs : List Value) (hq : QAt w B v vs) (hB : B ≤ w.heap.size) (a : Addr) (c : Nat) (x : Value) (hx : ∀ j u, [x][j]? = some u → w.cell? (a.add j) = some u) (h1 : x.oneCell' = true) (h63 : vs.length + 1 ≤ maxLen) (hbytes : (vs.length + 1) * bytes ≤ 140737488355328) :
    ∃ v' w', (Builtin.append_ #[t, t] ty #[v, .slice (some a) 1 c]).run P w = .ok v' w' ∧ QAt w' B v' (vs ++ [x]) ∧ Below B w w' ∧ KeepQ w w' := by
  have hone : ∀ u ∈ [x], u.oneCell' = true := fun u hu => by rw [List.mem_singleton.1 hu]; exact h1
  have grown : ∀ v' w', w'.ownsRow w.heap.size 22 1 v' (vs.length + 1) (vs ++ [x]) → w.grownBy w' none → QAt w' B v' (vs ++ [x]) ∧ Below B w w' ∧ KeepQ w w' := fun v' w' ho hg => by
    refine ⟨?_, ⟨hg.os, hg.tape, hg.output, hg.size, fun k hk => hg.block k (by omega) (by simp)⟩, fun k o hk _ => hg.block k (Array.getElem?_eq_some_iff.1 hk).1 (by simp)⟩
    rcases ho.2 with ⟨_, e⟩ | ⟨g, cap, cur, e, g1, g2, g3, g4, g5, g6⟩
    · omega
    · refine .inr ⟨g, 0, cap, cur, by rw [e]; simp, by omega, g2, by omega, by simpa using g3, fun i y hy => ?_⟩
      have hil := (List.getElem?_eq_some_iff.1 hy).1
      simp only [List.length_append, List.length_cons, List.length_nil] at hil
      rw [Nat.zero_add, ← Array.getElem?_toList]
      have e2 : cur.toList[i]? = (cur.toList.take ((vs.length + 1) * 1))[i]? := by rw [List.getElem?_take_of_lt (by omega)]
      rw [e2, g6]; exact hy
  rcases hq with ⟨ad, rfl, rfl⟩ | ⟨g, off, cap, cur, rfl, q1, q2, q3, q4, q5⟩
  · cases ad with
    | none =>
      obtain ⟨v', w', hr, ho, hg, _⟩ := run_append_own (P := P) w w.heap.size t ty 22 i z 1 bytes ht hi hz hsize hby hzs (by omega) (.slice none 0 0) 0 [] (World.ownsRow_nil _ _ _ _) a 1 c [x] rfl hx hone (by simpa using h63) (by simpa using hbytes) (Nat.le_refl _)
      obtain ⟨k1, k2, k3⟩ := grown v' w' (by simpa using ho) (by simpa [Value.ownBlock] using hg)
      exact ⟨v', w', hr, k1, k2, k3⟩
    | some b =>
      obtain ⟨v', w', hr, ho, hg⟩ := run_append_arg_grows (P := P) w t ty 22 i z 1 bytes ht hi hz hsize hby hzs (by omega) b 0 0 [] rfl (fun j u hj => by simp at hj) a 1 c [x] rfl hx (by omega) (by simpa using h63) (by simpa using hbytes)
      obtain ⟨k1, k2, k3⟩ := grown v' w' (by simpa using ho) hg
      exact ⟨v', w', hr, k1, k2, k3⟩
  · by_cases hroom : vs.length + 1 ≤ cap
    · have hcell : ∀ j, j < [x].length → (w.cell? ⟨g, off + vs.length * i.size + j, none⟩).isSome = true := fun j hj => by
        rw [hsize, cell_of_row _ _ _ _ _ _ q2]
        simp only [List.length_cons, List.length_nil] at hj
        rw [Array.getElem?_eq_getElem (by omega)]; rfl
      have hfz : ∀ j, j < [x].length → w.frozen? ⟨g, off + vs.length * i.size + j, none⟩ = false := fun j _ => by simp [World.frozen?, q2]
      have hr := run_append_room_cells (P := P) w t ty 22 i ht hi g off vs.length cap a 1 c [x] (by rw [hsize]; rfl) hx hone hroom hcell hfz
      refine ⟨_, _, hr, .inr ⟨g, off, cap, (cur.toList.set (off + vs.length) x).toArray, by simp, q1, ?_, by simpa using q3, by simpa using hroom, fun j y hy => ?_⟩, ?_, ?_⟩
      · rw [hsize, Nat.mul_one]
        simp [World.setCells, World.setCell, Array.getElem?_modify, q2]
        apply Array.ext'; simp
      · simp only [List.getElem?_toArray]
        by_cases hj : j = vs.length
        · subst hj
          simp only [List.getElem?_append_right (Nat.le_refl _), Nat.sub_self, List.getElem?_cons_zero, Option.some.injEq] at hy
          rw [← hy, List.getElem?_set_self (by simp; omega)]
        · have hjl := (List.getElem?_eq_some_iff.1 hy).1
          simp only [List.length_append, List.length_cons, List.length_nil] at hjl
          rw [List.getElem?_append_left (by omega)] at hy
          rw [List.getElem?_set_ne (by omega), Array.getElem?_toList]
          exact q5 j y hy
      · rw [hsize, Nat.mul_one]
        exact (Below.refl _ _).setCell (p := ⟨g, _, none⟩) q1 _
      · intro k o hk hne
        rw [hsize, Nat.mul_one]
        have hkg : k ≠ g := fun e => by
          rw [e, q2] at hk
          exact hne cur (0, 0) (Option.some.inj hk).symm
        exact Below.heap_setCell _ _ _ _ hkg
    · obtain ⟨v', w', hr, ho, hg⟩ := run_append_arg_grows (P := P) w t ty 22 i z 1 bytes ht hi hz hsize hby hzs (by omega) ⟨g, off, none⟩ vs.length cap vs (by simp) (fun j u hj => by rw [Addr.add_mid, cell_of_row _ _ _ _ _ _ q2]; exact q5 j u hj) a 1 c [x] rfl hx (by omega) h63 hbytes
      obtain ⟨k1, k2, k3⟩ := grown v' w' ho hg
      exact ⟨v', w', hr, k1, k2, k3⟩
theorem wpList_append_q {P : Program} {ops : Array Oper} {rest : List Oper} {o : Oper} {a : Act} {Q : Exit → Act → World → Prop} (w : World) (hgd : o.guard = none) (s x : Operand) (t : TypeId)
    (ho : o.op = .call { callee := .builtin .append, args := #[s, x], argTypes := #[t, t] })
    (i : TypeInfo) (z : Value) (bytes : Nat) (ht : P.underlying t = some (.slice 22)) (hi : P.info? 22 = some i) (hz : i.zero = some z) (hsize : i.size = 1) (hby : i.bytes = bytes) (hzs : z.cells.size = 1)
    (B : Nat) (v : Value) (vs : List Value) (hs : a.eval s = v) (hq : QAt w B v vs) (hB : B ≤ w.heap.size) (ad : Addr) (c : Nat) (y : Value) (hx : a.eval x = .slice (some ad) 1 c) (hy : ∀ j u, [y][j]? = some u → w.cell? (ad.add j) = some u) (h1 : y.oneCell' = true) (h63 : vs.length + 1 ≤ maxLen) (hbytes : (vs.length + 1) * bytes ≤ 140737488355328)
    (h : ∀ v' w', QAt w' B v' (vs ++ [y]) → Below B w w' → KeepQ w w' → wpList P ops Q rest (a.put o.dst v') w') : wpList P ops Q (o :: rest) a w := by
  obtain ⟨v', w', hr, h2, h3, h4⟩ := run_append_q (P := P) w t o.type i z bytes ht hi hz hsize hby hzs B v vs hq hB ad c y hy h1 h63 hbytes
  refine wpList_plain hgd fun _ hK => ?_
  unfold Oper.wp execOp
  simp only [ho, resolve, invoke, builtin, Sem.run_bind, Sem.run_pure, Result.andThen_ok, List.map_toArray, List.map_cons, List.map_nil, hs, hx, hr]
  exact hK _ _ (h v' w' h2 h3 h4)
end Go.Proofs.YtddmpecljcfjnaaDoor
