/-
  The law 'PackTells' returns true: the contracts of package pack and of the document's answer, put into its walk.
  Conditions: the sentinels and the table of powers of ten hold what their texts lay; the node lies in memory.
-/
import Derived.Test.YtilkjafggfdjeaaDoorPacked
import Derived.Test.YtilkjafggfdjeaaDoorPTellK
import Derived.Test.YtilkjafggfdjeaaDoorRefX
import Derived.Test.YtilkjafggfdjeaaDoorCodeE
import Derived.Test.YtilkjafggfdjeaaDoorSmall
import Derived.Test.YtilkjafggfdjeaaDoorOwn
namespace Go.Proofs.YtilkjafggfdjeaaDoor
open Go.RowKit

/-! ### What is read, whole: a node, an error's number, what is left -/
def zeroT : Tree := ⟨{ data := #[] }, { data := #[] }, false, []⟩
def nodeOf : Except Nat Tree → Tree
  | .error _ => zeroT
  | .ok t => t
def errIn {α : Type} : Except Nat α → Option Nat
  | .error e => some e
  | .ok _ => none
def nodeOf2 : Except Nat (Tree × List UInt8) → Tree
  | .error _ => zeroT
  | .ok x => x.1
def restOf : Except Nat (Tree × List UInt8) → ByteArray
  | .error _ => { data := #[] }
  | .ok x => bs x.2
theorem zero_lies (w : World) (Q : Nat → Prop) : LiesQ w Q 9 zeroT.kids (.slice none 0 0) := ⟨none, 0, rfl, by simp [zeroT], fun i x hx => by simp [zeroT] at hx⟩
theorem kidsR_lt {f c n e : Nat} {l : List UInt8} (ih : ∀ (m : Nat) (k : List UInt8) (e : Nat), nodeR f (m, k) = .error e → e < 13) : kidsR (nodeR f) c (n, l) = .error e → e < 13 := by
  induction c generalizing e with
  | zero => intro h; simp only [kidsR] at h; cases h
  | succ c ihc =>
    intro h
    simp only [kidsR] at h
    cases hk : kidsR (nodeR f) c (n, l) with
    | error e' =>
      rw [hk] at h
      simp only at h
      injection h with h
      subst h
      exact ihc hk
    | ok v =>
      obtain ⟨k1, m1, r1⟩ := v
      rw [hk] at h
      simp only at h
      unfold kidR at h
      simp only at h
      cases hb : bytesR r1 with
      | none =>
        rw [hb] at h
        simp only at h
        injection h with h
        omega
      | some v =>
        obtain ⟨nm, r2⟩ := v
        rw [hb] at h
        simp only at h
        cases hn : nodeR f (m1, r2) with
        | error e' =>
          rw [hn] at h
          simp only at h
          injection h with h
          subst h
          exact ih _ _ _ hn
        | ok v => rw [hn] at h; cases h
theorem nodeR_err : ∀ (f m : Nat) (k : List UInt8) (e : Nat), nodeR f (m, k) = .error e → e < 13 := by
  intro f
  induction f with
  | zero => intro m k e h; simp only [nodeR] at h; injection h with h; omega
  | succ f ih =>
    intro m k e h
    have leaf : ∀ {kd : ByteArray} {x : Bool} {n : Nat} {r : List UInt8}, leafR kd x n r = .error e → e < 13 := fun h => by
      unfold leafR at h
      split at h
      · injection h with h; omega
      · cases h
    unfold nodeR at h
    simp only at h
    split at h
    · injection h with h; omega
    · cases k with
      | nil => simp only at h; injection h with h; omega
      | cons c l =>
        simp only at h
        split at h
        · exact leaf h
        · split at h
          · exact leaf h
          · split at h
            · unfold dirR at h
              split at h
              · injection h with h; omega
              · split at h
                · rename_i e' he
                  injection h with h
                  subst h
                  exact kidsR_lt ih he
                · cases h
            · injection h with h; omega
theorem readR_lt {s : ByteArray} {e : Nat} (h : errIn (readR s) = some e) : e < 13 := by
  unfold readR at h
  split at h
  · simp only [errIn, Option.some.injEq] at h; omega
  · split at h
    · rename_i e' he
      simp only [errIn, Option.some.injEq] at h
      subst h
      exact nodeR_err _ _ _ _ he
    · repeat' split at h
      all_goals first
        | (simp only [errIn, Option.some.injEq] at h; omega)
        | (simp only [errIn, Option.some.injEq] at h; subst h; exact errOf_lt _ 0 (by assumption))
        | (simp [errIn] at h)
theorem firstR_lt {s : ByteArray} {e : Nat} (h : errIn (firstR s) = some e) : e < 13 := by
  unfold firstR at h
  split at h
  · simp only [errIn, Option.some.injEq] at h; omega
  · split at h
    · rename_i e' he
      simp only [errIn, Option.some.injEq] at h
      subst h
      exact nodeR_err _ _ _ _ he
    · split at h
      · rename_i e' he
        simp only [errIn, Option.some.injEq] at h
        subst h
        exact errOf_lt _ 0 he
      · simp [errIn] at h

theorem read_whole (a : Nat → Addr) (s : ByteArray) (w : World) (S : Sen a w) (hs : s.size ≤ 1000000) : Calls Tryd.prog 30 #[.string s] w fun e w' => Below w.heap.size w w' ∧ ∃ ad c, e = .returned (.tuple #[.agg #[.string (nodeOf (readR s)).kind, .string (nodeOf (readR s)).data, .bool (nodeOf (readR s)).exec, .slice ad (nodeOf (readR s)).kids.length c], errV a (errIn (readR s))]) ∧
      LiesQ w' (fun b => w.heap.size ≤ b ∧ b < w'.heap.size) 9 (nodeOf (readR s)).kids (.slice ad (nodeOf (readR s)).kids.length c) := by
  refine (read_any a s w S (read_alive hs)).mono ?_
  rintro e w' ⟨hb, ⟨er, h, rfl⟩ | ⟨t, u, h, rfl, hl⟩⟩
  · rw [h]; exact ⟨hb, none, 0, rfl, zero_lies _ _⟩
  · rw [h]
    obtain ⟨ad, c, rfl⟩ := hl.form
    exact ⟨hb, ad, c, rfl, hl⟩
theorem readTree_whole (s : ByteArray) (w : World) (hs : s.size ≤ 1000000) : Calls Tryd.prog 31 #[.string s] w fun e w' => Below w.heap.size w w' ∧ ∃ ad c, e = .returned (.tuple #[.agg #[.string (nodeOf (readR s)).kind, .string (nodeOf (readR s)).data, .bool (nodeOf (readR s)).exec, .slice ad (nodeOf (readR s)).kids.length c], .int .i64 (num (errIn (readR s)))]) ∧
      LiesQ w' (fun b => w.heap.size ≤ b ∧ b < w'.heap.size) 9 (nodeOf (readR s)).kids (.slice ad (nodeOf (readR s)).kids.length c) := by
  refine (readTree_any s w hs).mono ?_
  rintro e w' ⟨hb, ⟨er, h, rfl⟩ | ⟨t, u, h, rfl, hl⟩⟩
  · rw [h]; exact ⟨hb, none, 0, rfl, zero_lies _ _⟩
  · rw [h]
    obtain ⟨ad, c, rfl⟩ := hl.form
    exact ⟨hb, ad, c, rfl, hl⟩
theorem first_whole (a : Nat → Addr) (s : ByteArray) (w : World) (S : Sen a w) (hs : s.size ≤ 1000000) : Calls Tryd.prog 32 #[.string s] w fun e w' => Below w.heap.size w w' ∧ ∃ ad c, e = .returned (.tuple #[.agg #[.string (nodeOf2 (firstR s)).kind, .string (nodeOf2 (firstR s)).data, .bool (nodeOf2 (firstR s)).exec, .slice ad (nodeOf2 (firstR s)).kids.length c], .string (restOf (firstR s)), errV a (errIn (firstR s))]) ∧
      LiesQ w' (fun b => w.heap.size ≤ b ∧ b < w'.heap.size) 9 (nodeOf2 (firstR s)).kids (.slice ad (nodeOf2 (firstR s)).kids.length c) := by
  refine (first_any a s w S (read_alive hs)).mono ?_
  rintro e w' ⟨hb, ⟨er, h, rfl⟩ | ⟨t, r, u, h, rfl, hl⟩⟩
  · rw [h]; exact ⟨hb, none, 0, rfl, zero_lies _ _⟩
  · rw [h]
    obtain ⟨ad, c, rfl⟩ := hl.form
    exact ⟨hb, ad, c, rfl, hl⟩
theorem firstOf_whole (s : ByteArray) (w : World) (hs : s.size ≤ 1000000) : Calls Tryd.prog 33 #[.string s] w fun e w' => Below w.heap.size w w' ∧ ∃ ad c, e = .returned (.tuple #[.agg #[.string (nodeOf2 (firstR s)).kind, .string (nodeOf2 (firstR s)).data, .bool (nodeOf2 (firstR s)).exec, .slice ad (nodeOf2 (firstR s)).kids.length c], .string (restOf (firstR s)), .int .i64 (num (errIn (firstR s)))]) ∧
      LiesQ w' (fun b => w.heap.size ≤ b ∧ b < w'.heap.size) 9 (nodeOf2 (firstR s)).kids (.slice ad (nodeOf2 (firstR s)).kids.length c) := by
  refine (firstOf_any s w hs).mono ?_
  rintro e w' ⟨hb, ⟨er, h, rfl⟩ | ⟨t, r, u, h, rfl, hl⟩⟩
  · rw [h]; exact ⟨hb, none, 0, rfl, zero_lies _ _⟩
  · rw [h]
    obtain ⟨ad, c, rfl⟩ := hl.form
    exact ⟨hb, ad, c, rfl, hl⟩

/-- Two nodes in memory that are one tree are the same. -/
theorem same_one {w : World} {t : Tree} {Q Q' : Nat → Prop} {u v : Value} (hu : LiesQ w Q 9 t.kids u) (hv : LiesQ w Q' 9 t.kids v) (hQ : ∀ k, Q k → k < w.heap.size) (hQ' : ∀ k, Q' k → k < w.heap.size) :
    Calls Tryd.prog 13 #[.agg #[.string t.kind, .string t.data, .bool t.exec, u], .agg #[.string t.kind, .string t.data, .bool t.exec, v]] w fun e w' => e = .returned (.bool true) ∧ Below w.heap.size w w' := by
  have h1 : Lies w w.heap.size 9 t.kids u := hu.lies hQ
  exact (sameTree_any w.heap.size 9 t t u v w (Nat.le_refl _) h1 (hv.lies hQ')).mono fun e w' ⟨h2, h3⟩ => ⟨by rw [h2, sameB_refl h1.fit], h3⟩
theorem set4_size (w : World) (b : Nat) (v0 v1 v2 v3 : Value) : ((((w.setCell ⟨b, 0, none⟩ v0).setCell ⟨b, 1, none⟩ v1).setCell ⟨b, 2, none⟩ v2).setCell ⟨b, 3, none⟩ v3).heap.size = w.heap.size := by simp [World.setCell]
theorem set4_row {w : World} {b : Nat} (h : Box4 w b) (k d : ByteArray) (x : Bool) (a : Option Addr) (n c : Nat) : ((((w.setCell ⟨b, 0, none⟩ (.string k)).setCell ⟨b, 1, none⟩ (.string d)).setCell ⟨b, 2, none⟩ (.bool x)).setCell ⟨b, 3, none⟩ (.slice a n c)).heap[b]? = some (.cells #[.string k, .string d, .bool x, .slice a n c] 24 (0, 0)) := by
  obtain ⟨_, _, _, _, _, _, h⟩ := h
  simp [World.setCell, Array.getElem?_modify, h]
theorem row_cells {w : World} {b : Nat} {k d : ByteArray} {x : Bool} {a : Option Addr} {n c : Nat} (h : w.heap[b]? = some (.cells #[.string k, .string d, .bool x, .slice a n c] 24 (0, 0))) : w.cell? ⟨b, 0, none⟩ = some (.string k) ∧ w.cell? ⟨b, 1, none⟩ = some (.string d) ∧ w.cell? ⟨b, 2, none⟩ = some (.bool x) ∧ w.cell? ⟨b, 3, none⟩ = some (.slice a n c) := (row4 h).1

theorem Sents.same {a : Nat → Addr} {w w' : World} (S : Sents a w) (h : ∀ k, k < w.heap.size → w'.heap[k]? = w.heap[k]?) : Sents a w' where
  cell i hi := (World.cell?_of_block (a := ⟨gv i, 0, none⟩) (h _ (lt_of_cell (S.cell i hi)))).trans (S.cell i hi)
  row i hi := by
    obtain ⟨ca, ta, e⟩ := S.row i hi
    exact ⟨ca, ta, (h _ (lt_of_row e)).trans e⟩
  ne := S.ne
  et := (World.cell?_of_block (h _ (lt_of_cell S.et))).trans S.et
theorem ptFirst (a : Nat → Addr) (q : ByteArray) (bx bc : Nat) (W w4 : World) (R : World → Prop) (hR : ∀ w', Below W.heap.size W w' → R w') (S : Sents a w4) (hq : q.size ≤ 1000000) (hne : bx ≠ bc) (hB : Below W.heap.size W w4) (hx : W.heap.size ≤ bx) (hc : W.heap.size ≤ bc) (hx4 : bx < w4.heap.size) (hc4 : bc < w4.heap.size) (kx : Box4 w4 bx) (kc : Box4 w4 bc)
    (hsx : ∀ w', (∀ k, k ≠ bx → k ≠ bc → k < w4.heap.size → w'.heap[k]? = w4.heap[k]?) → w4.heap.size ≤ w'.heap.size → Sents a w') : PtFirst q bx bc R w4 := by
  refine (first_whole a q w4 S.sen hq).mono ?_
  rintro e w5 ⟨hb5, ad, c, rfl, hl5⟩
  have hx5 : bx < w5.heap.size := Nat.lt_of_lt_of_le hx4 hb5.size
  have b5 : Box4 w5 bx := by
    obtain ⟨k1, k2, k3, k4, k5, k6, h⟩ := kx
    exact ⟨k1, k2, k3, k4, k5, k6, by rw [hb5.block bx hx4]; exact h⟩
  have c5 : w5.heap[bc]? = w4.heap[bc]? := hb5.block bc hc4
  refine ⟨_, _, _, ad, _, c, _, _, rfl, b5, ?_⟩
  generalize hT : nodeOf2 (firstR q) = T at *
  generalize hE : errIn (firstR q) = E at *
  generalize hRs : restOf (firstR q) = rs at *
  have r5 := set4_row b5 T.kind T.data T.exec ad T.kids.length c
  have z5 := set4_size w5 bx (.string T.kind) (.string T.data) (.bool T.exec) (.slice ad T.kids.length c)
  have S5 := ((((SameBut.refl bx w5).set 0 (.string T.kind)).set 1 (.string T.data)).set 2 (.bool T.exec)).set 3 (.slice ad T.kids.length c)
  generalize ((((w5.setCell ⟨bx, 0, none⟩ (.string T.kind)).setCell ⟨bx, 1, none⟩ (.string T.data)).setCell ⟨bx, 2, none⟩ (.bool T.exec)).setCell ⟨bx, 3, none⟩ (.slice ad T.kids.length c)) = V5 at *
  have hB5 : Below W.heap.size W V5 := S5.below (hB.trans (hb5.mono hB.size)) hx
  have hF := firstOf_whole q V5 hq
  rw [hT, hE, hRs] at hF
  refine hF.mono ?_
  rintro e w6 ⟨hb6, ad2, c2, rfl, hl6⟩
  have c6 : w6.heap[bc]? = w4.heap[bc]? := by rw [hb6.block bc (by rw [z5]; exact Nat.lt_of_lt_of_le hc4 hb5.size), S5.block bc (Ne.symm hne)]; exact c5
  have b6 : Box4 w6 bc := by
    obtain ⟨k1, k2, k3, k4, k5, k6, h⟩ := kc
    exact ⟨k1, k2, k3, k4, k5, k6, by rw [c6]; exact h⟩
  refine ⟨_, _, _, ad2, _, c2, _, rfl, b6, ?_⟩
  have r6 := set4_row b6 T.kind T.data T.exec ad2 T.kids.length c2
  have z6 := set4_size w6 bc (.string T.kind) (.string T.data) (.bool T.exec) (.slice ad2 T.kids.length c2)
  have S6 := ((((SameBut.refl bc w6).set 0 (.string T.kind)).set 1 (.string T.data)).set 2 (.bool T.exec)).set 3 (.slice ad2 T.kids.length c2)
  generalize ((((w6.setCell ⟨bc, 0, none⟩ (.string T.kind)).setCell ⟨bc, 1, none⟩ (.string T.data)).setCell ⟨bc, 2, none⟩ (.bool T.exec)).setCell ⟨bc, 3, none⟩ (.slice ad2 T.kids.length c2)) = V6 at *
  have hz5 := hb5.size
  have hz6 := hb6.size
  have hB6 : Below W.heap.size W V6 := S6.below (hB5.trans (hb6.mono hB5.size)) hc
  have far : ∀ k, k ≠ bx → k ≠ bc → k < w4.heap.size → V6.heap[k]? = w4.heap[k]? := fun k h1 h2 h3 => by
    rw [S6.block k h2, hb6.block k (by omega), S5.block k h1, hb5.block k h3]
  have SS : Sents a V6 := hsx V6 far (by omega)
  have hE13 : ∀ e, E = some e → e < 13 := fun e he => firstR_lt (hE.trans he)
  refine (coded_err a E V6 SS hE13).mono ?_
  rintro e w7 ⟨rfl, hb7⟩
  have hz7 := hb7.size
  have x7 : w7.heap[bx]? = some (.cells #[.string T.kind, .string T.data, .bool T.exec, .slice ad T.kids.length c] 24 (0, 0)) := by
    rw [hb7.block bx (by omega), S6.block bx hne, hb6.block bx (by omega)]; exact r5
  have y7 : w7.heap[bc]? = some (.cells #[.string T.kind, .string T.data, .bool T.exec, .slice ad2 T.kids.length c2] 24 (0, 0)) := by
    rw [hb7.block bc (by omega)]; exact r6
  refine ⟨rfl, row_cells x7, row_cells y7, ?_⟩
  have hB7 : Below W.heap.size W w7 := hB6.trans (hb7.mono hB6.size)
  have l5 : LiesQ w7 (fun b => w4.heap.size ≤ b ∧ b < w5.heap.size) 9 T.kids (.slice ad T.kids.length c) := LiesQ.kept (fun k hk => by
    rw [hb7.block k (by omega), S6.block k (by omega), hb6.block k (by omega), S5.block k (by omega)]) (fun k hk => hk) hl5
  have l6 : LiesQ w7 (fun b => V5.heap.size ≤ b ∧ b < w6.heap.size) 9 T.kids (.slice ad2 T.kids.length c2) := LiesQ.kept (fun k hk => by
    rw [hb7.block k (by omega), S6.block k (by omega)]) (fun k hk => hk) hl6
  exact (same_one l5 l6 (fun k hk => by omega) (fun k hk => by omega)).mono fun e w8 ⟨h1, h2⟩ => ⟨h1, hR _ (hB7.trans (h2.mono hB7.size))⟩
theorem ptRead (a : Nat → Addr) (q : ByteArray) (W w0 : World) (R : World → Prop) (hR : ∀ w', Below W.heap.size W w' → R w') (hq : q.size ≤ 1000000) (hB : Below W.heap.size W w0)
    (hS : ∀ w', (∀ k, k < W.heap.size → w'.heap[k]? = W.heap[k]?) → Sents a w') : PtRead q R w0 := by
  have go : ∀ w', Below W.heap.size W w' → Sents a w' := fun w' h => hS w' fun k hk => h.block k hk
  refine (read_whole a q w0 (go w0 hB).sen hq).mono ?_
  rintro e w1 ⟨hb1, ad, c, rfl, hl1⟩
  refine ⟨_, _, _, ad, _, c, _, rfl, ?_⟩
  generalize hT : nodeOf (readR q) = T at *
  generalize hE : errIn (readR q) = E at *
  have hB1 : Below W.heap.size W w1 := hB.trans (hb1.mono hB.size)
  have g1 : Below w1.heap.size w1 (w1.alloc (.cells #[.string T.kind, .string T.data, .bool T.exec, .slice ad T.kids.length c] 24)) := (Below.refl _ _).alloc (Nat.le_refl _) _
  have r1 := row_alloc' w1 #[.string T.kind, .string T.data, .bool T.exec, .slice ad T.kids.length c] 24
  have z1 : (w1.alloc (.cells #[.string T.kind, .string T.data, .bool T.exec, .slice ad T.kids.length c] 24)).heap.size = w1.heap.size + 1 := by simp
  generalize (w1.alloc (.cells #[.string T.kind, .string T.data, .bool T.exec, .slice ad T.kids.length c] 24)) = V1 at *
  have hF := readTree_whole q V1 hq
  rw [hT, hE] at hF
  refine hF.mono ?_
  rintro e w2 ⟨hb2, ad2, c2, rfl, hl2⟩
  refine ⟨_, _, _, ad2, _, c2, _, rfl, ?_⟩
  have g2 : Below w2.heap.size w2 (w2.alloc (.cells #[.string T.kind, .string T.data, .bool T.exec, .slice ad2 T.kids.length c2] 24)) := (Below.refl _ _).alloc (Nat.le_refl _) _
  have r2 := row_alloc' w2 #[.string T.kind, .string T.data, .bool T.exec, .slice ad2 T.kids.length c2] 24
  have z2 : (w2.alloc (.cells #[.string T.kind, .string T.data, .bool T.exec, .slice ad2 T.kids.length c2] 24)).heap.size = w2.heap.size + 1 := by simp
  generalize (w2.alloc (.cells #[.string T.kind, .string T.data, .bool T.exec, .slice ad2 T.kids.length c2] 24)) = V2 at *
  have hz1 := hb1.size
  have hz2 := hb2.size
  have hz0 := hB.size
  have g12 : Below V1.heap.size V1 V2 := hb2.trans (g2.mono hb2.size)
  have hV1 : Below W.heap.size W V1 := hB1.trans (g1.mono hB1.size)
  have hV2 : Below W.heap.size W V2 := hV1.trans (g12.mono hV1.size)
  have hE13 : ∀ e, E = some e → e < 13 := fun e he => readR_lt (hE.trans he)
  refine (coded_err a E V2 (go V2 hV2) hE13).mono ?_
  rintro e w3 ⟨rfl, hb3⟩
  have hz3 := hb3.size
  have x3 : w3.heap[w1.heap.size]? = some (.cells #[.string T.kind, .string T.data, .bool T.exec, .slice ad T.kids.length c] 24 (0, 0)) := by
    rw [hb3.block _ (by omega), g12.block _ (by omega)]; exact r1
  have y3 : w3.heap[w2.heap.size]? = some (.cells #[.string T.kind, .string T.data, .bool T.exec, .slice ad2 T.kids.length c2] 24 (0, 0)) := by
    rw [hb3.block _ (by omega)]; exact r2
  refine ⟨rfl, row_cells x3, row_cells y3, ?_⟩
  have hB3 : Below W.heap.size W w3 := hV2.trans (hb3.mono hV2.size)
  have l1 : LiesQ w3 (fun b => w0.heap.size ≤ b ∧ b < w1.heap.size) 9 T.kids (.slice ad T.kids.length c) := LiesQ.kept (fun k hk => by
    rw [hb3.block k (by omega), g12.block k (by omega), g1.block k (by omega)]) (fun k hk => hk) hl1
  have l2 : LiesQ w3 (fun b => V1.heap.size ≤ b ∧ b < w2.heap.size) 9 T.kids (.slice ad2 T.kids.length c2) := LiesQ.kept (fun k hk => by
    rw [hb3.block k (by omega), g2.block k (by omega)]) (fun k hk => hk) hl2
  refine (same_one l1 l2 (fun k hk => by omega) (fun k hk => by omega)).mono ?_
  rintro e w4 ⟨rfl, hb4⟩
  have hz4 := hb4.size
  have hB4 : Below W.heap.size W w4 := hB3.trans (hb4.mono hB3.size)
  refine ⟨rfl, ptFirst a q _ _ W w4 R hR (go w4 hB4) hq (by omega) hB4 (by omega) (by omega) (by omega) (by omega) ⟨_, _, _, _, _, _, by rw [hb4.block _ (by omega)]; exact x3⟩ ⟨_, _, _, _, _, _, by rw [hb4.block _ (by omega)]; exact y3⟩ ?_⟩
  intro w' hk hz
  exact hS w' fun k hk' => by rw [hk k (by omega) (by omega) (by omega)]; exact hB4.block k hk'

theorem packTells_any (a : Nat → Addr) (d : Nat) (s : Tree) (us : Value) (q : ByteArray) (w : World) (S0 : Sents a w) (hT0 : Tab w.heap.size w) (hls : Lies w w.heap.size d s.kids us) (hq : q.size ≤ maxLen) :
    Calls Tryd.prog 6 #[.agg #[.string s.kind, .string s.data, .bool s.exec, us], .string q] w fun e w' => e = .returned (.bool true) ∧ Below w.heap.size w w' := by
  obtain ⟨sa, sc, rfl⟩ := hls.form
  have gW : Below w.heap.size w (w.alloc (.cells #[.string s.kind, .string s.data, .bool s.exec, .slice sa s.kids.length sc] 24)) := (Below.refl _ _).alloc (Nat.le_refl _) _
  have hx := box_cells w s.kind s.data s.exec sa s.kids.length sc
  have z1 : (w.alloc (.cells #[.string s.kind, .string s.data, .bool s.exec, .slice sa s.kids.length sc] 24)).heap.size = w.heap.size + 1 := by simp
  obtain ⟨W0, hW0⟩ : ∃ W0, W0 = w.alloc (.cells #[.string s.kind, .string s.data, .bool s.exec, .slice sa s.kids.length sc] 24) := ⟨_, rfl⟩
  rw [← hW0] at hx gW z1
  have S := S0.below gW
  have hT : Tab W0.heap.size W0 := Tab.up (Tab.on hT0 gW) gW.size
  have lA := (hls.below gW (Nat.le_refl _)).up gW.size (Nat.le_refl _)
  have hR : ∀ w', Below W0.heap.size W0 w' → Below w.heap.size w w' := fun w' h => gW.trans (h.mono gW.size)
  have go : ∀ {w' w''}, Below W0.heap.size W0 w' → Below w'.heap.size w' w'' → Below W0.heap.size W0 w'' := fun h h2 => h.trans (h2.mono h.size)
  refine ptell_skel s.kind s.data q s.exec sa s.kids.length sc w (largeN 230 s) ?_ hq (fun w' => Below w.heap.size w w') (fun w' => Below W0.heap.size W0 w') hR ?_ (fun w' h => h.drew) ?_ ?_ ?_
  · have := largeN_bounds 230 s; omega
  · rw [← hW0]; exact packed_any a W0 S.sen hT
  · intro w' h
    exact box_keeps h (by omega) hx
  · exact fun w' h => (large_any W0.heap.size d 230 s _ w' h.size (lA.below h (Nat.le_refl _)) (by omega)).mono fun e w'' ⟨h1, h2⟩ => ⟨h1, go h h2⟩
  · intro hl hq2 w' h
    obtain ⟨hok, hlen⟩ := small_ok lA.fit (largeN_zero (n := 230) (t := s) (by omega))
    have fs : Fit d s := lA.fit
    have cs : Alive ck ckOk 0 (pre d ByteArray.empty 0 s) := alive_ck _ 0 (by omega) hok
    have hdat : Dat d s := dat_of fs fun x hx => (hok x hx).2.2
    have tl : treeErr d s = none → (textT d s).length ≤ 1000000 := fun hw => by
      have h := treeErr_none.1 hw
      have h1 := text_len d ByteArray.empty 0 s fs (fun x hx => (h.2 x hx).2) h.1
      have h2 : 2100 * (pre d ByteArray.empty 0 s).length ≤ 2100 * 200 := Nat.mul_le_mul_left _ h.1
      omega
    have hS : ∀ w', Below W0.heap.size W0 w' → SentsB a W0.heap.size w' := fun w' h => S.sen.atB.below h (Nat.le_refl _)
    refine (own_any W0.heap.size d s _ w' h.size (lA.below h (Nat.le_refl _))).mono ?_
    rintro e w1 ⟨u1, rfl, hq1, hb1⟩
    obtain ⟨xa, xc, rfl⟩ := hq1.form
    have h1 := go h hb1
    refine ⟨xa, xc, rfl, box_keeps h1 (by omega) hx, ?_⟩
    refine (text_any a d w1.heap.size s _ w1 ((hS w1 h1).up h1.size) (Nat.le_refl _) (hq1.lies fun k hk => hk.2) cs (Tab.up (Tab.on hT h1) h1.size) (fun hw => by have := tl hw; omega)).mono ?_
    rintro e w2 ⟨rfl, hb2⟩
    have h2 := go h1 hb2
    refine ⟨_, rfl, box_keeps h2 (by omega) hx, ?_⟩
    refine (treeText_any W0.heap.size d s _ w2 h2.size (lA.below h2 (Nat.le_refl _)) hdat tl).mono ?_
    rintro e w3 ⟨rfl, hb3⟩
    have h3 := go h2 hb3
    refine ⟨rfl, box_keeps h3 (by omega) hx, ?_⟩
    exact ptRead a q W0 w3 _ hR (by omega) h3 (fun w' hk => S.same hk)
end Go.Proofs.YtilkjafggfdjeaaDoor
