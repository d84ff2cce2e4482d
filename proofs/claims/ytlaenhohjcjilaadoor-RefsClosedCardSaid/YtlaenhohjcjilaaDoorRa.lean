/-
  Packs as plain mathematics: what is wrong with them, what names need, whom one is used by, and what is dead; lists of texts that rise.
  Conditions: none.
-/
import Derived.Test.YtlaenhohjcjilaaDoorTrees
import Derived.Test.YtlaenhohjcjilaaDoorOrds
namespace Go.Proofs.YtlaenhohjcjilaaDoor
open Go.RowKit

/-- A pack: its name, and what it needs. -/
structure Pk where
  name : ByteArray
  refs : List ByteArray
/-- One text stands ahead of another one. -/
abbrev bl (a b : ByteArray) : Bool := Op.bytesLess a.toList b.toList
theorem ba_toList2 (s : ByteArray) : s.toList = s.data.toList := by rw [ByteArray.toList_eq]
theorem ba_eq {a b : ByteArray} (h : a.toList = b.toList) : a = b := by
  rw [ba_toList2, ba_toList2] at h
  cases a; cases b
  simp only [ByteArray.mk.injEq] at h ⊢
  exact Array.toList_inj.1 h
theorem ba_beq {a b : ByteArray} : (a.toList == b.toList) = true ↔ a = b := by
  rw [beq_iff_eq]
  exact ⟨ba_eq, fun e => by rw [e]⟩
theorem ba_bne {a b : ByteArray} : (a.toList == b.toList) = false ↔ a ≠ b := by
  rw [Bool.eq_false_iff, ne_eq, ba_beq]
/-- Is a text one of these? -/
def memB (x : ByteArray) (l : List ByteArray) : Bool := l.any fun y => y.toList == x.toList
theorem memB_iff {x : ByteArray} {l : List ByteArray} : memB x l = true ↔ x ∈ l := by
  unfold memB
  rw [List.any_eq_true]
  constructor
  · rintro ⟨y, hy, e⟩
    rw [ba_beq] at e
    rw [← e]; exact hy
  · intro h
    exact ⟨x, h, ba_beq.2 rfl⟩
theorem memB_not {x : ByteArray} {l : List ByteArray} : memB x l = false ↔ x ∉ l := by
  rw [Bool.eq_false_iff, ne_eq, memB_iff]
theorem bl_irrefl (a : ByteArray) : bl a a = false := less_irrefl _
theorem bl_trans {a b c : ByteArray} (h1 : bl a b = true) (h2 : bl b c = true) : bl a c = true := less_trans h1 h2
theorem bl_tot : ∀ (x y : List UInt8), Op.bytesLess x y = false → Op.bytesLess y x = false → x = y
  | [], [], _, _ => rfl
  | _ :: _, [], _, h => by simp [Op.bytesLess] at h
  | [], _ :: _, h, _ => by simp [Op.bytesLess] at h
  | a :: x, b :: y, h1, h2 => by
    simp only [Op.bytesLess, Bool.or_eq_false_iff, decide_eq_false_iff_not, Bool.and_eq_false_iff] at h1 h2
    have e : a = b := UInt8.le_antisymm (UInt8.not_lt.1 h2.1) (UInt8.not_lt.1 h1.1)
    subst e
    have h3 : Op.bytesLess x y = false := by rcases h1.2 with h | h; simp at h; exact h
    have h4 : Op.bytesLess y x = false := by rcases h2.2 with h | h; simp at h; exact h
    rw [bl_tot x y h3 h4]
theorem bl_asymm {a b : ByteArray} (h : bl a b = true) : bl b a = false := by
  cases h2 : bl b a with
  | false => rfl
  | true => have := bl_trans h h2; rw [bl_irrefl] at this; cases this
theorem bl_ne {a b : ByteArray} (h : bl a b = true) : a ≠ b := fun e => by subst e; rw [bl_irrefl] at h; cases h
theorem bl_of_not {a b : ByteArray} (h : bl b a = false) (hne : a ≠ b) : bl a b = true := by
  cases h2 : bl a b with
  | true => rfl
  | false => exact absurd (ba_eq (bl_tot _ _ h2 h)) hne

/-- Do texts rise, up to a place? -/
def riseTo (l : List ByteArray) (k : Nat) : Bool := (List.range k).all fun j => j == 0 || bl (l[j - 1]?.getD ByteArray.empty) (l[j]?.getD ByteArray.empty)
theorem riseTo_succ {l : List ByteArray} {k : Nat} {x y : ByteArray} (hx : l[k]? = some x) (hy : l[k + 1]? = some y) : riseTo l (k + 2) = (riseTo l (k + 1) && bl x y) := by
  unfold riseTo
  rw [List.range_succ (n := k + 1), List.all_append]
  simp [hx, hy]
theorem riseTo_mono {l : List ByteArray} {k n : Nat} (h : k ≤ n) (hf : riseTo l k = false) : riseTo l n = false := by
  unfold riseTo at hf ⊢
  rw [List.all_eq_false] at hf ⊢
  obtain ⟨j, hj, h2⟩ := hf
  exact ⟨j, List.mem_range.2 (Nat.lt_of_lt_of_le (List.mem_range.1 hj) h), h2⟩
theorem riseTo_one (l : List ByteArray) (k : Nat) (h : k ≤ 1) : riseTo l k = true := by
  unfold riseTo
  rw [List.all_eq_true]
  intro j hj
  have := List.mem_range.1 hj
  have e : j = 0 := by omega
  subst e; rfl

/-- One that a pack needs is neither its own nor ahead. -/
def lacks (A : List ByteArray) (p : Pk) (r : ByteArray) : Bool := !(r.toList == p.name.toList) && !(memB r A)
/-- What is wrong with a pack behind these names. -/
def pkErr (A : List ByteArray) (p : Pk) : Option Nat :=
  if nameB p.name = false then some 4 else if memB p.name A = true then some 6 else if 20 < p.refs.length then some 7 else if riseTo p.refs p.refs.length = false then some 9 else if p.refs.any (lacks A p) = true then some 5 else none
def aheadN (l : List Pk) (j : Nat) : List ByteArray := (l.take j).map Pk.name
def errAt (l : List Pk) (j : Nat) : Option Nat := (l[j]?).bind (pkErr (aheadN l j))
def PkOk (l : List Pk) (k : Nat) : Prop := ∀ j, j < k → errAt l j = none
/-- What is wrong with packs: the place (none: a bare error), and the error. -/
def chk (l : List Pk) : Option (Option Nat × Nat) := if 40 < l.length then some (none, 7) else (List.range l.length).findSome? fun j => (errAt l j).map fun e => (some j, e)
theorem aheadN_succ {l : List Pk} {j : Nat} {p : Pk} (h : l[j]? = some p) : aheadN l (j + 1) = aheadN l j ++ [p.name] := by
  unfold aheadN
  have hj := (List.getElem?_eq_some_iff.1 h)
  rw [List.take_succ_eq_append_getElem hj.1, hj.2, List.map_append]
  rfl
theorem aheadN_all (l : List Pk) : aheadN l l.length = l.map Pk.name := by unfold aheadN; rw [List.take_length]
theorem findSome_range {β : Type} {f : Nat → Option β} {i n : Nat} {y : β} (h0 : ∀ j, j < i → f j = none) (hi : i < n) (hy : f i = some y) : (List.range n).findSome? f = some y := by
  rw [List.findSome?_eq_some_iff]
  refine ⟨List.range i, i, (List.range (n - i - 1)).map (i + 1 + ·), ?_, hy, fun a ha => h0 a (List.mem_range.1 ha)⟩
  have e : n = i + ((n - i - 1) + 1) := by omega
  conv => lhs; rw [e]
  rw [List.range_add, List.range_succ_eq_map]
  simp only [List.map_cons, Nat.add_zero, List.map_map, List.append_cancel_left_eq, List.cons.injEq, true_and]
  apply List.map_congr_left
  intro a _
  simp only [Function.comp]
  omega
theorem chk_full {l : List Pk} (h : 40 < l.length) : chk l = some (none, 7) := by unfold chk; rw [if_pos h]
theorem chk_at {l : List Pk} {i e : Nat} (hl : l.length ≤ 40) (h : PkOk l i) (hi : i < l.length) (he : errAt l i = some e) : chk l = some (some i, e) := by
  unfold chk
  rw [if_neg (by omega)]
  exact findSome_range (fun j hj => by rw [h j hj]; rfl) hi (by rw [he]; rfl)
theorem chk_ok {l : List Pk} (hl : l.length ≤ 40) (h : PkOk l l.length) : chk l = none := by
  unfold chk
  rw [if_neg (by omega), List.findSome?_eq_none_iff]
  intro j hj
  rw [h j (List.mem_range.1 hj)]; rfl
/-- Packs with nothing wrong. -/
structure Well (l : List Pk) : Prop where
  len : l.length ≤ 40
  ok : PkOk l l.length
theorem well_of {l : List Pk} (h : chk l = none) : Well l := by
  unfold chk at h
  split at h
  · cases h
  · rename_i hl
    refine ⟨by omega, fun j hj => ?_⟩
    rw [List.findSome?_eq_none_iff] at h
    have := h j (List.mem_range.2 hj)
    cases e : errAt l j with
    | none => rfl
    | some x => rw [e] at this; cases this
theorem Well.chk {l : List Pk} (h : Well l) : chk l = none := chk_ok h.len h.ok
theorem pkErr_none {A : List ByteArray} {p : Pk} (h : pkErr A p = none) : nameB p.name = true ∧ p.name ∉ A ∧ p.refs.length ≤ 20 ∧ riseTo p.refs p.refs.length = true ∧ ∀ r ∈ p.refs, r = p.name ∨ r ∈ A := by
  unfold pkErr at h
  split at h
  · cases h
  rename_i h1
  split at h
  · cases h
  rename_i h2
  split at h
  · cases h
  rename_i h3
  split at h
  · cases h
  rename_i h4
  split at h
  · cases h
  rename_i h5
  refine ⟨by simpa using h1, fun hm => h2 (memB_iff.2 hm), by omega, by simpa using h4, fun r hr => ?_⟩
  have h6 : p.refs.any (lacks A p) = false := by simpa using h5
  rw [List.any_eq_false] at h6
  have := h6 r hr
  unfold lacks at this
  simp only [Bool.and_eq_true, Bool.not_eq_true', not_and, Bool.not_eq_false] at this
  by_cases e : r = p.name
  · exact .inl e
  · exact .inr (memB_iff.1 (this (ba_bne.2 e)))
theorem errAt_some {l : List Pk} {j : Nat} {p : Pk} (h : l[j]? = some p) : errAt l j = pkErr (aheadN l j) p := by unfold errAt; rw [h]; rfl
theorem pkErr_lt {A : List ByteArray} {p : Pk} {e : Nat} (h : pkErr A p = some e) : e < 13 := by
  unfold pkErr at h
  repeat' split at h
  all_goals first
    | (cases h; done)
    | (simp only [Option.some.injEq] at h; omega)
theorem chk_lt {l : List Pk} {o : Option Nat} {e : Nat} (h : chk l = some (o, e)) : e < 13 := by
  unfold chk at h
  split at h
  · simp only [Option.some.injEq, Prod.mk.injEq] at h; omega
  · rw [List.findSome?_eq_some_iff] at h
    obtain ⟨_, a, _, _, h, _⟩ := h
    cases ea : errAt l a with
    | none => rw [ea] at h; cases h
    | some x =>
      rw [ea] at h
      simp only [Option.map_some, Option.some.injEq, Prod.mk.injEq] at h
      obtain ⟨_, rfl⟩ := h
      unfold errAt at ea
      cases el : l[a]? with
      | none => rw [el] at ea; cases ea
      | some p => rw [el] at ea; exact pkErr_lt ea
/-- Packs in their order: each needs its own and those ahead. -/
def OrdA : List ByteArray → List Pk → Prop
  | _, [] => True
  | A, p :: l => p.name ∉ A ∧ (∀ r ∈ p.refs, r = p.name ∨ r ∈ A) ∧ OrdA (A ++ [p.name]) l
theorem ordA_of : ∀ (l : List Pk) (A : List ByteArray), (∀ j p, l[j]? = some p → p.name ∉ A ++ aheadN l j ∧ ∀ r ∈ p.refs, r = p.name ∨ r ∈ A ++ aheadN l j) → OrdA A l
  | [], _, _ => trivial
  | p :: l, A, h => by
    have h0 := h 0 p rfl
    simp only [aheadN, List.take_zero, List.map_nil, List.append_nil] at h0
    refine ⟨h0.1, h0.2, ordA_of l (A ++ [p.name]) fun j q hq => ?_⟩
    have h1 := h (j + 1) q (by simpa using hq)
    simp only [aheadN, List.take_succ_cons, List.map_cons] at h1
    rw [List.append_assoc]
    exact h1
theorem Well.ord {l : List Pk} (h : Well l) : OrdA [] l := ordA_of l [] fun j p hp => by
  have h1 := h.ok j (List.getElem?_eq_some_iff.1 hp).1
  rw [errAt_some hp] at h1
  have h2 := pkErr_none h1
  rw [List.nil_append]
  exact ⟨h2.2.1, h2.2.2.2.2⟩
theorem Well.at {l : List Pk} (h : Well l) {j : Nat} {p : Pk} (hp : l[j]? = some p) : nameB p.name = true ∧ p.refs.length ≤ 20 ∧ riseTo p.refs p.refs.length = true := by
  have h1 := h.ok j (List.getElem?_eq_some_iff.1 hp).1
  rw [errAt_some hp] at h1
  have h2 := pkErr_none h1
  exact ⟨h2.1, h2.2.2.1, h2.2.2.2.1⟩
theorem OrdA.away : ∀ {l : List Pk} {A : List ByteArray}, OrdA A l → ∀ q ∈ l, q.name ∉ A
  | [], _, _, q, hq => by cases hq
  | p :: l, A, h, q, hq => by
    rcases List.mem_cons.1 hq with rfl | hq
    · exact h.1
    · intro hA
      exact OrdA.away h.2.2 q hq (List.mem_append_left _ hA)
theorem OrdA.nodup : ∀ {l : List Pk} {A : List ByteArray}, OrdA A l → (l.map Pk.name).Nodup
  | [], _, _ => List.nodup_nil
  | p :: l, A, h => by
    rw [List.map_cons, List.nodup_cons]
    refine ⟨fun hm => ?_, OrdA.nodup h.2.2⟩
    obtain ⟨q, hq, e⟩ := List.mem_map.1 hm
    exact OrdA.away h.2.2 q hq (by rw [e]; simp)
theorem OrdA.split : ∀ {l1 : List Pk} {A : List ByteArray} {p : Pk} {l2 : List Pk}, OrdA A (l1 ++ p :: l2) → ∀ r ∈ p.refs, r = p.name ∨ r ∈ A ∨ r ∈ l1.map Pk.name
  | [], A, p, l2, h, r, hr => by
    rcases h.2.1 r hr with e | e
    · exact .inl e
    · exact .inr (.inl e)
  | q :: l1, A, p, l2, h, r, hr => by
    rcases OrdA.split h.2.2 r hr with e | e | e
    · exact .inl e
    · rcases List.mem_append.1 e with e | e
      · exact .inr (.inl e)
      · exact .inr (.inr (by rw [List.mem_singleton] at e; rw [e]; simp))
    · exact .inr (.inr (by simp only [List.map_cons, List.mem_cons]; exact .inr e))

/-! ### What names need -/
def nd (S : List ByteArray) (p : Pk) : List ByteArray := if memB p.name S = true then S ++ p.refs else S
def needR (l : List Pk) (names : List ByteArray) : List ByteArray := l.foldr (fun p S => nd S p) names
/-- From the end on, up to a place. -/
def needTo (l : List Pk) (names : List ByteArray) (k : Nat) : List ByteArray := (l.reverse.take k).foldl nd names
theorem needTo_all (l : List Pk) (names : List ByteArray) : needTo l names l.length = needR l names := by
  unfold needTo needR
  rw [List.take_of_length_le (by simp), List.foldl_reverse]
theorem needTo_succ {l : List Pk} {names : List ByteArray} {k : Nat} {p : Pk} (h : l.reverse[k]? = some p) : needTo l names (k + 1) = nd (needTo l names k) p := by
  unfold needTo
  have hk := List.getElem?_eq_some_iff.1 h
  rw [List.take_succ_eq_append_getElem hk.1, hk.2, List.foldl_append]
  rfl
theorem nd_sub {S : List ByteArray} {p : Pk} {x : ByteArray} (h : x ∈ S) : x ∈ nd S p := by
  unfold nd
  split
  · exact List.mem_append_left _ h
  · exact h
theorem need_sub : ∀ (l : List Pk) {names : List ByteArray} {x : ByteArray}, x ∈ names → x ∈ needR l names
  | [], _, _, h => h
  | _ :: l, _, _, h => nd_sub (need_sub l h)
/-- What is closed, and has the names, has what they need. -/
theorem need_min {T : List ByteArray} : ∀ (l : List Pk) {names : List ByteArray}, (∀ p ∈ l, p.name ∈ T → ∀ r ∈ p.refs, r ∈ T) → (∀ x ∈ names, x ∈ T) → ∀ x ∈ needR l names, x ∈ T
  | [], _, _, hn, x, hx => hn x hx
  | p :: l, names, hc, hn, x, hx => by
    have ih := need_min l (fun q hq => hc q (List.mem_cons_of_mem _ hq)) hn
    have e : needR (p :: l) names = nd (needR l names) p := rfl
    rw [e] at hx
    unfold nd at hx
    split at hx
    · rename_i hp
      rcases List.mem_append.1 hx with h | h
      · exact ih x h
      · exact hc p (List.mem_cons_self ..) (ih _ (memB_iff.1 hp)) x h
    · exact ih x hx
theorem need_closed : ∀ {l : List Pk} {A names : List ByteArray}, OrdA A l → ∀ p ∈ l, p.name ∈ needR l names → ∀ r ∈ p.refs, r ∈ needR l names
  | [], _, _, _, p, hp, _, _, _ => by cases hp
  | q :: l, A, names, h, p, hp, hm, r, hr => by
    have e : needR (q :: l) names = nd (needR l names) q := rfl
    rw [e] at hm ⊢
    rcases List.mem_cons.1 hp with rfl | hp
    · unfold nd at hm ⊢
      split
      · exact List.mem_append_right _ hr
      · rename_i hn
        rw [if_neg hn] at hm
        exact absurd (memB_iff.2 hm) hn
    · refine nd_sub (need_closed h.2.2 p hp ?_ r hr)
      unfold nd at hm
      split at hm
      · rcases List.mem_append.1 hm with h1 | h1
        · exact h1
        · exfalso
          apply OrdA.away h.2.2 p hp
          rcases h.2.1 _ h1 with e | e
          · rw [e]; simp
          · exact List.mem_append_left _ e
      · exact hm
theorem need_names {l : List Pk} (h : OrdA [] l) {names : List ByteArray} (hn : ∀ x ∈ names, x ∈ l.map Pk.name) : ∀ x ∈ needR l names, x ∈ l.map Pk.name :=
  need_min l (fun p hp _ r hr => by
    obtain ⟨l1, l2, rfl⟩ := List.append_of_mem hp
    rcases OrdA.split h r hr with e | e | e
    · rw [e]; exact List.mem_map_of_mem hp
    · cases e
    · rw [List.map_append]; exact List.mem_append_left _ e) hn
theorem need_nil : ∀ (l : List Pk), needR l [] = []
  | [] => rfl
  | p :: l => by
    have e : needR (p :: l) [] = nd (needR l []) p := rfl
    rw [e, need_nil l]
    rfl
theorem needTo_len {l : List Pk} (hl : ∀ p ∈ l, p.refs.length ≤ 20) (names : List ByteArray) : ∀ k, (needTo l names k).length ≤ names.length + 20 * k
  | 0 => by simp [needTo]
  | k + 1 => by
    have ih := needTo_len hl names k
    by_cases hk : k < l.reverse.length
    · have hp : l.reverse[k]? = some l.reverse[k] := List.getElem?_eq_getElem hk
      have hq : l.reverse[k] ∈ l := List.mem_reverse.1 (List.getElem_mem hk)
      rw [needTo_succ hp]
      unfold nd
      split
      · rw [List.length_append]; have := hl _ hq; omega
      · omega
    · have e : needTo l names (k + 1) = needTo l names k := by
        unfold needTo
        rw [List.take_of_length_le (by omega), List.take_of_length_le (by omega)]
      rw [e]; omega

/-! ### Lists that rise -/
def Rising (r : List ByteArray) : Prop := r.Pairwise fun a b => bl a b = true
theorem rising_ext : ∀ {a b : List ByteArray}, Rising a → Rising b → (∀ x, x ∈ a ↔ x ∈ b) → a = b
  | [], [], _, _, _ => rfl
  | [], y :: b, _, _, h => by have := (h y).2 (by simp); cases this
  | x :: a, [], _, _, h => by have := (h x).1 (by simp); cases this
  | x :: a, y :: b, ha, hb, h => by
    have ha' := List.pairwise_cons.1 ha
    have hb' := List.pairwise_cons.1 hb
    have e : x = y := by
      have h1 := (h x).1 (by simp)
      have h2 := (h y).2 (by simp)
      rcases List.mem_cons.1 h1 with e | h1
      · exact e
      rcases List.mem_cons.1 h2 with e | h2
      · exact e.symm
      have := bl_trans (ha'.1 y h2) (hb'.1 x h1)
      rw [bl_irrefl] at this; cases this
    subst e
    rw [rising_ext ha'.2 hb'.2 fun z => ?_]
    constructor
    · intro hz
      rcases List.mem_cons.1 ((h z).1 (List.mem_cons_of_mem _ hz)) with e | h1
      · subst e; have := ha'.1 z hz; rw [bl_irrefl] at this; cases this
      · exact h1
    · intro hz
      rcases List.mem_cons.1 ((h z).2 (List.mem_cons_of_mem _ hz)) with e | h1
      · subst e; have := hb'.1 z hz; rw [bl_irrefl] at this; cases this
      · exact h1
theorem rising_of_sorted {r : List ByteArray} (hs : r.Pairwise fun a b => bl b a = false) (hn : r.Nodup) : Rising r := by
  unfold Rising
  rw [List.pairwise_iff_getElem] at hs ⊢
  intro i j hi hj hij
  refine bl_of_not (hs i j hi hj hij) fun e => ?_
  have := (List.getElem_inj hn).1 e
  omega
/-- With a text more. -/
def atR (l : List ByteArray) (s : ByteArray) : Nat := (l.takeWhile fun x => bl x s).length
def withR (l : List ByteArray) (s : ByteArray) : List ByteArray := if (l[(l.takeWhile fun x => bl x s).length]?.any fun y => y.toList == s.toList) = true then l else l.take (l.takeWhile fun x => bl x s).length ++ s :: l.drop (l.takeWhile fun x => bl x s).length
theorem tw_at {l : List ByteArray} {s : ByteArray} {k : Nat} (h1 : ∀ j x, j < k → l[j]? = some x → bl x s = true) (hk : k ≤ l.length) (h2 : ∀ x, l[k]? = some x → bl x s = false) : (l.takeWhile fun x => bl x s).length = k := by
  induction l generalizing k with
  | nil => simp at hk; subst hk; rfl
  | cons y l ih =>
    cases k with
    | zero =>
      rw [List.takeWhile_cons, if_neg (by rw [h2 y rfl]; simp)]
      rfl
    | succ k =>
      rw [List.takeWhile_cons, if_pos (h1 0 y (by omega) rfl), List.length_cons]
      rw [ih (k := k) (fun j x hj hx => h1 (j + 1) x (by omega) (by simpa using hx)) (by simpa using hk) (fun x hx => h2 x (by simpa using hx))]
theorem tw_facts (l : List ByteArray) (s : ByteArray) : (∀ x ∈ l.take (l.takeWhile fun x => bl x s).length, bl x s = true) ∧ ∀ x, l[(l.takeWhile fun x => bl x s).length]? = some x → bl x s = false := by
  induction l with
  | nil => exact ⟨by simp, by simp⟩
  | cons y l ih =>
    rw [List.takeWhile_cons]
    cases h : bl y s with
    | false => exact ⟨by simp, fun x hx => by simp at hx; rw [← hx]; exact h⟩
    | true =>
      simp only [if_true, List.length_cons, List.take_succ_cons, List.mem_cons, List.getElem?_cons_succ]
      exact ⟨fun x hx => by rcases hx with rfl | hx; exact h; exact ih.1 x hx, ih.2⟩
theorem mem_withR {l : List ByteArray} {s x : ByteArray} : x ∈ withR l s ↔ x = s ∨ x ∈ l := by
  unfold withR
  split
  · rename_i h
    rw [Option.any_eq_true] at h
    obtain ⟨y, hy, e⟩ := h
    rw [ba_beq] at e
    subst e
    have := List.mem_of_getElem? hy
    constructor
    · exact .inr
    · rintro (rfl | h)
      · exact this
      · exact h
  · rw [List.mem_append, List.mem_cons]
    constructor
    · rintro (h | h | h)
      · exact .inr (List.mem_of_mem_take h)
      · exact .inl h
      · exact .inr (List.mem_of_mem_drop h)
    · rintro (h | h)
      · exact .inr (.inl h)
      · rw [← List.take_append_drop (l.takeWhile fun x => bl x s).length l, List.mem_append] at h
        rcases h with h | h
        · exact .inl h
        · exact .inr (.inr h)
theorem rising_withR {l : List ByteArray} {s : ByteArray} (h : Rising l) : Rising (withR l s) := by
  obtain ⟨f1, f2⟩ := tw_facts l s
  unfold withR
  split
  · exact h
  · rename_i hne
    unfold Rising at h ⊢
    generalize (l.takeWhile fun x => bl x s).length = k at *
    have h' := h
    rw [← List.take_append_drop k l, List.pairwise_append] at h'
    obtain ⟨h1, h2, h3⟩ := h'
    have h4 : ∀ x ∈ l.drop k, bl s x = true := by
      cases hd : l.drop k with
      | nil => intro x hx; cases hx
      | cons y r =>
        have hy : l[k]? = some y := by rw [← List.head?_drop, hd]; rfl
        have hsy : bl s y = true := bl_of_not (f2 y hy) (fun e => hne (by rw [hy, e]; simp))
        rw [hd] at h2
        intro x hx
        rcases List.mem_cons.1 hx with rfl | hx
        · exact hsy
        · exact bl_trans hsy ((List.pairwise_cons.1 h2).1 x hx)
    rw [List.pairwise_append]
    refine ⟨h1, List.pairwise_cons.2 ⟨h4, h2⟩, fun x hx y hy => ?_⟩
    rcases List.mem_cons.1 hy with rfl | hy
    · exact f1 x hx
    · exact h3 x hx y hy
theorem withR_there {l : List ByteArray} {s : ByteArray} (h : Rising l) (hs : s ∈ l) : withR l s = l := rising_ext (rising_withR h) h fun x => by rw [mem_withR]; exact ⟨fun h => by rcases h with rfl | h; exact hs; exact h, .inr⟩

/-! ### From the last one on -/
def lf (l : List Pk) (f : Pk → Bool) : List ByteArray := (l.reverse.filter f).map Pk.name
def lfTo (l : List Pk) (f : Pk → Bool) (k : Nat) : List ByteArray := ((l.reverse.take k).filter f).map Pk.name
theorem lfTo_all (l : List Pk) (f : Pk → Bool) : lfTo l f l.length = lf l f := by unfold lfTo lf; rw [List.take_of_length_le (by simp)]
theorem lfTo_succ {l : List Pk} {f : Pk → Bool} {k : Nat} {p : Pk} (h : l.reverse[k]? = some p) : lfTo l f (k + 1) = lfTo l f k ++ if f p = true then [p.name] else [] := by
  unfold lfTo
  have hk := List.getElem?_eq_some_iff.1 h
  rw [List.take_succ_eq_append_getElem hk.1, hk.2, List.filter_append, List.map_append]
  congr 1
  cases hf : f p <;> simp [hf]
theorem lfTo_len (l : List Pk) (f : Pk → Bool) (k : Nat) : (lfTo l f k).length ≤ l.length := by
  unfold lfTo
  rw [List.length_map]
  refine Nat.le_trans (List.length_filter_le _ _) ?_
  rw [List.length_take, List.length_reverse]; omega
theorem mem_lf {l : List Pk} {f : Pk → Bool} {x : ByteArray} : x ∈ lf l f ↔ ∃ p ∈ l, f p = true ∧ p.name = x := by
  unfold lf
  simp only [List.mem_map, List.mem_filter, List.mem_reverse]
  constructor
  · rintro ⟨p, ⟨h1, h2⟩, h3⟩; exact ⟨p, h1, h2, h3⟩
  · rintro ⟨p, h1, h2, h3⟩; exact ⟨p, ⟨h1, h2⟩, h3⟩
theorem lf_nodup {l : List Pk} (h : (l.map Pk.name).Nodup) (f : Pk → Bool) : (lf l f).Nodup := by
  unfold lf
  have h1 : (l.reverse.map Pk.name).Nodup := by rw [List.map_reverse]; exact (List.reverse_perm _).nodup_iff.2 h
  exact h1.sublist (List.Sublist.map _ List.filter_sublist)
theorem lf_both (l : List Pk) (f : Pk → Bool) : (lf l f).length + (lf l fun p => !f p).length = l.length := by
  unfold lf
  rw [List.length_map, List.length_map, ← List.countP_eq_length_filter, ← List.countP_eq_length_filter]
  have := List.length_eq_countP_add_countP f (l := l.reverse)
  rw [List.length_reverse] at this
  rw [this]
  congr 1
  apply List.countP_congr
  intro x _
  simp
/-- Names of one pack alone. -/
theorem name_one {l : List Pk} (h : (l.map Pk.name).Nodup) {p q : Pk} (hp : p ∈ l) (hq : q ∈ l) (e : p.name = q.name) : p = q := by
  obtain ⟨i, hi, rfl⟩ := List.getElem_of_mem hp
  obtain ⟨j, hj, rfl⟩ := List.getElem_of_mem hq
  have h1 : (l.map Pk.name)[i]'(by simpa using hi) = (l.map Pk.name)[j]'(by simpa using hj) := by simpa using e
  have := (List.getElem_inj h).1 h1
  subst this; rfl
/-- Live by a set. -/
def inS (S : List ByteArray) (p : Pk) : Bool := memB p.name S
/-- A user: another pack that needs it at once. -/
def usesB (name : ByteArray) (p : Pk) : Bool := !(p.name.toList == name.toList) && memB name p.refs
theorem usesB_iff {name : ByteArray} {p : Pk} : usesB name p = true ↔ p.name ≠ name ∧ name ∈ p.refs := by
  unfold usesB
  rw [Bool.and_eq_true, Bool.not_eq_true', ba_bne, memB_iff]
theorem inS_not {S : List ByteArray} {p : Pk} : (!inS S p) = true ↔ p.name ∉ S := by
  unfold inS
  rw [Bool.not_eq_true', memB_not]
/-- What a closure is: it rises, and has just what is needed. -/
structure IsCl (l : List Pk) (names r : List ByteArray) : Prop where
  rise : Rising r
  mem : ∀ x, x ∈ r ↔ x ∈ needR l names
  len : r.length = (lf l (inS (needR l names))).length
theorem isCl_of {l : List Pk} (W : Well l) {names r : List ByteArray} (hn : ∀ x ∈ names, x ∈ l.map Pk.name) (hp : r.Perm (lf l (inS (needR l names)))) (hs : r.Pairwise fun a b => bl b a = false) : IsCl l names r where
  rise := rising_of_sorted hs (hp.nodup_iff.2 (lf_nodup W.ord.nodup _))
  mem x := by
    rw [hp.mem_iff, mem_lf]
    constructor
    · rintro ⟨p, _, h, rfl⟩
      exact memB_iff.1 h
    · intro h
      obtain ⟨p, hp, rfl⟩ := List.mem_map.1 (need_names W.ord hn x h)
      exact ⟨p, hp, memB_iff.2 h, rfl⟩
  len := hp.length_eq
/-- A closure's closure is it. -/
theorem cl_again {l : List Pk} (W : Well l) {names r r2 : List ByteArray} (h1 : IsCl l names r) (h2 : IsCl l r r2) : r2 = r := by
  refine rising_ext h2.rise h1.rise fun x => ?_
  rw [h2.mem]
  constructor
  · intro h
    rw [h1.mem]
    exact need_min l (fun p hp => need_closed W.ord p hp) (fun y hy => (h1.mem y).1 hy) x h
  · exact need_sub l
theorem users_dead {l : List Pk} (W : Well l) {S : List ByteArray} (hS : ∀ p ∈ l, p.name ∈ S → ∀ r ∈ p.refs, r ∈ S) {i : Nat} {d u : ByteArray} (hd : (lf l fun p => !inS S p)[i]? = some d) (hu : u ∈ lf l (usesB d)) : u ∈ (lf l fun p => !inS S p).take i := by
  have hnd := lf_nodup W.ord.nodup fun p => !inS S p
  obtain ⟨p, hp, hup, rfl⟩ := mem_lf.1 hu
  rw [usesB_iff] at hup
  obtain ⟨q, hq, hq2, rfl⟩ := mem_lf.1 (List.mem_of_getElem? hd)
  rw [inS_not] at hq2
  have hpd : (!inS S p) = true := inS_not.2 fun h => hq2 (hS p hp h _ hup.2)
  obtain ⟨l1, l2, rfl⟩ := List.append_of_mem hp
  have hq3 : q.name ∈ l1.map Pk.name := by
    rcases OrdA.split W.ord _ hup.2 with e | e | e
    · exact absurd e.symm hup.1
    · cases e
    · exact e
  have e1 : (lf (l1 ++ p :: l2) fun p => !inS S p) = (lf l2 fun p => !inS S p) ++ p.name :: (lf l1 fun p => !inS S p) := by
    unfold lf
    rw [List.reverse_append, List.reverse_cons, List.append_assoc, List.filter_append, List.map_append]
    congr 1
    rw [List.singleton_append, List.filter_cons, if_pos hpd]
    rfl
  have hq4 : q.name ∈ lf l1 fun p => !inS S p := by
    obtain ⟨q', h1, h2⟩ := List.mem_map.1 hq3
    refine mem_lf.2 ⟨q', h1, ?_, h2⟩
    rw [inS_not, h2]; exact hq2
  rw [e1] at hnd hd ⊢
  generalize (lf l2 fun p => !inS S p) = D1 at *
  generalize (lf l1 fun p => !inS S p) = D2 at *
  obtain ⟨k, hk, ek⟩ := List.getElem_of_mem hq4
  have hd2 : (D1 ++ p.name :: D2)[D1.length + (k + 1)]? = some q.name := by
    rw [List.getElem?_append_right (by omega)]
    simp [hk, ek]
  have hi := List.getElem?_eq_some_iff.1 hd
  have hj := List.getElem?_eq_some_iff.1 hd2
  have : i = D1.length + (k + 1) := (List.getElem_inj hnd).1 (hi.2.trans hj.2.symm)
  subst this
  rw [List.mem_iff_getElem?]
  refine ⟨D1.length, ?_⟩
  rw [List.getElem?_take_of_lt (by omega), List.getElem?_append_right (Nat.le_refl _)]
  simp
/-- What is used by one, is in that one's closure. -/
theorem cl_user {l : List Pk} (W : Well l) {a b : Pk} {ra rb : List ByteArray} (hb : b ∈ l) (hab : a.name ∈ b.refs) (h1 : IsCl l [a.name] ra) (h2 : IsCl l [b.name] rb) : ∀ x ∈ ra, x ∈ rb := fun x hx => by
  rw [h2.mem]
  refine need_min l (fun p hp => need_closed W.ord p hp) (fun y hy => ?_) x ((h1.mem x).1 hx)
  rw [List.mem_singleton] at hy
  rw [hy]
  exact need_closed W.ord b hb (need_sub l (by simp)) _ hab
theorem users_mem {l : List Pk} (W : Well l) {i k : Nat} {a b : Pk} (ha : l[i]? = some a) (hb : l[k]? = some b) : b.name ∈ lf l (usesB a.name) ↔ (k ≠ i ∧ a.name ∈ b.refs) := by
  rw [mem_lf]
  have hnd := W.ord.nodup
  have hba : b.name = a.name ↔ k = i := by
    constructor
    · intro e
      have e1 : (l.map Pk.name)[k]? = some b.name := by rw [List.getElem?_map, hb]; rfl
      have e2 : (l.map Pk.name)[i]? = some a.name := by rw [List.getElem?_map, ha]; rfl
      have h1 := List.getElem?_eq_some_iff.1 e1
      have h2 := List.getElem?_eq_some_iff.1 e2
      exact (List.getElem_inj hnd).1 (h1.2.trans (e.trans h2.2.symm))
    · rintro rfl
      rw [ha] at hb
      rw [Option.some.inj hb]
  constructor
  · rintro ⟨p, hp, hu, e⟩
    have := name_one hnd hp (List.mem_of_getElem? hb) e
    subst this
    rw [usesB_iff] at hu
    exact ⟨fun h => hu.1 (hba.2 h), hu.2⟩
  · rintro ⟨h1, h2⟩
    refine ⟨b, List.mem_of_getElem? hb, ?_, rfl⟩
    rw [usesB_iff]
    exact ⟨fun h => h1 (hba.1 h), h2⟩
theorem dead_none (l : List Pk) : (lf l fun p => !inS (needR l []) p) = (l.map Pk.name).reverse := by
  unfold lf
  rw [need_nil, List.filter_eq_self.2 (fun p _ => inS_not.2 (by simp)), List.map_reverse]
theorem cl_all {l : List Pk} {r : List ByteArray} (h : IsCl l (lf l fun p => !inS (needR l []) p) r) : r.length = l.length ∧ ∀ p ∈ l, p.name ∈ r := by
  have hm : ∀ p ∈ l, p.name ∈ needR l (lf l fun p => !inS (needR l []) p) := fun p hp => need_sub l (by rw [dead_none]; simp only [List.mem_reverse]; exact List.mem_map_of_mem hp)
  refine ⟨?_, fun p hp => (h.mem _).2 (hm p hp)⟩
  rw [h.len]
  generalize needR l (lf l fun p => !inS (needR l []) p) = T at hm
  have e : l.reverse.filter (inS T) = l.reverse := List.filter_eq_self.2 (fun p hp => memB_iff.2 (hm p (List.mem_reverse.1 hp)))
  unfold lf
  rw [e]
  simp
end Go.Proofs.YtlaenhohjcjilaaDoor
