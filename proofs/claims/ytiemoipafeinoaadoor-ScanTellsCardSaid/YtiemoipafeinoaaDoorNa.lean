/-
  Names in files as plain mathematics: mentions of a text, the text with a name turned into another one.
  Conditions: none.
-/
import Derived.Test.YtiemoipafeinoaaDoorRa
import Derived.Test.YtiemoipafeinoaaDoorTrees
namespace Go.Proofs.YtiemoipafeinoaaDoor

/-- May a byte be a name's? -/
def isL (c : UInt8) : Bool := nb (c.toNat : Int)
def bOf (l : List UInt8) : ByteArray := ⟨l.toArray⟩
theorem bOf_data (l : List UInt8) : (bOf l).data.toList = l := rfl
theorem bOf_list (l : List UInt8) : (bOf l).toList = l := by rw [ba_toList2]; rfl
theorem bOf_back (s : ByteArray) : bOf s.data.toList = s := by cases s; rfl
theorem bOf_inj {a b : List UInt8} (h : bOf a = bOf b) : a = b := by rw [← bOf_data a, h]; rfl
theorem bOf_eq {a : List UInt8} {s : ByteArray} : bOf a = s ↔ a = s.data.toList := ⟨fun h => by rw [← h]; rfl, fun h => by rw [h, bOf_back]⟩
theorem isL_mark : isL 35 = false := by decide
/-- The word that a text begins with. -/
def wd (l : List UInt8) : List UInt8 := l.takeWhile isL
/-- What stands behind each mark. -/
def ms : List UInt8 → List (List UInt8)
  | [] => []
  | c :: r => if c = 35 then wd r :: ms r else ms r
/-- The same, with its places. -/
def msAt : Nat → List UInt8 → List (Nat × List UInt8)
  | _, [] => []
  | k, c :: r => if c = 35 then (k + 1, wd r) :: msAt (k + 1) r else msAt (k + 1) r
theorem msAt_ms : ∀ (l : List UInt8) (k : Nat), (msAt k l).map (·.2) = ms l
  | [], _ => rfl
  | c :: r, k => by
    unfold msAt ms
    split
    · rw [List.map_cons, msAt_ms r]
    · exact msAt_ms r _
theorem msAt_skip : ∀ (p : List UInt8), (∀ c ∈ p, c ≠ 35) → ∀ (k : Nat) (r : List UInt8), msAt k (p ++ r) = msAt (k + p.length) r
  | [], _, k, r => rfl
  | c :: p, h, k, r => by
    show msAt k (c :: (p ++ r)) = _
    rw [msAt, if_neg (h c (by simp)), msAt_skip p (fun x hx => h x (by simp [hx])), List.length_cons]
    congr 1
    omega
theorem ms_skip (p : List UInt8) (h : ∀ c ∈ p, c ≠ 35) (r : List UInt8) : ms (p ++ r) = ms r := by rw [← msAt_ms (p ++ r) 0, msAt_skip p h, msAt_ms]
theorem isL_ne {c : UInt8} (h : isL c = true) : c ≠ 35 := fun e => by rw [e, isL_mark] at h; cases h
theorem wd_all (l : List UInt8) : ∀ c ∈ wd l, isL c = true := fun c hc => List.all_takeWhile |> fun h => List.all_eq_true.1 h c hc
theorem wd_ne (l : List UInt8) : ∀ c ∈ wd l, c ≠ 35 := fun c hc => isL_ne (wd_all l c hc)
theorem wd_split (l : List UInt8) : wd l ++ l.dropWhile isL = l := List.takeWhile_append_dropWhile
theorem wd_drop (l : List UInt8) : l.drop (wd l).length = l.dropWhile isL := by
  have h := congrArg (List.drop (wd l).length) (wd_split l)
  rw [List.drop_left] at h
  exact h.symm
theorem msAt_word (k : Nat) (l : List UInt8) : msAt k l = msAt (k + (wd l).length) (l.drop (wd l).length) := by
  conv => lhs; rw [← wd_split l]
  rw [msAt_skip _ (wd_ne l), wd_drop]
theorem ms_word (l : List UInt8) : ms l = ms (l.dropWhile isL) := by
  conv => lhs; rw [← wd_split l]
  exact ms_skip _ (wd_ne l) _
theorem wd_len (l : List UInt8) : (wd l).length ≤ l.length := (List.takeWhile_sublist _).length_le
/-- A text that goes on behind a byte that no name has. -/
theorem wd_more {c : UInt8} (hc : isL c = false) : ∀ (a b : List UInt8), wd (a ++ c :: b) = wd a
  | [], b => by simp [wd, hc]
  | x :: a, b => by
    have := wd_more hc a b
    unfold wd at this ⊢
    rw [List.cons_append, List.takeWhile_cons, List.takeWhile_cons, this]
theorem ms_more {c : UInt8} (hc : isL c = false) (hm : c ≠ 35) : ∀ (a b : List UInt8), ms (a ++ c :: b) = ms a ++ ms b
  | [], b => by
    show ms (c :: b) = ms b
    rw [ms, if_neg hm]
  | x :: a, b => by
    rw [List.cons_append, ms, ms, ms_more hc hm a b, wd_more hc]
    split <;> rfl
/-- What is mentioned: names. -/
def mn (l : List UInt8) : List ByteArray := ((ms l).map bOf).filter nameB
def mv (k : Nat) (l : List UInt8) : List (Nat × ByteArray) := ((msAt k l).map fun x => (x.1, bOf x.2)).filter fun x => nameB x.2
theorem mv_mn (k : Nat) (l : List UInt8) : (mv k l).map (·.2) = mn l := by
  unfold mv mn
  rw [← msAt_ms l k]
  induction msAt k l with
  | nil => rfl
  | cons x t ih =>
    rw [List.map_cons, List.map_cons, List.map_cons, List.filter_cons, List.filter_cons]
    split
    · rw [List.map_cons, ih]
    · exact ih
theorem mem_mn {l : List UInt8} {x : ByteArray} : x ∈ mn l ↔ nameB x = true ∧ x.data.toList ∈ ms l := by
  unfold mn
  rw [List.mem_filter, List.mem_map]
  constructor
  · rintro ⟨⟨y, hy, rfl⟩, h⟩
    exact ⟨h, hy⟩
  · rintro ⟨h, hy⟩
    exact ⟨⟨_, hy, bOf_back x⟩, h⟩
theorem mn_more {c : UInt8} (hc : isL c = false) (hm : c ≠ 35) (a b : List UInt8) : mn (a ++ c :: b) = mn a ++ mn b := by
  unfold mn
  rw [ms_more hc hm, List.map_append, List.filter_append]
theorem ms_len : ∀ (l : List UInt8), (ms l).length ≤ l.length
  | [] => Nat.le_refl _
  | c :: r => by
    have := ms_len r
    unfold ms
    split
    · rw [List.length_cons, List.length_cons]; omega
    · rw [List.length_cons]; omega
theorem mn_len (l : List UInt8) : (mn l).length ≤ l.length := by
  have h := List.length_filter_le nameB ((ms l).map bOf)
  rw [List.length_map] at h
  exact Nat.le_trans h (ms_len l)

/-! ### Turned -/
/-- Each mention of a name becomes one of another one. -/
def tl (f t : List UInt8) : List UInt8 → List UInt8
  | [] => []
  | c :: r => if c = 35 ∧ wd r = f then 35 :: (t ++ tl f t (r.dropWhile isL)) else c :: tl f t r
termination_by l => l.length
decreasing_by
  · have := (List.dropWhile_sublist isL (l := r)).length_le
    simp only [List.length_cons]; omega
  · simp only [List.length_cons]; omega
theorem tl_nil (f t : List UInt8) : tl f t [] = [] := by rw [tl]
theorem tl_hit {f t r : List UInt8} (h : wd r = f) : tl f t (35 :: r) = 35 :: (t ++ tl f t (r.dropWhile isL)) := by rw [tl, if_pos ⟨rfl, h⟩]
theorem tl_not {f t r : List UInt8} {c : UInt8} (h : ¬ (c = 35 ∧ wd r = f)) : tl f t (c :: r) = c :: tl f t r := by rw [tl, if_neg h]
theorem tl_skip (f t : List UInt8) : ∀ (p : List UInt8), (∀ c ∈ p, c ≠ 35) → ∀ r, tl f t (p ++ r) = p ++ tl f t r
  | [], _, r => rfl
  | c :: p, h, r => by
    rw [List.cons_append, tl_not (fun e => h c (by simp) e.1), tl_skip f t p (fun x hx => h x (by simp [hx]))]
    rfl
theorem wd_head {l : List UInt8} : wd (l.dropWhile isL) = [] := by
  cases h : l.dropWhile isL with
  | nil => rfl
  | cons c r =>
    have := List.head?_dropWhile_not isL l
    rw [h] at this
    unfold wd
    rw [List.takeWhile_cons, if_neg (by simpa using this)]
theorem wd_tl (f t : List UInt8) (l : List UInt8) : wd (tl f t l) = wd l := by
  induction l with
  | nil => rw [tl_nil]
  | cons c r ih =>
    by_cases h : c = 35 ∧ wd r = f
    · rw [h.1, tl_hit h.2]
      unfold wd
      rw [List.takeWhile_cons, List.takeWhile_cons, isL_mark]
      rfl
    · rw [tl_not h]
      unfold wd at ih ⊢
      rw [List.takeWhile_cons, List.takeWhile_cons, ih]
theorem wd_app {t r : List UInt8} (ht : ∀ c ∈ t, isL c = true) (hr : wd r = []) : wd (t ++ r) = t := by
  unfold wd at *
  rw [List.takeWhile_append_of_pos ht, hr, List.append_nil]
theorem dw_app {t r : List UInt8} (ht : ∀ c ∈ t, isL c = true) (hr : wd r = []) : (t ++ r).dropWhile isL = r := by
  have h := wd_split (t ++ r)
  rw [wd_app ht hr] at h
  exact List.append_cancel_left h
theorem ms_tl {f t : List UInt8} (ht : ∀ c ∈ t, isL c = true) : ∀ (n : Nat) (l : List UInt8), l.length ≤ n → ms (tl f t l) = (ms l).map fun w => if w = f then t else w
  | _, [], _ => by rw [tl_nil]; rfl
  | 0, c :: r, h => by simp at h
  | n + 1, c :: r, h => by
    have h' : r.length ≤ n := by simpa using h
    by_cases hc : c = 35 ∧ wd r = f
    · have hl := (List.dropWhile_sublist isL (l := r)).length_le
      have hw : wd (tl f t (r.dropWhile isL)) = [] := by rw [wd_tl, wd_head]
      rw [hc.1, tl_hit hc.2, ms, if_pos rfl, ms, if_pos rfl, List.map_cons, hc.2, if_pos rfl, wd_app ht hw, ms_skip _ (fun x hx => isL_ne (ht x hx)), ms_tl ht n _ (by omega), ms_word r]
    · rw [tl_not hc, ms, ms, ms_tl ht n r h', wd_tl]
      split
      · rename_i e
        rw [List.map_cons, if_neg (fun h => hc ⟨e, h⟩)]
      · rfl
theorem tl_back {f t : List UInt8} (ht : ∀ c ∈ t, isL c = true) : ∀ (n : Nat) (l : List UInt8), l.length ≤ n → (t ∉ ms l ∨ f = t) → tl t f (tl f t l) = l
  | _, [], _, _ => by rw [tl_nil, tl_nil]
  | 0, c :: r, h, _ => by simp at h
  | n + 1, c :: r, h, hn => by
    have h' : r.length ≤ n := by simpa using h
    by_cases hc : c = 35 ∧ wd r = f
    · have hl := (List.dropWhile_sublist isL (l := r)).length_le
      have hw : wd (tl f t (r.dropWhile isL)) = [] := by rw [wd_tl, wd_head]
      have hn' : t ∉ ms (r.dropWhile isL) ∨ f = t := hn.imp (fun h hm => h (by rw [hc.1, ms, if_pos rfl, ms_word r]; exact List.mem_cons_of_mem _ hm)) id
      rw [hc.1, tl_hit hc.2, tl_hit (wd_app ht hw), dw_app ht hw, tl_back ht n _ (by omega) hn', ← hc.2, wd_split]
    · rw [tl_not hc, tl_not (fun e => ?_), tl_back ht n r h' (hn.imp (fun h hm => h (by rw [ms]; split; exact List.mem_cons_of_mem _ hm; exact hm)) id)]
      rw [wd_tl] at e
      rcases hn with hn | hn
      · exact hn (by rw [e.1, ms, if_pos rfl, e.2]; simp)
      · exact hc ⟨e.1, by rw [e.2, hn]⟩
theorem tl_same {f t : List UInt8} : ∀ (l : List UInt8), f ∉ ms l → tl f t l = l
  | [], _ => tl_nil _ _
  | c :: r, h => by
    by_cases hc : c = 35 ∧ wd r = f
    · exact absurd (by rw [hc.1, ms, if_pos rfl, hc.2]; simp) h
    · rw [tl_not hc, tl_same r (fun hm => h (by rw [ms]; split; exact List.mem_cons_of_mem _ hm; exact hm))]
theorem tl_len {f t : List UInt8} : ∀ (n : Nat) (l : List UInt8), l.length ≤ n → (tl f t l).length ≤ l.length * (t.length + 1)
  | _, [], _ => by rw [tl_nil]; simp
  | 0, c :: r, h => by simp at h
  | n + 1, c :: r, h => by
    have h' : r.length ≤ n := by simpa using h
    have hm : (r.length + 1) * (t.length + 1) = r.length * (t.length + 1) + (t.length + 1) := Nat.succ_mul _ _
    by_cases hc : c = 35 ∧ wd r = f
    · have hl := (List.dropWhile_sublist isL (l := r)).length_le
      have := tl_len (f := f) (t := t) n (r.dropWhile isL) (by omega)
      have h2 := Nat.mul_le_mul_right (t.length + 1) hl
      rw [hc.1, tl_hit hc.2, List.length_cons, List.length_append, List.length_cons, hm]
      omega
    · have := tl_len (f := f) (t := t) n r h'
      rw [tl_not hc, List.length_cons, List.length_cons, hm]
      omega
/-! ### By the mentions, one behind the other -/
/-- Of a text that is told to 'at': what came out, and how much of the text is in it. -/
def tstep (l f t : List UInt8) (q : List UInt8 × Nat) (x : Nat × ByteArray) : List UInt8 × Nat :=
  if x.2.data.toList = f then (q.1 ++ (l.take x.1).drop q.2 ++ t, x.1 + f.length) else q
def tfold (l f t : List UInt8) (m : List (Nat × ByteArray)) : List UInt8 × Nat := m.foldl (tstep l f t) ([], 0)
theorem tfold_snoc (l f t : List UInt8) (m : List (Nat × ByteArray)) (x : Nat × ByteArray) : tfold l f t (m ++ [x]) = tstep l f t (tfold l f t m) x := by
  unfold tfold
  rw [List.foldl_append]
  rfl
theorem mid_snoc {l : List UInt8} {d k : Nat} {c : UInt8} {r : List UInt8} (hd : d ≤ k) (h : l.drop k = c :: r) : (l.take (k + 1)).drop d = (l.take k).drop d ++ [c] := by
  have hk : k < l.length := by
    rcases Nat.lt_or_ge k l.length with h1 | h1
    · exact h1
    · rw [List.drop_of_length_le h1] at h; cases h
  have e : l[k] = c := by rw [List.drop_eq_getElem_cons hk] at h; exact (List.cons.inj h).1
  rw [List.take_succ_eq_append_getElem hk, e, List.drop_append_of_le_length (by rw [List.length_take]; omega)]
theorem mv_hit {k : Nat} {r : List UInt8} (h : nameB (bOf (wd r)) = true) : mv k (35 :: r) = (k + 1, bOf (wd r)) :: mv (k + 1) r := by
  unfold mv
  rw [msAt, if_pos rfl, List.map_cons, List.filter_cons, if_pos h]
theorem mv_not {k : Nat} {c : UInt8} {r : List UInt8} (h : ¬ (c = 35 ∧ nameB (bOf (wd r)) = true)) : mv k (c :: r) = mv (k + 1) r := by
  unfold mv
  rw [msAt]
  split
  · rename_i e
    rw [List.map_cons, List.filter_cons, if_neg (fun h2 => h ⟨e, h2⟩)]
  · rfl
theorem mv_word (k : Nat) (l : List UInt8) : mv k l = mv (k + (wd l).length) (l.drop (wd l).length) := by
  unfold mv
  rw [← msAt_word]
theorem mv_skip {p : List UInt8} (h : ∀ c ∈ p, c ≠ 35) (k : Nat) (r : List UInt8) : mv k (p ++ r) = mv (k + p.length) r := by
  unfold mv
  rw [msAt_skip p h]
theorem fold_tl {l f t : List UInt8} (hf : nameB (bOf f) = true) : ∀ (n k : Nat) (r o : List UInt8) (d : Nat), r.length ≤ n → l.drop k = r → d ≤ k →
    ((mv k r).foldl (tstep l f t) (o, d)).1 ++ l.drop ((mv k r).foldl (tstep l f t) (o, d)).2 = o ++ (l.take k).drop d ++ tl f t r
  | n, k, [], o, d, _, hr, hd => by
    have hk : l.length ≤ k := by
      have := congrArg List.length hr
      rw [List.length_drop] at this
      simp at this; omega
    rw [tl_nil, List.append_nil, List.take_of_length_le hk]
    rfl
  | 0, k, c :: r, o, d, hn, _, _ => by simp at hn
  | n + 1, k, c :: r, o, d, hn, hr, hd => by
    have hn' : r.length ≤ n := by simpa using hn
    have hr' : l.drop (k + 1) = r := by rw [← List.drop_drop, hr]; rfl
    have key : ¬ (c = 35 ∧ wd r = f) → o ++ (l.take (k + 1)).drop d ++ tl f t r = o ++ (l.take k).drop d ++ tl f t (c :: r) := fun h => by
      rw [mid_snoc hd hr, tl_not h]; simp
    by_cases h : c = 35 ∧ nameB (bOf (wd r)) = true
    · obtain ⟨rfl, h⟩ := h
      rw [mv_hit h, List.foldl_cons]
      by_cases hw : wd r = f
      · have hl := (List.dropWhile_sublist isL (l := r)).length_le
        have e : tstep l f t (o, d) (k + 1, bOf (wd r)) = (o ++ (l.take (k + 1)).drop d ++ t, k + 1 + (wd r).length) := by
          unfold tstep
          rw [if_pos (by exact hw), hw]
        rw [e, mv_word, wd_drop, fold_tl hf n _ _ _ _ (by omega) (by rw [← List.drop_drop, hr', wd_drop]) (Nat.le_refl _), tl_hit hw, mid_snoc hd hr]
        have e2 : (l.take (k + 1 + (wd r).length)).drop (k + 1 + (wd r).length) = [] := List.drop_eq_nil_of_le (by rw [List.length_take]; omega)
        rw [e2]; simp
      · have e : tstep l f t (o, d) (k + 1, bOf (wd r)) = (o, d) := by
          unfold tstep
          rw [if_neg (by exact hw)]
        rw [e, fold_tl hf n (k + 1) r o d hn' hr' (by omega)]
        exact key fun h => hw h.2
    · rw [mv_not h, fold_tl hf n (k + 1) r o d hn' hr' (by omega)]
      exact key fun h2 => h ⟨h2.1, by rw [h2.2]; exact hf⟩
theorem tfold_all {l f t : List UInt8} (hf : nameB (bOf f) = true) : (tfold l f t (mv 0 l)).1 ++ l.drop (tfold l f t (mv 0 l)).2 = tl f t l := by
  have h := fold_tl (t := t) hf l.length 0 l [] 0 (Nat.le_refl _) rfl (Nat.le_refl _)
  unfold tfold
  simpa using h
/-- Places rise, and each lies in the text. -/
theorem mv_places : ∀ (r : List UInt8) (k : Nat), ∀ x ∈ mv k r, k < x.1 ∧ x.1 + x.2.size ≤ k + r.length
  | [], k, x, h => by cases h
  | c :: r, k, x, h => by
    have ih := mv_places r (k + 1)
    by_cases hc : c = 35 ∧ nameB (bOf (wd r)) = true
    · obtain ⟨rfl, hc⟩ := hc
      rw [mv_hit hc, List.mem_cons] at h
      rcases h with rfl | h
      · have := wd_len r
        refine ⟨by show k < k + 1; omega, ?_⟩
        show k + 1 + (bOf (wd r)).size ≤ k + (r.length + 1)
        have e : (bOf (wd r)).size = (wd r).length := rfl
        omega
      · have := ih x h
        simp only [List.length_cons]; omega
    · rw [mv_not hc] at h
      have := ih x h
      simp only [List.length_cons]; omega
theorem mv_rise : ∀ (r : List UInt8) (k : Nat) (pre post : List (Nat × ByteArray)) (x : Nat × ByteArray), mv k r = pre ++ x :: post → ∀ y ∈ pre, y.1 + y.2.size ≤ x.1
  | [], k, pre, post, x, h => by
    have := congrArg List.length h
    rw [show mv k [] = [] from rfl] at this
    simp at this
  | c :: r, k, pre, post, x, h => fun y hy => by
    by_cases hc : c = 35 ∧ nameB (bOf (wd r)) = true
    · obtain ⟨rfl, hc⟩ := hc
      rw [mv_hit hc] at h
      cases pre with
      | nil => cases hy
      | cons z pre =>
        rw [List.cons_append] at h
        obtain ⟨h1, h2⟩ := List.cons.inj h
        rcases List.mem_cons.1 hy with rfl | hy
        · have hx : x ∈ mv (k + 1) r := by rw [h2]; simp
          rw [mv_word] at hx
          have := (mv_places _ _ x hx).1
          rw [← h1]
          show k + 1 + (bOf (wd r)).size ≤ _
          have e : (bOf (wd r)).size = (wd r).length := rfl
          omega
        · exact mv_rise r (k + 1) pre post x h2 y hy
    · rw [mv_not hc] at h
      exact mv_rise r (k + 1) pre post x h y hy
theorem tfold_go (l f t : List UInt8) (n : Nat) : ∀ (m : List (Nat × ByteArray)) (q : List UInt8 × Nat), q.2 ≤ n → (∀ y ∈ m, y.1 + y.2.size ≤ n) → (m.foldl (tstep l f t) q).2 ≤ n ∧ (m.foldl (tstep l f t) q).1.length ≤ q.1.length + (l.length + t.length) * m.length
  | [], q, hq, _ => ⟨hq, by simp⟩
  | x :: m, q, hq, h => by
    have h2 := h x (by simp)
    have ih := tfold_go l f t n m (tstep l f t q x) ?_ fun y hy => h y (by simp [hy])
    · rw [List.foldl_cons, List.length_cons, Nat.mul_add, Nat.mul_one]
      refine ⟨ih.1, Nat.le_trans ih.2 ?_⟩
      have e : (tstep l f t q x).1.length ≤ q.1.length + (l.length + t.length) := by
        unfold tstep
        split
        · simp only [List.length_append, List.length_drop, List.length_take]; omega
        · omega
      omega
    · unfold tstep
      split
      · rename_i e
        have e2 : x.2.size = f.length := by rw [← e]; rfl
        show x.1 + f.length ≤ n; omega
      · exact hq
theorem tfold_done (l f t : List UInt8) (m : List (Nat × ByteArray)) (n : Nat) (h : ∀ y ∈ m, y.1 + y.2.size ≤ n) : (tfold l f t m).2 ≤ n ∧ (tfold l f t m).1.length ≤ (l.length + t.length) * m.length := by
  have := tfold_go l f t n m ([], 0) (Nat.zero_le _) h
  unfold tfold
  simpa using this
end Go.Proofs.YtiemoipafeinoaaDoor
