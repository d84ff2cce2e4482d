/-
  The contracts of package scan's tally: ask, look, found; and of Find.
  Conditions: the names lie in memory, and are small.
-/
import Derived.Test.YtiemoipafeinoaaDoorNb
import Derived.Test.YtiemoipafeinoaaDoorTxS
import Derived.Maps.RangeWalk
namespace Go.Proofs.YtiemoipafeinoaaDoor
open Go.RowKit Go.Maps
attribute [local go_sem ↓] Go.wp_at_zero Go.wp_at_succ

/-- How often a name is in a list. -/
def cntB (s : ByteArray) (M : List ByteArray) : Nat := (M.filter fun x => x.toList == s.toList).length
theorem cntB_snoc (s x : ByteArray) (M : List ByteArray) : cntB s (M ++ [x]) = cntB s M + if x = s then 1 else 0 := by
  unfold cntB
  rw [List.filter_append, List.length_append]
  by_cases h : x = s
  · subst h; simp
  · have : (x.toList == s.toList) = false := ba_bne.2 h
    simp [this, h]
theorem cntB_le (s : ByteArray) (M : List ByteArray) : cntB s M ≤ M.length := List.length_filter_le _ _
theorem cntB_pos {s : ByteArray} {M : List ByteArray} : 0 < cntB s M ↔ s ∈ M := by
  unfold cntB
  rw [List.length_pos_iff_exists_mem]
  constructor
  · rintro ⟨x, hx⟩
    rw [List.mem_filter, ba_beq] at hx
    rw [← hx.2]; exact hx.1
  · intro h
    exact ⟨s, by rw [List.mem_filter]; exact ⟨h, by simp⟩⟩
theorem zeroInt (w : World) : (zeroValue 3).run Tryd.prog w = .ok (.int .i64 0) w := by kernel_rfl
/-- A tally: names that are asked for, and those that were seen. -/
def TalAt (w : World) (mb : Nat) (names M : List ByteArray) : Prop := ∃ f n, n ≤ names.length + M.length ∧ MapV w 9 mb n f ∧ ∀ s : ByteArray, f (.string s.data.toList) = if memB s names = true then some (.int .i64 (cntB s M : Int)) else none
section
variable {w w' : World} {mb : Nat} {names M : List ByteArray}
theorem TalAt.keep (h : TalAt w mb names M) (hb : w'.heap[mb]? = w.heap[mb]?) : TalAt w' mb names M := by
  obtain ⟨f, n, hn, V, hf⟩ := h
  exact ⟨f, n, hn, V.keep hb, hf⟩
theorem TalAt.obj (h : TalAt w mb names M) : ∃ es cl, w.heap[mb]? = some (.map es cl) := by
  obtain ⟨f, n, hn, V, hf⟩ := h
  exact V.obj
theorem TalAt.lt (h : TalAt w mb names M) : mb < w.heap.size := by
  obtain ⟨es, cl, e⟩ := h.obj
  exact lt_of_row e
theorem TalAt.below (h : TalAt w mb names M) (hb : Below w.heap.size w w') : TalAt w' mb names M := h.keep (hb.block _ h.lt)
theorem TalAt.look (h : TalAt w mb names M) {s : ByteArray} (hs : s.size ≤ 1000000) : (Instr.lookup 50 (.map (some mb)) (.string s) true).run Tryd.prog w = .ok (.tuple #[.int .i64 (if memB s names = true then (cntB s M : Int) else 0), .bool (memB s names)]) w := by
  obtain ⟨f, n, hn, V, hf⟩ := h
  have h1 := V.look_ok keyStr Tryd.underlying50 (zeroInt w) (WideMaps.keyOf_string_mk Tryd.underlying9 (s := s) (by unfold maxLen; omega)) trivial
  rw [h1, hf]
  cases hm : memB s names <;> simp
theorem TalAt.put (h : TalAt w mb names M) {s : ByteArray} (hs : s.size ≤ 1000000) (hm : memB s names = true) (hn : names.length + M.length ≤ 1000000000) : ∃ w', (Instr.mapUpdate 50 (.map (some mb)) (.string s) (.int .i64 ((cntB s M : Int) + 1))).run Tryd.prog w = .ok () w' ∧ TalAt w' mb names (M ++ [s]) ∧ w.grownBy w' (some mb) ∧ w'.heap.size = w.heap.size := by
  obtain ⟨f, n, hn', V, hf⟩ := h
  obtain ⟨w', h1, V', h2, h3⟩ := V.put keyStr Tryd.underlying50 (by unfold maxLen; omega) (WideMaps.keyOf_string_mk Tryd.underlying9 (s := s) (by unfold maxLen; omega)) trivial (.int .i64 ((cntB s M : Int) + 1))
  refine ⟨w', h1, ⟨_, n + 1, by rw [List.length_append, List.length_singleton]; omega, V', fun r => ?_⟩, h2, h3⟩
  rw [cntB_snoc]
  by_cases e : r = s
  · subst e
    rw [updK_same, if_pos hm, if_pos rfl]; rfl
  · rw [updK_other _ _ (fun h => e (ba_eq (by rw [ba_toList2, ba_toList2]; simpa using h))), hf]
    have e2 : ¬ s = r := fun h => e h.symm
    simp [e2]
theorem TalAt.ask (h : TalAt w mb names []) {s : ByteArray} (hs : s.size ≤ 1000000) (hn : names.length ≤ 1000000) : ∃ w', (Instr.mapUpdate 50 (.map (some mb)) (.string s) (.int .i64 0)).run Tryd.prog w = .ok () w' ∧ TalAt w' mb (names ++ [s]) [] ∧ w.grownBy w' (some mb) ∧ w'.heap.size = w.heap.size := by
  obtain ⟨f, n, hn', V, hf⟩ := h
  obtain ⟨w', h1, V', h2, h3⟩ := V.put keyStr Tryd.underlying50 (by unfold maxLen; simp at hn'; omega) (WideMaps.keyOf_string_mk Tryd.underlying9 (s := s) (by unfold maxLen; omega)) trivial (.int .i64 0)
  refine ⟨w', h1, ⟨_, n + 1, by rw [List.length_append, List.length_singleton]; simp at hn'; simp; omega, V', fun r => ?_⟩, h2, h3⟩
  rw [memB_snoc]
  by_cases e : r = s
  · subst e
    rw [updK_same, if_pos (by simp)]; rfl
  · have e2 : (s.toList == r.toList) = false := ba_bne.2 (fun h => e h.symm)
    rw [updK_other _ _ (fun h => e (ba_eq (by rw [ba_toList2, ba_toList2]; simpa using h))), hf, e2, Bool.or_false]
theorem TalAt.skip (h : TalAt w mb names M) {s : ByteArray} (hm : memB s names = false) : TalAt w mb names (M ++ [s]) := by
  obtain ⟨f, n, hn', V, hf⟩ := h
  refine ⟨f, n, by rw [List.length_append]; omega, V, fun r => ?_⟩
  rw [hf, cntB_snoc]
  by_cases e : s = r
  · subst e; rw [hm]; rfl
  · rw [if_neg e, Nat.add_zero]
end
theorem grown_refl (w : World) (r : Option Nat) : w.grownBy w r := ⟨rfl, rfl, rfl, Nat.le_refl _, fun _ _ _ => rfl⟩
theorem grown_trans {w w1 w2 : World} {r : Option Nat} (h1 : w.grownBy w1 r) (h2 : w1.grownBy w2 r) : w.grownBy w2 r :=
  ⟨h2.os.trans h1.os, h2.tape.trans h1.tape, h2.output.trans h1.output, Nat.le_trans h1.size h2.size, fun k hk hne => by rw [h2.block k (Nat.lt_of_lt_of_le hk h1.size) hne]; exact h1.block k hk hne⟩
theorem grown_of_below {w w1 : World} {r : Option Nat} (h : Below w.heap.size w w1) : w.grownBy w1 r := ⟨h.os, h.tape, h.output, h.size, fun k hk _ => h.block k hk⟩
theorem below_of_grown {w w0 w1 : World} {B mb : Nat} (h0 : Below B w w0) (hB : B ≤ mb) (hs : B ≤ w0.heap.size) (h : w0.grownBy w1 (some mb)) : Below B w w1 := h0.grown h hs (fun k e => by cases e; exact hB)

set_option maxRecDepth 100000 in
set_option maxHeartbeats 1000000 in
theorem ask_any (v : Value) (l : List ByteArray) (w : World) (hv : Texts w v l) (hz : ∀ x ∈ l, x.size ≤ 1000000) (hl : l.length ≤ 100000) :
    Calls Tryd.prog 19 #[v] w fun e w' => e = .returned (.map (some w.heap.size)) ∧ TalAt w' w.heap.size l [] ∧ Below w.heap.size w w' := by
  obtain ⟨ad, cap, rfl, _⟩ := id hv
  obtain ⟨w0, hw0⟩ : ∃ w0, w0 = w.alloc (.map #[] 0) := ⟨_, rfl⟩
  have b0 : Below w.heap.size w w0 := by rw [hw0]; exact (Below.refl _ _).alloc (Nat.le_refl _) _
  have HS : Hid (TalAt w0 w.heap.size [] []) := by rw [hw0]; exact ⟨_, 0, by simp, MapV.made w 9, fun s => by simp [memB]⟩
  have HV : Hid (Texts w0 (.slice ad l.length cap) l) := hv.below b0
  have HZ : Hid (∀ x ∈ l, x.size ≤ 1000000) := hz
  have HB : Hid (Below w.heap.size w w0) := b0
  have HW : Hid (w0 = w.alloc (.map #[] 0)) := hw0
  have HZS : Hid (w0.heap.size = w.heap.size + 1) := by show _ = _; rw [hw0, World.size_alloc]
  clear hv hz b0 hw0
  have hmm := @run_makeMap Tryd.prog
  go_enter Tryd.func19, Tryd.ntmps19
  go_wp2_with fail
  rw [← HW.out]
  go_loopw [9] (fun i wr => ∃ k : Nat, k ≤ l.length ∧ i = .int .i64 k ∧ Hid (TalAt wr w.heap.size (l.take k) [] ∧ w0.grownBy wr (some w.heap.size) ∧ wr.heap.size = w0.heap.size)) (fun i _ => l.length - (intOf i).toNat)
  case atStart => exact ⟨0, Nat.zero_le _, rfl, by rw [List.take_zero]; exact HS.out, grown_refl _ _, rfl⟩
  case round =>
    obtain ⟨k, hk, rfl, HI⟩ := hrel
    by_cases hlt : k < l.length
    · obtain ⟨x, hx⟩ : ∃ x, l[k]? = some x := ⟨l[k], List.getElem?_eq_getElem hlt⟩
      obtain ⟨ad', cap', e, hc⟩ := HV.out.apart HS.out.obj HI.out.2.1
      simp only [Value.slice.injEq] at e
      obtain ⟨rfl, _, rfl⟩ := e
      obtain ⟨b1, o1, rfl, c1⟩ := hc k x hx
      obtain ⟨w', hrun, hS', hg', hz'⟩ := HI.out.1.ask (s := x) (HZ.out x (List.mem_of_getElem? hx)) (by rw [List.length_take]; omega)
      have HE : Hid (TalAt w' w.heap.size (l.take (k + 1)) [] ∧ w0.grownBy w' (some w.heap.size) ∧ w'.heap.size = w0.heap.size) := by
        have hkk := List.getElem?_eq_some_iff.1 hx
        exact ⟨by rw [List.take_succ_eq_append_getElem hkk.1, hkk.2]; exact hS', grown_trans HI.out.2.1 hg', hz'.trans HI.out.2.2⟩
      have HR : Hid _ := hrun
      clear hx hc hS' hg' hz' hrun
      go_wp2_with (refine wpList_mapPut (by rfl) _ _ _ _ (by rfl) _ _ _ (by rfl) (by rfl) (by rfl) HR.out ?_)
      go_roundw
      case rel => exact ⟨k + 1, by omega, by go_num, HE⟩
      case measure => simp [intOf]; omega
    · have e : k = l.length := by omega
      subst e
      have HE : Hid (TalAt wr w.heap.size l [] ∧ Below w.heap.size w wr) := by
        have := HI.out
        rw [List.take_length] at this
        exact ⟨this.1, below_of_grown HB.out (Nat.le_refl _) HB.out.size this.2.1⟩
      go_wp2_with fail
      go_ret
      exact ⟨rfl, HE.out⟩

set_option maxRecDepth 100000 in
set_option maxHeartbeats 1000000 in
theorem look1_any {mb bx : Nat} {names M : List ByteArray} (at_ : Int) (s : ByteArray) (w : World) (h : TalAt w mb names M) (hbx : w.cell? ⟨bx, 0, none⟩ = some (.map (some mb))) (hs : s.size ≤ 1000000) (hM : names.length + M.length ≤ 1000000000) :
    Calls Tryd.prog 36 #[.int .i64 at_, .string s, .pointer (some ⟨bx, 0, none⟩)] w fun e w' => e = .returned (.tuple #[]) ∧ TalAt w' mb names (M ++ [s]) ∧ w.grownBy w' (some mb) ∧ w'.heap.size = w.heap.size := by
  have hl := h.look hs
  have hc := cntB_le s M
  cases hm : memB s names with
  | true =>
    rw [hm, if_pos rfl] at hl
    obtain ⟨w1, hr, h1, h2, h3⟩ := h.put hs hm hM
    have HR : Hid _ := hr
    have HE : Hid (TalAt w1 mb names (M ++ [s]) ∧ w.grownBy w1 (some mb) ∧ w1.heap.size = w.heap.size) := ⟨h1, h2, h3⟩
    have hwr : IntKind.i64.wrap ((cntB s M : Int) + 1) = (cntB s M : Int) + 1 := IntWalk.i64_in _ (by omega)
    obtain ⟨c, hcc⟩ : ∃ c, c = cntB s M := ⟨_, rfl⟩
    rw [← hcc] at hl HR hwr
    clear hcc h hr h1 h2 h3 hc
    go_enter Tryd.func36, Tryd.ntmps36
    go_wp2_with (refine wpList_mapPut (by rfl) _ _ _ _ (by rfl) _ _ _ (by rfl) (by rfl) (by rfl) HR.out ?_)
    go_returns
    exact ⟨rfl, HE.out⟩
  | false =>
    rw [hm, if_neg (by simp)] at hl
    have HE : Hid (TalAt w mb names (M ++ [s])) := h.skip hm
    clear h hc
    go_enter Tryd.func36, Tryd.ntmps36
    go_wp2_with fail
    go_returns
    exact ⟨rfl, HE.out, grown_refl _ _, rfl⟩

/-- What was found. -/
def IsFd (names M r : List ByteArray) : Prop := Rising r ∧ ∀ x, x ∈ r ↔ x ∈ names ∧ x ∈ M
theorem IsFd.one {names M r r' : List ByteArray} (h : IsFd names M r) (h' : IsFd names M r') : r = r' := rising_ext h.1 h'.1 fun x => by rw [h.2, h'.2]
theorem nodup_len : ∀ {l m : List ByteArray}, l.Nodup → (∀ x ∈ l, x ∈ m) → l.length ≤ m.length
  | [], m, _, _ => Nat.zero_le _
  | x :: l, m, hn, h => by
    rw [List.nodup_cons] at hn
    have hx := h x (by simp)
    obtain ⟨a, b, rfl⟩ := List.append_of_mem hx
    have := nodup_len (l := l) (m := a ++ b) hn.2 (fun y hy => by
      have := h y (by simp [hy])
      rw [List.mem_append, List.mem_cons] at this
      rw [List.mem_append]
      rcases this with h | rfl | h
      · exact .inl h
      · exact absurd hy hn.1
      · exact .inr h)
    rw [List.length_append] at this
    rw [List.length_append, List.length_cons, List.length_cons]
    omega
def keyB (x : ByteArray) : Lit := .string x.data.toList
theorem keyB_self (x : ByteArray) : (keyB x).sameKey (keyB x) = true := WideAt.sameKey_self (by trivial)
theorem keyB_ne {x y : ByteArray} (h : ¬ x = y) : (keyB x).sameKey (keyB y) = false := Maps.sameKey_ne (fun e => h (ba_eq (by rw [ba_toList2, ba_toList2]; simpa [keyB] using e)))
theorem keyB_inv {key : Value} {kl : Lit} (h : keyOf Tryd.prog 9 key = some kl) : ∃ p : ByteArray, key = .string p ∧ kl = .string p.data.toList := by
  have hu := Tryd.underlying9
  cases key <;> simp [keyOf, hu, mapKey] at h
  exact ⟨_, rfl, h.2.symm⟩
theorem ranges_keepB {w w' : World} {kt b r n cnt : Nat} {D : DataW Value} {left : Lit → Bool} (h : w.ranges Tryd.prog kt heldR b r n D left cnt) (hb : ∀ o, w.heap[b]? = some o → w'.heap[b]? = some o) (hr : ∀ o, w.heap[r]? = some o → w'.heap[r]? = some o) : w'.ranges Tryd.prog kt heldR b r n D left cnt := by
  obtain ⟨es, clock, since, seen, c0, h1, F, hs, hD, h2, rest⟩ := h
  exact ⟨es, clock, since, seen, c0, hb _ h1, F, hs, hD, hr _ h2, rest⟩
theorem ranges_objsB {w : World} {kt b r n cnt : Nat} {D : DataW Value} {left : Lit → Bool} (h : w.ranges Tryd.prog kt heldR b r n D left cnt) : (∃ es cl, w.heap[b]? = some (.map es cl)) ∧ ∃ m s v c, w.heap[r]? = some (.mapIter m s v c) := by
  obtain ⟨es, clock, since, seen, c0, h1, F, hs, hD, h2, rest⟩ := h
  exact ⟨⟨_, _, h1⟩, ⟨_, _, _, _, h2⟩⟩
/-- found's range under way: those that were seen, and are mentioned. -/
structure FdJ (mb r n : Nat) (names M : List ByteArray) (D : DataW Value) (w0 wr : World) (left : Lit → Bool) (cnt : Nat) (L : List ByteArray) (v : Value) : Prop where
  rg : wr.ranges Tryd.prog 9 heldR mb r n D left cnt
  val : ∀ s : ByteArray, ∀ z, D.atKey (.string s.data.toList) z = heldD (if memB s names = true then some (.int .i64 (cntB s M : Int)) else none) z
  has : ∀ s : ByteArray, Maps.has D (.string s.data.toList) = memB s names
  low : Below w0.heap.size w0 wr
  rlow : w0.heap.size ≤ r
  own : OwnS wr w0.heap.size v L
  nod : L.Nodup
  mem : ∀ x, x ∈ L ↔ left (keyB x) = false ∧ x ∈ names ∧ x ∈ M
section
variable {mb r n : Nat} {names M : List ByteArray} {D : DataW Value} {w0 wr w1 w2 : World} {left : Lit → Bool} {cnt cnt1 : Nat} {L : List ByteArray} {v : Value}
theorem FdJ.len (J : FdJ mb r n names M D w0 wr left cnt L v) : L.length ≤ names.length := nodup_len J.nod fun x hx => ((J.mem x).1 hx).2.1
theorem FdJ.key (J : FdJ mb r n names M D w0 wr left cnt L v) {p : ByteArray} {c : Value} {y : DataW Value × List MemPlace} (hv : heldR c = some y) (hat : ∀ zd, D.atKey (.string p.data.toList) zd = y.1) : memB p names = true ∧ c = .int .i64 (cntB p M : Int) := by
  have hy : y.1 = .held c := by simp only [heldR, Option.some.injEq] at hv; rw [← hv]
  have h1 := J.val p (.lit (.int .i64 0))
  rw [hat, hy] at h1
  cases hm : memB p names with
  | false => rw [hm] at h1; cases h1
  | true =>
    rw [hm, if_pos rfl] at h1
    simp only [heldD, DataW.held.injEq] at h1
    exact ⟨rfl, h1⟩
/-- The iterator goes on. -/
theorem FdJ.iter (J : FdJ mb r n names M D w0 wr left cnt L v) (hg : wr.grownBy w1 (some r)) : Below w0.heap.size w0 w1 ∧ OwnS w1 w0.heap.size v L := by
  obtain ⟨_, ⟨m, sv, vv, cv, oi⟩⟩ := ranges_objsB J.rg
  refine ⟨J.low.grown hg J.low.size (fun k e => by cases e; exact J.rlow), J.own.ext fun k cur hk hb hc => hg.block k (lt_of_row hc) fun e => ?_⟩
  cases e
  rw [oi] at hc; cases hc
theorem FdJ.skip (J : FdJ mb r n names M D w0 wr left cnt L v) {p : ByteArray} (hn : p ∉ M) (hg : wr.grownBy w1 (some r)) (hrg : w1.ranges Tryd.prog 9 heldR mb r n D (fun z => left z && !z.sameKey (.string p.data.toList)) cnt1) : FdJ mb r n names M D w0 w1 (fun z => left z && !z.sameKey (.string p.data.toList)) cnt1 L v := by
  obtain ⟨h1, h2⟩ := J.iter hg
  refine ⟨hrg, J.val, J.has, h1, J.rlow, h2, J.nod, fun x => ?_⟩
  rw [J.mem]
  constructor
  · rintro ⟨a, b⟩
    exact ⟨by simp [a], b⟩
  · rintro ⟨a, b⟩
    refine ⟨?_, b⟩
    by_cases e : x = p
    · subst e; exact absurd b.2 hn
    · have hk : (keyB x).sameKey (.string p.data.toList) = false := keyB_ne e
      simpa [hk] using a
theorem FdJ.push (J : FdJ mb r n names M D w0 wr left cnt L v) {p : ByteArray} {v' : Value} (hl : left (keyB p) = true) (hp : p ∈ names) (hm : p ∈ M) (hrg : w1.ranges Tryd.prog 9 heldR mb r n D (fun z => left z && !z.sameKey (.string p.data.toList)) cnt1) (hb : Below w0.heap.size w0 w2) (ho : OwnS w2 w0.heap.size v' (L ++ [p])) (h1 : w2.heap[mb]? = w1.heap[mb]?) (h2 : w2.heap[r]? = w1.heap[r]?) : FdJ mb r n names M D w0 w2 (fun z => left z && !z.sameKey (.string p.data.toList)) cnt1 (L ++ [p]) v' := by
  have hpL : p ∉ L := fun h => by have := ((J.mem p).1 h).1; rw [hl] at this; cases this
  refine ⟨ranges_keepB hrg (fun o h => by rw [h1]; exact h) (fun o h => by rw [h2]; exact h), J.val, J.has, hb, J.rlow, ho, ?_, fun x => ?_⟩
  · rw [List.nodup_append]
    exact ⟨J.nod, List.nodup_cons.2 ⟨by simp, List.nodup_nil⟩, fun x hx y hy => by rw [List.mem_singleton.1 hy]; exact fun e => hpL (e ▸ hx)⟩
  · rw [List.mem_append, List.mem_singleton, J.mem]
    constructor
    · rintro (⟨a, b⟩ | rfl)
      · exact ⟨by simp [a], b⟩
      · have : (keyB x).sameKey (.string x.data.toList) = true := keyB_self x
        exact ⟨by simp [this], hp, hm⟩
    · rintro ⟨a, b⟩
      by_cases e : x = p
      · exact .inr e
      · have hk : (keyB x).sameKey (.string p.data.toList) = false := keyB_ne e
        exact .inl ⟨by simpa [hk] using a, b⟩
end

/-- The range's step. -/
theorem next_found {ops : Array Oper} {rest : List Oper} {o : Oper} {a : Act} {Q : Exit → Act → World → Prop} {mb r n : Nat} {names M : List ByteArray} {D : DataW Value} {w0 wr : World} {left : Lit → Bool} {cnt : Nat} {L : List ByteArray} {v : Value} (J : FdJ mb r n names M D w0 wr left cnt L v) (hgd : o.guard = none) (it : Operand) (hop : o.op = Op.next it false) (hit : a.eval it = .pointer (some ⟨r, 0, none⟩))
    (hDone : Hid (L.Nodup ∧ (∀ x, x ∈ L ↔ x ∈ names ∧ x ∈ M) ∧ OwnS wr w0.heap.size v L ∧ Below w0.heap.size w0 wr) → wpList Tryd.prog ops Q rest (a.put o.dst (.tuple #[.bool false])) wr)
    (hZero : ∀ (p : ByteArray) (w1 : World), Hid (∃ left' cnt', FdJ mb r n names M D w0 w1 left' cnt' L v ∧ w1.rangeLeft mb r < wr.rangeLeft mb r) → (Instr.entry (.pointer (some ⟨r, 0, none⟩))).run Tryd.prog w1 = .ok (.tuple #[.string p, .int .i64 0]) w1 → wpList Tryd.prog ops Q rest (a.put o.dst (.tuple #[.bool true, .string p, .int .i64 0])) w1)
    (hPos : ∀ (p : ByteArray) (c : Nat) (w1 : World), (0 : Int) < (c : Int) → Hid (OwnS (w1.alloc (.cells #[.string p] 9)) w0.heap.size v L ∧ Texts (w1.alloc (.cells #[.string p] 9)) (.slice (some ⟨w1.heap.size, 0, none⟩) 1 1) [p] ∧ w0.heap.size ≤ (w1.alloc (.cells #[.string p] 9)).heap.size ∧ ∀ (v' : Value) (w3 : World), OwnS w3 w0.heap.size v' (L ++ [p]) → (w1.alloc (.cells #[.string p] 9)).grownBy w3 v.ownBlock → ∃ left' cnt', FdJ mb r n names M D w0 w3 left' cnt' (L ++ [p]) v' ∧ w3.rangeLeft mb r < wr.rangeLeft mb r) → (Instr.entry (.pointer (some ⟨r, 0, none⟩))).run Tryd.prog w1 = .ok (.tuple #[.string p, .int .i64 (c : Int)]) w1 → wpList Tryd.prog ops Q rest (a.put o.dst (.tuple #[.bool true, .string p, .int .i64 (c : Int)])) w1) :
    wpList Tryd.prog ops Q (o :: rest) a wr :=
  wpList_next_ranges wr hgd it hop 9 keyStr heldR Value.string (fun v : Value => v) (fun key kl h => by obtain ⟨p, e, _⟩ := keyB_inv h; exact ⟨p, e⟩) (fun v y _ => ⟨v, rfl⟩) mb r n D left cnt hit J.rg (fun _ hl => hDone ⟨J.nod, fun x => by rw [J.mem, hl]; simp, J.own, J.low⟩) (fun p c kl y w1 cnt1 hkey hl hv hat hrg hlt hg hs hen => by
    obtain ⟨p', ep, rfl⟩ := keyB_inv hkey
    cases ep
    obtain ⟨hm, rfl⟩ := J.key hv hat
    have hp := memB_iff.1 hm
    by_cases hc : p ∈ M
    · have h0 := cntB_pos.2 hc
      obtain ⟨hb1, ho1⟩ := J.iter hg
      obtain ⟨w2, hw2⟩ : ∃ w2, w2 = w1.alloc (.cells #[.string p] 9) := ⟨_, rfl⟩
      have b2 : Below w1.heap.size w1 w2 := by rw [hw2]; exact (Below.refl _ _).alloc (Nat.le_refl _) _
      have q2 : w2.heap[w1.heap.size]? = some (.cells #[.string p] 9 (0, 0)) := by rw [hw2]; exact heap_alloc_last _ _
      have ho2 := ho1.below b2
      have hb2 := hb1.trans (b2.mono hb1.size)
      refine hPos p (cntB p M) w1 (by omega) ?_ hen
      rw [← hw2]
      refine ⟨ho2, one_text q2 1, hb2.size, fun v' w3 h3 g3 => ⟨fun z => left z && !z.sameKey (.string p.data.toList), cnt1, ?_⟩⟩
      obtain ⟨⟨es, cl, om⟩, ⟨m, sv, vv, cv, oi⟩⟩ := ranges_objsB hrg
      have hk : ∀ (k : Nat) (o : Obj), w1.heap[k]? = some o → (∀ cs t q, o ≠ .cells cs t q) → w3.heap[k]? = some o := fun k o hk ho => by
        have hk2 : w2.heap[k]? = some o := (b2.block k (lt_of_row hk)).trans hk
        rw [g3.block k (lt_of_row hk2) (fun e => by obtain ⟨_, cur, hc⟩ := ho2.block e.symm; rw [hk2] at hc; exact ho _ _ _ (Option.some.inj hc))]
        exact hk2
      have J2 := J.push hl hp hc hrg (hb2.grown g3 hb2.size (fun j e => (ho2.block e).1)) h3 (by rw [om]; exact hk _ _ om (fun _ _ _ e => by cases e)) (by rw [oi]; exact hk _ _ oi (fun _ _ _ e => by cases e))
      exact ⟨J2, by rw [J2.rg.left_eq, J.rg.left_eq]; exact hlt⟩
    · have h0 : cntB p M = 0 := by
        rcases Nat.eq_zero_or_pos (cntB p M) with h | h
        · exact h
        · exact absurd (cntB_pos.1 h) hc
      have J2 := J.skip hc hg hrg
      rw [h0] at hen
      have := hZero p w1 ⟨_, cnt1, J2, by rw [J2.rg.left_eq, J.rg.left_eq]; exact hlt⟩ hen
      rw [h0]; exact this)

set_option maxRecDepth 100000 in
set_option maxHeartbeats 2000000 in
theorem found_any {mb : Nat} {names M : List ByteArray} (w : World) (h : TalAt w mb names M) (hn : names.length ≤ 10000) :
    Calls Tryd.prog 21 #[.map (some mb)] w fun e w' => (∃ r va vc, e = .returned (.slice va r.length vc) ∧ IsFd names M r ∧ OwnS w' w.heap.size (.slice va r.length vc) r) ∧ Below w.heap.size w w' := by
  obtain ⟨f, n, hn', ⟨DD, hown, hD⟩, hf⟩ := id h
  have hlt := h.lt
  have HJ : Hid (∀ w0 : World, w0.ranges Tryd.prog 9 heldR mb w.heap.size n DD (Maps.has DD) (Maps.size DD) → w.grownBy w0 none → FdJ mb w.heap.size n names M DD w w0 (Maps.has DD) (Maps.size DD) [] (.slice none 0 0)) := fun w0 hrg hg => by
    refine ⟨hrg, fun s z => by rw [(hD (.string _) trivial).1, hf], fun s => by rw [(hD (.string _) trivial).2, hf]; cases memB s names <;> rfl, ⟨hg.os, hg.tape, hg.output, hg.size, fun q hq => hg.block q hq (by simp)⟩, Nat.le_refl _, OwnS.nil _ _, List.nodup_nil, fun x => ?_⟩
    constructor
    · intro h; cases h
    · rintro ⟨a, b, _⟩
      have : Maps.has DD (.string x.data.toList) = memB x names := by rw [(hD (.string _) trivial).2, hf]; cases memB x names <;> rfl
      rw [show keyB x = .string x.data.toList from rfl, this, memB_iff.2 b] at a
      cases a
  clear h hn' hD hf
  go_enter Tryd.func21, Tryd.ntmps21
  go_wp2_with (at_range; refine wpList_range_own _ rfl _ 50 rfl 9 3 keyStr Tryd.underlying50 heldR mb n DD rfl hown ?_; intro w0 hrg0 hg0 hs0; (have HJ0 : Hid (FdJ mb w.heap.size n names M DD w w0 (Maps.has DD) (Maps.size DD) [] (.slice none 0 0)) := HJ.out w0 hrg0 hg0); clear HJ hrg0 hg0 hs0)
  go_frame
  go_loopw [3] (fun v wr => ∃ left cnt L va vc, v = .slice va L.length vc ∧ Hid (FdJ mb w.heap.size n names M DD w wr left cnt L (.slice va L.length vc))) (fun _ wr => wr.rangeLeft mb w.heap.size)
  case atStart => exact ⟨_, _, [], none, 0, rfl, HJ0⟩
  case round =>
    obtain ⟨left, cnt, L, va, vc, rfl, J⟩ := hrel
    have hle : L.length ≤ 10000 := Nat.le_trans J.out.len hn
    go_wp2_with (first
      | (at_next; refine next_found J.out rfl _ rfl rfl (fun HE => ?_) (fun p w1 HZ hen => ?_) (fun p c w1 hc HP hen => ?_))
      | (at_builtin; go_must (refine wpList_appS _ (by rfl) _ _ (by rfl) w.heap.size (.slice va L.length vc) (.slice (some ⟨w1.heap.size, 0, none⟩) 1 1) L [p] (by rfl) (by rfl) HP.out.1 HP.out.2.1 (by simp; omega) HP.out.2.2.1 ?_; intro va2 vc2 w3 h3 g3; (have H3 : Hid (∃ left' cnt', FdJ mb w.heap.size n names M DD w w3 left' cnt' (L ++ [p]) (.slice va2 (L.length + [p].length) vc2) ∧ w3.rangeLeft mb w.heap.size < wr.rangeLeft mb w.heap.size) := HP.out.2.2.2 _ _ h3 g3); clear h3 g3 HP)))
    · have HSO : Hid _ := sort_any w.heap.size (.slice va L.length vc) L wr HE.out.2.2.1 (by omega)
      go_wp2_with fail
      refine Calls.mono HSO.out ?_
      clear HSO
      rintro e w4 ⟨rfl, r, hp, hs, hO4, hg4⟩
      have HF : Hid (IsFd names M r) := ⟨rising_of_sorted hs (hp.nodup_iff.2 HE.out.1), fun x => by rw [hp.mem_iff]; exact HE.out.2.1 x⟩
      have HR : Hid (r.length = L.length) := hp.length_eq
      have HO4 : Hid (OwnS w4 w.heap.size (.slice va r.length vc) r) := by rw [HR.out]; exact hO4
      have HB4 : Hid (Below w.heap.size w w4) := HE.out.2.2.2.grown hg4 HE.out.2.2.2.size (fun k e => (HE.out.2.2.1.block e).1)
      clear hp hs hO4 hg4
      go_wp2_with fail
      go_ret
      exact ⟨⟨r, va, vc, by rw [HR.out]; rfl, HF.out, HO4.out⟩, HB4.out⟩
    · obtain ⟨left', cnt', J', hlt'⟩ := HZ.out
      exact ⟨⟨left', cnt', L, va, vc, rfl, J'⟩, hlt'⟩
    · obtain ⟨left', cnt', J', hlt'⟩ := H3.out
      exact ⟨⟨left', cnt', L ++ [p], va2, vc2, by rw [List.length_append]; rfl, by rw [List.length_append]; exact J'⟩, hlt'⟩

set_option maxRecDepth 100000 in
set_option maxHeartbeats 1000000 in
theorem look_any {mb : Nat} {names M : List ByteArray} (s : ByteArray) (w : World) (h : TalAt w mb names M) (hs : s.size ≤ 1000000) (hM : names.length + M.length + s.size ≤ 1000000000) :
    Calls Tryd.prog 20 #[.map (some mb), .string s] w fun e w' => e = .returned (.tuple #[]) ∧ TalAt w' mb names (M ++ mn s.data.toList) ∧ w.grownBy w' (some mb) := by
  obtain ⟨w1, hw1⟩ : ∃ w1, w1 = w.alloc (.cells #[.map (some mb)] 50) := ⟨_, rfl⟩
  have b1 : Below w.heap.size w w1 := by rw [hw1]; exact (Below.refl _ _).alloc (Nat.le_refl _) _
  have q1 : w1.heap[w.heap.size]? = some (.cells #[.map (some mb)] 50 (0, 0)) := by rw [hw1]; exact heap_alloc_last _ _
  have hlt := h.lt
  have hmn := mn_len s.data.toList
  have hsl : s.data.toList.length = s.size := rfl
  have HC : Hid _ := mentions_any 36 (enters_of Tryd.func36 (by kernel_rfl) rfl) #[.pointer (some ⟨w.heap.size, 0, none⟩)] (fun pre W => TalAt W mb names (M ++ pre.map (·.2)) ∧ w1.grownBy W (some mb)) s hs (fun pre x post W hpre hI => by
    have hx : x ∈ mv 0 s.data.toList := by rw [hpre]; simp
    have hpl := (mv_places _ _ x hx).2
    have hlen : (M ++ pre.map (·.2)).length ≤ M.length + s.size := by
      have h2 := congrArg (fun l => (l.map (·.2)).length) hpre
      simp only [mv_mn] at h2
      simp at h2
      rw [List.length_append, List.length_map]
      omega
    refine (look1_any (x.1 : Int) x.2 W hI.1 ?_ (by omega) (by omega)).mono ?_
    · rw [World.cell?_of_block (a := ⟨w.heap.size, 0, none⟩) (hI.2.block _ (lt_of_row q1) (fun e => by have e2 : w.heap.size = mb := Option.some.inj e; omega)), cell_of_row _ _ _ _ _ _ q1]; rfl
    · rintro e w' ⟨rfl, h1, h2, h3⟩
      exact ⟨rfl, by rw [List.map_append, ← List.append_assoc]; exact h1, grown_trans hI.2 h2⟩) w1 ⟨by simpa using h.below b1, grown_refl _ _⟩
  have HB : Hid (Below w.heap.size w w1) := b1
  have HW : Hid (w1 = w.alloc (.cells #[.map (some mb)] 50)) := hw1
  clear h b1 hw1 q1
  go_enter Tryd.func20, Tryd.ntmps20
  go_wp2_with fail
  rw [← HW.out]
  refine Calls.mono HC.out ?_
  rintro e w2 ⟨rfl, h1, h2⟩
  rw [mv_mn] at h1
  have HE : Hid (TalAt w2 mb names (M ++ mn s.data.toList) ∧ w.grownBy w2 (some mb)) := ⟨h1, grown_trans (grown_of_below HB.out) h2⟩
  clear h1 h2 HC
  go_wp2_with fail
  go_returns
  exact ⟨rfl, HE.out⟩

set_option maxRecDepth 100000 in
set_option maxHeartbeats 1000000 in
theorem find_any (s : ByteArray) (v : Value) (names : List ByteArray) (w : World) (hv : Texts w v names) (hz : ∀ x ∈ names, x.size ≤ 1000000) (hl : names.length ≤ 10000) (hs : s.size ≤ 1000000) :
    Calls Tryd.prog 9 #[.string s, v] w fun e w' => (∃ r va vc, e = .returned (.slice va r.length vc) ∧ IsFd names (mn s.data.toList) r ∧ OwnS w' w.heap.size (.slice va r.length vc) r) ∧ Below w.heap.size w w' := by
  have hmn := mn_len s.data.toList
  have hsl : s.data.toList.length = s.size := rfl
  obtain ⟨ad, cap, rfl, _⟩ := id hv
  have HA : Hid _ := ask_any (.slice ad names.length cap) names w hv hz (by omega)
  clear hv hz
  go_enter Tryd.func9, Tryd.ntmps9
  go_wp2_with fail
  refine Calls.mono HA.out ?_
  rintro e w1 ⟨rfl, h1, b1⟩
  have HL : Hid _ := look_any s w1 h1 hs (by simp; omega)
  have HB1 : Hid (Below w.heap.size w w1) := b1
  have HLT : Hid (w.heap.size < w1.heap.size) := h1.lt
  clear h1 b1 HA
  go_wp2_with fail
  refine Calls.mono HL.out ?_
  rintro e w2 ⟨rfl, h2, g2⟩
  have HB2 : Hid (Below w.heap.size w w2) := below_of_grown HB1.out (Nat.le_refl _) HB1.out.size g2
  rw [List.nil_append] at h2
  have HF : Hid _ := found_any w2 h2 hl
  clear h2 g2 HL
  go_wp2_with fail
  refine Calls.mono HF.out ?_
  rintro e w3 ⟨⟨r, va, vc, rfl, hr, ho⟩, b3⟩
  have HE : Hid (IsFd names (mn s.data.toList) r ∧ OwnS w3 w.heap.size (.slice va r.length vc) r ∧ Below w.heap.size w w3) := ⟨hr, ho.base HB2.out.size, HB2.out.trans (b3.mono HB2.out.size)⟩
  clear hr ho b3 HF
  go_wp2_with fail
  go_ret
  exact ⟨⟨r, va, vc, rfl, HE.out.1, HE.out.2.1⟩, HE.out.2.2⟩
end Go.Proofs.YtiemoipafeinoaaDoor
