/-
  The contract of package scan's Turn.
  Conditions: the sentinels ErrName and ErrBound lie in their variables; the text has at most 100000 bytes.
-/
import Derived.Test.YtiemoipafeinoaaDoorNb
import Derived.Test.YtiemoipafeinoaaDoorBuildS
namespace Go.Proofs.YtiemoipafeinoaaDoor
open Go.RowKit
attribute [local go_sem ↓] Go.wp_at_zero Go.wp_at_succ

theorem isB_keep {T e : TypeId} {B b : Nat} {l : List Value} {w w' : World} (h : Lib.IsBuilderF T e B b l w) (hb : ∀ k o, w.heap[k]? = some o → (k = b ∨ ∃ c fz, o = .cells c e fz) → w'.heap[k]? = some o) : Lib.IsBuilderF T e B b l w' := by
  have one : ∀ p, Lib.BuilderAtF T e B b p l w → Lib.BuilderAtF T e B b p l w' := fun p h => by
    obtain ⟨hB, v, hbk, ⟨h1, h2⟩, hne⟩ := h
    refine ⟨hB, v, hb b _ hbk (.inl rfl), ⟨h1, ?_⟩, hne⟩
    rcases h2 with h2 | ⟨g, cap, cur, fz, hv, hg, hh, r⟩
    · exact .inl h2
    · exact .inr ⟨g, cap, cur, fz, hv, hg, hb g _ hh (.inr ⟨_, _, rfl⟩), r⟩
  rcases h with h | h
  · exact .inl (one _ h)
  · exact .inr (one _ h)
theorem cells_moreN (l : List UInt8) (s : ByteArray) : Lib.byteCells l ++ Lib.strCells s = Lib.byteCells (l ++ s.data.toList) := by simp [Lib.byteCells, Lib.strCells]
theorem cell_rowN {w : World} {b : Nat} {x : Value} {t : TypeId} (h : w.heap[b]? = some (.cells #[x] t (0, 0))) : w.cell? ⟨b, 0, none⟩ = some x := by rw [cell_of_row _ _ _ _ _ _ h]; rfl
/-- Turn under way: what came out, and how much of the text is in it. -/
structure TuJ (w : World) (s f t : ByteArray) (q : List UInt8 × Nat) (W : World) : Prop where
  b0 : W.heap[w.heap.size]? = some (.cells #[.string s] 9 (0, 0))
  b1 : W.heap[w.heap.size + 1]? = some (.cells #[.string f] 9 (0, 0))
  b2 : W.heap[w.heap.size + 2]? = some (.cells #[.string t] 9 (0, 0))
  b4 : W.heap[w.heap.size + 4]? = some (.cells #[.int .i64 (q.2 : Int)] 3 (0, 0))
  bd : Lib.IsBuilderF 64 5 (w.heap.size + 3) (w.heap.size + 3) (Lib.byteCells q.1) W
  low : Below w.heap.size w W
section
variable {w W W' : World} {s f t : ByteArray} {q : List UInt8 × Nat}
theorem TuJ.size (J : TuJ w s f t q W) : w.heap.size + 4 < W.heap.size := lt_of_row J.b4
theorem TuJ.wrote (J : TuJ w s f t q W) {x : ByteArray} (h : Lib.BuilderAtF 64 5 (w.heap.size + 3) (w.heap.size + 3) (.pointer (some ⟨w.heap.size + 3, 0, none⟩)) (Lib.byteCells q.1 ++ Lib.strCells x) W') (hb : Below (w.heap.size + 3) W W') (ho : Lib.OthersKept 5 (some (w.heap.size + 3)) W W') : TuJ w s f t (q.1 ++ x.data.toList, q.2) W' := by
  refine ⟨(hb.block _ (by omega)).trans J.b0, (hb.block _ (by omega)).trans J.b1, (hb.block _ (by omega)).trans J.b2, ho _ _ J.b4 (fun e => by have := Option.some.inj e; omega) (fun c fz e => by injection e with _ e; cases e), .inr (by rw [← cells_moreN]; exact h), J.low.trans (hb.mono (by omega))⟩
theorem TuJ.set (J : TuJ w s f t q W) (n : Nat) : TuJ w s f t (q.1, n) (W.setCell ⟨w.heap.size + 4, 0, none⟩ (.int .i64 (n : Int))) := by
  have hk : ∀ k, k ≠ w.heap.size + 4 → (W.setCell ⟨w.heap.size + 4, 0, none⟩ (.int .i64 (n : Int))).heap[k]? = W.heap[k]? := fun k h => Below.heap_setCell _ _ _ _ h
  refine ⟨(hk _ (by omega)).trans J.b0, (hk _ (by omega)).trans J.b1, (hk _ (by omega)).trans J.b2, one_setCell J.b4, isB_keep J.bd fun k o h1 h2 => ?_, J.low.setCell (by show _ ≤ _ + 4; omega) _⟩
  rw [hk k (fun e => ?_)]
  · exact h1
  · rw [e, J.b4] at h1
    rcases h2 with h2 | ⟨c, fz, h2⟩
    · omega
    · rw [h2] at h1
      injection h1 with h1
      injection h1 with _ h1
      cases h1
end

set_option maxRecDepth 100000 in
set_option maxHeartbeats 1000000 in
theorem turn1_any {w W : World} {s f t : ByteArray} {q : List UInt8 × Nat} (at_ : Nat) (name : ByteArray) (J : TuJ w s f t q W) (hq : q.2 ≤ at_) (ha : at_ ≤ s.size) (hs : s.size ≤ 100000) (hf : f.size ≤ 100000) (ht : t.size ≤ 100000) (hl : q.1.length ≤ 100000000000) :
    Calls Tryd.prog 31 #[.int .i64 (at_ : Int), .string name, .pointer (some ⟨w.heap.size + 1, 0, none⟩), .pointer (some ⟨w.heap.size + 3, 0, none⟩), .pointer (some ⟨w.heap.size, 0, none⟩), .pointer (some ⟨w.heap.size + 4, 0, none⟩), .pointer (some ⟨w.heap.size + 2, 0, none⟩)] W fun e w' => e = .returned (.tuple #[]) ∧ TuJ w s f t (tstep s.data.toList f.data.toList t.data.toList q (at_, name)) w' := by
  obtain ⟨q1, d⟩ := q
  have c1 := cell_rowN J.b1
  have HJ : Hid (TuJ w s f t (q1, d) W) := J
  by_cases e : name = f
  · subst e
    have HT : Hid (tstep s.data.toList name.data.toList t.data.toList (q1, d) (at_, name) = (q1 ++ (s.data.toList.take at_).drop d ++ t.data.toList, at_ + name.data.toList.length)) := by show _ = _; unfold tstep; rw [if_pos rfl]
    have he : (name.toList == name.toList) = true := by simp
    have c0 := cell_rowN J.b0
    have c4 := cell_rowN J.b4
    have hsz := J.size
    have HW1 : Hid _ := writeString_any (w.heap.size + 3) (w.heap.size + 3) (Lib.byteCells q1) (s.extract d at_) W J.bd (by rw [Lib.byteCells_length, ByteArray.size_extract]; simp only at hl; omega) (by omega)
    have HJ2 : Hid (∀ W', (Lib.BuilderAtF 64 5 (w.heap.size + 3) (w.heap.size + 3) (.pointer (some ⟨w.heap.size + 3, 0, none⟩)) (Lib.byteCells q1 ++ Lib.strCells (s.extract d at_)) W' ∧ Below (w.heap.size + 3) W W' ∧ Lib.OthersKept 5 (some (w.heap.size + 3)) W W') → TuJ w s name t (q1 ++ (s.data.toList.take at_).drop d, d) W') := fun W' h => by
      have := HJ.out.wrote h.1 h.2.1 h.2.2
      rw [part_listN] at this
      exact this
    have hd0 : (0 : Int) ≤ (d : Int) := by omega
    have hda : (d : Int) ≤ (at_ : Int) := by simp only at hq; omega
    have has : (at_ : Int) ≤ (s.size : Int) := by omega
    have hds : (d : Int) ≤ (s.size : Int) := by omega
    have hql : q1.length ≤ 100000000000 := hl
    clear J
    go_enter Tryd.func31, Tryd.ntmps31
    go_wp2_with fail
    refine Calls.mono HW1.out ?_
    rintro e w1 ⟨rfl, h1⟩
    have J1 := HJ2.out w1 h1
    have c2 := cell_rowN J1.b2
    have hsz1 := J1.size
    have HW2 : Hid _ := writeString_any (w.heap.size + 3) (w.heap.size + 3) (Lib.byteCells (q1 ++ (s.data.toList.take at_).drop d)) t w1 J1.bd (by rw [Lib.byteCells_length, List.length_append, List.length_drop, List.length_take]; have : s.data.toList.length = s.size := rfl; omega) (by omega)
    have HJ1 : Hid (TuJ w s name t (q1 ++ (s.data.toList.take at_).drop d, d) w1) := J1
    clear h1 J1 HW1
    go_wp2_with fail
    refine Calls.mono HW2.out ?_
    rintro e w2 ⟨rfl, h2⟩
    have J2 := HJ1.out.wrote h2.1 h2.2.1 h2.2.2
    have c12 := cell_rowN J2.b1
    have c42 := cell_rowN J2.b4
    have hsz2 := J2.size
    have f42 : w2.frozen? ⟨w.heap.size + 4, 0, none⟩ = false := by simp [World.frozen?, J2.b4]
    have hwr : IntKind.i64.wrap ((at_ : Int) + (name.size : Int)) = (at_ : Int) + (name.size : Int) := IntWalk.i64_in _ (by omega)
    have HE : Hid (TuJ w s name t (q1 ++ (s.data.toList.take at_).drop d ++ t.data.toList, at_ + name.data.toList.length) (w2.setCell ⟨w.heap.size + 4, 0, none⟩ (.int .i64 ((at_ : Int) + (name.size : Int))))) := J2.set (at_ + name.size)
    clear h2 J2 HW2
    go_wp2_with fail
    go_returns
    exact ⟨rfl, by rw [HT.out]; exact HE.out⟩
  · have HT : Hid (tstep s.data.toList f.data.toList t.data.toList (q1, d) (at_, name) = (q1, d)) := by show _ = _; unfold tstep; rw [if_neg (fun h => e (ba_eq (by rw [ba_toList2, ba_toList2]; exact h)))]
    have he : (name.toList == f.toList) = false := ba_bne.2 e
    clear J
    go_enter Tryd.func31, Tryd.ntmps31
    go_wp2_with fail
    go_returns
    exact ⟨rfl, by rw [HT.out]; exact HJ.out⟩

/-- What Turn answers: a text, and an error. -/
def TurnPost (eN eB : Value) (s f t : ByteArray) (e : Ending) : Prop :=
  ((nameB f = false ∨ nameB t = false) ∧ e = .returned (.tuple #[.string ⟨#[]⟩, eN])) ∨ (nameB f = true ∧ nameB t = true ∧ ((2000 < (tl f.data.toList t.data.toList s.data.toList).length ∧ e = .returned (.tuple #[.string ⟨#[]⟩, eB])) ∨ ((tl f.data.toList t.data.toList s.data.toList).length ≤ 2000 ∧ e = .returned (.tuple #[.string (bOf (tl f.data.toList t.data.toList s.data.toList)), .nilIface]))))
theorem TuJ.start {w W : World} {s f t : ByteArray} (hW : W = ((((w.alloc (.cells #[.string s] 9)).alloc (.cells #[.string f] 9)).alloc (.cells #[.string t] 9)).alloc (.cells #[.pointer none, .slice none 0 0] 64)).alloc (.cells #[.int .i64 0] 3)) : TuJ w s f t ([], 0) W := by
  obtain ⟨w1, h1⟩ : ∃ w1, w1 = w.alloc (.cells #[.string s] 9) := ⟨_, rfl⟩
  obtain ⟨w2, h2⟩ : ∃ w2, w2 = w1.alloc (.cells #[.string f] 9) := ⟨_, rfl⟩
  obtain ⟨w3, h3⟩ : ∃ w3, w3 = w2.alloc (.cells #[.string t] 9) := ⟨_, rfl⟩
  obtain ⟨w4, h4⟩ : ∃ w4, w4 = w3.alloc (.cells #[.pointer none, .slice none 0 0] 64) := ⟨_, rfl⟩
  rw [← h1, ← h2, ← h3, ← h4] at hW
  have s1 : w1.heap.size = w.heap.size + 1 := by rw [h1, World.size_alloc]
  have s2 : w2.heap.size = w.heap.size + 2 := by rw [h2, World.size_alloc, s1]
  have s3 : w3.heap.size = w.heap.size + 3 := by rw [h3, World.size_alloc, s2]
  have s4 : w4.heap.size = w.heap.size + 4 := by rw [h4, World.size_alloc, s3]
  have q0 := heap_alloc_last w (.cells #[.string s] 9)
  have q1 := heap_alloc_last w1 (.cells #[.string f] 9)
  have q2 := heap_alloc_last w2 (.cells #[.string t] 9)
  have q3 := heap_alloc_last w3 (.cells #[.pointer none, .slice none 0 0] 64)
  have q4 := heap_alloc_last w4 (.cells #[.int .i64 0] 3)
  rw [← h1] at q0
  rw [← h2, s1] at q1
  rw [← h3, s2] at q2
  rw [← h4, s3] at q3
  rw [← hW, s4] at q4
  have u1 : ∀ k, k < w1.heap.size → w2.heap[k]? = w1.heap[k]? := fun k hk => by rw [h2]; exact Below.heap_alloc _ _ _ (by omega)
  have u2 : ∀ k, k < w2.heap.size → w3.heap[k]? = w2.heap[k]? := fun k hk => by rw [h3]; exact Below.heap_alloc _ _ _ (by omega)
  have u3 : ∀ k, k < w3.heap.size → w4.heap[k]? = w3.heap[k]? := fun k hk => by rw [h4]; exact Below.heap_alloc _ _ _ (by omega)
  have u4 : ∀ k, k < w4.heap.size → W.heap[k]? = w4.heap[k]? := fun k hk => by rw [hW]; exact Below.heap_alloc _ _ _ (by omega)
  refine ⟨?_, ?_, ?_, q4, .inl ⟨Nat.le_refl _, .slice none 0 0, ?_, ⟨rfl, .inl ⟨rfl, rfl⟩⟩, by simp [Value.ownBlock]⟩, ?_⟩
  · rw [u4 _ (by omega), u3 _ (by omega), u2 _ (by omega), u1 _ (by omega)]; exact q0
  · rw [u4 _ (by omega), u3 _ (by omega), u2 _ (by omega)]; exact q1
  · rw [u4 _ (by omega), u3 _ (by omega)]; exact q2
  · rw [u4 _ (by omega)]; exact q3
  · rw [hW, h4, h3, h2, h1]
    exact (((((Below.refl _ _).alloc (Nat.le_refl _) _).alloc (by simp) _).alloc (by simp; omega) _).alloc (by simp; omega) _).alloc (by simp; omega) _

set_option maxRecDepth 100000 in
set_option maxHeartbeats 2000000 in
theorem turn_any (s f t : ByteArray) (eN eB : Value) (w : World) (hs : s.size ≤ 5000) (hf : f.size ≤ 100000) (ht : t.size ≤ 100000) (hN : w.cell? ⟨0, 0, none⟩ = some eN) (hB : w.cell? ⟨1, 0, none⟩ = some eB) :
    Calls Tryd.prog 14 #[.string s, .string f, .string t] w fun e w' => TurnPost eN eB s f t e ∧ Below w.heap.size w w' := by
  have HCE : Hid (∀ W, Below w.heap.size w W → W.cell? ⟨0, 0, none⟩ = some eN ∧ W.cell? ⟨1, 0, none⟩ = some eB) := fun W h => ⟨by rw [h.cell (p := ⟨0, 0, none⟩) (lt_of_cell hN)]; exact hN, by rw [h.cell (p := ⟨1, 0, none⟩) (lt_of_cell hB)]; exact hB⟩
  obtain ⟨w3, hw3⟩ : ∃ w3, w3 = ((w.alloc (.cells #[.string s] 9)).alloc (.cells #[.string f] 9)).alloc (.cells #[.string t] 9) := ⟨_, rfl⟩
  have hz3 : w3.heap.size = w.heap.size + 3 := by rw [hw3]; simp
  have b3 : Below w.heap.size w w3 := by rw [hw3]; exact (((Below.refl _ _).alloc (Nat.le_refl _) _).alloc (by simp) _).alloc (by simp; omega) _
  have q1 : w3.heap[w.heap.size + 1]? = some (.cells #[.string f] 9 (0, 0)) := by
    have h := heap_alloc_last (w.alloc (.cells #[.string s] 9)) (.cells #[.string f] 9)
    rw [World.size_alloc] at h
    rw [hw3, Below.heap_alloc _ _ _ (by simp)]; exact h
  have q2 : w3.heap[w.heap.size + 2]? = some (.cells #[.string t] 9 (0, 0)) := by
    have h := heap_alloc_last ((w.alloc (.cells #[.string s] 9)).alloc (.cells #[.string f] 9)) (.cells #[.string t] 9)
    rw [World.size_alloc, World.size_alloc] at h
    rw [hw3]; exact h
  have c1 := cell_rowN q1
  have c2 : w3.cell? ⟨w.heap.size + 1 + 1, 0, none⟩ = some (.string t) := cell_rowN q2
  have HB3 : Hid (Below w.heap.size w w3) := b3
  have HW3 : Hid (w3 = ((w.alloc (.cells #[.string s] 9)).alloc (.cells #[.string f] 9)).alloc (.cells #[.string t] 9)) := hw3
  have HNF : Hid (∀ W, Calls Tryd.prog 29 #[.string f] W fun e w' => e = .returned (.bool (nameB f)) ∧ w' = W) := fun W => name_any f W (by unfold maxLen; omega)
  have HNT : Hid (∀ W, Calls Tryd.prog 29 #[.string t] W fun e w' => e = .returned (.bool (nameB t)) ∧ w' = W) := fun W => name_any t W (by unfold maxLen; omega)
  clear b3 hw3 q1 q2 hN hB
  cases hnf : nameB f with
  | false =>
    obtain ⟨cn, cb⟩ := HCE.out w3 HB3.out
    rw [hnf] at HNF
    go_enter Tryd.func14, Tryd.ntmps14
    go_wp2_with fail
    rw [← HW3.out]
    refine Calls.mono (HNF.out w3) ?_
    rintro e w4 ⟨rfl, rfl⟩
    go_wp2_with fail
    go_quiet (fail)
    go_wp2_with fail
    go_ret2
    exact ⟨.inl ⟨.inl hnf, rfl⟩, by first | exact HB3.out | exact below_drewN HB3.out _⟩
  | true =>
    rw [hnf] at HNF
    cases hnt : nameB t with
    | false =>
      obtain ⟨cn, cb⟩ := HCE.out w3 HB3.out
      rw [hnt] at HNT
      go_enter Tryd.func14, Tryd.ntmps14
      go_wp2_with fail
      rw [← HW3.out]
      refine Calls.mono (HNF.out w3) ?_
      rintro e w4 ⟨rfl, rfl⟩
      go_wp2_with fail
      refine Calls.mono (HNT.out w4) ?_
      rintro e w5 ⟨rfl, rfl⟩
      go_wp2_with fail
      go_quiet (fail)
      go_wp2_with fail
      go_ret2
      exact ⟨.inl ⟨.inr hnt, rfl⟩, by first | exact HB3.out | exact below_drewN HB3.out _⟩
    | true =>
      rw [hnt] at HNT
      have hsl : s.data.toList.length = s.size := rfl
      have htl : t.data.toList.length = t.size := rfl
      obtain ⟨W5, hW5⟩ : ∃ W5, W5 = (w3.alloc (.cells #[.pointer none, .slice none 0 0] 64)).alloc (.cells #[.int .i64 0] 3) := ⟨_, rfl⟩
      have J5 : TuJ w s f t ([], 0) W5 := TuJ.start (by rw [hW5, HW3.out])
      have c05 : ((w3.alloc (.cells #[.pointer none, .slice none 0 0] 64)).alloc (.cells #[.int .i64 0] 3)).cell? ⟨w.heap.size, 0, none⟩ = some (.string s) := by rw [← hW5]; exact cell_rowN J5.b0
      have hml : (mv 0 s.data.toList).length ≤ s.size := by
        have h1 := congrArg List.length (mv_mn 0 s.data.toList)
        have h2 := mn_len s.data.toList
        rw [List.length_map] at h1
        omega
      have HLEN : ∀ pre post, mv 0 s.data.toList = pre ++ post → (∀ y ∈ pre, y.1 + y.2.size ≤ s.size) ∧ (tfold s.data.toList f.data.toList t.data.toList pre).1.length ≤ 100000000000 := fun pre post h => by
        have hp : ∀ y ∈ pre, y.1 + y.2.size ≤ s.size := fun y hy => by
          have := (mv_places _ _ y (by rw [h]; exact List.mem_append_left _ hy)).2
          omega
        have h1 := (tfold_done s.data.toList f.data.toList t.data.toList pre s.size hp).2
        have h2 : pre.length ≤ 5000 := by
          have := congrArg List.length h
          rw [List.length_append] at this
          omega
        have h3 : (s.data.toList.length + t.data.toList.length) * pre.length ≤ 105000 * 5000 := Nat.mul_le_mul (by omega) h2
        exact ⟨hp, by omega⟩
      have HC : Hid _ := mentions_any 31 (enters_of Tryd.func31 (by kernel_rfl) rfl) #[.pointer (some ⟨w.heap.size + 1, 0, none⟩), .pointer (some ⟨w.heap.size + 3, 0, none⟩), .pointer (some ⟨w.heap.size, 0, none⟩), .pointer (some ⟨w.heap.size + 3 + 1, 0, none⟩), .pointer (some ⟨w.heap.size + 1 + 1, 0, none⟩)] (fun pre W => TuJ w s f t (tfold s.data.toList f.data.toList t.data.toList pre) W) s (by omega) (fun pre x post W hpre hI => by
        have hx : x ∈ mv 0 s.data.toList := by rw [hpre]; simp
        have hpl := (mv_places _ _ x hx).2
        have hd := (tfold_done s.data.toList f.data.toList t.data.toList pre x.1 (mv_rise _ _ _ _ _ hpre)).1
        refine Calls.mono (turn1_any x.1 x.2 hI hd (by omega) (by omega) hf ht (HLEN pre _ hpre).2) ?_
        rintro e w' ⟨rfl, h1⟩
        exact ⟨rfl, by rw [tfold_snoc]; exact h1⟩) W5 J5
      have HLL := HLEN (mv 0 s.data.toList) [] (by simp)
      have hdn := (tfold_done s.data.toList f.data.toList t.data.toList _ s.size HLL.1).1
      have HTA : Hid ((tfold s.data.toList f.data.toList t.data.toList (mv 0 s.data.toList)).1 ++ s.data.toList.drop (tfold s.data.toList f.data.toList t.data.toList (mv 0 s.data.toList)).2 = tl f.data.toList t.data.toList s.data.toList) := tfold_all (by rw [bOf_back]; exact hnf)
      have hll := HLL.2
      have HTL : Hid ((tl f.data.toList t.data.toList s.data.toList).length ≤ 1000000000) := by
        have h1 := tl_len (f := f.data.toList) (t := t.data.toList) _ s.data.toList (Nat.le_refl _)
        have h3 : s.data.toList.length * (t.data.toList.length + 1) ≤ 5000 * 100001 := Nat.mul_le_mul (by omega) (by omega)
        show _ ≤ _
        omega
      have HW5 : Hid (W5 = (w3.alloc (.cells #[.pointer none, .slice none 0 0] 64)).alloc (.cells #[.int .i64 0] 3)) := hW5
      obtain ⟨q, hq⟩ : ∃ q, q = tfold s.data.toList f.data.toList t.data.toList (mv 0 s.data.toList) := ⟨_, rfl⟩
      rw [← hq] at HTA hdn hll
      have HQ : Hid (q = tfold s.data.toList f.data.toList t.data.toList (mv 0 s.data.toList)) := hq
      obtain ⟨q1, d⟩ := q
      clear HLEN HLL hW5 J5 hq
      go_enter Tryd.func14, Tryd.ntmps14
      go_wp2_with fail
      rw [← HW3.out]
      refine Calls.mono (HNF.out w3) ?_
      rintro e w4 ⟨rfl, rfl⟩
      go_wp2_with fail
      refine Calls.mono (HNT.out w4) ?_
      rintro e w5 ⟨rfl, rfl⟩
      go_wp2_with fail
      rw [← HW5.out]
      refine Calls.mono HC.out ?_
      rintro e w6 ⟨rfl, J6⟩
      rw [← HQ.out] at J6
      have c06 := cell_rowN J6.b0
      have c46 : w6.cell? ⟨w.heap.size + 3 + 1, 0, none⟩ = some (.int .i64 (d : Int)) := cell_rowN J6.b4
      have hsz6 := J6.size
      have hd0 : (0 : Int) ≤ (d : Int) := by omega
      have hds : (d : Int) ≤ (s.size : Int) := by have : d ≤ s.size := hdn; omega
      have hsz : (s.size : Int).toNat = s.size := by omega
      have hql : q1.length ≤ 100000000000 := hll
      have HW1 : Hid _ := writeString_any (w.heap.size + 3) (w.heap.size + 3) (Lib.byteCells q1) (s.extract d s.size) w6 J6.bd (by rw [Lib.byteCells_length, ByteArray.size_extract]; omega) (by omega)
      have HJ6 : Hid (TuJ w s f t (q1, d) w6) := J6
      clear J6 HC
      go_wp2_with fail
      refine Calls.mono HW1.out ?_
      rintro e w7 ⟨rfl, h7⟩
      have J7 := HJ6.out.wrote h7.1 h7.2.1 h7.2.2
      rw [part_end, show (q1, d).1 ++ s.data.toList.drop d = tl f.data.toList t.data.toList s.data.toList from HTA.out] at J7
      have HL : Hid _ := blen_any (w.heap.size + 3) (w.heap.size + 3) (Lib.byteCells (tl f.data.toList t.data.toList s.data.toList)) w7 J7.bd
      rw [Lib.byteCells_length] at HL
      have HJ7 : Hid (TuJ w s f t (tl f.data.toList t.data.toList s.data.toList, d) w7) := J7
      clear h7 J7 HW1
      go_wp2_with fail
      refine Calls.mono HL.out ?_
      rintro e w8 ⟨rfl, rfl⟩
      have HB8 : Hid (Below w.heap.size w w8) := HJ7.out.low
      obtain ⟨L, hL⟩ : ∃ L, L = tl f.data.toList t.data.toList s.data.toList := ⟨_, rfl⟩
      have HLE : Hid (L = tl f.data.toList t.data.toList s.data.toList) := hL
      rw [← hL] at HTL HJ7 ⊢
      have htll := HTL.out
      clear hL
      by_cases hbig : 2000 < L.length
      · have hbig' : (2000 : Int) < (L.length : Int) := by omega
        obtain ⟨cn, cb⟩ := HCE.out w8 HB8.out
        go_wp2_with fail
        go_quiet (fail)
        go_wp2_with fail
        go_ret2
        exact ⟨.inr ⟨hnf, hnt, .inl ⟨by rw [← HLE.out]; exact hbig, rfl⟩⟩, by first | exact HB8.out | exact below_drewN HB8.out _⟩
      · have hbig' : ¬ (2000 : Int) < (L.length : Int) := by omega
        have hsz8 := HJ7.out.size
        have HST : Hid _ := string_any (w.heap.size + 3) (w.heap.size + 3) L w8 HJ7.out.bd (by omega)
        go_wp2_with fail
        refine Calls.mono HST.out ?_
        rintro e w9 ⟨rfl, _, hb9, _⟩
        have HB9 : Hid (Below w.heap.size w w9) := HB8.out.trans (hb9.mono (by omega))
        clear hb9
        go_wp2_with fail
        go_ret2
        exact ⟨.inr ⟨hnf, hnt, .inr ⟨by rw [← HLE.out]; omega, by rw [← HLE.out]; rfl⟩⟩, HB9.out⟩
end Go.Proofs.YtiemoipafeinoaaDoor
