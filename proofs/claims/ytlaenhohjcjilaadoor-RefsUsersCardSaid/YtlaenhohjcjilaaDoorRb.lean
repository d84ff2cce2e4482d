/-
  Sets of names as they lie in memory, packs as they lie in memory; the contracts of package refs' set and rise.
  Conditions: the set, the packs and the texts lie in memory.
-/
import Derived.Test.YtlaenhohjcjilaaDoorTxA
namespace Go.Proofs.YtlaenhohjcjilaaDoor
open Go.RowKit Go.Maps
attribute [local go_sem ↓] Go.wp_at_zero Go.wp_at_succ

theorem zeroE0 (w : World) : (zeroValue 78).run Tryd.prog w = .ok (.agg #[]) w := by kernel_rfl
/-- A set of names. -/
def SetAt (w : World) (mb : Nat) (S : List ByteArray) : Prop := ∃ f, MapV w 9 mb S.length f ∧ ∀ s : ByteArray, f (.string s.data.toList) = if memB s S = true then some (.agg #[]) else none
theorem SetAt.keep {w w' : World} {mb : Nat} {S : List ByteArray} (h : SetAt w mb S) (hb : w'.heap[mb]? = w.heap[mb]?) : SetAt w' mb S := by
  obtain ⟨f, M, hf⟩ := h
  exact ⟨f, M.keep hb, hf⟩
theorem SetAt.lt {w : World} {mb : Nat} {S : List ByteArray} (h : SetAt w mb S) : mb < w.heap.size := by
  obtain ⟨f, M, _⟩ := h
  obtain ⟨es, cl, e⟩ := M.obj
  exact lt_of_row e
theorem SetAt.below {w w' : World} {mb : Nat} {S : List ByteArray} (h : SetAt w mb S) (hb : Below w.heap.size w w') : SetAt w' mb S := h.keep (hb.block _ h.lt)
theorem SetAt.made (w : World) : SetAt (w.alloc (.map #[] 0)) w.heap.size [] := ⟨_, MapV.made w 9, fun s => by simp [memB]⟩
theorem SetAt.look {w : World} {mb : Nat} {S : List ByteArray} (h : SetAt w mb S) {s : ByteArray} (hs : s.size ≤ 1000) : (Instr.lookup 55 (.map (some mb)) (.string s) true).run Tryd.prog w = .ok (.tuple #[.agg #[], .bool (memB s S)]) w := by
  obtain ⟨f, M, hf⟩ := h
  have h1 := M.look_ok keyStr Tryd.underlying55 (zeroE0 w) (WideMaps.keyOf_string_mk Tryd.underlying9 (s := s) (by unfold maxLen; omega)) trivial
  rw [h1, hf]
  cases hm : memB s S <;> simp
theorem SetAt.put {w : World} {mb : Nat} {S : List ByteArray} (h : SetAt w mb S) {s : ByteArray} (hs : s.size ≤ 1000) (hn : S.length ≤ 1000000) : ∃ w', (Instr.mapUpdate 55 (.map (some mb)) (.string s) (.agg #[])).run Tryd.prog w = .ok () w' ∧ SetAt w' mb (S ++ [s]) ∧ w.grownBy w' (some mb) ∧ w'.heap.size = w.heap.size := by
  obtain ⟨f, M, hf⟩ := h
  obtain ⟨w', h1, M', h2, h3⟩ := M.put keyStr Tryd.underlying55 (by unfold maxLen; omega) (WideMaps.keyOf_string_mk Tryd.underlying9 (s := s) (by unfold maxLen; omega)) trivial (.agg #[])
  refine ⟨w', h1, ⟨_, by rw [List.length_append]; exact M', fun r => ?_⟩, h2, h3⟩
  rw [memB_snoc]
  by_cases e : r = s
  · subst e
    rw [updK_same, if_pos (by simp)]
  · have e2 : (s.toList == r.toList) = false := ba_bne.2 (fun h => e h.symm)
    rw [updK_other _ _ (fun h => e (ba_eq (by rw [ba_toList2, ba_toList2]; simpa using h))), hf, e2, Bool.or_false]

set_option maxRecDepth 100000 in
theorem has_any {mb : Nat} {S : List ByteArray} (s : ByteArray) (w : World) (h : SetAt w mb S) (hs : s.size ≤ 1000) :
    Calls Tryd.prog 32 #[.map (some mb), .string s] w fun e w' => e = .returned (.bool (memB s S)) ∧ Below w.heap.size w w' := by
  have hl := h.look hs
  clear h
  go_enter Tryd.func32, Tryd.ntmps32
  go_wp2
  go_ret
  exact ⟨rfl, (Below.refl _ _).alloc (Nat.le_refl _) _⟩

set_option maxRecDepth 100000 in
set_option maxHeartbeats 1000000 in
theorem add_any {mb : Nat} {S : List ByteArray} (v : Value) (l : List ByteArray) (w : World) (h : SetAt w mb S) (hv : Texts w v l) (hz : ∀ x ∈ l, x.size ≤ 1000) (hS : S.length + l.length ≤ 100000) :
    Calls Tryd.prog 25 #[.map (some mb), v] w fun e w' => e = .returned (.tuple #[]) ∧ SetAt w' mb (S ++ l) ∧ w.grownBy w' (some mb) ∧ w'.heap.size = w.heap.size := by
  obtain ⟨ad, cap, rfl, _⟩ := id hv
  have HM : Hid (∃ es cl, w.heap[mb]? = some (.map es cl)) := by obtain ⟨f, M, _⟩ := h; exact M.obj
  have HV : Hid (Texts w (.slice ad l.length cap) l) := hv
  have HS : Hid (SetAt w mb S) := h
  have HZ : Hid (∀ x ∈ l, x.size ≤ 1000) := hz
  clear hv h hz
  go_enter Tryd.func25, Tryd.ntmps25
  go_wp2_with fail
  go_loopw [8] (fun i wr => ∃ k : Nat, k ≤ l.length ∧ i = .int .i64 k ∧ Hid (SetAt wr mb (S ++ l.take k) ∧ w.grownBy wr (some mb) ∧ wr.heap.size = w.heap.size)) (fun i _ => l.length - (intOf i).toNat)
  case atStart => exact ⟨0, Nat.zero_le _, rfl, by rw [List.take_zero, List.append_nil]; exact HS.out, ⟨rfl, rfl, rfl, Nat.le_refl _, fun _ _ _ => rfl⟩, rfl⟩
  case round =>
    obtain ⟨k, hk, rfl, HI⟩ := hrel
    by_cases hlt : k < l.length
    · obtain ⟨x, hx⟩ : ∃ x, l[k]? = some x := ⟨l[k], List.getElem?_eq_getElem hlt⟩
      obtain ⟨ad', cap', e, hc⟩ := HV.out.apart HM.out HI.out.2.1
      simp only [Value.slice.injEq] at e
      obtain ⟨rfl, _, rfl⟩ := e
      obtain ⟨b1, o1, rfl, c1⟩ := hc k x hx
      obtain ⟨w', hrun, hS', hg', hz'⟩ := HI.out.1.put (s := x) (HZ.out x (List.mem_of_getElem? hx)) (by rw [List.length_append, List.length_take]; omega)
      have HE : Hid (SetAt w' mb (S ++ l.take (k + 1)) ∧ w.grownBy w' (some mb) ∧ w'.heap.size = w.heap.size) := by
        have hkk := List.getElem?_eq_some_iff.1 hx
        refine ⟨by rw [List.take_succ_eq_append_getElem hkk.1, hkk.2, ← List.append_assoc]; exact hS', ⟨hg'.os.trans HI.out.2.1.os, hg'.tape.trans HI.out.2.1.tape, hg'.output.trans HI.out.2.1.output, Nat.le_trans HI.out.2.1.size hg'.size, fun j hj hne => ?_⟩, hz'.trans HI.out.2.2⟩
        rw [hg'.block j (by rw [HI.out.2.2]; exact hj) hne]
        exact HI.out.2.1.block j hj hne
      have HR : Hid _ := hrun
      clear hx hc hS' hg' hz' hrun
      go_wp2_with (refine wpList_mapPut (by rfl) _ _ _ _ (by rfl) _ _ _ (by rfl) (by rfl) (by rfl) HR.out ?_)
      go_roundw
      case rel => exact ⟨k + 1, by omega, by go_num, HE⟩
      case measure => simp [intOf]; omega
    · have e : k = l.length := by omega
      subst e
      go_wp2_with fail
      go_returns
      exact ⟨rfl, by have := HI.out; rw [List.take_length] at this; exact this⟩
set_option maxRecDepth 100000 in
set_option maxHeartbeats 1000000 in
theorem rise_any (v : Value) (l : List ByteArray) (w : World) (hv : Texts w v l) (hl : l.length ≤ 100000) :
    Calls Tryd.prog 43 #[v] w fun e w' => e = .returned (.bool (riseTo l l.length)) ∧ Below w.heap.size w w' := by
  obtain ⟨ad, cap, rfl, hc⟩ := hv
  have HC : Hid (∀ i x, l[i]? = some x → ∃ b off, ad = some ⟨b, off, none⟩ ∧ w.cell? ⟨b, off + i, none⟩ = some (.string x)) := hc
  clear hc
  go_enter Tryd.func43, Tryd.ntmps43
  go_wp2_with fail
  go_loopw [3] (fun i wr => ∃ k m : Nat, (k ≤ l.length ∨ k = 1) ∧ 1 ≤ k ∧ i = .int .i64 k ∧ wr = w.drewN m ∧ riseTo l k = true) (fun i _ => l.length + 1 - (intOf i).toNat)
  case atStart => exact ⟨1, 0, .inr rfl, Nat.le_refl _, rfl, rfl, riseTo_one _ _ (Nat.le_refl _)⟩
  case round =>
    obtain ⟨k, m, hk, hk1, rfl, rfl, hq⟩ := hrel
    have HQ : Hid _ := hq
    clear hq
    by_cases hlt : k < l.length
    · obtain ⟨j, rfl⟩ : ∃ j, k = j + 1 := ⟨k - 1, by omega⟩
      obtain ⟨x, hx⟩ : ∃ x, l[j]? = some x := ⟨l[j], List.getElem?_eq_getElem (by omega)⟩
      obtain ⟨y, hy⟩ : ∃ y, l[j + 1]? = some y := ⟨l[j + 1], List.getElem?_eq_getElem hlt⟩
      obtain ⟨b1, o1, rfl, c1⟩ := HC.out j x hx
      obtain ⟨b2, o2, e2, c2⟩ := HC.out (j + 1) y hy
      simp only [Option.some.injEq, Addr.mk.injEq] at e2
      obtain ⟨rfl, rfl, _⟩ := e2
      have HS : Hid _ := riseTo_succ hx hy
      clear hx hy hk
      have hj1 : (j : Int) + 1 < (l.length : Int) := by omega
      have hj0 : (0 : Int) ≤ (j : Int) := by omega
      have hjl : (j : Int) < (l.length : Int) := by omega
      cases hb : bl x y with
      | true =>
        have h1 : Op.bytesLess x.toList y.toList = true := hb
        have h2 : Op.bytesLess y.toList x.toList = false := bl_asymm hb
        have h3 : (y.toList == x.toList) = false := ba_bne.2 fun e => bl_ne hb e.symm
        have h4 : (x.toList == y.toList) = false := ba_bne.2 (bl_ne hb)
        have HT : Hid (riseTo l (j + 2) = true) := show _ = _ by rw [HS.out, HQ.out, hb]; rfl
        clear hb
        go_wp2_with fail
        go_quiet (fail)
        go_wp2_with fail
        go_roundw
        case rel => exact ⟨j + 2, _, .inl (by omega), by omega, by go_num, rfl, HT.out⟩
        case measure => simp [intOf]; omega
      | false =>
        have HF : Hid (riseTo l l.length = false) := riseTo_mono (k := j + 2) (by omega) (by rw [HS.out, hb, Bool.and_false])
        have h1 : Op.bytesLess x.toList y.toList = false := hb
        by_cases e : x = y
        · subst e
          have h4 : (x.toList == x.toList) = true := by simp
          clear hb
          go_wp2_with fail
          go_quiet (fail)
          go_wp2_with fail
          go_ret
          exact ⟨ret_bool (by rw [HF.out]), below_drewN (below_drewN (Below.refl _ _) _) _⟩
        · have h2 : Op.bytesLess y.toList x.toList = true := bl_of_not hb (fun h => e h.symm)
          have h3 : (y.toList == x.toList) = false := ba_bne.2 fun h => e h.symm
          have h4 : (x.toList == y.toList) = false := ba_bne.2 e
          clear hb
          go_wp2_with fail
          go_quiet (fail)
          go_wp2_with fail
          go_ret
          exact ⟨ret_bool (by rw [HF.out]), below_drewN (below_drewN (Below.refl _ _) _) _⟩
    · have HT : Hid (riseTo l l.length = true) := by
        show _ = _
        rcases hk with hk | hk
        · have e : l.length = k := by omega
          rw [e]; exact HQ.out
        · exact riseTo_one _ _ (by omega)
      have hlt' : ¬ (k : Int) < (l.length : Int) := by omega
      clear hk
      go_wp2_with fail
      go_ret
      exact ⟨ret_bool (by rw [HT.out]), below_drewN (Below.refl _ _) _⟩
end Go.Proofs.YtlaenhohjcjilaaDoor
