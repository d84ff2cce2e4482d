/-
  Texts appended to a row of texts: the run, and the steps of walks.
  Conditions: the row is the call's own, the texts lie in memory.
-/
import Derived.Test.YtlaenhohjcjilaaDoorTexts
import Derived.Test.YtlaenhohjcjilaaDoorProg
import Derived.Laws.AppendOwn
import Derived.OwnWalk
import Derived.OwnWalkIn
import Derived.TacticsInMore
import Derived.WalkKit
import Derived.KernelRfl
import Derived.Below
namespace Go.Proofs.YtlaenhohjcjilaaDoor
open Go.RowKit

theorem infoStrA : (Tryd.prog.info? 9).map (fun i => (i.zero, i.size, i.bytes)) = some (some (.string { data := #[] }), 1, 16) := by kernel_rfl
theorem append_zeroA {P : Program} (w : World) (base : Nat) (t ty e : TypeId) (i : TypeInfo) (size : Nat) (ht : P.underlying t = some (.slice e)) (hi : P.info? e = some i)
    (v : Value) (n : Nat) (xs : List Value) (hown : w.ownsRow base e size v n xs) (ad : Option Addr) (c : Nat) :
    (Builtin.append_ #[t, t] ty #[v, .slice ad 0 c]).run P w = .ok v w := by
  cases ad with
  | none =>
    rcases hown.2 with ⟨rfl, rfl⟩ | ⟨g, cap, cur, rfl, _, _, hnc, _⟩
    · simp [Builtin.append_, run_underlying ht, sizeOf, typeInfo, hi, Builtin.lenOf, Builtin.firstCells]
    · simp [Builtin.append_, run_underlying ht, sizeOf, typeInfo, hi, Builtin.lenOf, Builtin.firstCells, hnc, storeCells]
  | some a =>
    rcases hown.2 with ⟨rfl, rfl⟩ | ⟨g, cap, cur, rfl, _, _, hnc, _⟩
    · simp [Builtin.append_, run_underlying ht, sizeOf, typeInfo, hi, Builtin.lenOf, Builtin.firstCells, loadCells, loadCellsFrom]
    · simp [Builtin.append_, run_underlying ht, sizeOf, typeInfo, hi, Builtin.lenOf, Builtin.firstCells, hnc, storeCells, loadCells, loadCellsFrom]
/-- A row of texts of one's own. -/
def OwnS (w : World) (base : Nat) (v : Value) (L : List ByteArray) : Prop := w.ownsRow base 9 1 v L.length (L.map Value.string)
theorem OwnS.form {w : World} {base : Nat} {v : Value} {L : List ByteArray} (h : OwnS w base v L) : ∃ va vc, v = .slice va L.length vc ∧ L.length ≤ vc ∧ vc ≤ maxLen := by
  rcases h.2 with ⟨e, e0⟩ | ⟨g, cap, cur, e, _, _, e1, e2, _⟩
  · exact ⟨none, 0, by rw [e, e0], by omega, by unfold maxLen; omega⟩
  · exact ⟨_, cap, e, e1, e2⟩
theorem OwnS.nil (w : World) (base : Nat) : OwnS w base (.slice none 0 0) [] := ⟨rfl, .inl ⟨rfl, rfl⟩⟩
theorem OwnS.texts {w : World} {base : Nat} {v : Value} {L : List ByteArray} (h : OwnS w base v L) : Texts w v L := Texts.of_own h
theorem OwnS.below {w w' : World} {base : Nat} {v : Value} {L : List ByteArray} (h : OwnS w base v L) (hb : Below w.heap.size w w') : OwnS w' base v L := by
  obtain ⟨h1, h2⟩ := h
  refine ⟨h1, ?_⟩
  rcases h2 with h2 | ⟨g, cap, cur, hv, hg, hh, r⟩
  · exact .inl h2
  · exact .inr ⟨g, cap, cur, hv, hg, (hb.block g (Array.getElem?_eq_some_iff.1 hh).1).trans hh, r⟩
theorem OwnS.ext {w w' : World} {base : Nat} {v : Value} {L : List ByteArray} (h : OwnS w base v L) (hb : ∀ k cur, v.ownBlock = some k → base ≤ k → w.heap[k]? = some (.cells cur 9 (0, 0)) → w'.heap[k]? = w.heap[k]?) : OwnS w' base v L := by
  obtain ⟨h1, h2⟩ := h
  refine ⟨h1, ?_⟩
  rcases h2 with h2 | ⟨g, cap, cur, hv, hg, hh, r⟩
  · exact .inl h2
  · exact .inr ⟨g, cap, cur, hv, hg, (hb g cur (by rw [hv]; rfl) hg hh).trans hh, r⟩
theorem OwnS.base {w : World} {b b' : Nat} {v : Value} {L : List ByteArray} (h : OwnS w b v L) (hb : b' ≤ b) : OwnS w b' v L := by
  obtain ⟨h1, h2⟩ := h
  refine ⟨h1, ?_⟩
  rcases h2 with h2 | ⟨g, cap, cur, hv, hg, r⟩
  · exact .inl h2
  · exact .inr ⟨g, cap, cur, hv, by omega, r⟩
theorem OwnS.block {w : World} {base : Nat} {v : Value} {L : List ByteArray} (h : OwnS w base v L) {k : Nat} (hk : v.ownBlock = some k) : base ≤ k ∧ ∃ cur, w.heap[k]? = some (.cells cur 9 (0, 0)) := by
  rcases h.2 with ⟨e, _⟩ | ⟨g, cap, cur, e, hg, hh, _⟩
  · rw [e] at hk; cases hk
  · rw [e] at hk
    obtain rfl := Option.some.inj hk
    exact ⟨hg, cur, hh⟩
theorem run_append_strsA (w : World) (base : Nat) (v : Value) (L al : List ByteArray) (ty : TypeId) (hown : OwnS w base v L) (xv : Value) (htx : Texts w xv al) (hle : L.length + al.length ≤ 100000) (hbase : base ≤ w.heap.size) :
    ∃ va vc w', (Builtin.append_ #[23, 23] ty #[v, xv]).run Tryd.prog w = .ok (.slice va (L.length + al.length) vc) w' ∧ OwnS w' base (.slice va (L.length + al.length) vc) (L ++ al) ∧ w.grownBy w' v.ownBlock := by
  obtain ⟨i0, hi0, hz⟩ := Option.map_eq_some_iff.1 infoStrA
  simp only [Prod.mk.injEq] at hz
  obtain ⟨hz0, hz1, hz2⟩ := hz
  obtain ⟨ad, c, rfl, hc⟩ := htx
  cases al with
  | nil =>
    have hr := append_zeroA (P := Tryd.prog) w base 23 ty 9 i0 1 Tryd.underlying23 hi0 v L.length (L.map Value.string) hown ad c
    obtain ⟨va, vc, rfl, _⟩ := hown.form
    exact ⟨va, vc, w, hr, by rw [List.append_nil]; exact hown, ⟨rfl, rfl, rfl, Nat.le_refl _, fun _ _ _ => rfl⟩⟩
  | cons y al =>
    obtain ⟨b, off, rfl, _⟩ := hc 0 y rfl
    obtain ⟨v', w', hrun, h1, h2, _⟩ := run_append_own (P := Tryd.prog) w base 23 ty 9 i0 (.string { data := #[] }) 1 16 Tryd.underlying23 hi0 hz0 hz1 hz2 rfl (by omega) v L.length (L.map Value.string) hown ⟨b, off, none⟩ (y :: al).length c ((y :: al).map Value.string) (by simp) (fun j u hu => by
      rw [List.getElem?_map] at hu
      obtain ⟨z, hz, rfl⟩ := Option.map_eq_some_iff.1 hu
      obtain ⟨b', off', e, hc⟩ := hc j z hz
      simp only [Option.some.injEq, Addr.mk.injEq, and_true] at e
      obtain ⟨rfl, rfl⟩ := e
      have hadd : (⟨b, off, none⟩ : Addr).add j = ⟨b, off + j, none⟩ := by unfold Addr.add; split <;> simp_all
      rw [hadd]
      exact hc) (fun u hu => by obtain ⟨z, _, rfl⟩ := List.mem_map.1 hu; rfl) (by unfold maxLen; omega) (by omega) hbase
    have h1' : OwnS w' base v' (L ++ y :: al) := by unfold OwnS; rw [List.length_append, List.map_append]; exact h1
    obtain ⟨va, vc, e, _⟩ := h1'.form
    rw [List.length_append] at e
    subst e
    exact ⟨va, vc, w', hrun, h1', h2⟩
theorem wpList_appS {ops : Array Oper} {rest : List Oper} {o : Oper} {a : Act} {Q : Exit → Act → World → Prop} (w : World) (hgd : o.guard = none) (s x : Operand)
    (ho : o.op = .call { callee := .builtin .append, args := #[s, x], argTypes := #[23, 23] }) (base : Nat) (v xv : Value) (L al : List ByteArray) (hs : a.eval s = v) (hx : a.eval x = xv) (hown : OwnS w base v L) (htx : Texts w xv al)
    (hle : L.length + al.length ≤ 100000) (hbase : base ≤ w.heap.size)
    (h : ∀ va vc w', OwnS w' base (.slice va (L.length + al.length) vc) (L ++ al) → w.grownBy w' v.ownBlock → wpList Tryd.prog ops Q rest (a.put o.dst (.slice va (L.length + al.length) vc)) w') : wpList Tryd.prog ops Q (o :: rest) a w := by
  refine wpList_plain hgd fun K hK => ?_
  obtain ⟨va, vc, w', hrun, h1, h2⟩ := run_append_strsA w base v L al o.type hown xv htx hle hbase
  unfold Oper.wp
  simp [execOp, ho, resolve, invoke, builtin, hs, hx, hrun, Result.andThen]
  exact hK _ _ (h va vc w' h1 h2)
theorem wpListIn_appS {F : Fence} {n : Nat} {ops : Array Oper} {rest : List Oper} {o : Oper} {a : Act} {Q : Exit → Act → World → Prop} (w : World) (hgd : o.guard = none) (s x : Operand)
    (ho : o.op = .call { callee := .builtin .append, args := #[s, x], argTypes := #[23, 23] }) (base : Nat) (v xv : Value) (L al : List ByteArray) (hs : a.eval s = v) (hx : a.eval x = xv) (hown : OwnS w base v L) (htx : Texts w xv al)
    (hle : L.length + al.length ≤ 100000) (hbase : base ≤ w.heap.size)
    (h : ∀ va vc w', OwnS w' base (.slice va (L.length + al.length) vc) (L ++ al) → w.grownBy w' v.ownBlock → wpListIn F n Tryd.prog ops Q rest (a.put o.dst (.slice va (L.length + al.length) vc)) w') : wpListIn F n Tryd.prog ops Q (o :: rest) a w := by
  refine wpListIn_plain hgd fun K hK => ?_
  obtain ⟨va, vc, w', hrun, h1, h2⟩ := run_append_strsA w base v L al o.type hown xv htx hle hbase
  unfold Oper.wpIn
  refine ⟨?_, ?_⟩
  · simp [Oper.about, ho, resolve, Target.leads, Sem.run_pure]
  · rw [Oper.semAt_plain F _ _ (by rw [ho]; intro c hc'; cases hc')]
    simp [execOp, ho, resolve, invoke, builtin, hs, hx, hrun, Result.andThen]
    exact hK _ _ (h va vc w' h1 h2)
theorem step_appS {ops : Array Oper} {o : Oper} {a : Act} {K : Act → World → Prop} {Q : Exit → Act → World → Prop} {E : Prop} (w : World) (hgd : o.guard = none) (s x : Operand)
    (ho : o.op = .call { callee := .builtin .append, args := #[s, x], argTypes := #[23, 23] }) (base : Nat) (v xv : Value) (L al : List ByteArray) (hs : a.eval s = v) (hx : a.eval x = xv) (hown : OwnS w base v L) (htx : Texts w xv al)
    (hle : L.length + al.length ≤ 100000) (hbase : base ≤ w.heap.size)
    (h : ∀ va vc w', OwnS w' base (.slice va (L.length + al.length) vc) (L ++ al) → w.grownBy w' v.ownBlock → K (a.put o.dst (.slice va (L.length + al.length) vc)) w') : if Region.wanted o (yielded ops a.tmps) = true then Oper.wp Tryd.prog o a w K Q else E := by
  rw [if_pos (by simp [Region.wanted, hgd])]
  obtain ⟨va, vc, w', hrun, h1, h2⟩ := run_append_strsA w base v L al o.type hown xv htx hle hbase
  unfold Oper.wp
  simp [execOp, ho, resolve, invoke, builtin, hs, hx, hrun, Result.andThen]
  exact h va vc w' h1 h2
end Go.Proofs.YtlaenhohjcjilaaDoor
