/-
  The contracts of slices.Backward at writes, and of package disk's last and Read.
  Conditions: the disk lies in memory.
-/
import Derived.Test.YtnmknngpihjhnaaGreatDoorDkC
import Derived.Test.YtnmknngpihjhnaaGreatDoorDkL
namespace Go.Proofs.YtnmknngpihjhnaaGreatDoor
open Go.RowKit Go.Shelf

attribute [local go_sem] Oper.semAt_some

/-- A write of sixteen bytes. -/
abbrev Wr := { x : Nat × List UInt8 // x.2.length = 16 }
theorem wr17 (x : Wr) : (wc x.1).length = 17 := by rw [wc_len, x.2]
/-- What comes in round j: from the end on. -/
def fromEnd (ws : List Wr) (j : Nat) : Nat × Wr := (ws.length - 1 - j, (ws[ws.length - 1 - j]?).getD ⟨(0, List.replicate 16 0), rfl⟩)
def comes (ws : List Wr) (k : Nat) : List (Nat × Wr) := (List.range k).map (fromEnd ws)
theorem comes_succ (ws : List Wr) (k : Nat) : comes ws (k + 1) = comes ws k ++ [fromEnd ws k] := by simp [comes, List.range_succ]
theorem comes_len (ws : List Wr) (k : Nat) : (comes ws k).length = k := by simp [comes]

theorem info67 : (Tryz.prog.info? 104).map (·.size) = some 17 := by kernel_rfl
theorem info62 : (Tryz.prog.info? 100).map (·.size) = some 16 := by kernel_rfl

set_option maxRecDepth 100000 in
set_option maxHeartbeats 2000000 in
theorem back1_in (F : Fence) (n : Nat) (h39 : F.fn 99) (hro : F.round = none) (hn : 1 ≤ n) (l Bs n₀ : Nat) (va : Option Addr) (vc : Nat) (ws : List Wr) (hreach : ws.length ≤ 100000) (J Jx : List (Nat × Wr) → World → Prop)
    (hY : ∀ pre x W, J pre W → pre.length < ws.length → YieldAt F (n - 1) Tryz.prog l #[.int .i64 (x.1 : Int), .agg (wc x.2.1).toArray] W fun e W' =>
      (e = .returned (.bool true) ∧ J (pre ++ [x]) W' ∧ Below n₀ W W') ∨ (e = .returned (.bool false) ∧ Jx (pre ++ [x]) W'))
    (W : World) (hBs : W.cell? ⟨Bs, 0, none⟩ = some (.slice va ws.length vc)) (hBn : Bs < n₀) (hc : ∀ i (x : Wr), ws[i]? = some x → ∃ g, va = some ⟨g, 0, none⟩ ∧ g < n₀ ∧ W.rangeAt g (i * 17) (wc x.1)) (h0 : J [] W) :
    CallsIn F n Tryz.prog 99 #[.func (.yield l) #[] #[], .pointer (some ⟨Bs, 0, none⟩)] W fun e W' => (∃ v, e = .returned v) ∧
      ((∃ ys, ys = comes ws ws.length ∧ J ys W') ∨ (∃ pre, (∃ k, k ≤ ws.length ∧ pre = comes ws k) ∧ Jx pre W')) := by
  refine callsIn_of_wp Tryz.func99 rfl h39 ?_ hro
  simp only [Tryz.ntmps99, List.size_toArray, List.length_cons, List.length_nil, Nat.reduceAdd, Nat.reduceSub, Array.replicate_succ, Array.replicate_zero, List.push_toArray, List.append_toArray, List.nil_append, List.cons_append]
  gi_wp2
  gi_loopw [3] (fun i wr => ∃ j : Nat, j ≤ ws.length ∧ i = .int .i64 ((j : Int) - 1) ∧ J (comes ws (ws.length - j)) wr ∧ Below n₀ W wr)
    (fun i _ => (intOf i + 1).toNat)
  case atStart => exact ⟨ws.length, Nat.le_refl _, rfl, by rw [Nat.sub_self]; exact h0, Below.refl _ _⟩
  case round =>
    obtain ⟨j, hj, rfl, hJs, hnx⟩ := hrel
    have hBw : wr.cell? ⟨Bs, 0, none⟩ = some (.slice va ws.length vc) := (hnx.cell (p := ⟨Bs, 0, none⟩) hBn).trans hBs
    cases j with
    | zero =>
      gi_wp2
      go_end0
      exact ⟨⟨_, rfl⟩, .inl ⟨_, rfl, hJs⟩⟩
    | succ m =>
      have hm : m < ws.length := by omega
      have e1 : ((m + 1 : Nat) : Int) - 1 = (m : Int) := by omega
      rw [e1]
      clear e1
      have hx : ws[m]? = some ws[m] := List.getElem?_eq_getElem hm
      obtain ⟨g, rfl, hg, hr⟩ := hc m _ hx
      have hr' : wr.rangeAt g (m * 17) (wc ws[m].1) := fun i v hi => by rw [hnx.cell (p := ⟨g, m * 17 + i, none⟩) hg]; exact hr i v hi
      have hfe : Hid (fromEnd ws (ws.length - (m + 1)) = (m, ws[m])) := by
        show _ = _
        unfold fromEnd
        have : ws.length - 1 - (ws.length - (m + 1)) = m := by omega
        rw [this, hx]; rfl
      obtain ⟨x, HX⟩ : ∃ x, Hid (x = ws[m]) := ⟨_, (rfl : ws[m] = ws[m])⟩
      have hr2 : Hid (wr.rangeAt g (m * 17) (wc x.1)) := by rw [HX.out]; exact hr'
      have h17 : Hid ((Tryz.prog.info? 104).map (·.size) = some (wc x.1).length) := by show _ = _; rw [wr17]; exact info67
      obtain ⟨fn, tmps, assign, body, hy, hR⟩ := hY _ (m, x) wr hJs (by rw [comes_len]; omega)
      dsimp only at hy
      clear hr hr' hx hc
      gi_wp2_with (refine wpListIn_load_mid (by rfl) 104 _ (by rfl) g (m * 17) (by rfl) (wc x.1) _ hr2.out Tryz.underlying104 rfl h17.out ?_)
      refine hR.mono ?_
      have HN : Hid (comes ws (ws.length - m) = comes ws (ws.length - (m + 1)) ++ [(m, x)]) := by
        show _ = _
        have : ws.length - m = ws.length - (m + 1) + 1 := by omega
        rw [this, comes_succ, hfe.out, HX.out]
      rintro e W3 (⟨rfl, hJ3, hk3⟩ | ⟨rfl, hJx3⟩)
      · gi_wp2
        go_roundw
        case rel => exact ⟨m, by omega, rfl, by rw [HN.out]; exact hJ3, hnx.trans hk3⟩
        case measure => simp [intOf]
      · gi_wp2
        refine bodyPost_ret (results_none rfl _ _ _) rfl ?_
        exact ⟨⟨_, rfl⟩, .inr ⟨_, ⟨ws.length - m, by omega, HN.out.symm⟩, hJx3⟩⟩

set_option maxHeartbeats 1000000 in
theorem back_in (F : Fence) (n : Nat) (h5 : F.fn 91) (hro : F.round = none) (a : Option Addr) (len cap : Nat) (w : World) :
    CallsIn F n Tryz.prog 91 #[.slice a len cap] w fun e w' => e = .returned (.func (.func 99) #[] #[.pointer (some ⟨w.heap.size, 0, none⟩)]) ∧ w' = w.alloc (.cells #[.slice a len cap] 89) := by
  refine callsIn_of_wp Tryz.func91 rfl h5 ?_ hro
  simp only [Tryz.ntmps91, List.size_toArray, List.length_cons, List.length_nil, Nat.reduceAdd, Nat.reduceSub, Array.replicate_succ, Array.replicate_zero, List.push_toArray, List.append_toArray, List.nil_append, List.cons_append]
  gi_wp2
  go_ret
  exact ⟨rfl, rfl⟩

theorem back_stops (F : Fence) (n : Nat) (h39 : F.fn 99) (hro : F.round = none) (hn : 1 ≤ n) (Bs n₀ : Nat) (va : Option Addr) (vc : Nat) (ws : List Wr) (hreach : ws.length ≤ 100000) (w : World) (hBs : Bs < n₀) (hn₀ : n₀ ≤ w.heap.size)
    (hc : w.cell? ⟨Bs, 0, none⟩ = some (.slice va ws.length vc)) (hr : ∀ i (x : Wr), ws[i]? = some x → ∃ g, va = some ⟨g, 0, none⟩ ∧ g < n₀ ∧ w.rangeAt g (i * 17) (wc x.1)) :
    SeqStopsK F n Tryz.prog 99 #[.pointer (some ⟨Bs, 0, none⟩)] (fun x : Nat × Wr => #[Value.int .i64 (x.1 : Int), .agg (wc x.2.1).toArray]) (Below n₀) (fun ys => ys = comes ws ws.length)
      (fun pre => ∃ k, k ≤ ws.length ∧ pre = comes ws k) ws.length w := fun l J Jx W hW _ _ hY h0 => by
  have hb : Below n₀ w W := hW.mono hn₀
  exact back1_in F n h39 hro hn l Bs n₀ va vc ws hreach J Jx hY W ((hb.cell (p := ⟨Bs, 0, none⟩) hBs).trans hc) hBs (fun i x hx => by
    obtain ⟨g, e, hg, h⟩ := hr i x hx
    exact ⟨g, e, hg, fun j v hj => by rw [hb.cell (p := ⟨g, i * 17 + j, none⟩) hg]; exact h j v hj⟩) h0
end Go.Proofs.YtnmknngpihjhnaaGreatDoor
