/-
  The contracts of slices.Backward at writes, and of package disk's last and Read.
  A region that draws its order inside a round of a range over a function; the contract of slices.Chunk at bytes.
  Conditions: those that each states.
-/
import Derived.Test.YteefneelcgeioaaGreatDoorH06
import Derived.Deep.RegionHeld3
namespace Go.Proofs.YteefneelcgeioaaGreatDoor
open Go.RowKit Go.Shelf

attribute [local go_sem] Oper.semAt_some

/-- A write of sixteen bytes. -/
abbrev Wr := { x : Nat × List UInt8 // x.2.length = 16 }
theorem wr17 (x : Wr) : (wc x.1).length = 17 := by rw [wc_len, x.2]
/-- What comes in round j: from the end on. -/
def fromEnd (ws : List Wr) (j : Nat) : Nat × Wr := (ws.length - 1 - j, (ws[ws.length - 1 - j]?).getD ⟨(0, List.replicate 16 0), rfl⟩)
def comes (ws : List Wr) (k : Nat) : List (Nat × Wr) := (List.range k).map (fromEnd ws)
theorem comes_succ (ws : List Wr) (k : Nat) : comes ws (k + 1) = comes ws k ++ [fromEnd ws k] := by simp [comes, List.range_succ]
theorem comes_len (ws : List Wr) (k : Nat) : (comes ws k).length = k := by simp [comes]

theorem info67 : (Tryz.prog.info? 210).map (·.size) = some 17 := by kernel_rfl
theorem info62 : (Tryz.prog.info? 179).map (·.size) = some 16 := by kernel_rfl

set_option maxRecDepth 100000 in
set_option maxHeartbeats 2000000 in
theorem back1_in (F : Fence) (n : Nat) (h39 : F.fn 143) (hro : F.round = none) (hn : 1 ≤ n) (l Bs n₀ : Nat) (va : Option Addr) (vc : Nat) (ws : List Wr) (hreach : ws.length ≤ 100000) (J Jx : List (Nat × Wr) → World → Prop)
    (hY : ∀ pre x W, J pre W → pre.length < ws.length → YieldAt F (n - 1) Tryz.prog l #[.int .i64 (x.1 : Int), .agg (wc x.2.1).toArray] W fun e W' =>
      (e = .returned (.bool true) ∧ J (pre ++ [x]) W' ∧ Below n₀ W W') ∨ (e = .returned (.bool false) ∧ Jx (pre ++ [x]) W'))
    (W : World) (hBs : W.cell? ⟨Bs, 0, none⟩ = some (.slice va ws.length vc)) (hBn : Bs < n₀) (hc : ∀ i (x : Wr), ws[i]? = some x → ∃ g, va = some ⟨g, 0, none⟩ ∧ g < n₀ ∧ W.rangeAt g (i * 17) (wc x.1)) (h0 : J [] W) :
    CallsIn F n Tryz.prog 143 #[.func (.yield l) #[] #[], .pointer (some ⟨Bs, 0, none⟩)] W fun e W' => (∃ v, e = .returned v) ∧
      ((∃ ys, ys = comes ws ws.length ∧ J ys W') ∨ (∃ pre, (∃ k, k ≤ ws.length ∧ pre = comes ws k) ∧ Jx pre W')) := by
  refine callsIn_of_wp Tryz.func143 rfl h39 ?_ hro
  simp only [Tryz.ntmps143, List.size_toArray, List.length_cons, List.length_nil, Nat.reduceAdd, Nat.reduceSub, Array.replicate_succ, Array.replicate_zero, List.push_toArray, List.append_toArray, List.nil_append, List.cons_append]
  gi_wp2
  gi_loopw [3] (fun i wr => ∃ j : Nat, j ≤ ws.length ∧ i = .int .i64 ((j : Int) - 1) ∧ J (comes ws (ws.length - j)) wr ∧ Below n₀ W wr)
    (fun i _ => (intOf i + 1).toNat)
  case atStart => exact ⟨ws.length, Nat.le_refl _, rfl, by rw [Nat.sub_self]; exact h0, Below.refl _ _⟩
  case round =>
    obtain ⟨j, hj, rfl, hJs, hnx⟩ := hrel
    have hBw : wr.cell? ⟨Bs, 0, none⟩ = some (.slice va ws.length vc) := (hnx.cell (p := ⟨Bs, 0, none⟩) hBn).trans hBs
    cases j with
    | zero =>
      gi_wp2
      go_end0
      exact ⟨⟨_, rfl⟩, .inl ⟨_, rfl, hJs⟩⟩
    | succ m =>
      have hm : m < ws.length := by omega
      have e1 : ((m + 1 : Nat) : Int) - 1 = (m : Int) := by omega
      rw [e1]
      clear e1
      have hx : ws[m]? = some ws[m] := List.getElem?_eq_getElem hm
      obtain ⟨g, rfl, hg, hr⟩ := hc m _ hx
      have hr' : wr.rangeAt g (m * 17) (wc ws[m].1) := fun i v hi => by rw [hnx.cell (p := ⟨g, m * 17 + i, none⟩) hg]; exact hr i v hi
      have hfe : Hid (fromEnd ws (ws.length - (m + 1)) = (m, ws[m])) := by
        show _ = _
        unfold fromEnd
        have : ws.length - 1 - (ws.length - (m + 1)) = m := by omega
        rw [this, hx]; rfl
      obtain ⟨x, HX⟩ : ∃ x, Hid (x = ws[m]) := ⟨_, (rfl : ws[m] = ws[m])⟩
      have hr2 : Hid (wr.rangeAt g (m * 17) (wc x.1)) := by rw [HX.out]; exact hr'
      have h17 : Hid ((Tryz.prog.info? 210).map (·.size) = some (wc x.1).length) := by show _ = _; rw [wr17]; exact info67
      obtain ⟨fn, tmps, assign, body, hy, hR⟩ := hY _ (m, x) wr hJs (by rw [comes_len]; omega)
      dsimp only at hy
      clear hr hr' hx hc
      gi_wp2_with (refine wpListIn_load_mid (by rfl) 210 _ (by rfl) g (m * 17) (by rfl) (wc x.1) _ hr2.out Tryz.underlying210 rfl h17.out ?_)
      refine hR.mono ?_
      have HN : Hid (comes ws (ws.length - m) = comes ws (ws.length - (m + 1)) ++ [(m, x)]) := by
        show _ = _
        have : ws.length - m = ws.length - (m + 1) + 1 := by omega
        rw [this, comes_succ, hfe.out, HX.out]
      rintro e W3 (⟨rfl, hJ3, hk3⟩ | ⟨rfl, hJx3⟩)
      · gi_wp2
        go_roundw
        case rel => exact ⟨m, by omega, rfl, by rw [HN.out]; exact hJ3, hnx.trans hk3⟩
        case measure => simp [intOf]
      · gi_wp2
        refine bodyPost_ret (results_none rfl _ _ _) rfl ?_
        exact ⟨⟨_, rfl⟩, .inr ⟨_, ⟨ws.length - m, by omega, HN.out.symm⟩, hJx3⟩⟩

set_option maxHeartbeats 1000000 in
theorem back_in (F : Fence) (n : Nat) (h5 : F.fn 127) (hro : F.round = none) (a : Option Addr) (len cap : Nat) (w : World) :
    CallsIn F n Tryz.prog 127 #[.slice a len cap] w fun e w' => e = .returned (.func (.func 143) #[] #[.pointer (some ⟨w.heap.size, 0, none⟩)]) ∧ w' = w.alloc (.cells #[.slice a len cap] 157) := by
  refine callsIn_of_wp Tryz.func127 rfl h5 ?_ hro
  simp only [Tryz.ntmps127, List.size_toArray, List.length_cons, List.length_nil, Nat.reduceAdd, Nat.reduceSub, Array.replicate_succ, Array.replicate_zero, List.push_toArray, List.append_toArray, List.nil_append, List.cons_append]
  gi_wp2
  go_ret
  exact ⟨rfl, rfl⟩

theorem back_stops (F : Fence) (n : Nat) (h39 : F.fn 143) (hro : F.round = none) (hn : 1 ≤ n) (Bs n₀ : Nat) (va : Option Addr) (vc : Nat) (ws : List Wr) (hreach : ws.length ≤ 100000) (w : World) (hBs : Bs < n₀) (hn₀ : n₀ ≤ w.heap.size)
    (hc : w.cell? ⟨Bs, 0, none⟩ = some (.slice va ws.length vc)) (hr : ∀ i (x : Wr), ws[i]? = some x → ∃ g, va = some ⟨g, 0, none⟩ ∧ g < n₀ ∧ w.rangeAt g (i * 17) (wc x.1)) :
    SeqStopsK F n Tryz.prog 143 #[.pointer (some ⟨Bs, 0, none⟩)] (fun x : Nat × Wr => #[Value.int .i64 (x.1 : Int), .agg (wc x.2.1).toArray]) (Below n₀) (fun ys => ys = comes ws ws.length)
      (fun pre => ∃ k, k ≤ ws.length ∧ pre = comes ws k) ws.length w := fun l J Jx W hW _ _ hY h0 => by
  have hb : Below n₀ w W := hW.mono hn₀
  exact back1_in F n h39 hro hn l Bs n₀ va vc ws hreach J Jx hY W ((hb.cell (p := ⟨Bs, 0, none⟩) hBs).trans hc) hBs (fun i x hx => by
    obtain ⟨g, e, hg, h⟩ := hr i x hx
    exact ⟨g, e, hg, fun j v hj => by rw [hb.cell (p := ⟨g, i * 17 + j, none⟩) hg]; exact h j v hj⟩) h0
end Go.Proofs.YteefneelcgeioaaGreatDoor
namespace Go.Proofs.YteefneelcgeioaaGreatDoor
open Go.RowKit Go.Shelf

section
variable {P : Program} {ops : Array Oper} {Q : Exit → Act → World → Prop} {md : Region.Mode} {S : World → Prop} {r n : Nat}
theorem wpOp_round {i : Nat} {K K' : Act → World → Prop} (hnd : ∀ (i : Nat) (o : Oper), ops[i]? = some o → ∀ c, o.op ≠ .defer c) (hlo : ¬ LetsOut Q) {a : Act} {w : World} (h : wpOp P ops Q i K a w) (hK : ∀ a w, K a w → K' a w) : wpOpIn (Fence.wide.inRound r) n P ops Q i K' a w := by
  unfold wpOp at h
  unfold wpOpIn
  cases ho : ops[i]? with
  | none => rw [ho] at h; exact hK _ _ h
  | some o =>
    rw [ho] at h
    simp only at h ⊢
    split
    · rename_i hw
      rw [if_pos hw] at h
      rcases h with h | ⟨_, h⟩
      · refine ⟨fun f _ => trivial, ?_⟩
        show o.uponIn (Fence.wide.inRound r) n P a K' Q ((o.semAt (some r) a.eval).run P w)
        rw [Oper.semAt_some r a.eval o (hnd i o ho)]
        unfold Oper.wp at h
        generalize (execOp a.eval o).run P w = res at h ⊢
        cases res with
        | ok x w' =>
          cases x with
          | value v => exact hK _ _ h
          | skip => exact hK _ _ h
          | defer d => exact hK _ _ h
          | enter f args =>
            refine ⟨fun h => by simp [Fence.wide, Fence.inRound] at h, CallsIn.inRound r (callsIn_wide.2 (Calls.mono h ?_))⟩
            intro e w'' he
            cases e with
            | returned v => exact hK _ _ he
            | panicked c => exact he
            | outgrown => exact he
          | row row args =>
            refine ⟨fun h => by simp [Fence.wide, Fence.inRound] at h, fun c cs _ => ?_⟩
            obtain ⟨v, w2, h1, h2⟩ := h c cs
            exact ⟨v, w2, hK _ _ h1, stepsIn_wide.2 h2⟩
          | _ => exact absurd h id
        | halt x w' =>
          cases x with
          | panic v => exact h
          | _ => exact absurd h id
      · exact absurd h hlo
    · rename_i hw
      rw [if_neg hw] at h
      exact ⟨fun f _ => trivial, hK _ _ h⟩
theorem wpAny_round (hnd : ∀ (i : Nat) (o : Oper), ops[i]? = some o → ∀ c, o.op ≠ .defer c) (hlo : ¬ LetsOut Q) : ∀ (fuel : Nat) (listed : Array Bool) (a : Act) (w : World), wpAny P md ops Q fuel listed a w → wpAnyIn (Fence.wide.inRound r) n P md ops Q fuel listed a w
  | 0, _, _, _, h => h
  | fuel + 1, _, _, _, h => ⟨h.1, fun i hi => wpOp_round hnd hlo (h.2 i hi) (fun a w => wpAny_round hnd hlo fuel _ a w)⟩
/-- No operation is a defer. -/
def noDefer (ops : Array Oper) : Bool := ops.all fun o => match o.op with
  | .defer _ => false
  | _ => true
theorem noDefer_spec (h : noDefer ops = true) (i : Nat) (o : Oper) (ho : ops[i]? = some o) (c) : o.op ≠ .defer c := fun e => by
  have h1 := Array.all_eq_true'.1 h o (Array.mem_of_getElem? ho)
  rw [e] at h1
  simp at h1
theorem region_round_held {id : Nat} {a : Act} {w : World} (hm : P.follows .mixedOrders = true) (hnd : noDefer ops = true) (hlo : ¬ LetsOut Q) (hS : S w.drew) (h : S w.drew → wpAnyH P .any ops Q S ops.size (Array.replicate ops.size false) a w.drew) : (Code.region id ops true).wpIn (Fence.wide.inRound r) n P Q a w :=
  wpIn_region_any hm (wpAny_round (noDefer_spec hnd) hlo _ _ _ _ (wpAny_of_held _ _ _ _ (h hS)))
end

/-- The first numbers below m, each with that. -/
def fr (m j : Nat) : List { x : Nat // x < m } := (List.range j).filterMap fun x => if h : x < m then some ⟨x, h⟩ else none
theorem fr_succ {m j : Nat} (h : j < m) : fr m (j + 1) = fr m j ++ [⟨j, h⟩] := by
  unfold fr
  rw [List.range_succ, List.filterMap_append]
  simp [h]
theorem fr_vals {m : Nat} : ∀ {j : Nat}, j ≤ m → (fr m j).map (·.1) = List.range j
  | 0, _ => rfl
  | j + 1, h => by rw [fr_succ (by omega), List.map_append, fr_vals (by omega), List.range_succ]; rfl
theorem fr_len {m j : Nat} (h : j ≤ m) : (fr m j).length = j := by
  have := congrArg List.length (fr_vals h)
  simpa using this
/-- The slice's box and the size's are as they were. -/
def KpC (Bs Bn : Nat) (A B : World) : Prop := B.heap[Bs]? = A.heap[Bs]? ∧ B.heap[Bn]? = A.heap[Bn]?
set_option maxRecDepth 100000 in
set_option maxHeartbeats 2000000 in
theorem chunk1_in (n : Nat) (hn : 1 ≤ n) (l Bs Bn g m M C : Nat) (hM : M = m * 16) (hm : m ≤ 1000) (hC : M ≤ C) (J Jx : List { x : Nat // x < m } → World → Prop) (hJd : ∀ pre W, J pre W → J pre W.drew)
    (hY : ∀ pre x W, J pre W → pre.length < m → YieldAt Fence.wide (n - 1) Tryz.prog l #[.slice (some ⟨g, x.1 * 16, none⟩) 16 16] W fun e W' =>
      (e = .returned (.bool true) ∧ J (pre ++ [x]) W' ∧ KpC Bs Bn W W') ∨ (e = .returned (.bool false) ∧ Jx (pre ++ [x]) W'))
    (W : World) (hBs : W.heap[Bs]? = some (.cells #[.slice (some ⟨g, 0, none⟩) M C] 147 (0, 0))) (hBn : W.heap[Bn]? = some (.cells #[.int .i64 16] 3 (0, 0))) (h0 : J [] W) :
    CallsIn Fence.wide n Tryz.prog 129 #[.func (.yield l) #[] #[], .pointer (some ⟨Bs, 0, none⟩), .pointer (some ⟨Bn, 0, none⟩)] W fun e W' => (∃ v, e = .returned v) ∧
      ((∃ ys, ys = fr m m ∧ J ys W') ∨ (∃ pre, (∃ k, k ≤ m ∧ pre = fr m k) ∧ Jx pre W')) := by
  have HYY : Hid (∀ pre x W, J pre W → pre.length < m → YieldAt Fence.wide (n - 1) Tryz.prog l #[.slice (some ⟨g, x.1 * 16, none⟩) 16 16] W fun e W' =>
      (e = .returned (.bool true) ∧ J (pre ++ [x]) W' ∧ KpC Bs Bn W W') ∨ (e = .returned (.bool false) ∧ Jx (pre ++ [x]) W')) := hY
  have HM : Hid (M = m * 16) := hM
  clear hY hM
  have hM16 : M ≤ 16000 := by have := HM.out; omega
  have hcs0 : W.cell? ⟨Bs, 0, none⟩ = some (.slice (some ⟨g, 0, none⟩) M C) := by rw [cell_of_row _ _ _ _ _ _ hBs]; rfl
  refine callsIn_of_wp Tryz.func129 rfl trivial ?_ rfl
  simp only [Tryz.ntmps129, List.size_toArray, List.length_cons, List.length_nil, Nat.reduceAdd, Nat.reduceSub, Array.replicate_succ, Array.replicate_zero, List.push_toArray, List.append_toArray, List.nil_append, List.cons_append]
  gi_wp2
  gi_loopw [4] (fun i wr => ∃ j p : Nat, p = j * 16 ∧ j ≤ m ∧ i = .int .i64 (p : Int) ∧ J (fr m j) wr ∧ KpC Bs Bn W wr)
    (fun i _ => (M - (intOf i).toNat))
  case atStart => exact ⟨0, 0, rfl, Nat.zero_le _, rfl, h0, rfl, rfl⟩
  case round =>
    obtain ⟨j, p, hp, hj, rfl, hJs, hk⟩ := hrel
    have HK : Hid (KpC Bs Bn W wr) := hk
    have hcs : wr.cell? ⟨Bs, 0, none⟩ = some (.slice (some ⟨g, 0, none⟩) M C) := by rw [cell_of_row _ _ _ _ _ _ (hk.1.trans hBs)]; rfl
    have hcn : wr.cell? ⟨Bn, 0, none⟩ = some (.int .i64 16) := by rw [cell_of_row _ _ _ _ _ _ (hk.2.trans hBn)]; rfl
    have HS : Hid (wr.drew.cell? ⟨Bs, 0, none⟩ = some (.slice (some ⟨g, 0, none⟩) M C)) := hcs
    have HN : Hid (wr.drew.cell? ⟨Bn, 0, none⟩ = some (.int .i64 16)) := hcn
    have HP : Hid (p = j * 16) := hp
    by_cases hlt : j < m
    · have hpM : p + 16 ≤ M := by have := HM.out; omega
      have hpM' : (p : Int) < (M : Int) := by omega
      have hpM2 : p ≤ M := by omega
      have hpC : p + 16 ≤ C := by omega
      have hCp : ¬ C = p := by omega
      clear hp hk
      gi_wp2
      refine wpIn_wide.2 ?_
      refine wp_region_noPanic ?_
      refine wp_region_held_drew (S := fun w' => w'.cell? ⟨Bs, 0, none⟩ = some (.slice (some ⟨g, 0, none⟩) M C) ∧ w'.cell? ⟨Bn, 0, none⟩ = some (.int .i64 16)) (by kernel_rfl) (⟨HS.out, HN.out⟩) (fun hHeld => ?_)
      refine wpAnyH_take (i := 0) (v := (.int .i64 16)) rfl (by kernel_rfl) (by kernel_rfl) (by kernel_rfl) (fun _ _ _ h => h) (Or.inl ⟨by rfl, ?_⟩) hHeld ?_
      · intro w hSw; (try dsimp only at hSw); simp only [List.getElem_toArray, List.getElem_cons_zero]; go_simp
      simp only [List.getElem_toArray, List.getElem_cons_zero, Act.put, List.setIfInBounds_toArray, List.set_cons_zero, List.set_cons_succ]
      refine wpAnyH_take (i := 1) (v := (.slice (some ⟨g, 0, none⟩) M C)) rfl (by kernel_rfl) (by kernel_rfl) (by kernel_rfl) (fun _ _ _ h => h) (Or.inl ⟨by rfl, ?_⟩) hHeld ?_
      · intro w hSw; (try dsimp only at hSw); simp only [List.getElem_toArray, List.getElem_cons_zero, List.getElem_cons_succ]; go_simp
      simp only [List.getElem_toArray, List.getElem_cons_zero, List.getElem_cons_succ, Act.put, List.setIfInBounds_toArray, List.set_cons_zero, List.set_cons_succ]
      refine wpAnyH_take (i := 2) (v := (.int .i64 (p : Int))) rfl (by kernel_rfl) (by kernel_rfl) (by kernel_rfl) (fun _ _ _ h => h) (Or.inl ⟨by rfl, ?_⟩) hHeld ?_
      · intro w hSw; (try dsimp only at hSw); simp only [List.getElem_toArray, List.getElem_cons_zero, List.getElem_cons_succ]; go_simp
      simp only [List.getElem_toArray, List.getElem_cons_zero, List.getElem_cons_succ, Act.put, List.setIfInBounds_toArray, List.set_cons_zero, List.set_cons_succ]
      refine wpAnyH_take (i := 3) (v := (.slice (some ⟨g, p, none⟩) (M - p) (C - p))) rfl (by kernel_rfl) (by kernel_rfl) (by kernel_rfl) (fun _ _ _ h => h) (Or.inl ⟨by rfl, ?_⟩) hHeld ?_
      · intro w hSw; (try dsimp only at hSw); simp only [List.getElem_toArray, List.getElem_cons_zero, List.getElem_cons_succ]; go_simp
      simp only [List.getElem_toArray, List.getElem_cons_zero, List.getElem_cons_succ, Act.put, List.setIfInBounds_toArray, List.set_cons_zero, List.set_cons_succ]
      refine wpAnyH_take (i := 4) (v := (.int .i64 ((M - p : Nat) : Int))) rfl (by kernel_rfl) (by kernel_rfl) (by kernel_rfl) (fun _ _ _ h => h) (Or.inl ⟨by rfl, ?_⟩) hHeld ?_
      · intro w hSw; (try dsimp only at hSw); simp only [List.getElem_toArray, List.getElem_cons_zero, List.getElem_cons_succ]; go_simp
      simp only [List.getElem_toArray, List.getElem_cons_zero, List.getElem_cons_succ, Act.put, List.setIfInBounds_toArray, List.set_cons_zero, List.set_cons_succ]
      refine wpAnyH_take (i := 5) (v := (.int .i64 16)) rfl (by kernel_rfl) (by kernel_rfl) (by kernel_rfl) (fun _ _ _ h => h) (Or.inl ⟨by rfl, ?_⟩) hHeld ?_
      · intro w hSw; (try dsimp only at hSw); simp only [List.getElem_toArray, List.getElem_cons_zero, List.getElem_cons_succ]; go_simp; omega
      simp only [List.getElem_toArray, List.getElem_cons_zero, List.getElem_cons_succ, Act.put, List.setIfInBounds_toArray, List.set_cons_zero, List.set_cons_succ]
      refine wpAnyH_take (i := 6) (v := (.int .i64 16)) rfl (by kernel_rfl) (by kernel_rfl) (by kernel_rfl) (fun _ _ _ h => h) (Or.inl ⟨by rfl, ?_⟩) hHeld ?_
      · intro w hSw; (try dsimp only at hSw); simp only [List.getElem_toArray, List.getElem_cons_zero, List.getElem_cons_succ]; go_simp
      simp only [List.getElem_toArray, List.getElem_cons_zero, List.getElem_cons_succ, Act.put, List.setIfInBounds_toArray, List.set_cons_zero, List.set_cons_succ]
      refine wpAnyH_done (by kernel_rfl) ?_ _
      refine NoPanic.normal ?_
      obtain ⟨fn, tmps, assign, body, hy, hR⟩ := HYY.out _ ⟨j, hlt⟩ wr.drew (hJd _ _ hJs) (by rw [fr_len hj]; exact hlt)
      have e16 : (⟨g, j * 16, none⟩ : Addr) = ⟨g, p, none⟩ := by rw [HP.out]
      rw [e16] at hy
      clear e16
      have c1 : wr.drew.cell? ⟨Bs, 0, none⟩ = some (.slice (some ⟨g, 0, none⟩) M C) := HS.out
      have c2 : wr.drew.cell? ⟨Bn, 0, none⟩ = some (.int .i64 16) := HN.out
      have HRR : Hid _ := hR
      clear hR
      gi_wp2
      refine RoundIn.mono HRR.out ?_
      rintro e W3 (⟨rfl, hJ3, hk3⟩ | ⟨rfl, hJx3⟩)
      · have HK3 : Hid (KpC Bs Bn W W3) := ⟨hk3.1.trans HK.out.1, hk3.2.trans HK.out.2⟩
        have c3 : W3.cell? ⟨Bn, 0, none⟩ = some (.int .i64 16) := by rw [World.cell?_of_block (a := ⟨Bn, 0, none⟩) hk3.2]; exact HN.out
        have HJ3 : Hid (J (fr m (j + 1)) W3) := by rw [fr_succ hlt]; exact hJ3
        clear hJ3 hk3
        gi_wp2
        go_roundw
        case rel => exact ⟨j + 1, p + 16, by have := HP.out; omega, by omega, by simp, HJ3.out, HK3.out⟩
        case measure => simp [intOf]; omega
      · gi_wp2
        refine bodyPost_ret (results_none rfl _ _ _) rfl ?_
        exact ⟨⟨_, rfl⟩, .inr ⟨_, ⟨j + 1, by omega, (fr_succ hlt).symm⟩, hJx3⟩⟩
    · have hpe : p = M := by have := HM.out; have : j = m := by omega
                             subst this; omega
      have hje : Hid (j = m) := by show _ = _; omega
      subst hpe
      clear hp hk
      gi_wp2
      go_end0
      exact ⟨⟨_, rfl⟩, .inl ⟨fr m j, congrArg (fr m) hje.out, hJs⟩⟩

theorem chunk_stops (n : Nat) (hn : 1 ≤ n) (Bs Bn g m M C : Nat) (hM : M = m * 16) (hm : m ≤ 1000) (hC : M ≤ C) (w : World) (hs : Bs < w.heap.size) (hs' : Bn < w.heap.size)
    (hBs : w.heap[Bs]? = some (.cells #[.slice (some ⟨g, 0, none⟩) M C] 147 (0, 0))) (hBn : w.heap[Bn]? = some (.cells #[.int .i64 16] 3 (0, 0))) :
    SeqStopsK Fence.wide n Tryz.prog 129 #[.pointer (some ⟨Bs, 0, none⟩), .pointer (some ⟨Bn, 0, none⟩)] (fun x : { x : Nat // x < m } => #[Value.slice (some ⟨g, x.1 * 16, none⟩) 16 16]) (KpC Bs Bn) (fun ys => ys = fr m m)
      (fun pre => ∃ k, k ≤ m ∧ pre = fr m k) m w := fun l J Jx W hW hJ _ hY h0 =>
  chunk1_in n hn l Bs Bn g m M C hM hm hC J Jx (fun pre W1 h => hJ pre W1 W1.drew none h ⟨rfl, rfl, rfl, Nat.le_refl _, fun _ _ _ => rfl⟩ (fun r e => by cases e)) hY W ((hW.block Bs hs).trans hBs) ((hW.block Bn hs').trans hBn) h0

set_option maxHeartbeats 1000000 in
theorem chunk_in (n : Nat) (a : Option Addr) (len cap : Nat) (w : World) :
    CallsIn Fence.wide n Tryz.prog 105 #[.slice a len cap, .int .i64 16] w fun e w' => e = .returned (.func (.func 129) #[] #[.pointer (some ⟨w.heap.size, 0, none⟩), .pointer (some ⟨w.heap.size + 1, 0, none⟩)]) ∧ w' = (w.alloc (.cells #[.slice a len cap] 147)).alloc (.cells #[.int .i64 16] 3) := by
  refine callsIn_of_wp Tryz.func105 rfl trivial ?_ rfl
  simp only [Tryz.ntmps105, List.size_toArray, List.length_cons, List.length_nil, Nat.reduceAdd, Nat.reduceSub, Array.replicate_succ, Array.replicate_zero, List.push_toArray, List.append_toArray, List.nil_append, List.cons_append]
  gi_wp2
  go_ret
  exact ⟨rfl, rfl⟩
end Go.Proofs.YteefneelcgeioaaGreatDoor
