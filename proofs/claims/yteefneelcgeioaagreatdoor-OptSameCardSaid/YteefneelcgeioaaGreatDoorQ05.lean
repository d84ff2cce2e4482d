/-
  A region that draws its order inside a round of a range over a function; the contract of slices.Chunk at bytes.
  The contract of package disk's last.
  Conditions: those that each states.
-/
import Derived.Test.YteefneelcgeioaaGreatDoorQ04
import Derived.Deep.RegionHeld3
namespace Go.Proofs.YteefneelcgeioaaGreatDoor
open Go.RowKit Go.Shelf

section
variable {P : Program} {ops : Array Oper} {Q : Exit → Act → World → Prop} {md : Region.Mode} {S : World → Prop} {r n : Nat}
theorem wpOp_round {i : Nat} {K K' : Act → World → Prop} (hnd : ∀ (i : Nat) (o : Oper), ops[i]? = some o → ∀ c, o.op ≠ .defer c) (hlo : ¬ LetsOut Q) {a : Act} {w : World} (h : wpOp P ops Q i K a w) (hK : ∀ a w, K a w → K' a w) : wpOpIn (Fence.wide.inRound r) n P ops Q i K' a w := by
  unfold wpOp at h
  unfold wpOpIn
  cases ho : ops[i]? with
  | none => rw [ho] at h; exact hK _ _ h
  | some o =>
    rw [ho] at h
    simp only at h ⊢
    split
    · rename_i hw
      rw [if_pos hw] at h
      rcases h with h | ⟨_, h⟩
      · refine ⟨fun f _ => trivial, ?_⟩
        show o.uponIn (Fence.wide.inRound r) n P a K' Q ((o.semAt (some r) a.eval).run P w)
        rw [Oper.semAt_some r a.eval o (hnd i o ho)]
        unfold Oper.wp at h
        generalize (execOp a.eval o).run P w = res at h ⊢
        cases res with
        | ok x w' =>
          cases x with
          | value v => exact hK _ _ h
          | skip => exact hK _ _ h
          | defer d => exact hK _ _ h
          | enter f args =>
            refine ⟨fun h => by simp [Fence.wide, Fence.inRound] at h, CallsIn.inRound r (callsIn_wide.2 (Calls.mono h ?_))⟩
            intro e w'' he
            cases e with
            | returned v => exact hK _ _ he
            | panicked c => exact he
            | outgrown => exact he
          | row row args =>
            refine ⟨fun h => by simp [Fence.wide, Fence.inRound] at h, fun c cs _ => ?_⟩
            obtain ⟨v, w2, h1, h2⟩ := h c cs
            exact ⟨v, w2, hK _ _ h1, stepsIn_wide.2 h2⟩
          | _ => exact absurd h id
        | halt x w' =>
          cases x with
          | panic v => exact h
          | _ => exact absurd h id
      · exact absurd h hlo
    · rename_i hw
      rw [if_neg hw] at h
      exact ⟨fun f _ => trivial, hK _ _ h⟩
theorem wpAny_round (hnd : ∀ (i : Nat) (o : Oper), ops[i]? = some o → ∀ c, o.op ≠ .defer c) (hlo : ¬ LetsOut Q) : ∀ (fuel : Nat) (listed : Array Bool) (a : Act) (w : World), wpAny P md ops Q fuel listed a w → wpAnyIn (Fence.wide.inRound r) n P md ops Q fuel listed a w
  | 0, _, _, _, h => h
  | fuel + 1, _, _, _, h => ⟨h.1, fun i hi => wpOp_round hnd hlo (h.2 i hi) (fun a w => wpAny_round hnd hlo fuel _ a w)⟩
/-- No operation is a defer. -/
def noDefer (ops : Array Oper) : Bool := ops.all fun o => match o.op with
  | .defer _ => false
  | _ => true
theorem noDefer_spec (h : noDefer ops = true) (i : Nat) (o : Oper) (ho : ops[i]? = some o) (c) : o.op ≠ .defer c := fun e => by
  have h1 := Array.all_eq_true'.1 h o (Array.mem_of_getElem? ho)
  rw [e] at h1
  simp at h1
theorem region_round_held {id : Nat} {a : Act} {w : World} (hm : P.follows .mixedOrders = true) (hnd : noDefer ops = true) (hlo : ¬ LetsOut Q) (hS : S w.drew) (h : S w.drew → wpAnyH P .any ops Q S ops.size (Array.replicate ops.size false) a w.drew) : (Code.region id ops true).wpIn (Fence.wide.inRound r) n P Q a w :=
  wpIn_region_any hm (wpAny_round (noDefer_spec hnd) hlo _ _ _ _ (wpAny_of_held _ _ _ _ (h hS)))
end

/-- The first numbers below m, each with that. -/
def fr (m j : Nat) : List { x : Nat // x < m } := (List.range j).filterMap fun x => if h : x < m then some ⟨x, h⟩ else none
theorem fr_succ {m j : Nat} (h : j < m) : fr m (j + 1) = fr m j ++ [⟨j, h⟩] := by
  unfold fr
  rw [List.range_succ, List.filterMap_append]
  simp [h]
theorem fr_vals {m : Nat} : ∀ {j : Nat}, j ≤ m → (fr m j).map (·.1) = List.range j
  | 0, _ => rfl
  | j + 1, h => by rw [fr_succ (by omega), List.map_append, fr_vals (by omega), List.range_succ]; rfl
theorem fr_len {m j : Nat} (h : j ≤ m) : (fr m j).length = j := by
  have := congrArg List.length (fr_vals h)
  simpa using this
/-- The slice's box and the size's are as they were. -/
def KpC (Bs Bn : Nat) (A B : World) : Prop := B.heap[Bs]? = A.heap[Bs]? ∧ B.heap[Bn]? = A.heap[Bn]?
set_option maxRecDepth 100000 in
set_option maxHeartbeats 2000000 in
theorem chunk1_in (n : Nat) (hn : 1 ≤ n) (l Bs Bn g m M C : Nat) (hM : M = m * 16) (hm : m ≤ 1000) (hC : M ≤ C) (J Jx : List { x : Nat // x < m } → World → Prop) (hJd : ∀ pre W, J pre W → J pre W.drew)
    (hY : ∀ pre x W, J pre W → pre.length < m → YieldAt Fence.wide (n - 1) Tryz.prog l #[.slice (some ⟨g, x.1 * 16, none⟩) 16 16] W fun e W' =>
      (e = .returned (.bool true) ∧ J (pre ++ [x]) W' ∧ KpC Bs Bn W W') ∨ (e = .returned (.bool false) ∧ Jx (pre ++ [x]) W'))
    (W : World) (hBs : W.heap[Bs]? = some (.cells #[.slice (some ⟨g, 0, none⟩) M C] 147 (0, 0))) (hBn : W.heap[Bn]? = some (.cells #[.int .i64 16] 3 (0, 0))) (h0 : J [] W) :
    CallsIn Fence.wide n Tryz.prog 129 #[.func (.yield l) #[] #[], .pointer (some ⟨Bs, 0, none⟩), .pointer (some ⟨Bn, 0, none⟩)] W fun e W' => (∃ v, e = .returned v) ∧
      ((∃ ys, ys = fr m m ∧ J ys W') ∨ (∃ pre, (∃ k, k ≤ m ∧ pre = fr m k) ∧ Jx pre W')) := by
  have HYY : Hid (∀ pre x W, J pre W → pre.length < m → YieldAt Fence.wide (n - 1) Tryz.prog l #[.slice (some ⟨g, x.1 * 16, none⟩) 16 16] W fun e W' =>
      (e = .returned (.bool true) ∧ J (pre ++ [x]) W' ∧ KpC Bs Bn W W') ∨ (e = .returned (.bool false) ∧ Jx (pre ++ [x]) W')) := hY
  have HM : Hid (M = m * 16) := hM
  clear hY hM
  have hM16 : M ≤ 16000 := by have := HM.out; omega
  have hcs0 : W.cell? ⟨Bs, 0, none⟩ = some (.slice (some ⟨g, 0, none⟩) M C) := by rw [cell_of_row _ _ _ _ _ _ hBs]; rfl
  refine callsIn_of_wp Tryz.func129 rfl trivial ?_ rfl
  simp only [Tryz.ntmps129, List.size_toArray, List.length_cons, List.length_nil, Nat.reduceAdd, Nat.reduceSub, Array.replicate_succ, Array.replicate_zero, List.push_toArray, List.append_toArray, List.nil_append, List.cons_append]
  gi_wp2
  gi_loopw [4] (fun i wr => ∃ j p : Nat, p = j * 16 ∧ j ≤ m ∧ i = .int .i64 (p : Int) ∧ J (fr m j) wr ∧ KpC Bs Bn W wr)
    (fun i _ => (M - (intOf i).toNat))
  case atStart => exact ⟨0, 0, rfl, Nat.zero_le _, rfl, h0, rfl, rfl⟩
  case round =>
    obtain ⟨j, p, hp, hj, rfl, hJs, hk⟩ := hrel
    have HK : Hid (KpC Bs Bn W wr) := hk
    have hcs : wr.cell? ⟨Bs, 0, none⟩ = some (.slice (some ⟨g, 0, none⟩) M C) := by rw [cell_of_row _ _ _ _ _ _ (hk.1.trans hBs)]; rfl
    have hcn : wr.cell? ⟨Bn, 0, none⟩ = some (.int .i64 16) := by rw [cell_of_row _ _ _ _ _ _ (hk.2.trans hBn)]; rfl
    have HS : Hid (wr.drew.cell? ⟨Bs, 0, none⟩ = some (.slice (some ⟨g, 0, none⟩) M C)) := hcs
    have HN : Hid (wr.drew.cell? ⟨Bn, 0, none⟩ = some (.int .i64 16)) := hcn
    have HP : Hid (p = j * 16) := hp
    by_cases hlt : j < m
    · have hpM : p + 16 ≤ M := by have := HM.out; omega
      have hpM' : (p : Int) < (M : Int) := by omega
      have hpM2 : p ≤ M := by omega
      have hpC : p + 16 ≤ C := by omega
      have hCp : ¬ C = p := by omega
      clear hp hk
      gi_wp2
      refine wpIn_wide.2 ?_
      refine wp_region_noPanic ?_
      refine wp_region_held_drew (S := fun w' => w'.cell? ⟨Bs, 0, none⟩ = some (.slice (some ⟨g, 0, none⟩) M C) ∧ w'.cell? ⟨Bn, 0, none⟩ = some (.int .i64 16)) (by kernel_rfl) (⟨HS.out, HN.out⟩) (fun hHeld => ?_)
      refine wpAnyH_take (i := 0) (v := (.int .i64 16)) rfl (by kernel_rfl) (by kernel_rfl) (by kernel_rfl) (fun _ _ _ h => h) (Or.inl ⟨by rfl, ?_⟩) hHeld ?_
      · intro w hSw; (try dsimp only at hSw); simp only [List.getElem_toArray, List.getElem_cons_zero]; go_simp
      simp only [List.getElem_toArray, List.getElem_cons_zero, Act.put, List.setIfInBounds_toArray, List.set_cons_zero, List.set_cons_succ]
      refine wpAnyH_take (i := 1) (v := (.slice (some ⟨g, 0, none⟩) M C)) rfl (by kernel_rfl) (by kernel_rfl) (by kernel_rfl) (fun _ _ _ h => h) (Or.inl ⟨by rfl, ?_⟩) hHeld ?_
      · intro w hSw; (try dsimp only at hSw); simp only [List.getElem_toArray, List.getElem_cons_zero, List.getElem_cons_succ]; go_simp
      simp only [List.getElem_toArray, List.getElem_cons_zero, List.getElem_cons_succ, Act.put, List.setIfInBounds_toArray, List.set_cons_zero, List.set_cons_succ]
      refine wpAnyH_take (i := 2) (v := (.int .i64 (p : Int))) rfl (by kernel_rfl) (by kernel_rfl) (by kernel_rfl) (fun _ _ _ h => h) (Or.inl ⟨by rfl, ?_⟩) hHeld ?_
      · intro w hSw; (try dsimp only at hSw); simp only [List.getElem_toArray, List.getElem_cons_zero, List.getElem_cons_succ]; go_simp
      simp only [List.getElem_toArray, List.getElem_cons_zero, List.getElem_cons_succ, Act.put, List.setIfInBounds_toArray, List.set_cons_zero, List.set_cons_succ]
      refine wpAnyH_take (i := 3) (v := (.slice (some ⟨g, p, none⟩) (M - p) (C - p))) rfl (by kernel_rfl) (by kernel_rfl) (by kernel_rfl) (fun _ _ _ h => h) (Or.inl ⟨by rfl, ?_⟩) hHeld ?_
      · intro w hSw; (try dsimp only at hSw); simp only [List.getElem_toArray, List.getElem_cons_zero, List.getElem_cons_succ]; go_simp
      simp only [List.getElem_toArray, List.getElem_cons_zero, List.getElem_cons_succ, Act.put, List.setIfInBounds_toArray, List.set_cons_zero, List.set_cons_succ]
      refine wpAnyH_take (i := 4) (v := (.int .i64 ((M - p : Nat) : Int))) rfl (by kernel_rfl) (by kernel_rfl) (by kernel_rfl) (fun _ _ _ h => h) (Or.inl ⟨by rfl, ?_⟩) hHeld ?_
      · intro w hSw; (try dsimp only at hSw); simp only [List.getElem_toArray, List.getElem_cons_zero, List.getElem_cons_succ]; go_simp
      simp only [List.getElem_toArray, List.getElem_cons_zero, List.getElem_cons_succ, Act.put, List.setIfInBounds_toArray, List.set_cons_zero, List.set_cons_succ]
      refine wpAnyH_take (i := 5) (v := (.int .i64 16)) rfl (by kernel_rfl) (by kernel_rfl) (by kernel_rfl) (fun _ _ _ h => h) (Or.inl ⟨by rfl, ?_⟩) hHeld ?_
      · intro w hSw; (try dsimp only at hSw); simp only [List.getElem_toArray, List.getElem_cons_zero, List.getElem_cons_succ]; go_simp; omega
      simp only [List.getElem_toArray, List.getElem_cons_zero, List.getElem_cons_succ, Act.put, List.setIfInBounds_toArray, List.set_cons_zero, List.set_cons_succ]
      refine wpAnyH_take (i := 6) (v := (.int .i64 16)) rfl (by kernel_rfl) (by kernel_rfl) (by kernel_rfl) (fun _ _ _ h => h) (Or.inl ⟨by rfl, ?_⟩) hHeld ?_
      · intro w hSw; (try dsimp only at hSw); simp only [List.getElem_toArray, List.getElem_cons_zero, List.getElem_cons_succ]; go_simp
      simp only [List.getElem_toArray, List.getElem_cons_zero, List.getElem_cons_succ, Act.put, List.setIfInBounds_toArray, List.set_cons_zero, List.set_cons_succ]
      refine wpAnyH_done (by kernel_rfl) ?_ _
      refine NoPanic.normal ?_
      obtain ⟨fn, tmps, assign, body, hy, hR⟩ := HYY.out _ ⟨j, hlt⟩ wr.drew (hJd _ _ hJs) (by rw [fr_len hj]; exact hlt)
      have e16 : (⟨g, j * 16, none⟩ : Addr) = ⟨g, p, none⟩ := by rw [HP.out]
      rw [e16] at hy
      clear e16
      have c1 : wr.drew.cell? ⟨Bs, 0, none⟩ = some (.slice (some ⟨g, 0, none⟩) M C) := HS.out
      have c2 : wr.drew.cell? ⟨Bn, 0, none⟩ = some (.int .i64 16) := HN.out
      have HRR : Hid _ := hR
      clear hR
      gi_wp2
      refine RoundIn.mono HRR.out ?_
      rintro e W3 (⟨rfl, hJ3, hk3⟩ | ⟨rfl, hJx3⟩)
      · have HK3 : Hid (KpC Bs Bn W W3) := ⟨hk3.1.trans HK.out.1, hk3.2.trans HK.out.2⟩
        have c3 : W3.cell? ⟨Bn, 0, none⟩ = some (.int .i64 16) := by rw [World.cell?_of_block (a := ⟨Bn, 0, none⟩) hk3.2]; exact HN.out
        have HJ3 : Hid (J (fr m (j + 1)) W3) := by rw [fr_succ hlt]; exact hJ3
        clear hJ3 hk3
        gi_wp2
        go_roundw
        case rel => exact ⟨j + 1, p + 16, by have := HP.out; omega, by omega, by simp, HJ3.out, HK3.out⟩
        case measure => simp [intOf]; omega
      · gi_wp2
        refine bodyPost_ret (results_none rfl _ _ _) rfl ?_
        exact ⟨⟨_, rfl⟩, .inr ⟨_, ⟨j + 1, by omega, (fr_succ hlt).symm⟩, hJx3⟩⟩
    · have hpe : p = M := by have := HM.out; have : j = m := by omega
                             subst this; omega
      have hje : Hid (j = m) := by show _ = _; omega
      subst hpe
      clear hp hk
      gi_wp2
      go_end0
      exact ⟨⟨_, rfl⟩, .inl ⟨fr m j, congrArg (fr m) hje.out, hJs⟩⟩

theorem chunk_stops (n : Nat) (hn : 1 ≤ n) (Bs Bn g m M C : Nat) (hM : M = m * 16) (hm : m ≤ 1000) (hC : M ≤ C) (w : World) (hs : Bs < w.heap.size) (hs' : Bn < w.heap.size)
    (hBs : w.heap[Bs]? = some (.cells #[.slice (some ⟨g, 0, none⟩) M C] 147 (0, 0))) (hBn : w.heap[Bn]? = some (.cells #[.int .i64 16] 3 (0, 0))) :
    SeqStopsK Fence.wide n Tryz.prog 129 #[.pointer (some ⟨Bs, 0, none⟩), .pointer (some ⟨Bn, 0, none⟩)] (fun x : { x : Nat // x < m } => #[Value.slice (some ⟨g, x.1 * 16, none⟩) 16 16]) (KpC Bs Bn) (fun ys => ys = fr m m)
      (fun pre => ∃ k, k ≤ m ∧ pre = fr m k) m w := fun l J Jx W hW hJ _ hY h0 =>
  chunk1_in n hn l Bs Bn g m M C hM hm hC J Jx (fun pre W1 h => hJ pre W1 W1.drew none h ⟨rfl, rfl, rfl, Nat.le_refl _, fun _ _ _ => rfl⟩ (fun r e => by cases e)) hY W ((hW.block Bs hs).trans hBs) ((hW.block Bn hs').trans hBn) h0

set_option maxHeartbeats 1000000 in
theorem chunk_in (n : Nat) (a : Option Addr) (len cap : Nat) (w : World) :
    CallsIn Fence.wide n Tryz.prog 105 #[.slice a len cap, .int .i64 16] w fun e w' => e = .returned (.func (.func 129) #[] #[.pointer (some ⟨w.heap.size, 0, none⟩), .pointer (some ⟨w.heap.size + 1, 0, none⟩)]) ∧ w' = (w.alloc (.cells #[.slice a len cap] 147)).alloc (.cells #[.int .i64 16] 3) := by
  refine callsIn_of_wp Tryz.func105 rfl trivial ?_ rfl
  simp only [Tryz.ntmps105, List.size_toArray, List.length_cons, List.length_nil, Nat.reduceAdd, Nat.reduceSub, Array.replicate_succ, Array.replicate_zero, List.push_toArray, List.append_toArray, List.nil_append, List.cons_append]
  gi_wp2
  go_ret
  exact ⟨rfl, rfl⟩
end Go.Proofs.YteefneelcgeioaaGreatDoor
namespace Go.Proofs.YteefneelcgeioaaGreatDoor
open Go.RowKit Go.Shelf

attribute [local go_sem] Oper.semAt_some

/-- Writes with what they are. -/
def wrs (wt : List (Nat × List UInt8)) (h : ∀ x ∈ wt, x.2.length = 16) : List Wr := wt.attach.map fun x => ⟨x.1, h x.1 x.2⟩
theorem wrs_len (wt : List (Nat × List UInt8)) (h : ∀ x ∈ wt, x.2.length = 16) : (wrs wt h).length = wt.length := by simp [wrs]
theorem wrs_at {wt : List (Nat × List UInt8)} {h : ∀ x ∈ wt, x.2.length = 16} {i : Nat} {x : Wr} (hx : (wrs wt h)[i]? = some x) : wt[i]? = some x.1 := by
  unfold wrs at hx
  rw [List.getElem?_map] at hx
  cases e : wt.attach[i]? with
  | none => rw [e] at hx; cases hx
  | some y =>
    rw [e] at hx
    simp only [Option.map_some, Option.some.injEq] at hx
    subst hx
    have h2 : (wt.attach.map (·.1))[i]? = some y.1 := by rw [List.getElem?_map, e]; rfl
    rw [List.attach_map_subtype_val] at h2
    exact h2

/-- A block as it was written last. -/
def rdR (bl : List (List UInt8)) (wt : List (Nat × List UInt8)) (k : Nat) : List UInt8 := match wt.reverse.find? (fun x => x.1 == k) with
  | some x => x.2
  | none => bl[k]?.getD []

theorem wrs_get {wt : List (Nat × List UInt8)} {h : ∀ x ∈ wt, x.2.length = 16} {i : Nat} (hi : i < wt.length) : (wrs wt h)[i]? = some ⟨wt[i], h _ (List.getElem_mem hi)⟩ := by
  unfold wrs
  rw [List.getElem?_eq_getElem (by simpa using hi)]
  simp
theorem comes_rev {wt : List (Nat × List UInt8)} {h : ∀ x ∈ wt, x.2.length = 16} {k : Nat} (hk : k ≤ wt.length) : (comes (wrs wt h) k).map (fun p => p.2.1) = wt.reverse.take k := by
  apply List.ext_getElem
  · simp [comes_len, hk]
  · intro i h1 h2
    have hi : i < k := by simpa [comes_len] using h1
    simp only [comes, List.map_map, List.getElem_map, List.getElem_range, Function.comp, fromEnd, wrs_len]
    rw [wrs_get (by omega), List.getElem_take, List.getElem_reverse]
    rfl
theorem find_none {l : List (Nat × List UInt8)} {k : Nat} (h : ∀ x ∈ l, x.1 ≠ k) : l.find? (fun x => x.1 == k) = none := by
  rw [List.find?_eq_none]
  intro x hx
  simpa using h x hx
theorem rd_none {wt : List (Nat × List UInt8)} {h : ∀ x ∈ wt, x.2.length = 16} {bl : List (List UInt8)} {k : Nat} {b : List UInt8} (hk : bl[k]? = some b) (hn : ∀ p ∈ comes (wrs wt h) (wrs wt h).length, p.2.1.1 ≠ k) : rdR bl wt k = b := by
  have e := comes_rev (wt := wt) (h := h) (Nat.le_refl _)
  rw [wrs_len] at hn
  rw [List.take_of_length_le (by simp)] at e
  unfold rdR
  rw [← e, find_none (fun x hx => ?_)]
  · simp [hk]
  · obtain ⟨p, hp, rfl⟩ := List.mem_map.1 hx
    exact hn p hp
theorem rd_some {wt : List (Nat × List UInt8)} {h : ∀ x ∈ wt, x.2.length = 16} {bl : List (List UInt8)} {k k' : Nat} {ini : List (Nat × Wr)} {y : Nat × Wr} (hk' : k' ≤ wt.length) (e1 : comes (wrs wt h) k' = ini ++ [y]) (e2 : ∀ p ∈ ini, p.2.1.1 ≠ k) (e3 : y.2.1.1 = k) : rdR bl wt k = y.2.1.2 := by
  have e := comes_rev (wt := wt) (h := h) hk'
  rw [e1] at e
  unfold rdR
  rw [← List.take_append_drop k' wt.reverse, ← e, List.map_append, List.append_assoc, List.find?_append, find_none (fun x hx => ?_)]
  · simp [e3]
  · obtain ⟨p, hp, rfl⟩ := List.mem_map.1 hx
    exact e2 p hp

set_option maxRecDepth 100000 in
set_option maxHeartbeats 2000000 in
theorem last_any {bb : Nat} {va : Option Addr} {vc : Nat} {bl : List (List UInt8)} {wt : List (Nat × List UInt8)} (k : Nat) (b : List UInt8) (w : World) (D : DkAt w bb va vc bl wt) (hk : bl[k]? = some b) (hwl : wt.length ≤ 100000) :
    Calls Tryz.prog 103 #[.pointer (some ⟨bb + 1, 0, none⟩), .int .i64 (k : Int)] w fun e w' => e = .returned (.agg (bc (rdR bl wt k)).toArray) ∧ Below w.heap.size w w' := by
  refine (callsIn_wide (n := 5)).1 ?_
  obtain ⟨c1, c2, _⟩ := D.cells
  have hlt := D.lt
  have hltE : bb + 1 < w.heap.size + 1 := by omega
  have hneD : ¬ bb + 1 = w.heap.size + 1 := by omega
  have hneE : ¬ bb + 1 = w.heap.size := by omega
  have h16 : ∀ x ∈ wt, x.2.length = 16 := fun x hx => (D.wt16 x hx).2
  refine callsIn_of_wp_marks Tryz.func103 rfl trivial ?_ rfl
  simp only [Tryz.ntmps103, List.size_toArray, List.length_cons, List.length_nil, Nat.reduceAdd, Nat.reduceSub, Array.replicate_succ, Array.replicate_zero, List.push_toArray, List.append_toArray, List.nil_append, List.cons_append]
  have HB := back_in Fence.wide 4 trivial rfl va wt.length vc
  gi_wp2_with (refine ⟨trivial, ?_⟩; gi_at_call 127; refine (HB _).mono ?_; rintro e w' ⟨rfl, rfl⟩)
  have hsz : (((w.alloc (.cells #[.int .i64 (k : Int)] 3)).alloc (.cells #[.int .u8 0, .int .u8 0, .int .u8 0, .int .u8 0, .int .u8 0, .int .u8 0, .int .u8 0, .int .u8 0, .int .u8 0, .int .u8 0, .int .u8 0, .int .u8 0, .int .u8 0, .int .u8 0, .int .u8 0, .int .u8 0] 179)).alloc (.cells #[.slice va wt.length vc] 157)).heap.size = w.heap.size + 3 := by simp
  have r0 : (((w.alloc (.cells #[.int .i64 (k : Int)] 3)).alloc (.cells #[.int .u8 0, .int .u8 0, .int .u8 0, .int .u8 0, .int .u8 0, .int .u8 0, .int .u8 0, .int .u8 0, .int .u8 0, .int .u8 0, .int .u8 0, .int .u8 0, .int .u8 0, .int .u8 0, .int .u8 0, .int .u8 0] 179)).alloc (.cells #[.slice va wt.length vc] 157)).heap[w.heap.size]? = some (.cells #[.int .i64 (k : Int)] 3 (0, 0)) := by
    rw [Below.heap_alloc _ _ _ (by simp; omega), Below.heap_alloc _ _ _ (by simp), heap_alloc_last]
  have r1 : (((w.alloc (.cells #[.int .i64 (k : Int)] 3)).alloc (.cells #[.int .u8 0, .int .u8 0, .int .u8 0, .int .u8 0, .int .u8 0, .int .u8 0, .int .u8 0, .int .u8 0, .int .u8 0, .int .u8 0, .int .u8 0, .int .u8 0, .int .u8 0, .int .u8 0, .int .u8 0, .int .u8 0] 179)).alloc (.cells #[.slice va wt.length vc] 157)).heap[w.heap.size + 1]? = some (.cells #[.int .u8 0, .int .u8 0, .int .u8 0, .int .u8 0, .int .u8 0, .int .u8 0, .int .u8 0, .int .u8 0, .int .u8 0, .int .u8 0, .int .u8 0, .int .u8 0, .int .u8 0, .int .u8 0, .int .u8 0, .int .u8 0] 179 (0, 0)) := by
    have h := heap_alloc_last (w.alloc (.cells #[.int .i64 (k : Int)] 3)) (.cells #[.int .u8 0, .int .u8 0, .int .u8 0, .int .u8 0, .int .u8 0, .int .u8 0, .int .u8 0, .int .u8 0, .int .u8 0, .int .u8 0, .int .u8 0, .int .u8 0, .int .u8 0, .int .u8 0, .int .u8 0, .int .u8 0] 179)
    rw [World.size_alloc] at h
    rw [Below.heap_alloc _ _ _ (by simp)]; exact h
  have r2 : (((w.alloc (.cells #[.int .i64 (k : Int)] 3)).alloc (.cells #[.int .u8 0, .int .u8 0, .int .u8 0, .int .u8 0, .int .u8 0, .int .u8 0, .int .u8 0, .int .u8 0, .int .u8 0, .int .u8 0, .int .u8 0, .int .u8 0, .int .u8 0, .int .u8 0, .int .u8 0, .int .u8 0] 179)).alloc (.cells #[.slice va wt.length vc] 157)).heap[w.heap.size + 1 + 1]? = some (.cells #[.slice va wt.length vc] 157 (0, 0)) := by
    have h := heap_alloc_last ((w.alloc (.cells #[.int .i64 (k : Int)] 3)).alloc (.cells #[.int .u8 0, .int .u8 0, .int .u8 0, .int .u8 0, .int .u8 0, .int .u8 0, .int .u8 0, .int .u8 0, .int .u8 0, .int .u8 0, .int .u8 0, .int .u8 0, .int .u8 0, .int .u8 0, .int .u8 0, .int .u8 0] 179)) (.cells #[.slice va wt.length vc] 157)
    rw [World.size_alloc, World.size_alloc] at h
    exact h
  have hB0 : Below w.heap.size w (((w.alloc (.cells #[.int .i64 (k : Int)] 3)).alloc (.cells #[.int .u8 0, .int .u8 0, .int .u8 0, .int .u8 0, .int .u8 0, .int .u8 0, .int .u8 0, .int .u8 0, .int .u8 0, .int .u8 0, .int .u8 0, .int .u8 0, .int .u8 0, .int .u8 0, .int .u8 0, .int .u8 0] 179)).alloc (.cells #[.slice va wt.length vc] 157)) := (((Below.refl _ w).alloc (Nat.le_refl _) _).alloc (by simp) _).alloc (by simp; omega) _
  obtain ⟨W0, hW0⟩ : ∃ W0, (((w.alloc (.cells #[.int .i64 (k : Int)] 3)).alloc (.cells #[.int .u8 0, .int .u8 0, .int .u8 0, .int .u8 0, .int .u8 0, .int .u8 0, .int .u8 0, .int .u8 0, .int .u8 0, .int .u8 0, .int .u8 0, .int .u8 0, .int .u8 0, .int .u8 0, .int .u8 0, .int .u8 0] 179)).alloc (.cells #[.slice va wt.length vc] 157)) = W0 := ⟨_, rfl⟩
  rw [hW0] at hsz r0 r1 r2 hB0 ⊢
  clear hW0
  have D0 := D.below (Nat.le_refl _) hB0
  refine wpIn_rangeFunc_ownH rfl (by omega) (gf := 143) (lb := #[.pointer (some ⟨w.heap.size + 1 + 1, 0, none⟩)]) rfl trivial (enters_of Tryz.func143 (by kernel_rfl) rfl)
    (back_stops Fence.wide 4 trivial rfl (by omega) (w.heap.size + 1 + 1) (w.heap.size + 3) va vc (wrs wt h16) (by rw [wrs_len]; exact hwl) W0 (by omega) (by omega) (by rw [cell_of_row _ _ _ _ _ _ r2, wrs_len]; rfl)
      (fun i x hx => by
        obtain ⟨g, e, h, _⟩ := D0.write_range (wrs_at hx)
        exact ⟨g, e, by have := (D.low _ e).2.1; simp only at this; omega, h⟩)) belowK_t (belowK_b (by omega)) (Below.refl _ _) (fun _ => rfl)
    (fun pre W => (∀ p ∈ pre, p.2.1.1 ≠ k) ∧ Below (w.heap.size + 3) W0 W)
    (fun c pre W => (c = .ret ∧ ∃ ini last, pre = ini ++ [last] ∧ (∀ p ∈ ini, p.2.1.1 ≠ k) ∧ last.2.1.1 = k ∧ W.heap[w.heap.size + 1]? = some (.cells (bc last.2.1.2).toArray 179 (0, 0))) ∧ Below w.heap.size W0 W)
    (OwnFrom.and (ownFrom_pure _ _) (ownFrom_below (by omega) (by omega)))
    (fun c => OwnFrom.and (Own.from (fun s A B row hs hg hr => by obtain ⟨h1, ini, last, e1, e2, e3, e4⟩ := hs; exact ⟨h1, ini, last, e1, e2, e3, rows_own (w.heap.size + 1) 179 (fun (_ : Unit) => (bc last.2.1.2).toArray) () A B row e4 hg hr⟩) _) (ownFrom_below (by omega) (by omega)))
    ⟨by simp, Below.refl _ _⟩
    (fun x a' W => ∃ Bx, w.heap.size + 3 ≤ Bx ∧ W.heap[Bx]? = some (.cells (wc x.2.1).toArray 210 (0, 0)) ∧ a' = { tmps := #[.pointer (some ⟨bb + 1, 0, none⟩), .int .i64 (k : Int), undef, .pointer (some ⟨w.heap.size, 0, none⟩), .pointer (some ⟨w.heap.size + 1, 0, none⟩), undef, .pointer (some ⟨Bx, 0, none⟩), .pointer (some ⟨bb + 1, 0, none⟩), .pointer (some ⟨bb + 1, 0, none⟩), .pointer (some ⟨bb + 1, 1, none⟩), .slice va wt.length vc, .func (.func 143) #[] #[.pointer (some ⟨w.heap.size + 1 + 1, 0, none⟩)], .int .i64 (x.1 : Int), .agg (wc x.2.1).toArray, undef, undef, undef, undef, undef, undef, undef, undef, undef, undef, undef, undef, undef], defers := [] })
    (fun x a' _ X Y row hs hg hr => by obtain ⟨Bx, h1, h2, h3⟩ := hs; exact ⟨Bx, h1, rows_own Bx 210 (fun (_ : Unit) => (wc x.2.1).toArray) () X Y row h2 hg (fun r e => (hr r e).2), h3⟩)
    ?assign ?body ?done ?stop
  case assign =>
    rintro l pre x W K ⟨hp, hB⟩ hK
    have h17 : Hid ((Tryz.prog.info? 210).map (·.size) = some (wc x.2.1).length) := by show _ = _; rw [wr17]; exact info67
    have hl17 : Hid (17 = (wc x.2.1).length) := by show _ = _; rw [wr17]
    gi_wp2_with (refine wpListIn_store_new (by rfl) 210 210 _ _ (by rfl) _ (wc x.2.1) (by rfl) (by rfl) hl17.out h17.out (wc_one _) ?_)
    exact hK _ _ ((KeepsOthers.alloc _ _).from _) ((Below.refl _ W).alloc (by have := hB.size; omega) _) ⟨hp, hB.alloc (by have := hB.size; omega) _⟩ ⟨W.heap.size, by have := hB.size; omega, heap_alloc_last W _, rfl⟩
  case body =>
    rintro l pre x a' W hl ⟨r, hr⟩ ⟨hp, hB⟩ ⟨Bx, hBx, bX, rfl⟩ hlt2
    have cx : W.cell? ⟨Bx, 0, none⟩ = some (.int .i64 (x.2.1.1 : Int)) := by rw [cell_of_row _ _ _ _ _ _ bX]; rfl
    have ck : W.cell? ⟨w.heap.size, 0, none⟩ = some (.int .i64 (k : Int)) := by rw [hB.cell (p := ⟨w.heap.size, 0, none⟩) (by simp only; omega), cell_of_row _ _ _ _ _ _ r0]; rfl
    have HBX : Hid (W.rangeAt Bx 1 (bc x.2.1.2)) := fun j v hj => by
      rw [cell_of_row _ _ _ _ _ _ bX]
      simp only [wc, List.getElem?_toArray]
      rw [Nat.add_comm, List.getElem?_cons_succ]; exact hj
    have hR1 : W.heap[w.heap.size + 1]? = some (.cells #[.int .u8 0, .int .u8 0, .int .u8 0, .int .u8 0, .int .u8 0, .int .u8 0, .int .u8 0, .int .u8 0, .int .u8 0, .int .u8 0, .int .u8 0, .int .u8 0, .int .u8 0, .int .u8 0, .int .u8 0, .int .u8 0] 179 (0, 0)) := (hB.block _ (by omega)).trans r1
    have HTH : Hid (W.there (w.heap.size + 1) 0 (bc x.2.1.2).toArray.size) := by
      refine there_row hR1 ?_
      simp [bc_len, x.2.2]
    have HI : Hid ((Tryz.prog.info? 179).map (·.size) = some (bc x.2.1.2).length) := by show _ = _; rw [bc_len, x.2.2]; exact info62
    have HR1 : Hid _ := hR1
    have HBXr : Hid _ := bX
    clear bX hR1
    by_cases hxk : x.2.1.1 = k
    · have hb : ((x.2.1.1 : Int) == (k : Int)) = true := by rw [hxk]; exact beq_self_eq_true _
      have HXK : Hid (x.2.1.1 = k) := hxk
      clear hxk
      gi_wp2_with (first
        | refine wpListIn_load_mid (by rfl) 179 _ (by rfl) Bx 1 (by rfl) (bc x.2.1.2) _ HBX.out Tryz.underlying179 rfl HI.out ?_
        | refine wpListIn_store_mid (by rfl) 179 _ _ (by rfl) (w.heap.size + 1) 0 (bc x.2.1.2).toArray (by rfl) (by rfl) HTH.out (by simpa using HI.out) (all_oneCell_toArray (bc_one _)) ?_)
      refine ⟨(keeps_setCells _ _ _ _).from _, ⟨rfl, pre, x, rfl, hp, HXK.out, ?_⟩, (below_setCells (by omega) _ _ _ (hB.mono (by omega)))⟩
      rw [row_setCells _ _ _ _ HR1.out (by simp [bc_len, x.2.2])]
      rw [over_whole _ _ (by simp [bc_len, x.2.2])]
    · have hb : ((x.2.1.1 : Int) == (k : Int)) = false := beq_eq_false_iff_ne.2 (by omega)
      gi_wp2
      exact ⟨KeepsFrom.refl _ _, Below.refl _ _, fun p hp' => (List.mem_append.1 hp').elim (hp p) (fun e => by rw [List.mem_singleton.1 e]; exact hxk), hB⟩
  case done =>
    rintro Dd ys W hD rfl ⟨hne, hB⟩ hK
    have hbr : Hid (rdR bl wt k = b) := rd_none hk hne
    have hb16 : b.length = 16 := D.bl16 b (List.mem_of_getElem? hk)
    have DW : DkAt W bb va vc bl wt := D0.ext fun j hj => hB.block j (by
      rcases hj with rfl | rfl | ⟨a, ha, rfl⟩
      · omega
      · omega
      · have := (D.low a ha).2.1; omega)
    have hkl : k < bl.length := (List.getElem?_eq_some_iff.1 hk).1
    have HSW : Hid (∀ w', Below (w.heap.size + 3) W w' → (w'.cell? ⟨bb + 1, 0, none⟩ = some (.slice (some ⟨bb, 0, none⟩) bl.length bl.length) ∧ w'.cell? ⟨w.heap.size, 0, none⟩ = some (.int .i64 (k : Int)) ∧ w'.rangeAt bb (k * 16) (bc b))) := fun w' h =>
      ⟨by rw [h.cell (p := ⟨bb + 1, 0, none⟩) (by simp only; omega)]; exact DW.cells.1,
       by rw [h.cell (p := ⟨w.heap.size, 0, none⟩) (by simp only; omega), hB.cell (p := ⟨w.heap.size, 0, none⟩) (by simp only; omega), cell_of_row _ _ _ _ _ _ r0]; rfl,
       fun j v hj => by rw [h.cell (p := ⟨bb, k * 16 + j, none⟩) (by simp only; omega)]; exact DW.block_range hk j v hj⟩
    have hR1 : W.heap[w.heap.size + 1]? = _ := (hB.block _ (by omega)).trans r1
    have HI : Hid ((Tryz.prog.info? 179).map (·.size) = some (bc b).length) := by show _ = _; rw [bc_len, hb16]; exact info62
    have HTH : Hid (W.drew.there (w.heap.size + 1) 0 (bc b).toArray.size) := (World.there_drew _ _ _ _).2 (there_row hR1 (by simp [bc_len, hb16]))
    have HR2 : Hid ((W.drew.setCells (w.heap.size + 1) 0 (bc b)).heap[w.heap.size + 1]? = some (.cells (bc b).toArray 179 (0, 0))) := by
      show _ = _
      rw [row_setCells _ _ W.drew _ hR1 (by simp [bc_len, hb16]), over_whole _ _ (by simp [bc_len, hb16])]
    have HS7 : Hid ((W.drew.setCells (w.heap.size + 1) 0 (bc b)).cell? ⟨bb + 1, 0, none⟩ = some (.slice (some ⟨bb, 0, none⟩) bl.length bl.length) ∧ (W.drew.setCells (w.heap.size + 1) 0 (bc b)).cell? ⟨w.heap.size, 0, none⟩ = some (.int .i64 (k : Int)) ∧ (W.drew.setCells (w.heap.size + 1) 0 (bc b)).rangeAt bb (k * 16) (bc b)) := by
      obtain ⟨g1, g2, g3⟩ := HSW.out _ (Below.refl _ _).drew
      refine ⟨?_, ?_, World.rangeAt_setCells_apart g3 _ _ _ (.inl (by omega))⟩
      · rw [World.cell?_of_block (block_setCells (show bb + 1 ≠ w.heap.size + 1 by omega) _ _ _)]; exact g1
      · rw [World.cell?_of_block (block_setCells (show w.heap.size ≠ w.heap.size + 1 by omega) _ _ _)]; exact g2
    have HE : Hid (Below w.heap.size w (W.drew.setCells (w.heap.size + 1) 0 (bc b))) := below_setCells (by omega) _ _ _ (hB0.trans (hB.mono (by omega)).drew)
    have HK : Hid _ := hK
    have HDs : Hid (w.heap.size + 3 ≤ Dd) := by show _ ≤ _; omega
    clear hne D DW D0 hK
    gi_wp2
    refine wpIn_wide.2 ?_
    refine wp_region_noPanic ?_
    refine wp_region_held_drew (S := fun w' => w'.cell? ⟨bb + 1, 0, none⟩ = some (.slice (some ⟨bb, 0, none⟩) bl.length bl.length) ∧ w'.cell? ⟨w.heap.size, 0, none⟩ = some (.int .i64 (k : Int)) ∧ w'.rangeAt bb (k * 16) (bc b)) (by kernel_rfl) (HSW.out _ (Below.refl _ _).drew) (fun hHeld => ?_)
    refine wpAnyH_take (i := 0) (v := .pointer (some ⟨bb + 1, 0, none⟩)) rfl (by kernel_rfl) (by kernel_rfl) (by kernel_rfl) (fun _ _ _ h => h) (Or.inl ⟨by rfl, ?_⟩) hHeld ?_
    · intro w hSw; (try dsimp only at hSw); simp only [List.getElem_toArray, List.getElem_cons_zero]; go_simp
    simp only [List.getElem_toArray, List.getElem_cons_zero, Act.put, List.setIfInBounds_toArray, List.set_cons_zero, List.set_cons_succ]
    refine wpAnyH_take (i := 1) (v := .pointer (some ⟨bb + 1, 0, none⟩)) rfl (by kernel_rfl) (by kernel_rfl) (by kernel_rfl) (fun _ _ _ h => h) (Or.inl ⟨by rfl, ?_⟩) hHeld ?_
    · intro w hSw; (try dsimp only at hSw); simp only [List.getElem_toArray, List.getElem_cons_zero, List.getElem_cons_succ]; go_simp
    simp only [List.getElem_toArray, List.getElem_cons_zero, List.getElem_cons_succ, Act.put, List.setIfInBounds_toArray, List.set_cons_zero, List.set_cons_succ]
    refine wpAnyH_take (i := 2) (v := .pointer (some ⟨bb + 1, 0, none⟩)) rfl (by kernel_rfl) (by kernel_rfl) (by kernel_rfl) (fun _ _ _ h => h) (Or.inl ⟨by rfl, ?_⟩) hHeld ?_
    · intro w hSw; (try dsimp only at hSw); simp only [List.getElem_toArray, List.getElem_cons_zero, List.getElem_cons_succ]; go_simp
    simp only [List.getElem_toArray, List.getElem_cons_zero, List.getElem_cons_succ, Act.put, List.setIfInBounds_toArray, List.set_cons_zero, List.set_cons_succ]
    refine wpAnyH_take (i := 3) (v := .slice (some ⟨bb, 0, none⟩) bl.length bl.length) rfl (by kernel_rfl) (by kernel_rfl) (by kernel_rfl) (fun _ _ _ h => h) (Or.inl ⟨by rfl, ?_⟩) hHeld ?_
    · intro w hSw; (try dsimp only at hSw); simp only [List.getElem_toArray, List.getElem_cons_zero, List.getElem_cons_succ]; go_simp
    simp only [List.getElem_toArray, List.getElem_cons_zero, List.getElem_cons_succ, Act.put, List.setIfInBounds_toArray, List.set_cons_zero, List.set_cons_succ]
    refine wpAnyH_take (i := 4) (v := .int .i64 (k : Int)) rfl (by kernel_rfl) (by kernel_rfl) (by kernel_rfl) (fun _ _ _ h => h) (Or.inl ⟨by rfl, ?_⟩) hHeld ?_
    · intro w hSw; (try dsimp only at hSw); simp only [List.getElem_toArray, List.getElem_cons_zero, List.getElem_cons_succ]; go_simp
    simp only [List.getElem_toArray, List.getElem_cons_zero, List.getElem_cons_succ, Act.put, List.setIfInBounds_toArray, List.set_cons_zero, List.set_cons_succ]
    refine wpAnyH_take (i := 5) (v := .pointer (some ⟨bb, k * 16, none⟩)) rfl (by kernel_rfl) (by kernel_rfl) (by kernel_rfl) (fun _ _ _ h => h) (Or.inl ⟨by rfl, ?_⟩) hHeld ?_
    · intro w hSw; (try dsimp only at hSw); simp only [List.getElem_toArray, List.getElem_cons_zero, List.getElem_cons_succ]; go_simp
    simp only [List.getElem_toArray, List.getElem_cons_zero, List.getElem_cons_succ, Act.put, List.setIfInBounds_toArray, List.set_cons_zero, List.set_cons_succ]
    refine wpAnyH_take (i := 6) (v := .agg (bc b).toArray) rfl (by kernel_rfl) (by kernel_rfl) (by kernel_rfl) (fun _ _ _ h => h) (yieldsIf_load_mid (by rfl) 179 _ (by rfl) bb (k * 16) (by rfl) (bc b) _ (fun w h => h.2.2) Tryz.underlying179 rfl HI.out) hHeld ?_
    simp only [List.getElem_toArray, List.getElem_cons_zero, List.getElem_cons_succ, Act.put, List.setIfInBounds_toArray, List.set_cons_zero, List.set_cons_succ]
    refine wpAnyH_ready (rs := [7]) (by kernel_rfl) (by simp) ?_
    refine AllReadyH.cons rfl (fun K' hK' => ?_) AllReadyH.nil
    refine step_store_mid (by rfl) 179 _ _ (by rfl) (w.heap.size + 1) 0 (bc b).toArray (by rfl) (by rfl) HTH.out (by simpa using HI.out) (all_oneCell_toArray (bc_one b)) ?_
    simp only [List.getElem_toArray, List.getElem_cons_zero, List.getElem_cons_succ, Act.put]
    refine hK'.out _ _ HS7.out (fun hHeld' => ?_)
    clear hK' K' hHeld
    have hHeld := hHeld'
    clear hHeld'
    refine wpAnyH_done (by kernel_rfl) ?_ _
    refine NoPanic.normal ?_
    gi_wp2
    have hK' := (keeps_setCells (w.heap.size + 1) (bc b) 0 W.drew).same Dd _ HK.out rfl
    refine ⟨by simp, .inl ⟨_, _, rfl, run_takeDeferred hK', ?_⟩⟩
    have hD3 := HDs.out
    have hcr' : ((W.drew.setCells (w.heap.size + 1) 0 (bc b)).putObj Dd (.deferred none)).heap[w.heap.size + 1]? = some (.cells (bc b).toArray 179 (0, 0)) := (World.putObj_heap_other (by omega)).trans HR2.out
    refine ⟨.agg (bc (rdR bl wt k)).toArray, ?_, rfl, HE.out.trans (belowK_b (w := w) (Nat.le_refl _) _ Dd _ _ (by omega) hK' rfl rfl)⟩
    rw [hbr.out]
    exact results_cell_row rfl _ _ (w.heap.size + 1) 179 _ (0, 0) _ rfl hcr' Tryz.underlying179 rfl (by simp only [List.size_toArray, bc_len, hb16]; exact info62)
  case stop =>
    rintro Dd c pre W hD ⟨k', hk', rfl⟩ ⟨⟨rfl, ini, last, e1, e2, e3, hcr⟩, hB⟩ hK
    have hbr : Hid (rdR bl wt k = last.2.1.2) := rd_some (by rw [← wrs_len wt h16]; exact hk') e1 e2 e3
    gi_wp2
    refine ⟨by simp, .inl ⟨_, _, rfl, run_takeDeferred hK, ?_⟩⟩
    have hcr' : (W.putObj Dd (.deferred none)).heap[w.heap.size + 1]? = some (.cells (bc last.2.1.2).toArray 179 (0, 0)) := (World.putObj_heap_other (by omega)).trans hcr
    refine ⟨.agg (bc (rdR bl wt k)).toArray, ?_, rfl, (hB0.trans hB).trans (belowK_b (w := w) (Nat.le_refl _) W Dd _ _ (by omega) hK rfl rfl)⟩
    rw [hbr.out]
    exact results_cell_row rfl _ _ (w.heap.size + 1) 179 _ (0, 0) _ rfl hcr' Tryz.underlying179 rfl (by simp only [List.size_toArray, bc_len, last.2.2]; exact info62)
end Go.Proofs.YteefneelcgeioaaGreatDoor
