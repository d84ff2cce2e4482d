/-
  The walk of the law SpaceActs.
  Conditions: the wants lie in memory; package api's errors are as they are laid.
-/
import Derived.Test.YtddmpecljcfjnaaDoorSpU
import Derived.Test.YtddmpecljcfjnaaDoorSpW
import Derived.Test.YtddmpecljcfjnaaDoorCode
namespace Go.Proofs.YtddmpecljcfjnaaDoor
open Go.RowKit

set_option maxRecDepth 100000 in
set_option maxHeartbeats 2000000 in
theorem needOf_any (x : Int) (hx : x ≤ 100000) (w : World) : Calls Tryd.prog 14 #[.int .i64 x] w fun e w' => e = .returned (.int .i64 (needR x)) ∧ w' = w := by
  go_enter Tryd.func14, Tryd.ntmps14
  go_wp2_with fail
  go_loopw [0, 3] (fun y m wr => ∃ t : Nat, y = .int .i64 (x - 16 * (t : Int)) ∧ m = .int .i64 (t : Int) ∧ wr = w ∧ (t : Int) ≤ needR x) (fun y _ _ => (intOf y).toNat)
  case atStart => exact ⟨0, by simp, rfl, rfl, by unfold needR; split <;> omega⟩
  case round =>
    obtain ⟨t, rfl, rfl, rfl, ht⟩ := hrel
    have HT : Hid ((t : Int) ≤ needR x) := ht
    clear ht
    by_cases hp : 0 < x - 16 * (t : Int)
    · have hn : Hid (needR x = (x - 1) / 16 + 1) := if_neg (by omega)
      have h3 := HT.out
      rw [hn.out] at h3
      have w1 : IntKind.i64.wrap (x - 16 * (t : Int) - 16) = x - 16 * (t : Int) - 16 := by rw [IntKind.wrap_i64]; omega
      have w2 : IntKind.i64.wrap ((t : Int) + 1) = (t : Int) + 1 := by rw [IntKind.wrap_i64]; omega
      clear h3
      go_wp2_with fail
      exact ⟨⟨t + 1, by congr 1; push_cast; omega, by push_cast; rfl, by first | rfl | trivial, by rw [hn.out]; push_cast; omega⟩, by simp [intOf]; omega⟩
    · have hn : Hid ((t : Int) = needR x) := by
        have := HT.out
        unfold needR at this ⊢
        by_cases h1 : x < 1
        · rw [if_pos h1] at this ⊢; show (t : Int) = 0; omega
        · rw [if_neg h1] at this ⊢; show (t : Int) = _; omega
      go_wp2_with fail
      go_ret
      exact ⟨by rw [← hn.out]; rfl, rfl⟩
/-- An error's number, if something holds not. -/
def eN (b : Bool) : Int := if b then 0 else 6
/-- Is it used, and none of these? -/
def okR (u : List Bool) (l : List Nat) (x : Nat) : Bool := u[x]?.getD false && !l.contains x
theorem okR_mark : ∀ (l : List Nat) (u : List Bool) (x : Nat), (markR u false l)[x]?.getD false = okR u l x
  | [], u, x => by simp [okR, markR]
  | k :: l, u, x => by
    rw [markR, okR_mark l]
    unfold okR
    by_cases h : x = k
    · subst h
      by_cases hl : x < u.length
      · rw [List.getElem?_set_self hl]; simp
      · rw [List.getElem?_eq_none (by simp; omega), List.getElem?_eq_none (by omega)]; simp
    · rw [List.getElem?_set_ne (fun e => h e.symm)]
      simp [h]
theorem giveR_next {u : List Bool} {l : List Nat} {q x : Nat} (hx : l[q]? = some x) (h : giveR u (l.take q) = true) : giveR u (l.take (q + 1)) = okR u (l.take q) x := by
  obtain ⟨hq, e⟩ := List.getElem?_eq_some_iff.1 hx
  rw [List.take_succ_eq_append_getElem hq, e, giveR_snoc, h, okR_mark]; rfl
theorem okR_next {u : List Bool} {l : List Nat} {z x y : Nat} (hy : l[z]? = some y) : okR u (l.take (z + 1)) x = (okR u (l.take z) x && !(y == x)) := by
  obtain ⟨hz, e⟩ := List.getElem?_eq_some_iff.1 hy
  unfold okR
  rw [List.take_succ_eq_append_getElem hz, e]
  simp only [List.contains_eq_mem, List.mem_append, List.mem_singleton, Bool.and_assoc]
  congr 1
  by_cases h : x = y
  · subst h; simp
  · have : (y == x) = false := by simp; exact fun e => h e.symm
    simp [h, this]
theorem where_pre (p : Bool → Bool) (u : List Bool) (q : Nat) : ∀ n, q ≤ n → ∃ r, whereR p u n = whereR p u q ++ r
  | 0, h => ⟨[], by obtain rfl : q = 0 := by omega
                    simp⟩
  | n + 1, h => by
    by_cases he : q = n + 1
    · subst he; exact ⟨[], by simp⟩
    · obtain ⟨r, hr⟩ := where_pre p u q n (by omega)
      rw [whereR_next, hr]
      split
      · exact ⟨r ++ [n], by rw [List.append_assoc]⟩
      · exact ⟨r, rfl⟩

set_option maxRecDepth 100000 in
set_option maxHeartbeats 8000000 in
theorem spaceActs_any (n : Int) (l : List SWant) (v : Value) (bytes : Int) (a : Nat → Addr) (w : World) (hv : WantsAt w v l) (hS : Sents a w) :
    Calls Tryd.prog 4 #[.int .i64 n, v, .int .i64 bytes] w fun e w' => e = .returned (.bool true) ∧ Below w.heap.size w w' := by
  have HSE : Hid (Sents a w) := hS
  have HRO := roomy_any _ _ w hS.c1 hS.c5
  obtain ⟨la, lc, rfl, hcs⟩ := hv
  have HCS : Hid (∀ i x, l[i]? = some x → ∃ b off ga gc, la = some ⟨b, off, none⟩ ∧ w.cell? ⟨b, off + i * 3, none⟩ = some (.int .i64 x.take) ∧ w.cell? ⟨b, off + i * 3 + 1, none⟩ = some (.slice ga x.give.length gc) ∧ w.cell? ⟨b, off + i * 3 + 2, none⟩ = some (.bool x.is) ∧ IntsAt w (.slice ga x.give.length gc) x.give) := hcs
  have HUP2 : Hid (∀ W W', Below w.heap.size w W → Below W.heap.size W W' → Below w.heap.size w W') := fun W W' h hg => h.trans (hg.mono h.size)
  clear hcs hS
  by_cases g1 : 60 < n ∧ n ≤ 512
  · obtain ⟨g1, g1'⟩ := g1
    go_enter Tryd.func4, Tryd.ntmps4
    go_wp2_with (go_at_call 5; refine HRO.mono ?_; rintro e w0 ⟨rfl, hb0⟩)
    go_ret
    exact ⟨rfl, hb0⟩
  by_cases g2 : 60 < (l.length : Int)
  · by_cases g1a : 60 < n
    · have g1b : ¬ n ≤ 512 := fun h => g1 ⟨g1a, h⟩
      clear g1
      go_enter Tryd.func4, Tryd.ntmps4
      go_wp2_with (go_at_call 5; refine HRO.mono ?_; rintro e w0 ⟨rfl, hb0⟩)
      go_ret
      exact ⟨rfl, hb0⟩
    · clear g1
      go_enter Tryd.func4, Tryd.ntmps4
      go_wp2_with (go_at_call 5; refine HRO.mono ?_; rintro e w0 ⟨rfl, hb0⟩)
      go_ret
      exact ⟨rfl, hb0⟩
  by_cases g3 : 100000 < bytes
  · by_cases g1a : 60 < n
    · have g1b : ¬ n ≤ 512 := fun h => g1 ⟨g1a, h⟩
      clear g1
      go_enter Tryd.func4, Tryd.ntmps4
      go_wp2_with (go_at_call 5; refine HRO.mono ?_; rintro e w0 ⟨rfl, hb0⟩)
      go_ret
      exact ⟨rfl, hb0⟩
    · clear g1
      go_enter Tryd.func4, Tryd.ntmps4
      go_wp2_with (go_at_call 5; refine HRO.mono ?_; rintro e w0 ⟨rfl, hb0⟩)
      go_ret
      exact ⟨rfl, hb0⟩
  have hll : l.length ≤ 60 := by omega
  have HND : Hid (∀ W, Calls Tryd.prog 13 #[.int .i64 bytes] W fun e w' => e = .returned (.int .i64 (needR bytes)) ∧ w' = W) := fun W => sp_need bytes W (by omega)
  have HNO : Hid (∀ W, Calls Tryd.prog 14 #[.int .i64 bytes] W fun e w' => e = .returned (.int .i64 (needR bytes)) ∧ w' = W) := fun W => needOf_any bytes (by omega) W
  by_cases g4 : n < 1
  · have HNW : Hid (∀ W, Below w.heap.size w W → Calls Tryd.prog 6 #[.int .i64 n] W fun e w' => e = .returned (.tuple #[.pointer none, .iface 94 (.pointer (some (a 1)))]) ∧ Below w.heap.size w w') := fun W h =>
      (sp_new_not n (.inl g4) _ W (HSE.out.below h).c1).mono fun e w' ⟨he, hb⟩ => ⟨he, HUP2.out _ _ h hb⟩
    have HCD : Hid (∀ W, Below w.heap.size w W → Calls Tryd.prog 11 #[.iface 94 (.pointer (some (a 1))), .int .i64 2] W fun e w' => e = .returned (.bool true) ∧ Below w.heap.size w w') := fun W h =>
      (coded_sent a 1 2 W (HSE.out.below h) (by decide)).mono fun e w' ⟨he, hb⟩ => ⟨he, HUP2.out _ _ h hb⟩
    clear g1
    go_enter Tryd.func4, Tryd.ntmps4
    go_wp2_with (first
      | (go_at_call 5; refine HRO.mono ?_; rintro e w0 ⟨rfl, hb0⟩)
      | (go_at_call 13; refine (HND.out _).mono ?_; rintro e wy ⟨rfl, hw⟩; rw [hw]; clear hw)
      | (go_at_call 14; refine (HNO.out _).mono ?_; rintro e wy ⟨rfl, hw⟩; rw [hw]; clear hw)
      | (go_at_call 6; refine (HNW.out _ hb0).mono ?_; rintro e w1 ⟨rfl, hb1⟩)
      | (go_at_call 11; refine (HCD.out _ hb1).mono ?_; rintro e w2 ⟨rfl, hb2⟩))
    go_ret
    exact ⟨rfl, hb2⟩
  by_cases g5 : 512 < n
  · have HNW : Hid (∀ W, Below w.heap.size w W → Calls Tryd.prog 6 #[.int .i64 n] W fun e w' => e = .returned (.tuple #[.pointer none, .iface 94 (.pointer (some (a 1)))]) ∧ Below w.heap.size w w') := fun W h =>
      (sp_new_not n (.inr g5) _ W (HSE.out.below h).c1).mono fun e w' ⟨he, hb⟩ => ⟨he, HUP2.out _ _ h hb⟩
    have HCD : Hid (∀ W, Below w.heap.size w W → Calls Tryd.prog 11 #[.iface 94 (.pointer (some (a 1))), .int .i64 2] W fun e w' => e = .returned (.bool true) ∧ Below w.heap.size w w') := fun W h =>
      (coded_sent a 1 2 W (HSE.out.below h) (by decide)).mono fun e w' ⟨he, hb⟩ => ⟨he, HUP2.out _ _ h hb⟩
    have g5' : 60 < n := by omega
    have g5'' : ¬ n ≤ 512 := by omega
    clear g1
    go_enter Tryd.func4, Tryd.ntmps4
    go_wp2_with (first
      | (go_at_call 5; refine HRO.mono ?_; rintro e w0 ⟨rfl, hb0⟩)
      | (go_at_call 13; refine (HND.out _).mono ?_; rintro e wy ⟨rfl, hw⟩; rw [hw]; clear hw)
      | (go_at_call 14; refine (HNO.out _).mono ?_; rintro e wy ⟨rfl, hw⟩; rw [hw]; clear hw)
      | (go_at_call 6; refine (HNW.out _ hb0).mono ?_; rintro e w1 ⟨rfl, hb1⟩)
      | (go_at_call 11; refine (HCD.out _ hb1).mono ?_; rintro e w2 ⟨rfl, hb2⟩))
    go_ret
    exact ⟨rfl, hb2⟩
  obtain ⟨N, rfl⟩ : ∃ N : Nat, n = N := ⟨n.toNat, by omega⟩
  have hN1 : 1 ≤ N := by omega
  have hN2 : N ≤ 60 := by omega
  have g6 : ¬ (60 : Int) < (N : Int) := by omega
  clear g1
  have HMK : Hid (∀ W, (Instr.makeSlice 36 (.int .i64 (N : Int)) (.int .i64 (N : Int))).run Tryd.prog W = .ok (.slice (some ⟨W.heap.size, 0, none⟩) N N) (W.alloc (.cells ((List.replicate N false).map Value.bool).toArray 4))) := fun W => run_make_bools N (by omega) W
  obtain ⟨C0, HC0⟩ : ∃ C0, Hid (C0 = ((List.replicate N false).map Value.bool).toArray) := ⟨_, (rfl : ((List.replicate N false).map Value.bool).toArray = _)⟩
  rw [← HC0.out] at HMK
  go_enter Tryd.func4, Tryd.ntmps4
  go_wp2_with (first
    | (go_at_call 5; refine HRO.mono ?_; rintro e w0 ⟨rfl, hb0⟩; clear HRO)
    | (go_at_call 13; refine (HND.out _).mono ?_; rintro e wy ⟨rfl, hw⟩; rw [hw]; clear hw HND)
    | (go_at_call 14; refine (HNO.out _).mono ?_; rintro e wy ⟨rfl, hw⟩; rw [hw]; clear hw HNO)
    | (go_at_call 6; refine (sp_new N hN1 (by omega) w0).mono ?_; rintro e w1 ⟨rfl, S1, hb1⟩; (have HM1 := HMK.out w1)))
  clear HM1 HMK
  obtain ⟨b, HBB⟩ : ∃ b, Hid (b = w0.heap.size) := ⟨_, (rfl : w0.heap.size = _)⟩
  obtain ⟨p, HPP⟩ : ∃ p, Hid (p = w0.heap.size + 1) := ⟨_, (rfl : w0.heap.size + 1 = _)⟩
  obtain ⟨rb, HRB⟩ : ∃ rb, Hid (rb = w1.heap.size) := ⟨_, (rfl : w1.heap.size = _)⟩
  rw [← HPP.out, ← HRB.out]
  have hlt1 := S1.lt
  have hbw : w.heap.size ≤ b := by rw [HBB.out]; exact hb0.size
  have hrw : w.heap.size ≤ rb := by rw [HRB.out]; exact Nat.le_trans hb0.size hb1.size
  have HA0 : Hid (AAt p b rb N (List.replicate N false) (w1.alloc (.cells C0 4)) ∧ Below w.heap.size w (w1.alloc (.cells C0 4))) := by
    have hba : Below w1.heap.size w1 (w1.alloc (.cells C0 4)) := (Below.refl _ _).alloc (Nat.le_refl _) _
    refine ⟨⟨?_, ?_, by simp, by rw [HBB.out, HRB.out]; omega⟩, (HUP2.out _ _ (HUP2.out _ _ hb0 hb1) hba)⟩
    · rw [HBB.out, HPP.out]; exact S1.below hba
    · rw [HRB.out]; exact made_bools N (by omega) w1 C0 HC0.out
  clear S1 hb0 hb1 hlt1 HBB HPP HRB g2 g3 g4 g5
  have HUP : Hid (∀ W W', Below w.heap.size w W → But2 b rb W W' → Below w.heap.size w W') := fun W W' h hg => h.trans (hg.up h.size hbw hrw)
  go_loopw [11] (fun i wr => ∃ j : Nat, j ≤ l.length ∧ i = .int .i64 j ∧ ∃ u, AAt p b rb N u wr ∧ Below w.heap.size w wr) (fun i _ => l.length - (intOf i).toNat)
  case atStart => exact ⟨0, Nat.zero_le _, rfl, _, HA0.out⟩
  case round =>
    clear HA0
    obtain ⟨j, hj, rfl, u, A, hB⟩ := hrel
    have HA : Hid (AAt p b rb N u wr) := A
    have HB : Hid (Below w.heap.size w wr) := hB
    have hul : u.length ≤ 512 := by rw [A.len]; omega
    have HU : Hid (u.length = N) := A.len
    have HNE : Hid (b ≠ rb) := A.ne
    by_cases hlt : j < l.length
    · obtain ⟨x, hx⟩ : ∃ x, l[j]? = some x := ⟨_, List.getElem?_eq_getElem hlt⟩
      obtain ⟨lb, lo, ga, gc, rfl, q0, q1, q2, hgi⟩ := HCS.out j x hx
      clear hx
      obtain ⟨t, G, ist⟩ := x
      dsimp only at q0 q1 q2 hgi
      have hlb : lb < w.heap.size := World.block_lt_of_cell? w _ q0
      have c0 : wr.cell? ⟨lb, lo + j * 3, none⟩ = some (.int .i64 t) := by rw [hB.cell (p := ⟨lb, lo + j * 3, none⟩) hlb]; exact q0
      have c1 : wr.cell? ⟨lb, lo + j * 3 + 1, none⟩ = some (.slice ga G.length gc) := by rw [hB.cell (p := ⟨lb, lo + j * 3 + 1, none⟩) hlb]; exact q1
      have c2 : wr.cell? ⟨lb, lo + j * 3 + 2, none⟩ = some (.bool ist) := by rw [hB.cell (p := ⟨lb, lo + j * 3 + 2, none⟩) hlb]; exact q2
      have HGI : Hid (IntsAt w (.slice ga G.length gc) G) := hgi
      clear A hB q0 q1 q2 hgi hlb
      by_cases hg70 : 70 < (G.length : Int)
      · go_wp2_with fail
        go_ret
        exact ⟨rfl, HB.out.alloc HB.out.size _⟩
      have hg7 : G.length ≤ 70 := by omega
      go_wp2_with fail
      clear c0 c1 c2
      obtain ⟨W0, HW0⟩ : ∃ W0, Hid (W0 = wr.alloc (.cells #[.int .i64 t, .slice ga G.length gc, .bool ist] 42)) := ⟨_, (rfl : wr.alloc (.cells #[.int .i64 t, .slice ga G.length gc, .bool ist] 42) = _)⟩
      obtain ⟨wb, HWB⟩ : ∃ wb, Hid (wb = wr.heap.size) := ⟨_, (rfl : wr.heap.size = _)⟩
      rw [← HW0.out, ← HWB.out]
      have hba : Below wr.heap.size wr W0 := by rw [HW0.out]; exact (Below.refl _ _).alloc (Nat.le_refl _) _
      have HB0 : Hid (Below w.heap.size w W0) := HUP2.out _ _ HB.out hba
      have HA0 : Hid (AAt p b rb N u W0) := HA.out.below hba
      have hbx : W0.heap[wb]? = some (.cells #[.int .i64 t, .slice ga G.length gc, .bool ist] 42 (0, 0)) := by rw [HW0.out, HWB.out]; exact heap_alloc_last _ _
      have hwbb : wb ≠ b ∧ wb ≠ rb := by
        have h1 := HA.out.sp.lt.2
        have h2 := HA.out.row.lt
        rw [HWB.out]; omega
      have hwbl : wb < W0.heap.size := (Array.getElem?_eq_some_iff.1 hbx).1
      have HBX : Hid (∀ W, But2 b rb W0 W → W.cell? ⟨wb, 0, none⟩ = some (.int .i64 t) ∧ W.cell? ⟨wb, 1, none⟩ = some (.slice ga G.length gc) ∧ W.cell? ⟨wb, 2, none⟩ = some (.bool ist)) := fun W h => by
        have h' := (h.block wb hwbl hwbb.1 hwbb.2).trans hbx
        exact ⟨by rw [cell_of_row _ _ _ _ _ _ h']; rfl, by rw [cell_of_row _ _ _ _ _ _ h']; rfl, by rw [cell_of_row _ _ _ _ _ _ h']; rfl⟩
      clear hba hbx HW0 HWB HA HB hwbb hwbl
      go_loopw [13, 14] (fun m i wz => ∃ q : Nat, q ≤ N ∧ i = .int .i64 q ∧ m = .int .i64 ((whereR (fun b => !b) u q).length : Int) ∧ wz = W0) (fun _ i _ => N - (intOf i).toNat)
      case atStart => exact ⟨0, Nat.zero_le _, rfl, rfl, rfl⟩
      case round =>
        rename World => wz
        obtain ⟨q, hq, rfl, rfl, rfl⟩ := hrel
        by_cases hqn : q < N
        · obtain ⟨y, hy⟩ : ∃ y, u[q]? = some y := ⟨_, List.getElem?_eq_getElem (by rw [HU.out]; exact hqn)⟩
          have cy := HA0.out.row.mark hy
          have HN : Hid (whereR (fun b => !b) u (q + 1) = if !y then whereR (fun b => !b) u q ++ [q] else whereR (fun b => !b) u q) := by show _ = _; rw [whereR_next, hy]; rfl
          obtain ⟨M, HM⟩ : ∃ M, Hid (M = (whereR (fun b => !b) u q).length) := ⟨_, (rfl : (whereR (fun b => !b) u q).length = _)⟩
          have hM : M ≤ 60 := by rw [HM.out]; have := whereR_len (fun b => !b) u q; omega
          rw [← HM.out]
          clear hy
          cases y with
          | false =>
            go_wp2_with fail
            exact ⟨⟨q + 1, by omega, by simp, by rw [HN.out]; simp [HM.out], by first | rfl | trivial⟩, by simp [intOf]; omega⟩
          | true =>
            go_wp2_with fail
            exact ⟨⟨q + 1, by omega, by simp, by rw [HN.out]; simp [HM.out], by first | rfl | trivial⟩, by simp [intOf]; omega⟩
        · obtain rfl : N = q := by omega
          obtain ⟨F, HF⟩ : ∃ F, Hid (F = (whereR (fun b => !b) u N).length) := ⟨_, (rfl : (whereR (fun b => !b) u N).length = _)⟩
          have HFF : Hid (F = (freeR u).length) := by show F = _; rw [freeR, HU.out]; exact HF.out
          rw [← HF.out]
          clear HF
          obtain ⟨k0, k1, k2⟩ := HBX.out wz (But2.refl _ _ _)
          cases ist with
          | true =>
            by_cases htn : t < 0
            · as_aux_lemma =>
                have htz : t < 0 := htn
                have HTK : Hid (Calls Tryd.prog 8 #[.pointer (some ⟨p, 0, none⟩), .int .i64 t] wz fun e w' => e = .returned (.tuple #[.slice none 0 0, .iface 94 (.pointer (some (a 1)))]) ∧ Below wz.heap.size wz w' ∧ w'.cell? ⟨wb, 0, none⟩ = some (.int .i64 t)) := (sp_take_neg t htn _ wz (HSE.out.below HB0.out).c1).mono fun e w' ⟨he, hb⟩ => ⟨he, hb, (HBX.out w' (But2.below hb)).1⟩
                have HCD : Hid (∀ W, Below wz.heap.size wz W → Calls Tryd.prog 11 #[.iface 94 (.pointer (some (a 1))), .int .i64 2] W fun e w' => e = .returned (.bool true) ∧ Below wz.heap.size wz w') := fun W h => (coded_sent a 1 2 W (HSE.out.below (HUP2.out _ _ HB0.out h)) (by decide)).mono fun e w' ⟨he, hb⟩ => ⟨he, h.trans (hb.mono h.size)⟩
                have HSI : Hid (∀ W, Below wz.heap.size wz W → Calls Tryd.prog 15 #[.slice none 0 0, .slice none 0 0] W fun e w' => e = .returned (.bool true) ∧ Below wz.heap.size wz w') := fun W h => (sameInts_any _ _ [] W (IntsAt.nil _) (IntsAt.nil _) (by decide)).mono fun e w' ⟨he, hb⟩ => ⟨he, h.trans (hb.mono h.size)⟩
                go_wp2_with (go_at_call 8; refine HTK.out.mono ?_; rintro e w2 ⟨rfl, hb2, c2⟩; (have HB2 : Hid (Below wz.heap.size wz w2) := hb2); clear hb2 k0 k1 k2)
                clear HTK
                go_loopw [18, 19] (fun s i wy => s = .slice none 0 0 ∧ i = .int .i64 0 ∧ wy = w2) (fun _ _ _ => 0)
                case atStart => exact ⟨rfl, rfl, rfl⟩
                case round =>
                  rename World => wy
                  obtain ⟨rfl, rfl, rfl⟩ := hrel
                  go_wp2_with (first
                    | (go_at_call 11; refine (HCD.out _ HB2.out).mono ?_; rintro e w3 ⟨rfl, hb3⟩)
                    | (go_at_call 15; refine (HSI.out _ hb3).mono ?_; rintro e w4 ⟨rfl, hb4⟩; (have HB4 : Hid (Below wz.heap.size wz w4) := hb4); clear hb3 hb4))
                  exact ⟨⟨j + 1, by omega, by simp, u, HA0.out.below HB4.out, HUP2.out _ _ HB0.out HB4.out⟩, by simp [intOf]; omega⟩
            · by_cases htf : (F : Int) < t
              · as_aux_lemma =>
                  have htz : (F : Int) < t := htf
                  have HTK : Hid (Calls Tryd.prog 8 #[.pointer (some ⟨p, 0, none⟩), .int .i64 t] wz fun e w' => e = .returned (.tuple #[.slice none 0 0, .iface 94 (.pointer (some (a 7)))]) ∧ Below wz.heap.size wz w' ∧ w'.cell? ⟨wb, 0, none⟩ = some (.int .i64 t)) := (sp_take_full t (by rw [← HFF.out]; exact htf) _ wz HA0.out.sp hul (HSE.out.below HB0.out).c7).mono fun e w' ⟨he, hb⟩ => ⟨he, hb, (HBX.out w' (But2.below hb)).1⟩
                  have HCD : Hid (∀ W, Below wz.heap.size wz W → Calls Tryd.prog 11 #[.iface 94 (.pointer (some (a 7))), .int .i64 8] W fun e w' => e = .returned (.bool true) ∧ Below wz.heap.size wz w') := fun W h => (coded_sent a 7 8 W (HSE.out.below (HUP2.out _ _ HB0.out h)) (by decide)).mono fun e w' ⟨he, hb⟩ => ⟨he, h.trans (hb.mono h.size)⟩
                  have HSI : Hid (∀ W, Below wz.heap.size wz W → Calls Tryd.prog 15 #[.slice none 0 0, .slice none 0 0] W fun e w' => e = .returned (.bool true) ∧ Below wz.heap.size wz w') := fun W h => (sameInts_any _ _ [] W (IntsAt.nil _) (IntsAt.nil _) (by decide)).mono fun e w' ⟨he, hb⟩ => ⟨he, h.trans (hb.mono h.size)⟩
                  go_wp2_with (go_at_call 8; refine HTK.out.mono ?_; rintro e w2 ⟨rfl, hb2, c2⟩; (have HB2 : Hid (Below wz.heap.size wz w2) := hb2); clear hb2 k0 k1 k2)
                  clear HTK
                  go_loopw [18, 19] (fun s i wy => s = .slice none 0 0 ∧ i = .int .i64 0 ∧ wy = w2) (fun _ _ _ => 0)
                  case atStart => exact ⟨rfl, rfl, rfl⟩
                  case round =>
                    rename World => wy
                    obtain ⟨rfl, rfl, rfl⟩ := hrel
                    go_wp2_with (first
                      | (go_at_call 11; refine (HCD.out _ HB2.out).mono ?_; rintro e w3 ⟨rfl, hb3⟩)
                      | (go_at_call 15; refine (HSI.out _ hb3).mono ?_; rintro e w4 ⟨rfl, hb4⟩; (have HB4 : Hid (Below wz.heap.size wz w4) := hb4); clear hb3 hb4))
                    exact ⟨⟨j + 1, by omega, by simp, u, HA0.out.below HB4.out, HUP2.out _ _ HB0.out HB4.out⟩, by simp [intOf]; omega⟩
              · as_aux_lemma =>
                  obtain ⟨k, rfl⟩ : ∃ k : Nat, t = k := ⟨t.toNat, by omega⟩
                  have hkF : k ≤ F := by omega
                  have hkz : ¬ (F : Int) < (k : Int) := by omega
                  have hkz0 : ¬ (k : Int) < 0 := by omega
                  have hF60 : F ≤ 60 := by rw [HFF.out]; have := whereR_len (fun b => !b) u u.length; rw [HU.out] at this; exact Nat.le_trans (by rw [freeR, HU.out]; exact this) hN2
                  obtain ⟨i0, hi0, hz0, hz1, hz2⟩ := info_parts infoIn
                  have HPR : Hid (p ≠ rb) := HA0.out.row.ne HA0.out.sp.box (by decide)
                  have HTK : Hid (Calls Tryd.prog 8 #[.pointer (some ⟨p, 0, none⟩), .int .i64 (k : Int)] wz fun e w' => ∃ va vc, e = .returned (.tuple #[.slice va k vc, .nilIface]) ∧ IntsT w' (.slice va k vc) (ints ((freeR u).take k)) ∧ SpAt w' p b N (markR u true ((freeR u).take k)) ∧ RowB w' rb N u ∧ But2 b rb wz w' ∧ w'.cell? ⟨wb, 0, none⟩ = some (.int .i64 (k : Int))) :=
                    (sp_take k (by rw [← HFF.out]; exact hkF) wz HA0.out.sp hul).mono fun e w' ⟨v, he, ho, hS, hg⟩ => by
                      obtain ⟨va, vc, rfl⟩ := own_form ho
                      have hlk : ((freeR u).take k).length = k := by rw [List.length_take, ← HFF.out]; omega
                      have ht := ho.t
                      rw [hlk] at ht he
                      exact ⟨va, vc, he, ht, hS, HA0.out.row.keep (hg.block rb HA0.out.row.lt (by simpa using HNE.out.symm)), But2.one hg, (HBX.out w' (But2.one hg)).1⟩
                  have HCN : Hid (∀ W, Calls Tryd.prog 11 #[.nilIface, .int .i64 0] W fun e w' => e = .returned (.bool true) ∧ w' = W) := fun W => coded_nil 0 W
                  go_wp2_with (go_at_call 8; refine HTK.out.mono ?_; rintro e w2 ⟨va, vc, rfl, IT2, S2, R2, hb2, c2⟩; (have HIT : Hid (IntsT w2 (.slice va k vc) (ints ((freeR u).take k))) := IT2); (have HS2 : Hid (SpAt w2 p b N (markR u true ((freeR u).take k))) := S2); (have HR2 : Hid (RowB w2 rb N u) := R2); (have HBW : Hid (But2 b rb wz w2) := hb2); clear IT2 S2 R2 hb2 k0 k1 k2)
                  clear HTK c2
                  have hrl := HR2.out.lt
                  generalize decide (F < k) = d120
                  go_loopw [18, 19] (fun s i wy => ∃ q : Nat, q ≤ N ∧ i = .int .i64 q ∧ OwnI wy w2.heap.size s (whereR (fun b => !b) u q) ∧ (whereR (fun b => !b) u q).length ≤ k ∧ RowB wy rb N (markR u true (whereR (fun b => !b) u q)) ∧ w2.grownBy wy (some rb)) (fun _ i _ => N - (intOf i).toNat)
                  case atStart => exact ⟨0, Nat.zero_le _, rfl, OwnI.nil _ _, Nat.zero_le _, HR2.out, ⟨rfl, rfl, rfl, Nat.le_refl _, fun _ _ _ => rfl⟩⟩
                  case round =>
                    rename World => wy
                    obtain ⟨q, hq, rfl, ho, hqk, R, hg⟩ := hrel
                    have HO : Hid (OwnI wy w2.heap.size u18 (whereR (fun b => !b) u q)) := ho
                    have HR : Hid (RowB wy rb N (markR u true (whereR (fun b => !b) u q))) := R
                    have HG : Hid (w2.grownBy wy (some rb)) := hg
                    obtain ⟨sa, sc, rfl⟩ := own_form ho
                    have cb := (HBX.out wy (HBW.out.trans (But2.two hg))).1
                    obtain ⟨M, HM⟩ : ∃ M, Hid (M = (whereR (fun b => !b) u q).length) := ⟨_, (rfl : (whereR (fun b => !b) u q).length = _)⟩
                    rw [← HM.out] at hqk HO ⊢
                    have HEX : Hid (q = N ∨ M = k → whereR (fun b => !b) u q = (freeR u).take k) := fun h => by
                      obtain ⟨r, hr⟩ := where_pre (fun b => !b) u q N hq
                      have hfr : freeR u = whereR (fun b => !b) u q ++ r := by rw [freeR, HU.out]; exact hr
                      rcases h with rfl | h
                      · have h1 : freeR u = whereR (fun b => !b) u q := by rw [freeR, HU.out]
                        rw [h1, List.take_of_length_le (by rw [← HM.out]; omega)]
                      · rw [hfr, List.take_left' (by rw [← HM.out]; exact h)]
                    clear ho R hg
                    have HEND : Hid (q = N ∨ M = k → Calls Tryd.prog 15 #[.slice va k vc, .slice sa M sc] wy fun e w' => e = .returned (.bool true) ∧ Below wy.heap.size wy w') := fun h => by
                      have e := HEX.out h
                      have h1 := HO.out.t
                      rw [e] at h1
                      refine sameInts_any _ _ (ints ((freeR u).take k)) wy (HIT.out.keep fun c cur hc => HG.out.block c (Array.getElem?_eq_some_iff.1 hc).1 (by simpa using HR2.out.ne hc (by decide))).at h1.at (by rw [ints_len, List.length_take]; omega)
                    by_cases hqn : q < N
                    · by_cases hMk : M < k
                      · have hMz : (M : Int) < (k : Int) := by omega
                        obtain ⟨y, hy⟩ : ∃ y, u[q]? = some y := ⟨_, List.getElem?_eq_getElem (by rw [HU.out]; exact hqn)⟩
                        have hmq : (markR u true (whereR (fun b => !b) u q))[q]? = some y := by rw [markR_not (fun h => Nat.lt_irrefl _ (whereR_lt h))]; exact hy
                        have cy := HR.out.mark hmq
                        have HN : Hid (whereR (fun b => !b) u (q + 1) = if !y then whereR (fun b => !b) u q ++ [q] else whereR (fun b => !b) u q) := by show _ = _; rw [whereR_next, hy]; rfl
                        have HMQ : Hid ((markR u true (whereR (fun b => !b) u q))[q]? = some y) := hmq
                        clear hy hmq
                        cases y with
                        | false =>
                          have hszy := HG.out.size
                          obtain ⟨m, xs, HMm, HO1⟩ : ∃ m xs, Hid (m = M ∧ xs = (ints (whereR (fun b => !b) u q)).map (Value.int .i64)) ∧ Hid (∀ X, (wy.alloc X).ownsRow w2.heap.size 3 1 (.slice sa M sc) m xs) := ⟨_, _, ⟨rfl, rfl⟩, fun X => by have := HO.out.alloc X; unfold OwnI at this; rw [← HM.out] at this; exact this⟩
                          have hm5 : m ≤ 512 := by rw [HMm.out.1]; omega
                          go_wp2_with (at_builtin; refine wpList_append_own _ (by rfl) (.tmp 142) (.tmp 144) 22 (by rfl) w2.heap.size 3 i0 _ 1 8 Tryd.underlying22 hi0 hz0 hz1 hz2 rfl (by omega) _ m _ (by rfl) (HO1.out _) ⟨wy.heap.size, 0, none⟩ 1 1 [.int .i64 (q : Int)] (by rfl) rfl (cell_one_new _ _ _) (fun u hu => by rw [List.mem_singleton.1 hu]; rfl) (by unfold maxLen; omega) (by omega) (by rw [World.size_alloc]; omega) ?_; intro v' w3 hown hgrow _; (have HOW : Hid (w3.ownsRow w2.heap.size 3 1 v' (m + 1) (xs ++ [.int .i64 (q : Int)])) := hown); (have HGR : Hid ((wy.alloc (.cells #[.int .i64 (q : Int)] 3)).grownBy w3 (Value.ownBlock (.slice sa M sc))) := hgrow); (have hob : ∀ c, c < w2.heap.size → w3.heap[c]? = wy.heap[c]? := fun c hc => (hgrow.block c (by rw [World.size_alloc]; omega) (fun e => by have := ((HO1.out (.cells #[] 0)).lt c e.symm).1; omega)).trans (Below.heap_alloc _ _ _ (by omega))); (have R3 := HR.out.keep (hob rb hrl)); (have cr := R3.mark HMQ.out); (have fr := R3.frozen q); (have HR3 : Hid (RowB w3 rb N (markR u true (whereR (fun b => !b) u q))) := R3); (have HOB : Hid (∀ c, c < w2.heap.size → w3.heap[c]? = wy.heap[c]?) := hob); clear hown hgrow hob R3)
                          have HG3 : Hid (w2.grownBy w3 (some rb)) := ⟨HGR.out.os.trans HG.out.os, HGR.out.tape.trans HG.out.tape, HGR.out.output.trans HG.out.output, by have := HGR.out.size; rw [World.size_alloc] at this; omega, fun c hc hcr => (HOB.out c hc).trans (HG.out.block c hc hcr)⟩
                          refine ⟨⟨q + 1, by omega, by simp, ?_, by rw [HN.out]; simp [← HM.out]; omega, ?_, ⟨HG3.out.os, HG3.out.tape, HG3.out.output, by simp [World.setCell]; exact HG3.out.size, fun c hc hcr => ?_⟩⟩, by simp [intOf]; omega⟩
                          · rw [HN.out]
                            obtain ⟨e1, e2⟩ := HMm.out
                            have h := HOW.out
                            rw [e1, e2, HM.out] at h
                            have h2 : OwnI w3 w2.heap.size v' (whereR (fun b => !b) u q ++ [q]) := by unfold OwnI; simpa [ints] using h
                            exact h2.keep fun c cur hc => Below.heap_setCell _ _ _ _ (HR3.out.ne hc (by decide))
                          · rw [HN.out, Bool.not_false, if_pos rfl, markR_snoc]; exact HR3.out.set q true
                          · rw [Below.heap_setCell _ _ _ _ (by simpa using hcr)]; exact HG3.out.block c hc hcr
                        | true =>
                          go_wp2_with fail
                          exact ⟨⟨q + 1, by omega, by simp, by rw [HN.out]; exact HO.out, by rw [HN.out]; simp [← HM.out]; omega, by rw [HN.out]; exact HR.out, HG.out⟩, by simp [intOf]; omega⟩
                      · have hMz : ¬ (M : Int) < (k : Int) := by omega
                        have hMe : M = k := by omega
                        have HE : Hid (whereR (fun b => !b) u q = (freeR u).take k) := HEX.out (.inr hMe)
                        have HSI := HEND.out (.inr hMe)
                        clear hMe HEND HEX
                        go_wp2_with (first
                          | (go_at_call 11; refine (HCN.out _).mono ?_; rintro e w3 ⟨rfl, hw⟩; rw [hw]; clear hw)
                          | (go_at_call 15; refine HSI.mono ?_; rintro e w4 ⟨rfl, hb4⟩; (have HB4 : Hid (Below wy.heap.size wy w4) := hb4); clear hb4))
                        have hb2 : But2 b rb wz w4 := (HBW.out.trans (But2.two HG.out)).trans (But2.below HB4.out)
                        refine ⟨⟨j + 1, by omega, by simp, markR u true ((freeR u).take k), ⟨(HS2.out.keep (HG.out.block _ HS2.out.lt.1 (by simpa using HPR.out)) (HG.out.block _ HS2.out.lt.2 (by simpa using HNE.out))).below HB4.out, by rw [← HE.out]; exact HR.out.below HB4.out, by rw [markR_len]; exact HU.out, HNE.out⟩, HUP.out _ _ HB0.out hb2⟩, by simp [intOf]; omega⟩
                    · have hqz : ¬ (q : Int) < (N : Int) := by omega
                      have hqe : q = N := by omega
                      have HE : Hid (whereR (fun b => !b) u q = (freeR u).take k) := HEX.out (.inl hqe)
                      have HSI := HEND.out (.inl hqe)
                      clear hqe HEND HEX
                      go_wp2_with (first
                        | (go_at_call 11; refine (HCN.out _).mono ?_; rintro e w3 ⟨rfl, hw⟩; rw [hw]; clear hw)
                        | (go_at_call 15; refine HSI.mono ?_; rintro e w4 ⟨rfl, hb4⟩; (have HB4 : Hid (Below wy.heap.size wy w4) := hb4); clear hb4))
                      have hb2 : But2 b rb wz w4 := (HBW.out.trans (But2.two HG.out)).trans (But2.below HB4.out)
                      refine ⟨⟨j + 1, by omega, by simp, markR u true ((freeR u).take k), ⟨(HS2.out.keep (HG.out.block _ HS2.out.lt.1 (by simpa using HPR.out)) (HG.out.block _ HS2.out.lt.2 (by simpa using HNE.out))).below HB4.out, by rw [← HE.out]; exact HR.out.below HB4.out, by rw [markR_len]; exact HU.out, HNE.out⟩, HUP.out _ _ HB0.out hb2⟩, by simp [intOf]; omega⟩
          | false =>
            cases hao : G.any (offB N) with
            | true =>
              have HAO : Hid (G.any (offB N) = true) := hao
              clear hao
              as_aux_lemma =>
                have HGA : Hid (∀ W, Below wz.heap.size wz W → IntsAt W (.slice ga G.length gc) G) := fun W h => HGI.out.below (HUP2.out _ _ HB0.out h)
                have HGC : Hid (∀ W, Below wz.heap.size wz W → ∀ q y, G[q]? = some y → ∃ gb go, ga = some ⟨gb, go, none⟩ ∧ W.cell? ⟨gb, go + q, none⟩ = some (.int .i64 y)) := fun W h q y hy => by
                  obtain ⟨ga', gc', e, hc⟩ := HGA.out W h
                  simp only [Value.slice.injEq] at e
                  obtain ⟨rfl, _, _⟩ := e
                  exact hc q y hy
                have hG0 : (0 : Int) < (G.length : Int) := by
                  cases G with
                  | nil => have := HAO.out; simp at this
                  | cons y G => simp only [List.length_cons]; omega
                have HGE : Hid (giveE u G (.iface 94 (.pointer (some (a 1)))) (.iface 94 (.pointer (some (a 5)))) = .iface 94 (.pointer (some (a 1)))) := by
                  show _ = _
                  unfold giveE
                  rw [HU.out, HAO.out]; rfl
                go_wp2_with fail
                clear k0 k2
                go_loopw [20, 21] (fun m i wy => ∃ q : Nat, q ≤ G.length ∧ i = .int .i64 q ∧ m = .int .i64 (if (G.take q).any (offB N) then 2 else 0) ∧ wy = wz) (fun _ i _ => G.length - (intOf i).toNat)
                case atStart => exact ⟨0, Nat.zero_le _, rfl, rfl, rfl⟩
                case round =>
                  rename World => wy
                  obtain ⟨q, hq, rfl, rfl, hwy⟩ := hrel
                  subst wy
                  obtain ⟨M, HM⟩ : ∃ M : Int, Hid (M = if (G.take q).any (offB N) then 2 else 0) := ⟨_, (rfl : (if (G.take q).any (offB N) then (2 : Int) else 0) = _)⟩
                  rw [← HM.out]
                  by_cases hqG : q < G.length
                  · obtain ⟨y, hy⟩ : ∃ y, G[q]? = some y := ⟨_, List.getElem?_eq_getElem hqG⟩
                    obtain ⟨gb, go, rfl, cg⟩ := HGC.out _ (Below.refl _ _) q y hy
                    have HN : Hid ((G.take (q + 1)).any (offB N) = ((G.take q).any (offB N) || offB N y)) := any_take_next (offB N) hy
                    clear hy
                    by_cases hy0 : y < 0
                    · have ho : Hid (offB N y = true) := decide_eq_true (.inl hy0)
                      go_wp2_with fail
                      exact ⟨⟨q + 1, by omega, by simp, by rw [HN.out, ho.out]; simp, by first | rfl | trivial⟩, by simp [intOf]; omega⟩
                    · by_cases hyN : (N : Int) ≤ y
                      · have ho : Hid (offB N y = true) := decide_eq_true (.inr hyN)
                        go_wp2_with fail
                        exact ⟨⟨q + 1, by omega, by simp, by rw [HN.out, ho.out]; simp, by first | rfl | trivial⟩, by simp [intOf]; omega⟩
                      · have ho : Hid (offB N y = false) := decide_eq_false (by omega)
                        go_wp2_with fail
                        exact ⟨⟨q + 1, by omega, by simp, by rw [HN.out, ho.out, Bool.or_false, ← HM.out], by first | rfl | trivial⟩, by simp [intOf]; omega⟩
                  · have hqz : ¬ (q : Int) < (G.length : Int) := by omega
                    have hM : M = 2 := by
                      rw [HM.out, List.take_of_length_le (by omega), HAO.out]; rfl
                    subst hM
                    clear HM
                    go_wp2_with fail
                    go_loopw [20, 22] (fun m i wv => m = .int .i64 2 ∧ i = .int .i64 0 ∧ wv = wz) (fun _ _ _ => 0)
                    case atStart => exact ⟨rfl, rfl, rfl⟩
                    case round =>
                      rename World => wu
                      obtain ⟨rfl, rfl, hwu⟩ := hrel
                      have HBY : Hid (Below wz.heap.size wz wu) := by rw [hwu]; exact Below.refl _ _
                      have ku : wu.cell? ⟨wb, 1, none⟩ = some (.slice ga G.length gc) := by rw [hwu]; exact k1
                      clear hwu k1
                      have HOI : Hid (Calls Tryd.prog 10 #[.slice ga G.length gc] wu fun e w' => ∃ ad c, e = .returned (.slice ad G.length c) ∧ IntsT w' (.slice ad G.length c) G ∧ Below wz.heap.size wz w') :=
                        (ownInts_own _ G wu (HGA.out wu HBY.out) (by omega)).mono fun e w' ⟨v', he, h1, hb⟩ => by
                          obtain ⟨ad, c, rfl, h2⟩ := h1
                          exact ⟨ad, c, he, ⟨ad, c, rfl, h2⟩, HBY.out.trans (hb.mono HBY.out.size)⟩
                      have HGV : Hid (∀ W ad c, Below wz.heap.size wz W → IntsT W (.slice ad G.length c) G → Calls Tryd.prog 9 #[.pointer (some ⟨p, 0, none⟩), .slice ad G.length c] W fun e w' => e = .returned (.iface 94 (.pointer (some (a 1)))) ∧ Below wz.heap.size wz w') := fun W ad c h ht =>
                        (sp_give_not _ G _ _ W (HA0.out.below h).sp hul ht.at (by omega) (HSE.out.below (HUP2.out _ _ HB0.out h)).c1 (HSE.out.below (HUP2.out _ _ HB0.out h)).c5 (.inl (by rw [HU.out]; exact HAO.out))).mono fun e w' ⟨he, hb⟩ => ⟨he.trans (by rw [HGE.out]), h.trans (hb.mono h.size)⟩
                      have HCD : Hid (∀ W, Below wz.heap.size wz W → Calls Tryd.prog 11 #[.iface 94 (.pointer (some (a 1))), .int .i64 2] W fun e w' => e = .returned (.bool true) ∧ Below wz.heap.size wz w' ∧ w'.cell? ⟨wb, 1, none⟩ = some (.slice ga G.length gc)) := fun W h => (coded_sent a 1 2 W (HSE.out.below (HUP2.out _ _ HB0.out h)) (by decide)).mono fun e w' ⟨he, hb⟩ => ⟨he, h.trans (hb.mono h.size), (HBX.out w' (But2.below (h.trans (hb.mono h.size)))).2.1⟩
                      go_wp2_with (first
                        | (go_at_call 10; refine HOI.out.mono ?_; rintro e w2 ⟨ad2, c2, rfl, t2, hb2⟩)
                        | (go_at_call 9; refine (HGV.out _ _ _ hb2 t2).mono ?_; rintro e w3 ⟨rfl, hb3⟩; clear t2 hb2)
                        | (go_at_call 11; refine (HCD.out _ hb3).mono ?_; rintro e w4 ⟨rfl, hb4, k4⟩; (have HB4 : Hid (Below wz.heap.size wz w4) := hb4); clear hb3 hb4))
                      go_loopw [24] (fun i wv => i = .int .i64 0 ∧ wv = w4) (fun _ _ => 0)
                      case atStart => exact ⟨rfl, rfl⟩
                      case round =>
                        rename World => wv
                        obtain ⟨rfl, hwv⟩ := hrel
                        subst wv
                        go_wp2_with fail
                        exact ⟨⟨j + 1, by omega, by simp, u, HA0.out.below HB4.out, HUP2.out _ _ HB0.out HB4.out⟩, by simp [intOf]; omega⟩
            | false =>
              have HAO : Hid (G.any (offB N) = false) := hao
              clear hao
              as_aux_lemma =>
                have HGA : Hid (∀ W, Below wz.heap.size wz W → IntsAt W (.slice ga G.length gc) G) := fun W h => HGI.out.below (HUP2.out _ _ HB0.out h)
                have HGC : Hid (∀ W, Below wz.heap.size wz W → ∀ q y, G[q]? = some y → ∃ gb go, ga = some ⟨gb, go, none⟩ ∧ W.cell? ⟨gb, go + q, none⟩ = some (.int .i64 y)) := fun W h q y hy => by
                  obtain ⟨ga', gc', e, hc⟩ := HGA.out W h
                  simp only [Value.slice.injEq] at e
                  obtain ⟨rfl, _, _⟩ := e
                  exact hc q y hy
                obtain ⟨g, HG⟩ : ∃ g, Hid (G = ints g ∧ ∀ k ∈ g, k < N) := by
                  refine ⟨G.map Int.toNat, ?_, ?_⟩
                  · unfold ints
                    rw [List.map_map]
                    have : ∀ x ∈ G, (Int.ofNat ∘ Int.toNat) x = id x := fun x hx => by
                      have h : ¬ (x < 0 ∨ (N : Int) ≤ x) := fun h => by
                        have := List.any_eq_true.2 ⟨x, hx, (show offB N x = true from decide_eq_true h)⟩
                        rw [HAO.out] at this; cases this
                      show ((x.toNat : Nat) : Int) = x
                      omega
                    rw [List.map_congr_left this, List.map_id]
                  · intro k hk
                    obtain ⟨x, hx, rfl⟩ := List.mem_map.1 hk
                    have h : ¬ (x < 0 ∨ (N : Int) ≤ x) := fun h => by
                      have := List.any_eq_true.2 ⟨x, hx, (show offB N x = true from decide_eq_true h)⟩
                      rw [HAO.out] at this; cases this
                    omega
                have HGL : Hid (G.length = g.length) := by show _ = _; rw [HG.out.1, ints_len]
                go_wp2_with fail
                clear k0 k2
                go_loopw [20, 21] (fun m i wy => ∃ q : Nat, q ≤ G.length ∧ i = .int .i64 q ∧ m = .int .i64 (if (G.take q).any (offB N) then 2 else 0) ∧ wy = wz) (fun _ i _ => G.length - (intOf i).toNat)
                case atStart => exact ⟨0, Nat.zero_le _, rfl, rfl, rfl⟩
                case round =>
                  rename World => wy
                  obtain ⟨q, hq, rfl, rfl, hwy⟩ := hrel
                  subst wy
                  obtain ⟨M, HM⟩ : ∃ M : Int, Hid (M = if (G.take q).any (offB N) then 2 else 0) := ⟨_, (rfl : (if (G.take q).any (offB N) then (2 : Int) else 0) = _)⟩
                  rw [← HM.out]
                  by_cases hqG : q < G.length
                  · obtain ⟨y, hy⟩ : ∃ y, G[q]? = some y := ⟨_, List.getElem?_eq_getElem hqG⟩
                    obtain ⟨gb, go, rfl, cg⟩ := HGC.out _ (Below.refl _ _) q y hy
                    have HN : Hid ((G.take (q + 1)).any (offB N) = ((G.take q).any (offB N) || offB N y)) := any_take_next (offB N) hy
                    clear hy
                    by_cases hy0 : y < 0
                    · have ho : Hid (offB N y = true) := decide_eq_true (.inl hy0)
                      go_wp2_with fail
                      exact ⟨⟨q + 1, by omega, by simp, by rw [HN.out, ho.out]; simp, by first | rfl | trivial⟩, by simp [intOf]; omega⟩
                    · by_cases hyN : (N : Int) ≤ y
                      · have ho : Hid (offB N y = true) := decide_eq_true (.inr hyN)
                        go_wp2_with fail
                        exact ⟨⟨q + 1, by omega, by simp, by rw [HN.out, ho.out]; simp, by first | rfl | trivial⟩, by simp [intOf]; omega⟩
                      · have ho : Hid (offB N y = false) := decide_eq_false (by omega)
                        go_wp2_with fail
                        exact ⟨⟨q + 1, by omega, by simp, by rw [HN.out, ho.out, Bool.or_false, ← HM.out], by first | rfl | trivial⟩, by simp [intOf]; omega⟩
                  · have hqz : ¬ (q : Int) < (G.length : Int) := by omega
                    have hM : M = 0 := by
                      rw [HM.out, List.take_of_length_le (by omega), HAO.out]; rfl
                    subst hM
                    clear HM
                    go_wp2_with fail
                    clear hqG hqz
                    go_loopw [20, 22] (fun m i wv => ∃ q : Nat, q ≤ g.length ∧ i = .int .i64 q ∧ m = .int .i64 (eN (giveR u (g.take q))) ∧ Below wz.heap.size wz wv) (fun _ i _ => g.length - (intOf i).toNat)
                    case atStart => exact ⟨0, Nat.zero_le _, rfl, rfl, Below.refl _ _⟩
                    case round =>
                      rename World => wu
                      clear k1 hq
                      obtain ⟨q, hq, rfl, rfl, hby⟩ := hrel
                      have HBY : Hid (Below wz.heap.size wz wu) := hby
                      have ku := (HBX.out wu (But2.below hby)).2.1
                      have hgl := HGL.out
                      cases hgv : giveR u (g.take q) with
                      | false =>
                        have HGR : Hid (giveR u g = false) := by
                          show _ = _
                          rw [← List.take_append_drop q g]
                          exact giveR_no _ _ _ hgv
                        have hE : eN false = 6 := rfl
                        rw [hE]
                        clear hby hgv hE hgl
                        by_cases hqg : q < G.length
                        · have hqz : (q : Int) < (G.length : Int) := by omega
                          have hG0 : (0 : Int) < (G.length : Int) := by
                            rw [HGL.out]
                            cases g with
                            | nil => have := HGR.out; simp [giveR] at this
                            | cons y g => simp only [List.length_cons]; omega
                          have HGE : Hid (giveE u G (.iface 94 (.pointer (some (a 1)))) (.iface 94 (.pointer (some (a 5)))) = .iface 94 (.pointer (some (a 5)))) := by
                            show _ = _
                            unfold giveE
                            rw [HU.out, HAO.out, HG.out.1, ints_toNat, HGR.out]; rfl
                          have HOI : Hid (Calls Tryd.prog 10 #[.slice ga G.length gc] wu fun e w' => ∃ ad c, e = .returned (.slice ad G.length c) ∧ IntsT w' (.slice ad G.length c) G ∧ Below wz.heap.size wz w') :=
                            (ownInts_own _ G wu (HGA.out wu HBY.out) (by omega)).mono fun e w' ⟨v', he, h1, hb⟩ => by
                              obtain ⟨ad, c, rfl, h2⟩ := h1
                              exact ⟨ad, c, he, ⟨ad, c, rfl, h2⟩, HBY.out.trans (hb.mono HBY.out.size)⟩
                          have HGV : Hid (∀ W ad c, Below wz.heap.size wz W → IntsT W (.slice ad G.length c) G → Calls Tryd.prog 9 #[.pointer (some ⟨p, 0, none⟩), .slice ad G.length c] W fun e w' => e = .returned (.iface 94 (.pointer (some (a 5)))) ∧ Below wz.heap.size wz w') := fun W ad c h ht =>
                            (sp_give_not _ G _ _ W (HA0.out.below h).sp hul ht.at (by omega) (HSE.out.below (HUP2.out _ _ HB0.out h)).c1 (HSE.out.below (HUP2.out _ _ HB0.out h)).c5 (.inr (by rw [HG.out.1, ints_toNat]; exact HGR.out))).mono fun e w' ⟨he, hb⟩ => ⟨he.trans (by rw [HGE.out]), h.trans (hb.mono h.size)⟩
                          have HCD : Hid (∀ W, Below wz.heap.size wz W → Calls Tryd.prog 11 #[.iface 94 (.pointer (some (a 5))), .int .i64 6] W fun e w' => e = .returned (.bool true) ∧ Below wz.heap.size wz w' ∧ w'.cell? ⟨wb, 1, none⟩ = some (.slice ga G.length gc)) := fun W h => (coded_sent a 5 6 W (HSE.out.below (HUP2.out _ _ HB0.out h)) (by decide)).mono fun e w' ⟨he, hb⟩ => ⟨he, h.trans (hb.mono h.size), (HBX.out w' (But2.below (h.trans (hb.mono h.size)))).2.1⟩
                          go_wp2_with (first
                            | (go_at_call 10; refine HOI.out.mono ?_; rintro e w2 ⟨ad2, c2, rfl, t2, hb2⟩)
                            | (go_at_call 9; refine (HGV.out _ _ _ hb2 t2).mono ?_; rintro e w3 ⟨rfl, hb3⟩; clear t2 hb2)
                            | (go_at_call 11; refine (HCD.out _ hb3).mono ?_; rintro e w4 ⟨rfl, hb4, k4⟩; (have HB4 : Hid (Below wz.heap.size wz w4) := hb4); clear hb3 hb4))
                          go_loopw [24] (fun i wv => i = .int .i64 0 ∧ wv = w4) (fun _ _ => 0)
                          case atStart => exact ⟨rfl, rfl⟩
                          case round =>
                            rename World => wv
                            obtain ⟨rfl, hwv⟩ := hrel
                            subst wv
                            go_wp2_with fail
                            exact ⟨⟨j + 1, by omega, by simp, u, HA0.out.below HB4.out, HUP2.out _ _ HB0.out HB4.out⟩, by simp [intOf]; omega⟩
                        · have hqz : ¬ (q : Int) < (G.length : Int) := by omega
                          have hG0 : (0 : Int) < (G.length : Int) := by
                            rw [HGL.out]
                            cases g with
                            | nil => have := HGR.out; simp [giveR] at this
                            | cons y g => simp only [List.length_cons]; omega
                          have HGE : Hid (giveE u G (.iface 94 (.pointer (some (a 1)))) (.iface 94 (.pointer (some (a 5)))) = .iface 94 (.pointer (some (a 5)))) := by
                            show _ = _
                            unfold giveE
                            rw [HU.out, HAO.out, HG.out.1, ints_toNat, HGR.out]; rfl
                          have HOI : Hid (Calls Tryd.prog 10 #[.slice ga G.length gc] wu fun e w' => ∃ ad c, e = .returned (.slice ad G.length c) ∧ IntsT w' (.slice ad G.length c) G ∧ Below wz.heap.size wz w') :=
                            (ownInts_own _ G wu (HGA.out wu HBY.out) (by omega)).mono fun e w' ⟨v', he, h1, hb⟩ => by
                              obtain ⟨ad, c, rfl, h2⟩ := h1
                              exact ⟨ad, c, he, ⟨ad, c, rfl, h2⟩, HBY.out.trans (hb.mono HBY.out.size)⟩
                          have HGV : Hid (∀ W ad c, Below wz.heap.size wz W → IntsT W (.slice ad G.length c) G → Calls Tryd.prog 9 #[.pointer (some ⟨p, 0, none⟩), .slice ad G.length c] W fun e w' => e = .returned (.iface 94 (.pointer (some (a 5)))) ∧ Below wz.heap.size wz w') := fun W ad c h ht =>
                            (sp_give_not _ G _ _ W (HA0.out.below h).sp hul ht.at (by omega) (HSE.out.below (HUP2.out _ _ HB0.out h)).c1 (HSE.out.below (HUP2.out _ _ HB0.out h)).c5 (.inr (by rw [HG.out.1, ints_toNat]; exact HGR.out))).mono fun e w' ⟨he, hb⟩ => ⟨he.trans (by rw [HGE.out]), h.trans (hb.mono h.size)⟩
                          have HCD : Hid (∀ W, Below wz.heap.size wz W → Calls Tryd.prog 11 #[.iface 94 (.pointer (some (a 5))), .int .i64 6] W fun e w' => e = .returned (.bool true) ∧ Below wz.heap.size wz w' ∧ w'.cell? ⟨wb, 1, none⟩ = some (.slice ga G.length gc)) := fun W h => (coded_sent a 5 6 W (HSE.out.below (HUP2.out _ _ HB0.out h)) (by decide)).mono fun e w' ⟨he, hb⟩ => ⟨he, h.trans (hb.mono h.size), (HBX.out w' (But2.below (h.trans (hb.mono h.size)))).2.1⟩
                          go_wp2_with (first
                            | (go_at_call 10; refine HOI.out.mono ?_; rintro e w2 ⟨ad2, c2, rfl, t2, hb2⟩)
                            | (go_at_call 9; refine (HGV.out _ _ _ hb2 t2).mono ?_; rintro e w3 ⟨rfl, hb3⟩; clear t2 hb2)
                            | (go_at_call 11; refine (HCD.out _ hb3).mono ?_; rintro e w4 ⟨rfl, hb4, k4⟩; (have HB4 : Hid (Below wz.heap.size wz w4) := hb4); clear hb3 hb4))
                          go_loopw [24] (fun i wv => i = .int .i64 0 ∧ wv = w4) (fun _ _ => 0)
                          case atStart => exact ⟨rfl, rfl⟩
                          case round =>
                            rename World => wv
                            obtain ⟨rfl, hwv⟩ := hrel
                            subst wv
                            go_wp2_with fail
                            exact ⟨⟨j + 1, by omega, by simp, u, HA0.out.below HB4.out, HUP2.out _ _ HB0.out HB4.out⟩, by simp [intOf]; omega⟩
                      | true =>
                        have hE : eN true = 0 := rfl
                        rw [hE]
                        by_cases hqg : q < g.length
                        · have hqz : (q : Int) < (G.length : Int) := by omega
                          obtain ⟨x, hx⟩ : ∃ x, g[q]? = some x := ⟨_, List.getElem?_eq_getElem hqg⟩
                          have HX : Hid (g[q]? = some x) := hx
                          obtain ⟨gb, go, rfl, cg⟩ := HGC.out wu hby q (x : Int) (by rw [HG.out.1]; simp [ints, hx])
                          have hxN := HG.out.2 x (List.mem_of_getElem? hx)
                          have hxz : (x : Int) < (N : Int) := by omega
                          obtain ⟨y, hy⟩ : ∃ y, u[x]? = some y := ⟨_, List.getElem?_eq_getElem (by rw [HU.out]; exact hxN)⟩
                          have cy := (HA0.out.below hby).row.mark hy
                          have HS0 : Hid (okR u (g.take 0) x = y) := by show _ = _; unfold okR; rw [hy]; simp
                          have HGV : Hid (giveR u (g.take q) = true) := hgv
                          clear hby hgv hE hgl hx hy
                          cases y with
                          | true =>
                            go_wp2_with fail
                            go_loopw [20, 23] (fun m i wv => ∃ z : Nat, z ≤ q ∧ i = .int .i64 z ∧ m = .int .i64 (eN (okR u (g.take z) x)) ∧ Below wz.heap.size wz wv) (fun _ i _ => q - (intOf i).toNat)
                            case atStart => exact ⟨0, Nat.zero_le _, rfl, by rw [HS0.out]; rfl, HBY.out⟩
                            case round =>
                              rename World => wv
                              obtain ⟨z, hz, rfl, rfl, hbv⟩ := hrel
                              have HBV : Hid (Below wz.heap.size wz wv) := hbv
                              have kv := (HBX.out wv (But2.below hbv)).2.1
                              by_cases hzq : z < q
                              · obtain ⟨y, hy⟩ : ∃ y, g[z]? = some y := ⟨_, List.getElem?_eq_getElem (by omega)⟩
                                obtain ⟨gb1, go1, e1, cz⟩ := HGC.out wv hbv z (y : Int) (by rw [HG.out.1]; simp [ints, hy])
                                obtain ⟨gb2, go2, e2, cq⟩ := HGC.out wv hbv q (x : Int) (by rw [HG.out.1]; simp [ints, HX.out])
                                simp only [Option.some.injEq, Addr.mk.injEq, and_true] at e1 e2
                                obtain ⟨rfl, rfl⟩ := e1
                                obtain ⟨rfl, rfl⟩ := e2
                                have HN : Hid (okR u (g.take (z + 1)) x = (okR u (g.take z) x && !(y == x))) := okR_next hy
                                have hzG : (z : Int) < (G.length : Int) := by have := HGL.out; omega
                                have hqG : (q : Int) < (G.length : Int) := by have := HGL.out; omega
                                obtain ⟨E, HE⟩ : ∃ E, Hid (E = eN (okR u (g.take z) x)) := ⟨_, (rfl : eN (okR u (g.take z) x) = _)⟩
                                rw [← HE.out]
                                clear hbv hy
                                by_cases hyx : y = x
                                · subst hyx
                                  go_wp2_with fail
                                  go_quiet (fail)
                                  go_wp2_with fail
                                  exact ⟨⟨z + 1, by omega, by simp, by rw [HN.out]; simp [eN], ⟨HBV.out.os, HBV.out.tape, HBV.out.output, HBV.out.size, HBV.out.block⟩⟩, by simp [intOf]; omega⟩
                                · have hyb : ((y : Int) == (x : Int)) = false := by simp; omega
                                  have HYX : Hid ((y == x) = false) := by show _ = _; simpa using hyx
                                  clear hyx
                                  go_wp2_with fail
                                  go_quiet (fail)
                                  go_wp2_with fail
                                  exact ⟨⟨z + 1, by omega, by simp, by rw [HN.out, HYX.out, Bool.not_false, Bool.and_true, ← HE.out], ⟨HBV.out.os, HBV.out.tape, HBV.out.output, HBV.out.size, HBV.out.block⟩⟩, by simp [intOf]; omega⟩
                              · obtain rfl : z = q := by omega
                                have HN : Hid (giveR u (g.take (z + 1)) = okR u (g.take z) x) := giveR_next HX.out HGV.out
                                obtain ⟨E, HE⟩ : ∃ E, Hid (E = eN (okR u (g.take z) x)) := ⟨_, (rfl : eN (okR u (g.take z) x) = _)⟩
                                rw [← HE.out]
                                clear hbv
                                go_wp2_with fail
                                exact ⟨⟨z + 1, by omega, by simp, by rw [HN.out, HE.out], HBV.out⟩, by simp [intOf]; omega⟩
                          | false =>
                            go_wp2_with fail
                            go_loopw [20, 23] (fun m i wv => ∃ z : Nat, z ≤ q ∧ i = .int .i64 z ∧ m = .int .i64 (eN (okR u (g.take z) x)) ∧ Below wz.heap.size wz wv) (fun _ i _ => q - (intOf i).toNat)
                            case atStart => exact ⟨0, Nat.zero_le _, rfl, by rw [HS0.out]; rfl, HBY.out⟩
                            case round =>
                              rename World => wv
                              obtain ⟨z, hz, rfl, rfl, hbv⟩ := hrel
                              have HBV : Hid (Below wz.heap.size wz wv) := hbv
                              have kv := (HBX.out wv (But2.below hbv)).2.1
                              by_cases hzq : z < q
                              · obtain ⟨y, hy⟩ : ∃ y, g[z]? = some y := ⟨_, List.getElem?_eq_getElem (by omega)⟩
                                obtain ⟨gb1, go1, e1, cz⟩ := HGC.out wv hbv z (y : Int) (by rw [HG.out.1]; simp [ints, hy])
                                obtain ⟨gb2, go2, e2, cq⟩ := HGC.out wv hbv q (x : Int) (by rw [HG.out.1]; simp [ints, HX.out])
                                simp only [Option.some.injEq, Addr.mk.injEq, and_true] at e1 e2
                                obtain ⟨rfl, rfl⟩ := e1
                                obtain ⟨rfl, rfl⟩ := e2
                                have HN : Hid (okR u (g.take (z + 1)) x = (okR u (g.take z) x && !(y == x))) := okR_next hy
                                have hzG : (z : Int) < (G.length : Int) := by have := HGL.out; omega
                                have hqG : (q : Int) < (G.length : Int) := by have := HGL.out; omega
                                obtain ⟨E, HE⟩ : ∃ E, Hid (E = eN (okR u (g.take z) x)) := ⟨_, (rfl : eN (okR u (g.take z) x) = _)⟩
                                rw [← HE.out]
                                clear hbv hy
                                by_cases hyx : y = x
                                · subst hyx
                                  go_wp2_with fail
                                  go_quiet (fail)
                                  go_wp2_with fail
                                  exact ⟨⟨z + 1, by omega, by simp, by rw [HN.out]; simp [eN], ⟨HBV.out.os, HBV.out.tape, HBV.out.output, HBV.out.size, HBV.out.block⟩⟩, by simp [intOf]; omega⟩
                                · have hyb : ((y : Int) == (x : Int)) = false := by simp; omega
                                  have HYX : Hid ((y == x) = false) := by show _ = _; simpa using hyx
                                  clear hyx
                                  go_wp2_with fail
                                  go_quiet (fail)
                                  go_wp2_with fail
                                  exact ⟨⟨z + 1, by omega, by simp, by rw [HN.out, HYX.out, Bool.not_false, Bool.and_true, ← HE.out], ⟨HBV.out.os, HBV.out.tape, HBV.out.output, HBV.out.size, HBV.out.block⟩⟩, by simp [intOf]; omega⟩
                              · obtain rfl : z = q := by omega
                                have HN : Hid (giveR u (g.take (z + 1)) = okR u (g.take z) x) := giveR_next HX.out HGV.out
                                obtain ⟨E, HE⟩ : ∃ E, Hid (E = eN (okR u (g.take z) x)) := ⟨_, (rfl : eN (okR u (g.take z) x) = _)⟩
                                rw [← HE.out]
                                clear hbv
                                go_wp2_with fail
                                exact ⟨⟨z + 1, by omega, by simp, by rw [HN.out, HE.out], HBV.out⟩, by simp [intOf]; omega⟩
                        · have hqz : ¬ (q : Int) < (G.length : Int) := by omega
                          have HGR : Hid (giveR u g = true) := by show _ = _; rw [← hgv, List.take_of_length_le (by omega)]
                          clear hby hgv hE hgl
                          have HOI : Hid (Calls Tryd.prog 10 #[.slice ga G.length gc] wu fun e w' => ∃ ad c, e = .returned (.slice ad G.length c) ∧ IntsT w' (.slice ad G.length c) G ∧ Below wz.heap.size wz w') :=
                            (ownInts_own _ G wu (HGA.out wu HBY.out) (by omega)).mono fun e w' ⟨v', he, h1, hb⟩ => by
                              obtain ⟨ad, c, rfl, h2⟩ := h1
                              exact ⟨ad, c, he, ⟨ad, c, rfl, h2⟩, HBY.out.trans (hb.mono HBY.out.size)⟩
                          have HGV : Hid (∀ W ad c, Below wz.heap.size wz W → IntsT W (.slice ad G.length c) G → Calls Tryd.prog 9 #[.pointer (some ⟨p, 0, none⟩), .slice ad G.length c] W fun e w' => e = .returned .nilIface ∧ SpAt w' p b N (markR u false g) ∧ RowB w' rb N u ∧ But2 b rb wz w' ∧ w'.cell? ⟨wb, 1, none⟩ = some (.slice ga G.length gc)) := fun W ad c h ht =>
                            (sp_give _ g _ _ W (HA0.out.below h).sp hul (by rw [← HG.out.1]; exact ht) (by rw [← HGL.out]; omega) (HSE.out.below (HUP2.out _ _ HB0.out h)).c1 (HSE.out.below (HUP2.out _ _ HB0.out h)).c5 (by rw [HU.out]; exact HG.out.2) HGR.out).mono fun e w' ⟨he, hS, hg⟩ => ⟨he, hS, (HA0.out.below h).row.keep (hg.block rb (HA0.out.below h).row.lt (by simpa using HNE.out.symm)), (But2.below h).trans (But2.one hg), (HBX.out w' ((But2.below h).trans (But2.one hg))).2.1⟩
                          have HCN : Hid (∀ W, Calls Tryd.prog 11 #[.nilIface, .int .i64 0] W fun e w' => e = .returned (.bool true) ∧ w' = W) := fun W => coded_nil 0 W
                          go_wp2_with (first
                            | (go_at_call 10; refine HOI.out.mono ?_; rintro e w2 ⟨ad2, c2, rfl, t2, hb2⟩)
                            | (go_at_call 9; refine (HGV.out _ _ _ hb2 t2).mono ?_; rintro e w3 ⟨rfl, S3, R3, hb3, k4⟩; (have HS3 : Hid (SpAt w3 p b N (markR u false g)) := S3); (have HR3 : Hid (RowB w3 rb N u) := R3); (have HB3 : Hid (But2 b rb wz w3) := hb3); clear t2 hb2 S3 R3 hb3)
                            | (go_at_call 11; refine (HCN.out _).mono ?_; rintro e w4 ⟨rfl, hw⟩; rw [hw]; clear hw))
                          clear k4
                          go_loopw [24] (fun i wv => ∃ q : Nat, q ≤ g.length ∧ i = .int .i64 q ∧ RowB wv rb N (markR u false (g.take q)) ∧ w3.grownBy wv (some rb)) (fun i _ => g.length - (intOf i).toNat)
                          case atStart => exact ⟨0, Nat.zero_le _, rfl, HR3.out, ⟨rfl, rfl, rfl, Nat.le_refl _, fun _ _ _ => rfl⟩⟩
                          case round =>
                            rename World => wv
                            obtain ⟨q, hq, rfl, R, hg⟩ := hrel
                            have HR : Hid (RowB wv rb N (markR u false (g.take q))) := R
                            have HGW : Hid (w3.grownBy wv (some rb)) := hg
                            have hbv : But2 b rb wz wv := HB3.out.trans (But2.two hg)
                            have kv := (HBX.out wv hbv).2.1
                            have HBV : Hid (But2 b rb wz wv) := hbv
                            have hgl := HGL.out
                            by_cases hqg : q < g.length
                            · have hqz : (q : Int) < (G.length : Int) := by omega
                              obtain ⟨x, hx⟩ : ∃ x, g[q]? = some x := ⟨_, List.getElem?_eq_getElem hqg⟩
                              obtain ⟨gb, go, rfl, cg0⟩ := HGC.out _ (Below.refl _ _) q (x : Int) (by rw [HG.out.1]; simp [ints, hx])
                              have hgb : gb < w.heap.size := by
                                obtain ⟨ga', gc', e, hc⟩ := HGI.out
                                simp only [Value.slice.injEq] at e
                                obtain ⟨e1, _, _⟩ := e
                                obtain ⟨gb', go', e2, hc2⟩ := hc q (x : Int) (by rw [HG.out.1]; simp [ints, hx])
                                rw [← e1] at e2
                                simp only [Option.some.injEq, Addr.mk.injEq, and_true] at e2
                                rw [e2.1]; exact World.block_lt_of_cell? w _ hc2
                              have cg : wv.cell? ⟨gb, go + q, none⟩ = some (.int .i64 (x : Int)) := by
                                have h1 := (HUP.out _ _ HB0.out hbv).cell (p := ⟨gb, go + q, none⟩) hgb
                                have h2 := HB0.out.cell (p := ⟨gb, go + q, none⟩) hgb
                                rw [h1, ← h2]; exact cg0
                              have hxN := HG.out.2 x (List.mem_of_getElem? hx)
                              have hxz : (x : Int) < (N : Int) := by omega
                              obtain ⟨y, hy⟩ : ∃ y, (markR u false (g.take q))[x]? = some y := ⟨_, List.getElem?_eq_getElem (by rw [markR_len, HU.out]; exact hxN)⟩
                              have cy := R.mark hy
                              have fy := R.frozen x
                              have HN : Hid (markR u false (g.take (q + 1)) = (markR u false (g.take q)).set x false) := by
                                show _ = _
                                rw [List.take_succ_eq_append_getElem hqg, markR_snoc]
                                congr 1
                                exact (List.getElem?_eq_some_iff.1 hx).2
                              clear R hg hbv hx hy cg0 hgl
                              go_wp2_with fail
                              refine ⟨⟨q + 1, by omega, by simp, by rw [HN.out]; exact HR.out.set x false, ⟨HGW.out.os, HGW.out.tape, HGW.out.output, by simp [World.setCell]; exact HGW.out.size, fun c hc hcr => ?_⟩⟩, by simp [intOf]; omega⟩
                              rw [Below.heap_setCell _ _ _ _ (by simpa using hcr)]
                              exact HGW.out.block c hc hcr
                            · have hqz : ¬ (q : Int) < (G.length : Int) := by omega
                              have hqe : q = g.length := by omega
                              have HRE : Hid (RowB wv rb N (markR u false g)) := by have := HR.out; rw [List.take_of_length_le (by omega)] at this; exact this
                              have HPR : Hid (p ≠ rb) := HA0.out.row.ne HA0.out.sp.box (by decide)
                              clear R hg hbv hqe hgl
                              go_wp2_with fail
                              exact ⟨⟨j + 1, by omega, by simp, markR u false g, ⟨HS3.out.keep (HGW.out.block _ HS3.out.lt.1 (by simpa using HPR.out)) (HGW.out.block _ HS3.out.lt.2 (by simpa using HNE.out)), HRE.out, by rw [markR_len]; exact HU.out, HNE.out⟩, HUP.out _ _ HB0.out HBV.out⟩, by simp [intOf]; omega⟩
    · obtain rfl : j = l.length := by omega
      as_aux_lemma =>
        have HAl := HA
        have hul' := hul
        obtain ⟨i0, hi0, hz0, hz1, hz2⟩ := info_parts infoIn
        clear A hB
        go_wp2_with fail
        go_loopw [25, 26] (fun s i wy => ∃ q : Nat, q ≤ N ∧ i = .int .i64 q ∧ OwnI wy wr.heap.size s (whereR id u q) ∧ Below wr.heap.size wr wy) (fun _ i _ => N - (intOf i).toNat)
        case atStart => exact ⟨0, Nat.zero_le _, rfl, OwnI.nil _ _, Below.refl _ _⟩
        case round =>
          rename World => wy
          obtain ⟨q, hq, rfl, ho, hby⟩ := hrel
          have HO : Hid (OwnI wy wr.heap.size u25 (whereR id u q)) := ho
          have HBY : Hid (Below wr.heap.size wr wy) := hby
          obtain ⟨sa, sc, rfl⟩ := own_form ho
          have hwl := whereR_len id u q
          obtain ⟨M, HM⟩ : ∃ M, Hid (M = (whereR id u q).length) := ⟨_, (rfl : (whereR id u q).length = _)⟩
          rw [← HM.out] at hwl HO ⊢
          by_cases hqn : q < N
          · obtain ⟨y, hy⟩ : ∃ y, u[q]? = some y := ⟨_, List.getElem?_eq_getElem (by rw [HU.out]; exact hqn)⟩
            have cy := (HA.out.below hby).row.mark hy
            have HN : Hid (whereR id u (q + 1) = if y then whereR id u q ++ [q] else whereR id u q) := by show _ = _; rw [whereR_next, hy]; rfl
            have hsz := hby.size
            clear ho hby hy
            cases y with
            | false =>
              go_wp2_with fail
              exact ⟨⟨q + 1, by omega, by simp, by rw [HN.out]; exact HO.out, HBY.out⟩, by simp [intOf]; omega⟩
            | true =>
              obtain ⟨m, xs, HMm, HO1⟩ : ∃ m xs, Hid (m = M ∧ xs = (ints (whereR id u q)).map (Value.int .i64)) ∧ Hid (∀ X, (wy.alloc X).ownsRow wr.heap.size 3 1 (.slice sa M sc) m xs) := ⟨_, _, ⟨rfl, rfl⟩, fun X => by have := HO.out.alloc X; unfold OwnI at this; rw [← HM.out] at this; exact this⟩
              have hm5 : m ≤ 512 := by rw [HMm.out.1]; omega
              go_wp2_with (at_builtin; refine wpList_append_own _ (by rfl) (.tmp 252) (.tmp 254) 22 (by rfl) wr.heap.size 3 i0 _ 1 8 Tryd.underlying22 hi0 hz0 hz1 hz2 rfl (by omega) _ m _ (by rfl) (HO1.out _) ⟨wy.heap.size, 0, none⟩ 1 1 [.int .i64 (q : Int)] (by rfl) rfl (cell_one_new _ _ _) (fun u hu => by rw [List.mem_singleton.1 hu]; rfl) (by unfold maxLen; omega) (by omega) (by rw [World.size_alloc]; omega) ?_; intro v' w3 hown hgrow _)
              refine ⟨⟨q + 1, by omega, by simp, ?_, (HBY.out.alloc hsz _).grown hgrow (by rw [World.size_alloc]; omega) (fun c hc => ((HO1.out (.cells #[] 0)).lt c hc).1)⟩, by simp [intOf]; omega⟩
              rw [HN.out]
              obtain ⟨e1, e2⟩ := HMm.out
              rw [e1, e2, HM.out] at hown
              show OwnI w3 wr.heap.size v' (if true = true then whereR id u q ++ [q] else whereR id u q)
              rw [if_pos rfl]
              unfold OwnI
              simpa [ints] using hown
          · obtain rfl : N = q := by omega
            have HUE : Hid (whereR id u N = usedR u) := by show _ = _; rw [usedR, HU.out]
            have hMN : M ≤ N := hwl
            have HFM : Hid ((freeR u).length + M = N) := by
              show _ = _
              rw [HM.out, HUE.out, free_used_len, HU.out]
            have HUM : Hid ((usedR u).length = M) := by show _ = _; rw [← HUE.out, HM.out]
            have HAL : Hid (∀ W, Below wy.heap.size wy W → IntsT W (.slice sa M sc) (ints (usedR u))) := fun W h => by
              have h1 := HO.out.t
              rw [HUE.out] at h1
              exact h1.below h
            have HCP : Hid (Calls Tryd.prog 16 #[.pointer (some ⟨p, 0, none⟩)] wy fun e w' => ∃ p' b' c, e = .returned (.pointer (some ⟨p', 0, none⟩)) ∧ SpAt w' p' b' c u ∧ Below wy.heap.size wy w') :=
              (sp_copy wy (HA.out.below hby).sp hul).mono fun e w' ⟨p', b', c, he, hS, _, _, hb⟩ => ⟨p', b', c, he, hS, hb⟩
            have HUS : Hid (∀ W p' b' c, SpAt W p' b' c u → Below wy.heap.size wy W → Calls Tryd.prog 12 #[.pointer (some ⟨p', 0, none⟩)] W fun e w' => ∃ ad cc, e = .returned (.slice ad M cc) ∧ IntsT w' (.slice ad M cc) (ints (usedR u)) ∧ Below W.heap.size W w' ∧ Below wy.heap.size wy w') := fun W p' b' c S h =>
              (sp_used W S hul).mono fun e w' ⟨v, he, ho, hb⟩ => by
                obtain ⟨ad, cc, rfl⟩ := own_form ho
                have ht := ho.t
                rw [HUM.out] at he ht
                exact ⟨ad, cc, he, ht, hb, h.trans (hb.mono h.size)⟩
            have HSI : Hid (∀ W ad cc, Below wy.heap.size wy W → IntsT W (.slice ad M cc) (ints (usedR u)) → Calls Tryd.prog 15 #[.slice ad M cc, .slice sa M sc] W fun e w' => e = .returned (.bool true) ∧ Below W.heap.size W w' ∧ Below wy.heap.size wy w') := fun W ad cc h ht =>
              (sameInts_any _ _ _ W ht.at (HAL.out W h).at (by rw [ints_len, HUM.out]; omega)).mono fun e w' ⟨he, hb⟩ => ⟨he, hb, h.trans (hb.mono h.size)⟩
            have HFR : Hid (∀ W, Below wy.heap.size wy W → Calls Tryd.prog 7 #[.pointer (some ⟨p, 0, none⟩)] W fun e w' => e = .returned (.int .i64 ((N : Int) - (M : Int))) ∧ Below W.heap.size W w' ∧ Below wy.heap.size wy w') := fun W h =>
              (sp_Free W ((HA.out.below hby).below h).sp hul).mono fun e w' ⟨he, hb⟩ => ⟨by rw [he]; congr 2; have := HFM.out; omega, hb, h.trans (hb.mono h.size)⟩
            have HSP : Hid (∀ W, Below wy.heap.size wy W → SpAt W p b N u) := fun W h => ((HA.out.below hby).below h).sp
            have wk : IntKind.i64.wrap ((N : Int) - (M : Int)) = (N : Int) - (M : Int) := by rw [IntKind.wrap_i64]; omega
            have HWY : Hid (∀ W, Below wy.heap.size wy W → Below w.heap.size w W) := fun W h => HUP2.out _ _ (HUP2.out _ _ HB.out hby) h
            clear ho hby
            go_wp2_with (first
              | (go_at_call 16; refine HCP.out.mono ?_; rintro e w2 ⟨p', b', cc', rfl, S2, hb2⟩; clear HCP)
              | (go_at_call 12; refine (HUS.out _ _ _ _ (HSP.out _ hb2) hb2).mono ?_; rintro e w3 ⟨a3, c3, rfl, t3, d3, hb3⟩; (have S3 := S2.below d3); clear S2 hb2 d3 HSP)
              | (go_at_call 15; refine (HSI.out _ _ _ hb3 t3).mono ?_; rintro e w4 ⟨rfl, d4, hb4⟩; (have S4 := S3.below d4); clear S3 hb3 d4 t3)
              | (go_at_call 7; refine (HFR.out _ hb4).mono ?_; rintro e w5 ⟨rfl, d5, hb5⟩; (have S5 := S4.below d5); clear S4 hb4 d5 HFR)
              | (go_at_call 12; refine (HUS.out _ _ _ _ S5 hb5).mono ?_; rintro e w6 ⟨a6, c6, rfl, t6, d6, hb6⟩; clear S5 hb5 d6)
              | (go_at_call 15; refine (HSI.out _ _ _ hb6 t6).mono ?_; rintro e w7 ⟨rfl, d7, hb7⟩; clear hb6 t6 d7))
            go_ret
            exact ⟨by simp, HWY.out _ hb7⟩
end Go.Proofs.YtddmpecljcfjnaaDoor
