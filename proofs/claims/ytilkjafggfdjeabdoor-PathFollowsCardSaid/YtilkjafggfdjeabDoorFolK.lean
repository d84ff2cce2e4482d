/-
  The walk of the law 'PathFollows', told apart from what its callees do.
  Conditions: those that stand ahead of the theorem: a contract for each call.
-/
import Derived.Test.YtilkjafggfdjeabDoorPGet
import Derived.Deep.DeepCutAuto
import Derived.Deep.DeepFit
namespace Go.Proofs.YtilkjafggfdjeabDoor
open Go.RowKit
attribute [local go_sem ↓] Go.wp_at_zero Go.wp_at_succ

theorem ret_boolG {b c : Bool} (h : b = c) : Ending.returned (.bool b) = .returned (.bool c) := by rw [h]
/-- What the law asks of its calls behind the copy, which lies in block b. -/
structure FoTail (k d s p : ByteArray) (x : Bool) (xa : Option Addr) (un xc b : Nat) (R H : World → Prop) (ev : Value) (l : List ByteArray) (P : Nat → ByteArray) (C : Nat → Prop) : Prop where
  on : ∀ w' w'', H w' → Below w'.heap.size w' w'' → H w''
  low : ∀ w', H w' → b < w'.heap.size
  cells : ∀ w', H w' → w'.cell? ⟨b, 0, none⟩ = some (.string k) ∧ w'.cell? ⟨b, 1, none⟩ = some (.string d) ∧ w'.cell? ⟨b, 2, none⟩ = some (.bool x) ∧ w'.cell? ⟨b, 3, none⟩ = some (.slice xa un xc)
  follow : ∀ w', H w' → Calls Tryd.prog 16 #[.agg #[.string k, .string d, .bool x, .slice xa un xc], .string s] w' fun e w'' => e = .returned (.tuple #[.string p, ev]) ∧ Below w'.heap.size w' w''
  err : ev = .nilIface ∨ ((p.toList == []) = true ∧ ∃ t q, ev = .iface t q)
  get : ev = .nilIface → ∀ w', H w' → Calls Tryd.prog 11 #[.agg #[.string k, .string d, .bool x, .slice xa un xc], .string p] w' fun e w'' => ∃ kd dt ex ga gn gc, e = .returned (.tuple #[.agg #[.string kd, .string dt, .bool ex, .slice ga gn gc], .nilIface]) ∧ ((p.toList == [47]) = true ∨ ((p.toList == [47]) = false ∧ (kd.toList == [108, 105, 110, 107]) = false)) ∧ Below w'.heap.size w' w''
  again : ev = .nilIface → ∀ w', H w' → Calls Tryd.prog 16 #[.agg #[.string k, .string d, .bool x, .slice xa un xc], .string p] w' fun e w'' => e = .returned (.tuple #[.string p, .nilIface]) ∧ Below w'.heap.size w' w''
  split : ev = .nilIface → ∀ w', H w' → Calls Tryd.prog 17 #[.string s] w' fun e w'' => ∃ va vc, e = .returned (.tuple #[.slice va l.length vc, .nilIface]) ∧ Below w'.heap.size w' w'' ∧ ∀ w3, Below w''.heap.size w'' w3 → ∀ (j : Nat) (s : ByteArray), l[j]? = some s → ∃ g off, va = some ⟨g, off, none⟩ ∧ w3.cell? ⟨g, off + j, none⟩ = some (.string s)
  len : l.length ≤ 8
  zero : P 0 = { data := #[] }
  none : C 0
  add : ∀ (j : Nat) (y : ByteArray), l[j]? = some y → ∃ z, (∀ w', (Op.stringOp .add (P j) { data := #[47] }).run Tryd.prog w' = .ok (.string z) w') ∧ ∀ w', (Op.stringOp .add z y).run Tryd.prog w' = .ok (.string (P (j + 1))) w'
  each : ev = .nilIface → ∀ (j : Nat), j < l.length → C j → ∀ w', H w' → Calls Tryd.prog 11 #[.agg #[.string k, .string d, .bool x, .slice xa un xc], .string (P (j + 1))] w' fun e w'' => ∃ kd dt ex ga gn gc er, e = .returned (.tuple #[.agg #[.string kd, .string dt, .bool ex, .slice ga gn gc], er]) ∧ ((∃ t q, er = .iface t q) ∨ (er = .nilIface ∧ (kd.toList == [108, 105, 110, 107]) = true) ∨ (er = .nilIface ∧ (kd.toList == [108, 105, 110, 107]) = false ∧ C (j + 1))) ∧ Below w'.heap.size w' w''
  all : ev = .nilIface → C l.length → (p.toList == s.toList) = true
  ends : ∀ w', H w' → R w'
/-- What it asks of the copy. -/
def FoOwn (k d s : ByteArray) (x : Bool) (ua : Option Addr) (un uc : Nat) (R : World → Prop) (w' : World) : Prop :=
  Calls Tryd.prog 9 #[.agg #[.string k, .string d, .bool x, .slice ua un uc]] w' fun e w1 => ∃ xa xc, e = .returned (.agg #[.string k, .string d, .bool x, .slice xa un xc]) ∧ ∃ H p ev l P C, H (w1.alloc (.cells #[.string k, .string d, .bool x, .slice xa un xc] 24)) ∧ FoTail k d s p x xa un xc w1.heap.size R H ev l P C

set_option maxRecDepth 100000 in
set_option maxHeartbeats 4000000 in
theorem follows_skel (k d s : ByteArray) (x : Bool) (ua : Option Addr) (un uc : Nat) (w : World) (la : Int) (hla : la = 0 ∨ la = 1) (hsm : s.size ≤ maxLen)
    (R G : World → Prop) (HR : Hid (∀ w', G w' → R w'))
    (HT : Hid (Calls Tryd.prog 7 #[] (w.alloc (.cells #[.string k, .string d, .bool x, .slice ua un uc] 24)) fun e w' => e = .returned (.bool true) ∧ G w'))
    (HK : Hid (∀ w', G w' → w'.cell? ⟨w.heap.size, 0, none⟩ = some (.string k) ∧ w'.cell? ⟨w.heap.size, 1, none⟩ = some (.string d) ∧ w'.cell? ⟨w.heap.size, 2, none⟩ = some (.bool x) ∧ w'.cell? ⟨w.heap.size, 3, none⟩ = some (.slice ua un uc)))
    (HGS : Hid (∀ w', G w' → Calls Tryd.prog 8 #[.agg #[.string k, .string d, .bool x, .slice ua un uc], .int .i64 100] w' fun e w'' => e = .returned (.int .i64 la) ∧ G w''))
    (HO : Hid (la = 0 → s.size ≤ 150 → ∀ w', G w' → FoOwn k d s x ua un uc R w')) :
    Calls Tryd.prog 4 #[.agg #[.string k, .string d, .bool x, .slice ua un uc], .string s] w fun e w' => e = .returned (.bool true) ∧ R w' := by
  unfold maxLen at hsm
  go_enter Tryd.func4, Tryd.ntmps4
  go_wp2_with fail
  refine Calls.mono HT.out ?_
  rintro e w2 ⟨rfl, hg2⟩
  obtain ⟨c0, c1, c2, c3⟩ := HK.out _ hg2
  clear HT
  go_wp2_with fail
  refine Calls.mono (HGS.out _ hg2) ?_
  clear c0 c1 c2 c3 hg2
  rintro e w3 ⟨rfl, hg⟩
  clear HGS w2
  rcases hla with rfl | rfl
  rotate_left
  · clear HO HK
    go_wp2_with fail
    go_ret
    exact ⟨rfl, HR.out _ hg⟩
  by_cases hs : s.size ≤ 150
  rotate_left
  · have hs' : (150 : Int) < (s.size : Int) := by omega
    clear HO HK
    go_wp2_with fail
    go_ret
    exact ⟨rfl, HR.out _ hg⟩
  have hs' : (s.size : Int) ≤ 150 := by omega
  have HX : Hid _ := HO.out rfl hs _ hg
  obtain ⟨c0, c1, c2, c3⟩ := HK.out _ hg
  clear HO HK HR hg
  go_wp2_with fail
  refine Calls.mono HX.out ?_
  clear HX c0 c1 c2 c3
  rintro e w4 ⟨xa, xc, rfl, H, p, ev, l, P, C, hH, t⟩
  have T : Hid (FoTail k d s p x xa un xc w4.heap.size R H ev l P C) := t
  clear t
  obtain ⟨c0, c1, c2, c3⟩ := T.out.cells _ hH
  go_wp2_with fail
  refine Calls.mono (T.out.follow _ hH) ?_
  clear c0 c1 c2 c3
  rintro e w5 ⟨rfl, hb5⟩
  have HH5 : Hid (H w5) := T.out.on _ _ hH hb5
  clear hb5 hH
  rcases T.out.err with hev | ⟨hp0, tt, tp, hev⟩
  rotate_left
  · subst hev
    go_wp2_with fail
    go_ret
    exact ⟨rfl, T.out.ends _ HH5.out⟩
  subst hev
  obtain ⟨c0, c1, c2, c3⟩ := T.out.cells _ HH5.out
  go_wp2_with fail
  refine Calls.mono (T.out.get rfl _ HH5.out) ?_
  clear c0 c1 c2 c3
  rintro e w6 ⟨kd, dt, ex, ga, gn, gc, rfl, hkd, hb6⟩
  have HKD : Hid _ := hkd
  have hb6' : Below w5.heap.size w5 (w6.alloc (.cells #[.string kd, .string dt, .bool ex, .slice ga gn gc] 24)) := hb6.alloc hb6.size _
  have HH6 : Hid (H (w6.alloc (.cells #[.string kd, .string dt, .bool ex, .slice ga gn gc] 24))) := T.out.on _ _ HH5.out hb6'
  clear hb6 hb6' hkd
  obtain ⟨c0, c1, c2, c3⟩ := T.out.cells _ HH6.out
  go_wp2_with fail
  refine Calls.mono (T.out.again rfl _ HH6.out) ?_
  clear c0 c1 c2 c3
  rintro e w7 ⟨rfl, hb7⟩
  have HH7 : Hid (H w7) := T.out.on _ _ HH6.out hb7
  have c9 : w7.cell? ⟨w6.heap.size, 0, none⟩ = some (.string kd) := by
    rw [hb7.cell (p := ⟨w6.heap.size, 0, none⟩) (show w6.heap.size < _ by simp), cell_of_row _ _ _ _ _ _ (row_alloc' w6 _ _)]; rfl
  have hpp : (p.toList == p.toList) = true := by simp
  have z9 := lt_of_cell c9
  clear hb7
  have HZ : Hid (P 0 = { data := #[] }) := T.out.zero
  have HS7 : Hid _ := T.out.split rfl _ HH7.out
  rcases HKD.out with hp | ⟨hp, hk⟩
  all_goals
    clear HKD HH6 HH5
    go_wp2_with fail
    refine Calls.mono HS7.out ?_
    clear HS7 c9 z9 hp
    rintro e w8 ⟨va, vc, rfl, hb8, htx⟩
    have HTX : Hid _ := htx
    have HH8 : Hid (H w8) := T.out.on _ _ HH7.out hb8
    have hl8 := T.out.len
    clear htx hb8 HH7
    go_wp2_with fail
    go_loopw [13, 14] (fun z i wr => ∃ j : Nat, j ≤ l.length ∧ i = .int .i64 j ∧ z = .string (P j) ∧ Hid (C j ∧ H wr ∧ Below w8.heap.size w8 wr)) (fun _ i _ => l.length - (intOf i).toNat)
    case atStart => exact ⟨0, Nat.zero_le _, rfl, by rw [HZ.out], T.out.none, HH8.out, Below.refl _ _⟩
    case round =>
      obtain ⟨j, hj, rfl, rfl, HREL⟩ := hrel
      by_cases hlt : j < l.length
      rotate_left
      · obtain rfl : j = l.length := by omega
        have hps := T.out.all rfl HREL.out.1
        go_wp2_with fail
        go_ret
        exact ⟨ret_boolG (by simp), T.out.ends _ HREL.out.2.1⟩
      obtain ⟨y, hy⟩ : ∃ y, l[j]? = some y := ⟨l[j], List.getElem?_eq_getElem hlt⟩
      obtain ⟨g, off, rfl, hc⟩ := HTX.out wr HREL.out.2.2 j y hy
      have hgl := lt_of_cell hc
      obtain ⟨z, hz1, hz2⟩ := T.out.add j y hy
      have hj0 : (0 : Int) ≤ (j : Int) := by omega
      have hj1 : (j : Int) < (l.length : Int) := by omega
      have HEA : Hid _ := T.out.each rfl j hlt HREL.out.1 _ HREL.out.2.1
      obtain ⟨c0, c1, c2, c3⟩ := T.out.cells _ HREL.out.2.1
      have hbl := T.out.low _ HREL.out.2.1
      have HPJ : Hid (∃ q, q = P (j + 1)) := ⟨_, rfl⟩
      clear hy
      generalize hq : P (j + 1) = q at hz2 HEA
      have HQ : Hid _ := hq
      clear hq HPJ
      generalize P j = pj at hz1 ⊢
      go_wp2_with fail
      refine Calls.mono HEA.out ?_
      clear HEA c0 c1 c2 c3 hc hgl hz1 hz2 hbl
      rintro e w9 ⟨kd', dt', ex', ga', gn', gc', er, rfl, hr, hb9⟩
      have hb9' : Below wr.heap.size wr (w9.alloc (.cells #[.string kd', .string dt', .bool ex', .slice ga' gn' gc'] 24)) := hb9.alloc hb9.size _
      have HH9 : Hid (H (w9.alloc (.cells #[.string kd', .string dt', .bool ex', .slice ga' gn' gc'] 24))) := T.out.on _ _ HREL.out.2.1 hb9'
      have HB9 : Hid (Below w8.heap.size w8 (w9.alloc (.cells #[.string kd', .string dt', .bool ex', .slice ga' gn' gc'] 24))) := HREL.out.2.2.trans (hb9'.mono HREL.out.2.2.size)
      clear hb9 hb9'
      rcases hr with ⟨tt, tq, rfl⟩ | ⟨rfl, hk2⟩ | ⟨rfl, hk2, hcn⟩
      · go_wp2_with fail
        go_ret
        exact ⟨rfl, T.out.ends _ HH9.out⟩
      · go_wp2_with fail
        go_ret
        exact ⟨rfl, T.out.ends _ HH9.out⟩
      · have HC : Hid _ := hcn
        clear hcn
        go_wp2_with fail
        go_roundw
        case rel => exact ⟨j + 1, by omega, by go_num, by rw [HQ.out], HC.out, HH9.out, HB9.out⟩
        case measure => simp [intOf]; omega
end Go.Proofs.YtilkjafggfdjeabDoor
