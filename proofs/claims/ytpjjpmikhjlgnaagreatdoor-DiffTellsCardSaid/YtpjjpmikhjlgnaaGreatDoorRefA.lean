/-
  The contracts of the document's answer for one name and for two trees: stillroomref1's IsLetter, IsName and SameTree.
  Conditions: both trees lie in memory below block B.
-/
import Derived.Test.YtpjjpmikhjlgnaaGreatDoorLeafs
import Derived.Test.YtpjjpmikhjlgnaaGreatDoorSen
import Derived.Deep.RegionHeld3
import Derived.Deep.DrawnRows
import Derived.WalkSmall
import Derived.BigQuiet
import Derived.Deep.QuietTactic
namespace Go.Proofs.YtpjjpmikhjlgnaaGreatDoor
open Go.RowKit
attribute [local go_sem ↓] Go.wp_at_zero Go.wp_at_succ

set_option maxHeartbeats 1000000 in
theorem isLetter_any (c : Int) (w : World) : Calls Tryz.prog 60 #[.int .u8 c] w fun e w' => e = .returned (.bool (nb c)) ∧ w' = w := by
  go_enter Tryz.func60, Tryz.ntmps60
  go_wp2
  all_goals (go_ret; refine ⟨ret_bool ?_, rfl⟩)
  all_goals (unfold nb; rw [Bool.eq_iff_iff]; simp; try omega)

theorem nameB_miss {s : ByteArray} (h : (s.data.toList.all fun c => nb (c.toNat : Int)) = false) : nameB s = false := by
  unfold nameB
  rw [h]
  simp
theorem nameB_all {s : ByteArray} (h : (s.data.toList.all fun c => nb (c.toNat : Int)) = true) : nameB s = (decide (1 ≤ s.size ∧ s.size ≤ 12) && !(s.toList == [46]) && !(s.toList == [46, 46])) := by
  unfold nameB
  rw [h]
  simp

set_option maxHeartbeats 1000000 in
theorem isName_any (s : ByteArray) (w : World) (hs : s.size ≤ maxLen) : Calls Tryz.prog 35 #[.string s] w fun e w' => e = .returned (.bool (nameB s)) ∧ w' = w := by
  unfold maxLen at hs
  go_enter Tryz.func35, Tryz.ntmps35
  go_wp2_with fail
  go_loop [3] (fun i => ∃ k : Nat, k ≤ s.size ∧ i = .int .i64 k ∧ (s.data.toList.take k).all (fun c => nb (c.toNat : Int)) = true) (fun i => s.size - (intOf i).toNat)
  case atStart => exact ⟨0, Nat.zero_le _, rfl, by simp⟩
  case round =>
    obtain ⟨k, hk, rfl, hall⟩ := hrel
    have HA : Hid ((s.data.toList.take k).all (fun c => nb (c.toNat : Int)) = true) := hall
    clear hall
    by_cases hlt : k < s.size
    · have HS := all_snoc (p := fun c => nb (c.toNat : Int)) s k hlt
      have HS : Hid _ := HS
      cases hc : nb (s[k].toNat : Int)
      · have HM : Hid (nameB s = false) := nameB_miss (all_miss (p := fun c => nb (c.toNat : Int)) s k hlt hc)
        go_wp2_with fail
        refine (isLetter_any _ _).mono ?_
        rintro e w' ⟨rfl, rfl⟩
        go_wp2_with fail
        go_ret
        exact ⟨ret_bool (by rw [HM.out]), rfl⟩
      · have HC : Hid (nb (s[k].toNat : Int) = true) := hc
        go_wp2_with fail
        refine (isLetter_any _ _).mono ?_
        rintro e w' ⟨rfl, rfl⟩
        go_wp2_with fail
        go_round
        case rel => exact ⟨k + 1, by omega, by go_num, by rw [HS.out, HA.out]; exact HC.out⟩
        case measure => simp [intOf]; omega
    · have ek : k = s.size := by omega
      have HE : Hid (nameB s = (decide (1 ≤ s.size ∧ s.size ≤ 12) && !(s.toList == [46]) && !(s.toList == [46, 46]))) := by
        have h := HA.out
        rw [ek, all_whole] at h
        exact nameB_all h
      clear ek
      by_cases h1 : 1 ≤ s.size
      · by_cases h2 : s.size ≤ 12
        · cases h3 : (s.toList == [46])
          · cases h4 : (s.toList == [46, 46])
            · have h3' : (s.toList != [46]) = true := by simp only [bne, h3]; rfl
              have h4' : (s.toList != [46, 46]) = true := by simp only [bne, h4]; rfl
              go_wp2_with fail
              go_ret
              exact ⟨ret_bool (by rw [HE.out, h3, h4, decide_eq_true ⟨h1, h2⟩]; rfl), rfl⟩
            · have h3' : (s.toList != [46]) = true := by simp only [bne, h3]; rfl
              have h4' : (s.toList != [46, 46]) = false := by simp only [bne, h4]; rfl
              go_wp2_with fail
              go_ret
              exact ⟨ret_bool (by rw [HE.out, h4]; simp), rfl⟩
          · have h3' : (s.toList != [46]) = false := by simp only [bne, h3]; rfl
            go_wp2_with fail
            go_ret
            exact ⟨ret_bool (by rw [HE.out, h3]; simp), rfl⟩
        · go_wp2_with fail
          go_ret
          exact ⟨ret_bool (by rw [HE.out, decide_eq_false (fun h => h2 h.2)]; rfl), rfl⟩
      · go_wp2_with fail
        go_ret
        exact ⟨ret_bool (by rw [HE.out, decide_eq_false (fun h => h1 h.1)]; rfl), rfl⟩

set_option maxHeartbeats 2000000 in
theorem sameTree_any (B : Nat) : ∀ (d : Nat) (s t : Tree) (us ut : Value) (w : World), B ≤ w.heap.size → Lies w B d s.kids us → Lies w B d t.kids ut →
    Calls Tryz.prog 14 #[.agg #[.string s.kind, .string s.data, .bool s.exec, us], .agg #[.string t.kind, .string t.data, .bool t.exec, ut]] w fun e w' => e = .returned (.bool (sameB d s t)) ∧ Below w.heap.size w w' := by
  intro d
  induction d with
  | zero => intro s t us ut w _ hl; exact absurd hl (by simp [Lies])
  | succ d ih =>
    intro s t us ut w hB hl hl'
    have hlo := hl.open
    have hlo' := hl'.open
    obtain ⟨sa, sc, rfl⟩ := hl.form
    obtain ⟨ta, tc, rfl⟩ := hl'.form
    have HW : Hid (∀ o o', Below w.heap.size w ((w.alloc o).alloc o')) := fun o o' => ((Below.refl _ _).alloc (Nat.le_refl _) o).alloc (by simp) o'
    cases hk : (s.kind.toList == t.kind.toList)
    · have hk' : (s.kind.toList != t.kind.toList) = true := by simp only [bne, hk]; rfl
      have HE : Hid (sameB (d + 1) s t = false) := show _ = _ by rw [sameB_succ]; unfold headSame; rw [hk]; simp
      clear hl hl' ih
      go_enter Tryz.func14, Tryz.ntmps14
      go_wp2_with fail
      go_ret
      exact ⟨ret_bool (by rw [HE.out]), HW.out _ _⟩
    cases hd : (s.data.toList == t.data.toList)
    · have hk' : (s.kind.toList != t.kind.toList) = false := by simp only [bne, hk]; rfl
      have hd' : (s.data.toList != t.data.toList) = true := by simp only [bne, hd]; rfl
      have HE : Hid (sameB (d + 1) s t = false) := show _ = _ by rw [sameB_succ]; unfold headSame; rw [hk, hd]; simp
      clear hl hl' ih
      go_enter Tryz.func14, Tryz.ntmps14
      go_wp2_with fail
      go_ret
      exact ⟨ret_bool (by rw [HE.out]), HW.out _ _⟩
    cases hx : (s.exec == t.exec)
    · have hk' : (s.kind.toList != t.kind.toList) = false := by simp only [bne, hk]; rfl
      have hd' : (s.data.toList != t.data.toList) = false := by simp only [bne, hd]; rfl
      have hx' : (s.exec != t.exec) = true := by simp only [bne, hx]; rfl
      have HE : Hid (sameB (d + 1) s t = false) := show _ = _ by rw [sameB_succ]; unfold headSame; rw [hk, hd, hx]; simp
      clear hl hl' ih
      go_enter Tryz.func14, Tryz.ntmps14
      go_wp2_with fail
      go_ret
      exact ⟨ret_bool (by rw [HE.out]), HW.out _ _⟩
    cases hn : (s.kids.length == t.kids.length)
    · have hk' : (s.kind.toList != t.kind.toList) = false := by simp only [bne, hk]; rfl
      have hd' : (s.data.toList != t.data.toList) = false := by simp only [bne, hd]; rfl
      have hx' : (s.exec != t.exec) = false := by simp only [bne, hx]; rfl
      have hn' : ((s.kids.length : Int) != (t.kids.length : Int)) = true := by simp at hn ⊢; omega
      have HE : Hid (sameB (d + 1) s t = false) := show _ = _ by rw [sameB_succ]; unfold headSame; rw [hk, hd, hx, hn]; simp
      clear hl hl' ih
      go_enter Tryz.func14, Tryz.ntmps14
      go_wp2_with fail
      go_ret
      exact ⟨ret_bool (by rw [HE.out]), HW.out _ _⟩
    have HE : Hid (sameB (d + 1) s t = sameTo d s t s.kids.length) := show _ = _ by rw [sameB_succ]; unfold headSame; rw [hk, hd, hx, hn]; rfl
    have hk' : (s.kind.toList != t.kind.toList) = false := by simp only [bne, hk]; rfl
    have hd' : (s.data.toList != t.data.toList) = false := by simp only [bne, hd]; rfl
    have hx' : (s.exec != t.exec) = false := by simp only [bne, hx]; rfl
    have hn' : ((s.kids.length : Int) != (t.kids.length : Int)) = false := by simp at hn ⊢; omega
    have HN : Hid (s.kids.length = t.kids.length) := show _ = _ by simpa using hn
    have HL : Hid _ := hlo
    have HL' : Hid _ := hlo'
    have HIH : Hid _ := ih
    have hlen := hlo.1
    clear hlo hlo' ih hl hl' hn
    go_enter Tryz.func14, Tryz.ntmps14
    go_wp2_with fail
    clear hk hk' hd hd' hx hx' hn'
    go_loopw [5] (fun i wr => ∃ j : Nat, j ≤ s.kids.length ∧ i = .int .i64 j ∧ Below w.heap.size w wr ∧ wr.cell? ⟨w.heap.size, 3, none⟩ = some (.slice sa s.kids.length sc) ∧ wr.cell? ⟨w.heap.size + 1, 3, none⟩ = some (.slice ta t.kids.length tc) ∧ w.heap.size + 1 < wr.heap.size ∧ sameTo d s t j = true) (fun i _ => s.kids.length - (intOf i).toNat)
    case atStart => exact ⟨0, Nat.zero_le _, rfl, HW.out _ _, by simp, by simp, by simp, rfl⟩
    case round =>
      obtain ⟨j, hj, rfl, hb, hbox0, hbox, hsz, hall⟩ := hrel
      have HA : Hid (sameTo d s t j = true) := hall
      clear hall
      by_cases hlt : j < s.kids.length
      · have hlt' : j < t.kids.length := by have := HN.out; omega
        obtain ⟨x, hx⟩ : ∃ x, s.kids[j]? = some x := ⟨s.kids[j], List.getElem?_eq_getElem hlt⟩
        obtain ⟨y, hy⟩ : ∃ y, t.kids[j]? = some y := ⟨t.kids[j], List.getElem?_eq_getElem hlt'⟩
        obtain ⟨b, off, rfl, ux, K0⟩ : ∃ b off, sa = some ⟨b, off, none⟩ ∧ ∃ u, KidAt w B d b off j x u := by
          rcases HL.out.2 with ⟨h0, _⟩ | ⟨b, off, cp, e, _, hk⟩
          · rw [h0] at hlt; exact absurd hlt (by simp)
          · simp only [Value.slice.injEq] at e
            exact ⟨b, off, e.1, hk j x hx⟩
        obtain ⟨b', off', rfl, uy, L0⟩ : ∃ b off, ta = some ⟨b, off, none⟩ ∧ ∃ u, KidAt w B d b off j y u := by
          rcases HL'.out.2 with ⟨h0, _⟩ | ⟨b, off, cp, e, _, hk⟩
          · rw [h0] at hlt'; exact absurd hlt' (by simp)
          · simp only [Value.slice.injEq] at e
            exact ⟨b, off, e.1, hk j y hy⟩
        have K := K0.below hb hB
        have L := L0.below hb hB
        obtain ⟨xa, xc, rfl⟩ := K.lies.form
        obtain ⟨ya, yc, rfl⟩ := L.lies.form
        have n0 := K.name
        have n1 := K.kind
        have n2 := K.data
        have n3 := K.exec
        have n4 := K.kids
        have l0 := L.name
        have l1 := L.kind
        have l2 := L.data
        have l3 := L.exec
        have l4 := L.kids
        have lb : b < wr.heap.size := by have := K.lt; have := hb.size; omega
        have lb' : b' < wr.heap.size := by have := L.lt; have := hb.size; omega
        have HS : Hid _ := sameTo_succ (d := d) hx hy
        have hj0 : (0 : Int) ≤ (j : Int) := by omega
        have hj1 : (j : Int) < (t.kids.length : Int) := by omega
        have hj2 : (j : Int) < (s.kids.length : Int) := by omega
        have hBr : B ≤ wr.heap.size := by have := hb.size; omega
        have HC : Hid (∀ w3, Below wr.heap.size wr w3 → Calls Tryz.prog 14 #[.agg #[.string x.2.kind, .string x.2.data, .bool x.2.exec, .slice xa x.2.kids.length xc], .agg #[.string y.2.kind, .string y.2.data, .bool y.2.exec, .slice ya y.2.kids.length yc]] w3 fun e w' => e = .returned (.bool (sameB d x.2 y.2)) ∧ Below w3.heap.size w3 w' ∧ Below wr.heap.size wr w') :=
          fun w3 h3 => (HIH.out x.2 y.2 (.slice xa x.2.kids.length xc) (.slice ya y.2.kids.length yc) w3 (by have := h3.size; omega) (K.lies.below h3 hBr) (L.lies.below h3 hBr)).mono fun e w' ⟨h1, h2⟩ => ⟨h1, h2, h3.trans (h2.mono h3.size)⟩
        clear K L K0 L0 hx hy
        cases hnm : (x.1.toList == y.1.toList)
        · have HF : Hid (sameTo d s t s.kids.length = false) := sameTo_mono (k := j + 1) (by omega) (by rw [HS.out, hnm]; simp)
          go_wp2_with fail
          go_quiet (fail)
          go_wp2_with fail
          go_ret
          exact ⟨ret_bool (by rw [HE.out, HF.out]), below_drewN hb _⟩
        · cases hsm : sameB d x.2 y.2
          · have HF : Hid (sameTo d s t s.kids.length = false) := sameTo_mono (k := j + 1) (by omega) (by rw [HS.out, hnm, hsm]; simp)
            go_wp2_with fail
            go_quiet (fail)
            go_wp2_with fail
            go_region_held3 (fun w' => w'.cell? ⟨w.heap.size, 3, none⟩ = some (.slice (some ⟨b, off, none⟩) s.kids.length sc) ∧ w'.cell? ⟨b, off + j * 5 + 1, none⟩ = some (.string x.2.kind) ∧ w'.cell? ⟨b, off + j * 5 + 2, none⟩ = some (.string x.2.data) ∧ w'.cell? ⟨b, off + j * 5 + 3, none⟩ = some (.bool x.2.exec) ∧ w'.cell? ⟨b, off + j * 5 + 4, none⟩ = some (.slice xa x.2.kids.length xc) ∧
                w'.cell? ⟨w.heap.size + 1, 3, none⟩ = some (.slice (some ⟨b', off', none⟩) t.kids.length tc) ∧ w'.cell? ⟨b', off' + j * 5 + 1, none⟩ = some (.string y.2.kind) ∧ w'.cell? ⟨b', off' + j * 5 + 2, none⟩ = some (.string y.2.data) ∧ w'.cell? ⟨b', off' + j * 5 + 3, none⟩ = some (.bool y.2.exec) ∧ w'.cell? ⟨b', off' + j * 5 + 4, none⟩ = some (.slice ya y.2.kids.length yc))
              (first
                | go_keep
                | (go_split_ands
                   refine ⟨?_, ?_, ?_, ?_, ?_, ?_, ?_, ?_, ?_, ?_⟩ <;> (rw [hb4.cell (by first | (simp; done) | (simp; omega))]; assumption)))
              ((go_at_call 14; refine Calls.mono (HC.out _ (by first | exact below_drewN (Below.refl _ _) _ | go_grown)) ?_; rintro e w4 ⟨rfl, hb4, hb5⟩))
            go_wp2_with fail
            go_ret
            exact ⟨ret_bool (by rw [HE.out, HF.out]), hb.trans (hb5.mono hb.size)⟩
          · have HT : Hid (sameTo d s t (j + 1) = true) := show _ = _ by rw [HS.out, hnm, hsm, HA.out]; rfl
            go_wp2_with fail
            go_quiet (fail)
            go_wp2_with fail
            go_region_held3 (fun w' => w'.cell? ⟨w.heap.size, 3, none⟩ = some (.slice (some ⟨b, off, none⟩) s.kids.length sc) ∧ w'.cell? ⟨b, off + j * 5 + 1, none⟩ = some (.string x.2.kind) ∧ w'.cell? ⟨b, off + j * 5 + 2, none⟩ = some (.string x.2.data) ∧ w'.cell? ⟨b, off + j * 5 + 3, none⟩ = some (.bool x.2.exec) ∧ w'.cell? ⟨b, off + j * 5 + 4, none⟩ = some (.slice xa x.2.kids.length xc) ∧
                w'.cell? ⟨w.heap.size + 1, 3, none⟩ = some (.slice (some ⟨b', off', none⟩) t.kids.length tc) ∧ w'.cell? ⟨b', off' + j * 5 + 1, none⟩ = some (.string y.2.kind) ∧ w'.cell? ⟨b', off' + j * 5 + 2, none⟩ = some (.string y.2.data) ∧ w'.cell? ⟨b', off' + j * 5 + 3, none⟩ = some (.bool y.2.exec) ∧ w'.cell? ⟨b', off' + j * 5 + 4, none⟩ = some (.slice ya y.2.kids.length yc))
              (first
                | go_keep
                | (go_split_ands
                   refine ⟨?_, ?_, ?_, ?_, ?_, ?_, ?_, ?_, ?_, ?_⟩ <;> (rw [hb4.cell (by first | (simp; done) | (simp; omega))]; assumption)))
              ((go_at_call 14; refine Calls.mono (HC.out _ (by first | exact below_drewN (Below.refl _ _) _ | go_grown)) ?_; rintro e w4 ⟨rfl, hb4, hb5⟩))
            go_wp2_with fail
            go_roundw
            case rel =>
              refine ⟨j + 1, by omega, by go_num, hb.trans (hb5.mono hb.size), ?_, ?_, by have := hb5.size; omega, HT.out⟩
              · rw [hb5.cell (p := ⟨w.heap.size, 3, none⟩) (Nat.lt_of_succ_lt hsz)]
                exact hbox0
              · rw [hb5.cell (p := ⟨w.heap.size + 1, 3, none⟩) hsz]
                exact hbox
            case measure => simp [intOf]; omega
      · have HM : Hid (sameTo d s t s.kids.length = true) := by
          have e : s.kids.length = j := by omega
          rw [e]; exact HA.out
        go_wp2_with fail
        go_ret
        exact ⟨ret_bool (by rw [HE.out, HM.out]), hb⟩
end Go.Proofs.YtpjjpmikhjlgnaaGreatDoor
