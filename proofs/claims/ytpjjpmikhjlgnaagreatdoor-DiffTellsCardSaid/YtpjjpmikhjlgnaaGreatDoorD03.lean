/-
  The contracts of the functions of package tree that look at one node, or at one name.
  The contracts of the document's answer for one name and for two trees: stillroomref1's IsLetter, IsName and SameTree.
  The contracts of the functions of package tree that tell a node's own error: checkFile, checkLink, checkDir, checkNode.
  The contracts of checkDir and checkNode.
  Conditions: those that each states.
-/
import Derived.Test.YtpjjpmikhjlgnaaGreatDoorProg
import Derived.Test.YtpjjpmikhjlgnaaGreatDoorD02
import Derived.WalkKit
import Derived.Handy
import Derived.Outline
import Derived.WalkLawsBesides
import Derived.WalkSpells
import Derived.Deep.RegionHeld3
import Derived.Deep.DrawnRows
import Derived.WalkSmall
import Derived.BigQuiet
import Derived.Deep.QuietTactic
namespace Go.Proofs.YtpjjpmikhjlgnaaGreatDoor
open Go.RowKit

theorem ret_bool {a b : Bool} (h : a = b) : Ending.returned (.bool a) = .returned (.bool b) := by rw [h]

set_option maxHeartbeats 1000000 in
theorem nameByte_any (c : Int) (w : World) : Calls Tryz.prog 59 #[.int .u8 c] w fun e w' => e = .returned (.bool (nb c)) ∧ w' = w := by
  go_enter Tryz.func59, Tryz.ntmps59
  go_wp2
  all_goals (go_ret; refine ⟨ret_bool ?_, rfl⟩)
  all_goals (unfold nb; rw [Bool.eq_iff_iff]; simp; try omega)

set_option maxHeartbeats 1000000 in
theorem name_any (s : ByteArray) (w : World) (hs : s.size ≤ maxLen) : Calls Tryz.prog 33 #[.string s] w fun e w' => e = .returned (.bool (nameB s)) ∧ w' = w := by
  unfold maxLen at hs
  by_cases hg : (1 ≤ s.size ∧ s.size ≤ 12) ∧ (s.toList == [46]) = false ∧ (s.toList == [46, 46]) = false
  · obtain ⟨⟨h1, h2⟩, h3, h4⟩ := hg
    have HE : Hid (nameB s = s.data.toList.all fun c => nb (c.toNat : Int)) := nameB_yes h1 h2 h3 h4
    go_enter Tryz.func33, Tryz.ntmps33
    go_wp2_with fail
    go_loop [22] (fun i => ∃ k : Nat, k ≤ s.size ∧ i = .int .i64 k ∧ (s.data.toList.take k).all (fun c => nb (c.toNat : Int)) = true) (fun i => s.size - (intOf i).toNat)
    case atStart => exact ⟨0, Nat.zero_le _, rfl, by simp⟩
    case round =>
      obtain ⟨k, hk, rfl, hall⟩ := hrel
      have HA : Hid ((s.data.toList.take k).all (fun c => nb (c.toNat : Int)) = true) := hall
      clear hall
      by_cases hlt : k < s.size
      · have HS := all_snoc (p := fun c => nb (c.toNat : Int)) s k hlt
        have HS : Hid _ := HS
        cases hc : nb (s[k].toNat : Int)
        · have HM : Hid (s.data.toList.all (fun c => nb (c.toNat : Int)) = false) := all_miss (p := fun c => nb (c.toNat : Int)) s k hlt hc
          go_wp2_with fail
          refine (nameByte_any _ _).mono ?_
          rintro e w' ⟨rfl, rfl⟩
          go_wp2_with fail
          go_ret
          exact ⟨ret_bool (by rw [HE.out, HM.out]), rfl⟩
        · have HC : Hid (nb (s[k].toNat : Int) = true) := hc
          go_wp2_with fail
          refine (nameByte_any _ _).mono ?_
          rintro e w' ⟨rfl, rfl⟩
          go_wp2_with fail
          go_round
          case rel => exact ⟨k + 1, by omega, by go_num, by rw [HS.out, HA.out]; exact HC.out⟩
          case measure => simp [intOf]; omega
      · have ek : k = s.size := by omega
        have HB : Hid (s.data.toList.all (fun c => nb (c.toNat : Int)) = true) := by
          have := HA.out
          rw [ek, all_whole] at this
          exact this
        clear ek
        go_wp2_with fail
        go_ret
        exact ⟨ret_bool (by rw [HE.out, HB.out]), rfl⟩
  · have HE : Hid (nameB s = false) := nameB_no hg
    go_enter Tryz.func33, Tryz.ntmps33
    go_wp2_with fail
    all_goals first
      | (go_ret; exact ⟨ret_bool HE.out.symm, rfl⟩)
      | (exfalso; apply hg; refine ⟨⟨by omega, by omega⟩, ?_, ?_⟩ <;> simp_all)
end Go.Proofs.YtpjjpmikhjlgnaaGreatDoor
namespace Go.Proofs.YtpjjpmikhjlgnaaGreatDoor
open Go.RowKit
attribute [local go_sem ↓] Go.wp_at_zero Go.wp_at_succ

set_option maxHeartbeats 1000000 in
theorem isLetter_any (c : Int) (w : World) : Calls Tryz.prog 60 #[.int .u8 c] w fun e w' => e = .returned (.bool (nb c)) ∧ w' = w := by
  go_enter Tryz.func60, Tryz.ntmps60
  go_wp2
  all_goals (go_ret; refine ⟨ret_bool ?_, rfl⟩)
  all_goals (unfold nb; rw [Bool.eq_iff_iff]; simp; try omega)

theorem nameB_miss {s : ByteArray} (h : (s.data.toList.all fun c => nb (c.toNat : Int)) = false) : nameB s = false := by
  unfold nameB
  rw [h]
  simp
theorem nameB_all {s : ByteArray} (h : (s.data.toList.all fun c => nb (c.toNat : Int)) = true) : nameB s = (decide (1 ≤ s.size ∧ s.size ≤ 12) && !(s.toList == [46]) && !(s.toList == [46, 46])) := by
  unfold nameB
  rw [h]
  simp

set_option maxHeartbeats 1000000 in
theorem isName_any (s : ByteArray) (w : World) (hs : s.size ≤ maxLen) : Calls Tryz.prog 35 #[.string s] w fun e w' => e = .returned (.bool (nameB s)) ∧ w' = w := by
  unfold maxLen at hs
  go_enter Tryz.func35, Tryz.ntmps35
  go_wp2_with fail
  go_loop [3] (fun i => ∃ k : Nat, k ≤ s.size ∧ i = .int .i64 k ∧ (s.data.toList.take k).all (fun c => nb (c.toNat : Int)) = true) (fun i => s.size - (intOf i).toNat)
  case atStart => exact ⟨0, Nat.zero_le _, rfl, by simp⟩
  case round =>
    obtain ⟨k, hk, rfl, hall⟩ := hrel
    have HA : Hid ((s.data.toList.take k).all (fun c => nb (c.toNat : Int)) = true) := hall
    clear hall
    by_cases hlt : k < s.size
    · have HS := all_snoc (p := fun c => nb (c.toNat : Int)) s k hlt
      have HS : Hid _ := HS
      cases hc : nb (s[k].toNat : Int)
      · have HM : Hid (nameB s = false) := nameB_miss (all_miss (p := fun c => nb (c.toNat : Int)) s k hlt hc)
        go_wp2_with fail
        refine (isLetter_any _ _).mono ?_
        rintro e w' ⟨rfl, rfl⟩
        go_wp2_with fail
        go_ret
        exact ⟨ret_bool (by rw [HM.out]), rfl⟩
      · have HC : Hid (nb (s[k].toNat : Int) = true) := hc
        go_wp2_with fail
        refine (isLetter_any _ _).mono ?_
        rintro e w' ⟨rfl, rfl⟩
        go_wp2_with fail
        go_round
        case rel => exact ⟨k + 1, by omega, by go_num, by rw [HS.out, HA.out]; exact HC.out⟩
        case measure => simp [intOf]; omega
    · have ek : k = s.size := by omega
      have HE : Hid (nameB s = (decide (1 ≤ s.size ∧ s.size ≤ 12) && !(s.toList == [46]) && !(s.toList == [46, 46]))) := by
        have h := HA.out
        rw [ek, all_whole] at h
        exact nameB_all h
      clear ek
      by_cases h1 : 1 ≤ s.size
      · by_cases h2 : s.size ≤ 12
        · cases h3 : (s.toList == [46])
          · cases h4 : (s.toList == [46, 46])
            · have h3' : (s.toList != [46]) = true := by simp only [bne, h3]; rfl
              have h4' : (s.toList != [46, 46]) = true := by simp only [bne, h4]; rfl
              go_wp2_with fail
              go_ret
              exact ⟨ret_bool (by rw [HE.out, h3, h4, decide_eq_true ⟨h1, h2⟩]; rfl), rfl⟩
            · have h3' : (s.toList != [46]) = true := by simp only [bne, h3]; rfl
              have h4' : (s.toList != [46, 46]) = false := by simp only [bne, h4]; rfl
              go_wp2_with fail
              go_ret
              exact ⟨ret_bool (by rw [HE.out, h4]; simp), rfl⟩
          · have h3' : (s.toList != [46]) = false := by simp only [bne, h3]; rfl
            go_wp2_with fail
            go_ret
            exact ⟨ret_bool (by rw [HE.out, h3]; simp), rfl⟩
        · go_wp2_with fail
          go_ret
          exact ⟨ret_bool (by rw [HE.out, decide_eq_false (fun h => h2 h.2)]; rfl), rfl⟩
      · go_wp2_with fail
        go_ret
        exact ⟨ret_bool (by rw [HE.out, decide_eq_false (fun h => h1 h.1)]; rfl), rfl⟩

set_option maxHeartbeats 2000000 in
theorem sameTree_any (B : Nat) : ∀ (d : Nat) (s t : Tree) (us ut : Value) (w : World), B ≤ w.heap.size → Lies w B d s.kids us → Lies w B d t.kids ut →
    Calls Tryz.prog 14 #[.agg #[.string s.kind, .string s.data, .bool s.exec, us], .agg #[.string t.kind, .string t.data, .bool t.exec, ut]] w fun e w' => e = .returned (.bool (sameB d s t)) ∧ Below w.heap.size w w' := by
  intro d
  induction d with
  | zero => intro s t us ut w _ hl; exact absurd hl (by simp [Lies])
  | succ d ih =>
    intro s t us ut w hB hl hl'
    have hlo := hl.open
    have hlo' := hl'.open
    obtain ⟨sa, sc, rfl⟩ := hl.form
    obtain ⟨ta, tc, rfl⟩ := hl'.form
    have HW : Hid (∀ o o', Below w.heap.size w ((w.alloc o).alloc o')) := fun o o' => ((Below.refl _ _).alloc (Nat.le_refl _) o).alloc (by simp) o'
    cases hk : (s.kind.toList == t.kind.toList)
    · have hk' : (s.kind.toList != t.kind.toList) = true := by simp only [bne, hk]; rfl
      have HE : Hid (sameB (d + 1) s t = false) := show _ = _ by rw [sameB_succ]; unfold headSame; rw [hk]; simp
      clear hl hl' ih
      go_enter Tryz.func14, Tryz.ntmps14
      go_wp2_with fail
      go_ret
      exact ⟨ret_bool (by rw [HE.out]), HW.out _ _⟩
    cases hd : (s.data.toList == t.data.toList)
    · have hk' : (s.kind.toList != t.kind.toList) = false := by simp only [bne, hk]; rfl
      have hd' : (s.data.toList != t.data.toList) = true := by simp only [bne, hd]; rfl
      have HE : Hid (sameB (d + 1) s t = false) := show _ = _ by rw [sameB_succ]; unfold headSame; rw [hk, hd]; simp
      clear hl hl' ih
      go_enter Tryz.func14, Tryz.ntmps14
      go_wp2_with fail
      go_ret
      exact ⟨ret_bool (by rw [HE.out]), HW.out _ _⟩
    cases hx : (s.exec == t.exec)
    · have hk' : (s.kind.toList != t.kind.toList) = false := by simp only [bne, hk]; rfl
      have hd' : (s.data.toList != t.data.toList) = false := by simp only [bne, hd]; rfl
      have hx' : (s.exec != t.exec) = true := by simp only [bne, hx]; rfl
      have HE : Hid (sameB (d + 1) s t = false) := show _ = _ by rw [sameB_succ]; unfold headSame; rw [hk, hd, hx]; simp
      clear hl hl' ih
      go_enter Tryz.func14, Tryz.ntmps14
      go_wp2_with fail
      go_ret
      exact ⟨ret_bool (by rw [HE.out]), HW.out _ _⟩
    cases hn : (s.kids.length == t.kids.length)
    · have hk' : (s.kind.toList != t.kind.toList) = false := by simp only [bne, hk]; rfl
      have hd' : (s.data.toList != t.data.toList) = false := by simp only [bne, hd]; rfl
      have hx' : (s.exec != t.exec) = false := by simp only [bne, hx]; rfl
      have hn' : ((s.kids.length : Int) != (t.kids.length : Int)) = true := by simp at hn ⊢; omega
      have HE : Hid (sameB (d + 1) s t = false) := show _ = _ by rw [sameB_succ]; unfold headSame; rw [hk, hd, hx, hn]; simp
      clear hl hl' ih
      go_enter Tryz.func14, Tryz.ntmps14
      go_wp2_with fail
      go_ret
      exact ⟨ret_bool (by rw [HE.out]), HW.out _ _⟩
    have HE : Hid (sameB (d + 1) s t = sameTo d s t s.kids.length) := show _ = _ by rw [sameB_succ]; unfold headSame; rw [hk, hd, hx, hn]; rfl
    have hk' : (s.kind.toList != t.kind.toList) = false := by simp only [bne, hk]; rfl
    have hd' : (s.data.toList != t.data.toList) = false := by simp only [bne, hd]; rfl
    have hx' : (s.exec != t.exec) = false := by simp only [bne, hx]; rfl
    have hn' : ((s.kids.length : Int) != (t.kids.length : Int)) = false := by simp at hn ⊢; omega
    have HN : Hid (s.kids.length = t.kids.length) := show _ = _ by simpa using hn
    have HL : Hid _ := hlo
    have HL' : Hid _ := hlo'
    have HIH : Hid _ := ih
    have hlen := hlo.1
    clear hlo hlo' ih hl hl' hn
    go_enter Tryz.func14, Tryz.ntmps14
    go_wp2_with fail
    clear hk hk' hd hd' hx hx' hn'
    go_loopw [5] (fun i wr => ∃ j : Nat, j ≤ s.kids.length ∧ i = .int .i64 j ∧ Below w.heap.size w wr ∧ wr.cell? ⟨w.heap.size, 3, none⟩ = some (.slice sa s.kids.length sc) ∧ wr.cell? ⟨w.heap.size + 1, 3, none⟩ = some (.slice ta t.kids.length tc) ∧ w.heap.size + 1 < wr.heap.size ∧ sameTo d s t j = true) (fun i _ => s.kids.length - (intOf i).toNat)
    case atStart => exact ⟨0, Nat.zero_le _, rfl, HW.out _ _, by simp, by simp, by simp, rfl⟩
    case round =>
      obtain ⟨j, hj, rfl, hb, hbox0, hbox, hsz, hall⟩ := hrel
      have HA : Hid (sameTo d s t j = true) := hall
      clear hall
      by_cases hlt : j < s.kids.length
      · have hlt' : j < t.kids.length := by have := HN.out; omega
        obtain ⟨x, hx⟩ : ∃ x, s.kids[j]? = some x := ⟨s.kids[j], List.getElem?_eq_getElem hlt⟩
        obtain ⟨y, hy⟩ : ∃ y, t.kids[j]? = some y := ⟨t.kids[j], List.getElem?_eq_getElem hlt'⟩
        obtain ⟨b, off, rfl, ux, K0⟩ : ∃ b off, sa = some ⟨b, off, none⟩ ∧ ∃ u, KidAt w B d b off j x u := by
          rcases HL.out.2 with ⟨h0, _⟩ | ⟨b, off, cp, e, _, hk⟩
          · rw [h0] at hlt; exact absurd hlt (by simp)
          · simp only [Value.slice.injEq] at e
            exact ⟨b, off, e.1, hk j x hx⟩
        obtain ⟨b', off', rfl, uy, L0⟩ : ∃ b off, ta = some ⟨b, off, none⟩ ∧ ∃ u, KidAt w B d b off j y u := by
          rcases HL'.out.2 with ⟨h0, _⟩ | ⟨b, off, cp, e, _, hk⟩
          · rw [h0] at hlt'; exact absurd hlt' (by simp)
          · simp only [Value.slice.injEq] at e
            exact ⟨b, off, e.1, hk j y hy⟩
        have K := K0.below hb hB
        have L := L0.below hb hB
        obtain ⟨xa, xc, rfl⟩ := K.lies.form
        obtain ⟨ya, yc, rfl⟩ := L.lies.form
        have n0 := K.name
        have n1 := K.kind
        have n2 := K.data
        have n3 := K.exec
        have n4 := K.kids
        have l0 := L.name
        have l1 := L.kind
        have l2 := L.data
        have l3 := L.exec
        have l4 := L.kids
        have lb : b < wr.heap.size := by have := K.lt; have := hb.size; omega
        have lb' : b' < wr.heap.size := by have := L.lt; have := hb.size; omega
        have HS : Hid _ := sameTo_succ (d := d) hx hy
        have hj0 : (0 : Int) ≤ (j : Int) := by omega
        have hj1 : (j : Int) < (t.kids.length : Int) := by omega
        have hj2 : (j : Int) < (s.kids.length : Int) := by omega
        have hBr : B ≤ wr.heap.size := by have := hb.size; omega
        have HC : Hid (∀ w3, Below wr.heap.size wr w3 → Calls Tryz.prog 14 #[.agg #[.string x.2.kind, .string x.2.data, .bool x.2.exec, .slice xa x.2.kids.length xc], .agg #[.string y.2.kind, .string y.2.data, .bool y.2.exec, .slice ya y.2.kids.length yc]] w3 fun e w' => e = .returned (.bool (sameB d x.2 y.2)) ∧ Below w3.heap.size w3 w' ∧ Below wr.heap.size wr w') :=
          fun w3 h3 => (HIH.out x.2 y.2 (.slice xa x.2.kids.length xc) (.slice ya y.2.kids.length yc) w3 (by have := h3.size; omega) (K.lies.below h3 hBr) (L.lies.below h3 hBr)).mono fun e w' ⟨h1, h2⟩ => ⟨h1, h2, h3.trans (h2.mono h3.size)⟩
        clear K L K0 L0 hx hy
        cases hnm : (x.1.toList == y.1.toList)
        · have HF : Hid (sameTo d s t s.kids.length = false) := sameTo_mono (k := j + 1) (by omega) (by rw [HS.out, hnm]; simp)
          go_wp2_with fail
          go_quiet (fail)
          go_wp2_with fail
          go_ret
          exact ⟨ret_bool (by rw [HE.out, HF.out]), below_drewN hb _⟩
        · cases hsm : sameB d x.2 y.2
          · have HF : Hid (sameTo d s t s.kids.length = false) := sameTo_mono (k := j + 1) (by omega) (by rw [HS.out, hnm, hsm]; simp)
            go_wp2_with fail
            go_quiet (fail)
            go_wp2_with fail
            go_region_held3 (fun w' => w'.cell? ⟨w.heap.size, 3, none⟩ = some (.slice (some ⟨b, off, none⟩) s.kids.length sc) ∧ w'.cell? ⟨b, off + j * 5 + 1, none⟩ = some (.string x.2.kind) ∧ w'.cell? ⟨b, off + j * 5 + 2, none⟩ = some (.string x.2.data) ∧ w'.cell? ⟨b, off + j * 5 + 3, none⟩ = some (.bool x.2.exec) ∧ w'.cell? ⟨b, off + j * 5 + 4, none⟩ = some (.slice xa x.2.kids.length xc) ∧
                w'.cell? ⟨w.heap.size + 1, 3, none⟩ = some (.slice (some ⟨b', off', none⟩) t.kids.length tc) ∧ w'.cell? ⟨b', off' + j * 5 + 1, none⟩ = some (.string y.2.kind) ∧ w'.cell? ⟨b', off' + j * 5 + 2, none⟩ = some (.string y.2.data) ∧ w'.cell? ⟨b', off' + j * 5 + 3, none⟩ = some (.bool y.2.exec) ∧ w'.cell? ⟨b', off' + j * 5 + 4, none⟩ = some (.slice ya y.2.kids.length yc))
              (first
                | go_keep
                | (go_split_ands
                   refine ⟨?_, ?_, ?_, ?_, ?_, ?_, ?_, ?_, ?_, ?_⟩ <;> (rw [hb4.cell (by first | (simp; done) | (simp; omega))]; assumption)))
              ((go_at_call 14; refine Calls.mono (HC.out _ (by first | exact below_drewN (Below.refl _ _) _ | go_grown)) ?_; rintro e w4 ⟨rfl, hb4, hb5⟩))
            go_wp2_with fail
            go_ret
            exact ⟨ret_bool (by rw [HE.out, HF.out]), hb.trans (hb5.mono hb.size)⟩
          · have HT : Hid (sameTo d s t (j + 1) = true) := show _ = _ by rw [HS.out, hnm, hsm, HA.out]; rfl
            go_wp2_with fail
            go_quiet (fail)
            go_wp2_with fail
            go_region_held3 (fun w' => w'.cell? ⟨w.heap.size, 3, none⟩ = some (.slice (some ⟨b, off, none⟩) s.kids.length sc) ∧ w'.cell? ⟨b, off + j * 5 + 1, none⟩ = some (.string x.2.kind) ∧ w'.cell? ⟨b, off + j * 5 + 2, none⟩ = some (.string x.2.data) ∧ w'.cell? ⟨b, off + j * 5 + 3, none⟩ = some (.bool x.2.exec) ∧ w'.cell? ⟨b, off + j * 5 + 4, none⟩ = some (.slice xa x.2.kids.length xc) ∧
                w'.cell? ⟨w.heap.size + 1, 3, none⟩ = some (.slice (some ⟨b', off', none⟩) t.kids.length tc) ∧ w'.cell? ⟨b', off' + j * 5 + 1, none⟩ = some (.string y.2.kind) ∧ w'.cell? ⟨b', off' + j * 5 + 2, none⟩ = some (.string y.2.data) ∧ w'.cell? ⟨b', off' + j * 5 + 3, none⟩ = some (.bool y.2.exec) ∧ w'.cell? ⟨b', off' + j * 5 + 4, none⟩ = some (.slice ya y.2.kids.length yc))
              (first
                | go_keep
                | (go_split_ands
                   refine ⟨?_, ?_, ?_, ?_, ?_, ?_, ?_, ?_, ?_, ?_⟩ <;> (rw [hb4.cell (by first | (simp; done) | (simp; omega))]; assumption)))
              ((go_at_call 14; refine Calls.mono (HC.out _ (by first | exact below_drewN (Below.refl _ _) _ | go_grown)) ?_; rintro e w4 ⟨rfl, hb4, hb5⟩))
            go_wp2_with fail
            go_roundw
            case rel =>
              refine ⟨j + 1, by omega, by go_num, hb.trans (hb5.mono hb.size), ?_, ?_, by have := hb5.size; omega, HT.out⟩
              · rw [hb5.cell (p := ⟨w.heap.size, 3, none⟩) (Nat.lt_of_succ_lt hsz)]
                exact hbox0
              · rw [hb5.cell (p := ⟨w.heap.size + 1, 3, none⟩) hsz]
                exact hbox
            case measure => simp [intOf]; omega
      · have HM : Hid (sameTo d s t s.kids.length = true) := by
          have e : s.kids.length = j := by omega
          rw [e]; exact HA.out
        go_wp2_with fail
        go_ret
        exact ⟨ret_bool (by rw [HE.out, HM.out]), hb⟩
end Go.Proofs.YtpjjpmikhjlgnaaGreatDoor
namespace Go.Proofs.YtpjjpmikhjlgnaaGreatDoor
open Go.RowKit

/-- An error as a value: nil, or the sentinel of that number. -/
def errV (a : Nat → Addr) : Option Nat → Value
  | none => .nilIface
  | some i => .iface 181 (.pointer (some (a i)))
/-- A node as a value, its kids' slice given. -/
def nodeV (t : Tree) (u : Value) : Value := .agg #[.string t.kind, .string t.data, .bool t.exec, u]
theorem ret_val {a b : Value} (h : a = b) : Ending.returned a = .returned b := by rw [h]

set_option maxHeartbeats 1000000 in
theorem checkFile_any (a : Nat → Addr) (t : Tree) (ad : Option Addr) (cap : Nat) (w : World) (S : Sen a w) :
    Calls Tryz.prog 94 #[.agg #[.string t.kind, .string t.data, .bool t.exec, .slice ad t.kids.length cap]] w fun e w' => e = .returned (errV a (fileErr t)) ∧ Below w.heap.size w w' := by
  have c1 := S.bound
  have c2 := S.shape
  have z1 := lt_of_cell c1
  have z2 := lt_of_cell c2
  have HB : Hid (∀ o, Below w.heap.size w (w.alloc o)) := fun o => (Below.refl _ _).alloc (Nat.le_refl _) o
  clear S
  by_cases h1 : 0 < t.kids.length
  · have HE : Hid (fileErr t = some 2) := show _ = _ by unfold fileErr; rw [if_pos h1]
    go_enter Tryz.func94, Tryz.ntmps94
    go_wp2
    go_ret
    exact ⟨ret_val (by rw [HE.out]; rfl), HB.out _⟩
  · by_cases h2 : 2000 < t.data.size
    · have HE : Hid (fileErr t = some 1) := show _ = _ by unfold fileErr; rw [if_neg h1, if_pos h2]
      go_enter Tryz.func94, Tryz.ntmps94
      go_wp2
      go_ret
      exact ⟨ret_val (by rw [HE.out]; rfl), HB.out _⟩
    · have HE : Hid (fileErr t = none) := show _ = _ by unfold fileErr; rw [if_neg h1, if_neg h2]
      go_enter Tryz.func94, Tryz.ntmps94
      go_wp2
      go_ret
      exact ⟨ret_val (by rw [HE.out]; rfl), HB.out _⟩

set_option maxHeartbeats 1000000 in
theorem checkLink_any (a : Nat → Addr) (t : Tree) (ad : Option Addr) (cap : Nat) (w : World) (S : Sen a w) (hs : t.data.size ≤ maxLen) :
    Calls Tryz.prog 96 #[.agg #[.string t.kind, .string t.data, .bool t.exec, .slice ad t.kids.length cap]] w fun e w' => e = .returned (errV a (linkErr t)) ∧ Below w.heap.size w w' := by
  unfold maxLen at hs
  have c0 := S.text
  have c1 := S.bound
  have c2 := S.shape
  have z0 := lt_of_cell c0
  have z1 := lt_of_cell c1
  have z2 := lt_of_cell c2
  have HB : Hid (∀ o, Below w.heap.size w (w.alloc o)) := fun o => (Below.refl _ _).alloc (Nat.le_refl _) o
  clear S
  by_cases h1 : t.exec = true ∨ 0 < t.kids.length
  · have HE : Hid (linkErr t = some 2) := show _ = _ by unfold linkErr; rw [if_pos h1]
    by_cases hx : t.exec = true
    · clear h1
      go_enter Tryz.func96, Tryz.ntmps96
      go_wp2
      go_ret
      exact ⟨ret_val (by rw [HE.out]; rfl), HB.out _⟩
    · have hl : 0 < t.kids.length := by rcases h1 with h | h; exact absurd h hx; exact h
      have hx : t.exec = false := by simpa using hx
      clear h1
      go_enter Tryz.func96, Tryz.ntmps96
      go_wp2
      go_ret
      exact ⟨ret_val (by rw [HE.out]; rfl), HB.out _⟩
  · have hx : t.exec = false := by cases h : t.exec; rfl; exact absurd (.inl h) h1
    have hl : ¬ 0 < t.kids.length := fun h => h1 (.inr h)
    by_cases h2 : t.data.size < 1 ∨ 40 < t.data.size
    · have HE : Hid (linkErr t = some 1) := show _ = _ by unfold linkErr; rw [if_neg h1, if_pos h2]
      clear h1
      rcases h2 with h2 | h2
      all_goals
        go_enter Tryz.func96, Tryz.ntmps96
        go_wp2
        go_ret
        exact ⟨ret_val (by rw [HE.out]; rfl), HB.out _⟩
    · have HE : Hid (linkErr t = if t.data.data.toList.all seen = true then none else some 0) := show _ = _ by unfold linkErr; rw [if_neg h1, if_neg h2]
      have h3 : 1 ≤ t.data.size := by omega
      have h4 : t.data.size ≤ 40 := by omega
      clear h1 h2
      go_enter Tryz.func96, Tryz.ntmps96
      go_wp2
      go_loop [27] (fun i => ∃ k : Nat, k ≤ t.data.size ∧ i = .int .i64 k ∧ (t.data.data.toList.take k).all seen = true) (fun i => t.data.size - (intOf i).toNat)
      case atStart => exact ⟨0, Nat.zero_le _, rfl, by simp⟩
      case round =>
        obtain ⟨k, hk, rfl, hall⟩ := hrel
        have HA : Hid ((t.data.data.toList.take k).all seen = true) := hall
        clear hall
        by_cases hlt : k < t.data.size
        · have HS : Hid _ := all_snoc (p := seen) t.data k hlt
          by_cases hc : seen t.data[k] = true
          · have HC : Hid (seen t.data[k] = true) := hc
            have hc1 : 33 ≤ (t.data[k].toNat : Int) := by unfold seen at hc; simp only [decide_eq_true_eq] at hc; exact hc.1
            have hc2 : (t.data[k].toNat : Int) ≤ 126 := by unfold seen at hc; simp only [decide_eq_true_eq] at hc; exact hc.2
            clear hc
            go_wp2
            go_round
            case rel => exact ⟨k + 1, by omega, by go_num, by rw [HS.out, HA.out]; exact HC.out⟩
            case measure => simp [intOf]; omega
          · have hc' : seen t.data[k] = false := by simpa using hc
            have HM : Hid (t.data.data.toList.all seen = false) := all_miss (p := seen) t.data k hlt hc'
            have hor : (t.data[k].toNat : Int) < 33 ∨ 126 < (t.data[k].toNat : Int) := by unfold seen at hc'; simp only [decide_eq_false_iff_not] at hc'; omega
            clear hc hc'
            rcases hor with hor | hor
            · go_wp2
              go_ret
              exact ⟨ret_val (by rw [HE.out, HM.out]; rfl), HB.out _⟩
            · have hor2 : 33 ≤ (t.data[k].toNat : Int) := by omega
              go_wp2
              go_ret
              exact ⟨ret_val (by rw [HE.out, HM.out]; rfl), HB.out _⟩
        · have ek : k = t.data.size := by omega
          have HM : Hid (t.data.data.toList.all seen = true) := by
            have := HA.out
            rw [ek, all_whole] at this
            exact this
          clear ek
          go_wp2
          go_ret
          exact ⟨ret_val (by rw [HE.out, HM.out]; rfl), HB.out _⟩
end Go.Proofs.YtpjjpmikhjlgnaaGreatDoor
namespace Go.Proofs.YtpjjpmikhjlgnaaGreatDoor
open Go.RowKit

/-- checkDir, no kids. -/
theorem checkDir_none (a : Nat → Addr) (t : Tree) (ad : Option Addr) (cap : Nat) (w : World) (S : Sen a w) (hk : t.kids = []) :
    Calls Tryz.prog 95 #[.agg #[.string t.kind, .string t.data, .bool t.exec, .slice ad 0 cap]] w fun e w' => e = .returned (errV a (dirErr t)) ∧ Below w.heap.size w w' := by
  have c2 := S.shape
  have z2 := lt_of_cell c2
  have HB : Hid (∀ o, Below w.heap.size w (w.alloc o)) := fun o => (Below.refl _ _).alloc (Nat.le_refl _) o
  clear S
  by_cases h1 : t.data.toList.isEmpty = false ∨ t.exec = true
  · have HE : Hid (dirErr t = some 2) := show _ = _ by unfold dirErr; rw [if_pos h1]
    cases hd : t.data.toList.isEmpty
    · clear h1 hk
      go_enter Tryz.func95, Tryz.ntmps95
      go_wp2
      go_ret
      exact ⟨ret_val (by rw [HE.out]; rfl), HB.out _⟩
    · have hx : t.exec = true := by rcases h1 with h | h; exact absurd h (by simp [hd]); exact h
      clear h1 hk
      go_enter Tryz.func95, Tryz.ntmps95
      go_wp2
      go_ret
      exact ⟨ret_val (by rw [HE.out]; rfl), HB.out _⟩
  · have HE : Hid (dirErr t = none) := show _ = _ by unfold dirErr; rw [if_neg h1, hk]; rfl
    have hd : t.data.toList.isEmpty = true := by cases h : t.data.toList.isEmpty; exact absurd (.inl h) h1; rfl
    have hx : t.exec = false := by cases h : t.exec; rfl; exact absurd (.inr h) h1
    clear h1 hk
    go_enter Tryz.func95, Tryz.ntmps95
    go_wp2
    refine wp_loop_rounds 1 ?_
    rw [rounds_succ]
    go_wp2
    refine wp_loop_rounds 1 ?_
    rw [rounds_succ]
    go_wp2
    go_ret
    exact ⟨ret_val (by rw [HE.out]; rfl), HB.out _⟩

set_option maxHeartbeats 1000000 in
theorem checkDir_some (a : Nat → Addr) (t : Tree) (B d b off cap : Nat) (w : World) (S : Sen a w) (hlen : t.kids.length ≤ 1759218604390) (hB : B ≤ w.heap.size)
    (hk : ∀ i x, t.kids[i]? = some x → ∃ u, KidAt w B d b off i x u) :
    Calls Tryz.prog 95 #[.agg #[.string t.kind, .string t.data, .bool t.exec, .slice (some ⟨b, off, none⟩) t.kids.length cap]] w fun e w' => e = .returned (errV a (dirErr t)) ∧ Below w.heap.size w w' := by
  have c2 := S.shape
  have z2 := lt_of_cell c2
  have HB : Hid (∀ o, Below w.heap.size w (w.alloc o)) := fun o => (Below.refl _ _).alloc (Nat.le_refl _) o
  by_cases h1 : t.data.toList.isEmpty = false ∨ t.exec = true
  · have HE : Hid (dirErr t = some 2) := show _ = _ by unfold dirErr; rw [if_pos h1]
    clear S
    cases hd : t.data.toList.isEmpty
    · clear h1 hk
      go_enter Tryz.func95, Tryz.ntmps95
      go_wp2
      go_ret
      exact ⟨ret_val (by rw [HE.out]; rfl), HB.out _⟩
    · have hx : t.exec = true := by rcases h1 with h | h; exact absurd h (by simp [hd]); exact h
      clear h1 hk
      go_enter Tryz.func95, Tryz.ntmps95
      go_wp2
      go_ret
      exact ⟨ret_val (by rw [HE.out]; rfl), HB.out _⟩
  · have HE : Hid (dirErr t = if (t.kids.all fun x => nameB x.1) = true then (if risesTo t.kids t.kids.length = true then none else some 9) else some 4) := show _ = _ by unfold dirErr; rw [if_neg h1]
    have hd : t.data.toList.isEmpty = true := by cases h : t.data.toList.isEmpty; exact absurd (.inl h) h1; rfl
    have hx : t.exec = false := by cases h : t.exec; rfl; exact absurd (.inr h) h1
    clear h1 c2 z2
    have HK : Hid (∀ i x, t.kids[i]? = some x → ∃ u, KidAt w B d b off i x u) := hk
    clear hk
    go_enter Tryz.func95, Tryz.ntmps95
    go_wp2
    have q3 : (w.alloc (.cells #[.string t.kind, .string t.data, .bool false, .slice (some ⟨b, off, none⟩) t.kids.length cap] 24)).cell? ⟨w.heap.size, 3, none⟩ = some (.slice (some ⟨b, off, none⟩) t.kids.length cap) := by rw [World.cell?_alloc_at _ _ _ _ rfl]; rfl
    have hW : Below w.heap.size w (w.alloc (.cells #[.string t.kind, .string t.data, .bool false, .slice (some ⟨b, off, none⟩) t.kids.length cap] 24)) := HB.out _
    have hz : (w.alloc (.cells #[.string t.kind, .string t.data, .bool false, .slice (some ⟨b, off, none⟩) t.kids.length cap] 24)).heap.size = w.heap.size + 1 := by simp
    generalize w.alloc (.cells #[.string t.kind, .string t.data, .bool false, .slice (some ⟨b, off, none⟩) t.kids.length cap] 24) = W1 at *
    have HZ : Hid (W1.heap.size = w.heap.size + 1) := hz
    clear hz hd hx
    go_loopw [17] (fun i wr => ∃ k : Nat, k ≤ t.kids.length ∧ i = .int .i64 k ∧ Below W1.heap.size W1 wr ∧ (t.kids.take k).all (fun x => nameB x.1) = true) (fun i _ => t.kids.length - (intOf i).toNat)
    case atStart => exact ⟨0, Nat.zero_le _, rfl, Below.refl _ _, by simp⟩
    case round =>
      obtain ⟨k, hk, rfl, hb, hall⟩ := hrel
      have HA : Hid ((t.kids.take k).all (fun x => nameB x.1) = true) := hall
      have hbw : Below w.heap.size w wr := hW.trans (hb.mono hW.size)
      have S' := S.below hbw
      clear hall
      by_cases hlt : k < t.kids.length
      · obtain ⟨x, hx'⟩ : ∃ x, t.kids[k]? = some x := ⟨t.kids[k], List.getElem?_eq_getElem hlt⟩
        obtain ⟨u, K0⟩ := HK.out k x hx'
        have K := K0.below hbw hB
        obtain ⟨ua, uc, rfl⟩ := K.lies.form
        have HS : Hid _ := kids_snoc (p := fun x => nameB x.1) hx'
        have HX : Hid (t.kids[k]? = some x) := hx'
        clear hx' K0
        have n0 := K.name
        have n1 := K.kind
        have n2 := K.data
        have n3 := K.exec
        have n4 := K.kids
        have hs : x.1.size ≤ maxLen := by have := K.size; unfold maxLen; omega
        cases hn : nameB x.1
        · have HM : Hid (t.kids.all (fun x => nameB x.1) = false) := kids_miss (p := fun x => nameB x.1) HX.out hn
          have c4 := S'.name
          have z4 := lt_of_cell c4
          clear S' S
          go_wp2_with fail
          refine (name_any x.1 _ hs).mono ?_
          rintro e w' ⟨rfl, rfl⟩
          go_wp2_with fail
          go_ret
          exact ⟨ret_val (by rw [HE.out, HM.out]; rfl), hbw.alloc hbw.size _⟩
        · have HN : Hid (nameB x.1 = true) := hn
          have hbn := hb.alloc hb.size
          go_wp2_with fail
          refine (name_any x.1 _ hs).mono ?_
          rintro e w' ⟨rfl, rfl⟩
          go_wp2_with fail
          go_roundw
          case rel => exact ⟨k + 1, by omega, by go_num, hbn _, by rw [HS.out, HA.out]; exact HN.out⟩
          case measure => simp [intOf]; omega
      · have HM : Hid (t.kids.all (fun x => nameB x.1) = true) := by
          have := HA.out
          rw [List.take_of_length_le (by omega)] at this
          exact this
        have q3' : wr.cell? ⟨w.heap.size, 3, none⟩ = some (.slice (some ⟨b, off, none⟩) t.kids.length cap) := by rw [hb.cell (p := ⟨w.heap.size, 3, none⟩) (by rw [HZ.out]; exact Nat.lt_succ_self _)]; exact q3
        have c9 := S'.order
        have z9 := lt_of_cell c9
        clear q3 S
        go_wp2_with fail
        go_loopw [5] (fun i w2 => ∃ j m : Nat, (j = 0 ∨ j < t.kids.length) ∧ i = .int .i64 ((j : Int) + 1) ∧ w2 = wr.drewN m ∧ risesTo t.kids (j + 1) = true) (fun i _ => t.kids.length - (intOf i).toNat)
        case atStart => exact ⟨0, 0, .inl rfl, by simp, rfl, risesTo_one _⟩
        case round =>
          obtain ⟨j, m, hj, rfl, rfl, hr⟩ := hrel
          have HR : Hid (risesTo t.kids (j + 1) = true) := hr
          clear hr
          by_cases hlt : j + 1 < t.kids.length
          · obtain ⟨x, hx'⟩ : ∃ x, t.kids[j]? = some x := ⟨t.kids[j], List.getElem?_eq_getElem (by omega)⟩
            obtain ⟨y, hy'⟩ : ∃ y, t.kids[j + 1]? = some y := ⟨t.kids[j + 1], List.getElem?_eq_getElem hlt⟩
            obtain ⟨u, K0⟩ := HK.out j x hx'
            obtain ⟨v, L0⟩ := HK.out (j + 1) y hy'
            have n0 := (K0.below hbw hB).name
            have n1 := (L0.below hbw hB).name
            have HS : Hid _ := risesTo_succ hx' hy'
            clear hx' hy' K0 L0
            cases hn : Op.bytesLess x.1.toList y.1.toList
            · have HM2 : Hid (risesTo t.kids t.kids.length = false) := risesTo_mono (k := j + 1 + 1) (by omega) (by rw [HS.out, hn]; simp)
              go_wp2_with fail
              go_quiet (fail)
              go_wp2_with fail
              go_ret
              exact ⟨ret_val (by rw [HE.out, HM.out, HM2.out]; rfl), below_drewN hbw _⟩
            · have HN : Hid (Op.bytesLess x.1.toList y.1.toList = true) := hn
              go_wp2_with fail
              go_quiet (fail)
              go_wp2_with fail
              go_roundw
              case rel => exact ⟨j + 1, _, .inr hlt, by go_num, rfl, by rw [HS.out, HR.out]; exact HN.out⟩
              case measure => simp [intOf]; omega
          · have HM2 : Hid (risesTo t.kids t.kids.length = true) := by
              cases h : risesTo t.kids t.kids.length
              · have := risesTo_mono (n := j + 1) (by omega) h
                rw [HR.out] at this; cases this
              · exact (rfl : true = true)
            go_wp2_with fail
            go_ret
            exact ⟨ret_val (by rw [HE.out, HM.out, HM2.out]; rfl), below_drewN hbw _⟩

/-- checkDir, whatever kids. -/
theorem checkDir_any (a : Nat → Addr) (t : Tree) (B d : Nat) (u : Value) (w : World) (S : Sen a w) (hB : B ≤ w.heap.size) (hl : Lies w B (d + 1) t.kids u) :
    Calls Tryz.prog 95 #[.agg #[.string t.kind, .string t.data, .bool t.exec, u]] w fun e w' => e = .returned (errV a (dirErr t)) ∧ Below w.heap.size w w' := by
  obtain ⟨hlen, ⟨hn, ad, cap, rfl⟩ | ⟨b, off, cap, rfl, hb, hk⟩⟩ := hl.open
  · exact checkDir_none a t ad cap w S hn
  · exact checkDir_some a t B d b off cap w S hlen hB hk

set_option maxHeartbeats 1000000 in
theorem checkNode_any (a : Nat → Addr) (t : Tree) (B d : Nat) (u : Value) (w : World) (S : Sen a w) (hB : B ≤ w.heap.size) (hl : Lies w B (d + 1) t.kids u) (hs : t.data.size ≤ maxLen) :
    Calls Tryz.prog 67 #[.agg #[.string t.kind, .string t.data, .bool t.exec, u]] w fun e w' => e = .returned (errV a (nodeErr t)) ∧ Below w.heap.size w w' := by
  have c3 := S.kind
  have z3 := lt_of_cell c3
  have HB : Hid (∀ o, Below w.heap.size w (w.alloc o)) := fun o => (Below.refl _ _).alloc (Nat.le_refl _) o
  have HS : Hid (∀ o, Sen a (w.alloc o)) := fun o => S.below (HB.out o)
  have HL : Hid (∀ o, Lies (w.alloc o) B (d + 1) t.kids u) := fun o => hl.below (HB.out o) hB
  obtain ⟨ad, cap, rfl⟩ := hl.form
  clear hl S
  cases hf : (t.kind.toList == [102, 105, 108, 101])
  · cases hd : (t.kind.toList == [100, 105, 114])
    · cases hk : (t.kind.toList == [108, 105, 110, 107])
      · have HE : Hid (nodeErr t = some 3) := show _ = _ by unfold nodeErr isFile isDir isLink; rw [hf, hd, hk]; rfl
        go_enter Tryz.func67, Tryz.ntmps67
        go_wp2_with fail
        go_ret
        exact ⟨ret_val (by rw [HE.out]; rfl), HB.out _⟩
      · have HE : Hid (nodeErr t = linkErr t) := show _ = _ by unfold nodeErr isFile isDir isLink; rw [hf, hd, hk]; rfl
        go_enter Tryz.func67, Tryz.ntmps67
        go_wp2_with fail
        refine (checkLink_any a t ad cap _ (HS.out _) hs).mono ?_
        rintro e w' ⟨rfl, hb⟩
        go_wp2_with fail
        go_ret
        exact ⟨ret_val (by rw [HE.out]; rfl), (HB.out _).trans (hb.mono (by simp))⟩
    · have HE : Hid (nodeErr t = dirErr t) := show _ = _ by unfold nodeErr isFile isDir isLink; rw [hf, hd]; rfl
      go_enter Tryz.func67, Tryz.ntmps67
      go_wp2_with fail
      refine (checkDir_any a t B d _ _ (HS.out _) (by simp; omega) (HL.out _)).mono ?_
      rintro e w' ⟨rfl, hb⟩
      go_wp2_with fail
      go_ret
      exact ⟨ret_val (by rw [HE.out]; rfl), (HB.out _).trans (hb.mono (by simp))⟩
  · have HE : Hid (nodeErr t = fileErr t) := show _ = _ by unfold nodeErr isFile isDir isLink; rw [hf]; rfl
    go_enter Tryz.func67, Tryz.ntmps67
    go_wp2_with fail
    refine (checkFile_any a t ad cap _ (HS.out _)).mono ?_
    rintro e w' ⟨rfl, hb⟩
    go_wp2_with fail
    go_ret
    exact ⟨ret_val (by rw [HE.out]; rfl), (HB.out _).trans (hb.mono (by simp))⟩
end Go.Proofs.YtpjjpmikhjlgnaaGreatDoor
