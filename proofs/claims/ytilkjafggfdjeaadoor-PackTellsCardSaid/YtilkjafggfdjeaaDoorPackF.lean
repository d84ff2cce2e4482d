/-
  The contract of package pack's reader: node.
  Conditions: the sentinels hold what the program's text lays; the reader lies in a block of its own, behind them.
-/
import Derived.Test.YtilkjafggfdjeaaDoorPackE
import Derived.BigRegion
namespace Go.Proofs.YtilkjafggfdjeaaDoor
open Go.RowKit
attribute [local go_sem ↓] Go.wp_at_zero Go.wp_at_succ

theorem Rd.set1 {rb n : Nat} {s : ByteArray} {w : World} (R : Rd rb s n w) (m : Nat) : Rd rb s m (w.setCell ⟨rb, 1, none⟩ (.int .i64 (m : Int))) := by
  unfold Rd at *
  simp [World.setCell, Array.getElem?_modify, R]
theorem Rd.lies {w : World} {Q : Nat → Prop} {f : Nat} {ad : Option Addr} {c : Nat} : LiesQ w Q (f + 1) [] (.slice ad 0 c) := ⟨ad, c, rfl, by simp, fun i x h => by simp at h⟩

theorem byteN {c : UInt8} {n : Nat} (h : n < 256) (e : (c.toNat : Int) = (n : Int)) : c = UInt8.ofNat n := by
  apply UInt8.toNat_inj.1
  rw [UInt8.toNat_ofNat']
  omega
theorem rest_le {s : ByteArray} {r : List UInt8} (h : r.length ≤ (s.data.toList.drop 1).length) : (bs r).size ≤ s.size := by
  have : s.data.toList.length = s.size := by simp
  rw [List.length_drop] at h
  rw [bs_size]
  omega
theorem nodeR_full {f n : Nat} {l : List UInt8} (h : 200 < n + 1) : nodeR (f + 1) (n, l) = .error 7 := by
  unfold nodeR
  simp only
  rw [if_pos h]
theorem nodeR_cut {f n : Nat} {l : List UInt8} (h : ¬ 200 < n + 1) (hl : l = []) : nodeR (f + 1) (n, l) = .error 0 := by
  subst hl
  unfold nodeR
  simp only
  rw [if_neg h]
theorem nodeR_on {f n : Nat} {c : UInt8} {r l : List UInt8} (h : ¬ 200 < n + 1) (hl : l = c :: r) : nodeR (f + 1) (n, l) = if c = 102 ∨ c = 120 then leafR fileK (decide (c = 120)) (n + 1) r else if c = 108 then leafR linkK false (n + 1) r else if c = 100 then dirR (nodeR f) (n + 1) r else .error 0 := by
  subst hl
  unfold nodeR
  simp only
  rw [if_neg h]

set_option maxRecDepth 100000 in
set_option maxHeartbeats 4000000 in
theorem node_any (a : Nat → Addr) (B rb : Nat) (hB : B ≤ rb) : ∀ (f deep n : Nat) (s : ByteArray) (w : World), deep + f = 9 → SentsB a B w → Rd rb s n w → s.size ≤ 140737488355328 → n ≤ 200 →
    Calls Tryd.prog 68 #[.pointer (some ⟨rb, 0, none⟩), .int .i64 (deep : Int)] w (ResPost (nodeR f (n, s.data.toList)) a rb f s w) := by
  intro f
  induction f with
  | zero =>
    intro deep n s w hdf S R hs hn
    have hrb := lt_of_row R
    have d9 : deep = 9 := by omega
    have c1 := R.cell1
    have f1 := R.free 1
    have c8 := S.is.deep
    have z8 := lt_of_cell c8
    have hn1 : IntKind.i64.wrap ((n : Int) + 1) = (n : Int) + 1 := by simp (disch := omega) only [IntWalk.i64_in]
    have HK : Hid (∀ v, Kept (fun k => k = rb) w (w.setCell ⟨rb, 1, none⟩ v)) := fun v => Kept.setCell (C := fun j => j = rb) (p := ⟨rb, 1, none⟩) (Kept.refl _ _) rfl v
    have HR : Hid (Rd rb s (n + 1) (w.setCell ⟨rb, 1, none⟩ (.int .i64 ((n : Int) + 1)))) := R.set1 _
    have hlow : 0 ≠ rb := by have := S.low 0 (by decide); omega
    clear S R hdf
    subst d9
    go_enter Tryd.func68, Tryd.ntmps68
    go_wp2_with fail
    go_region
    go_wp2_with fail
    refine bodyPost_ret (v := .tuple #[.agg #[.string { data := #[] }, .string { data := #[] }, .bool false, .slice none 0 0], .iface 176 (.pointer (some (a 8)))]) (by simp [results, Tryd.results68, go_sem]) rfl ?_
    exact ResPost.no rfl ((HR.out.alloc _).drewN 1) ((HK.out _).alloc _).drew
  | succ f ih =>
    intro deep n s w hdf S R hs hn
    have hrb := lt_of_row R
    have hd8 : (deep : Int) ≤ 8 := by omega
    have c0 := R.cell
    have f0 := R.free 0
    have c1 := R.cell1
    have f1 := R.free 1
    have hn1 : IntKind.i64.wrap ((n : Int) + 1) = (n : Int) + 1 := by simp (disch := omega) only [IntWalk.i64_in]
    have HK : Hid (∀ v, Kept (fun k => k = rb) w (w.setCell ⟨rb, 1, none⟩ v)) := fun v => Kept.setCell (C := fun j => j = rb) (p := ⟨rb, 1, none⟩) (Kept.refl _ _) rfl v
    have HR : Hid (Rd rb s (n + 1) (w.setCell ⟨rb, 1, none⟩ (.int .i64 ((n : Int) + 1)))) := R.set1 _
    by_cases hful : 200 < n + 1
    · have HN : Hid (nodeR (f + 1) (n, s.data.toList) = .error 7) := nodeR_full hful
      have hful' : (200 : Int) < (n : Int) + 1 := by omega
      have c7 := S.is.full
      have z7 := lt_of_cell c7
      have hlow : 1 ≠ rb := by have := S.low 1 (by decide); omega
      clear S R ih
      go_enter Tryd.func68, Tryd.ntmps68
      go_wp2_with fail
      go_region
      go_wp2_with fail
      refine bodyPost_ret (v := .tuple #[.agg #[.string { data := #[] }, .string { data := #[] }, .bool false, .slice none 0 0], .iface 176 (.pointer (some (a 7)))]) (by simp [results, Tryd.results68, go_sem]) rfl ?_
      exact ResPost.no HN.out ((HR.out.alloc _).drewN 1) ((HK.out _).alloc _).drew
    · have hful' : (n : Int) + 1 ≤ 200 := by omega
      by_cases hemp : s.size = 0
      · have hl : s.data.toList = [] := List.eq_nil_of_length_eq_zero (by simpa using hemp)
        have HN : Hid (nodeR (f + 1) (n, s.data.toList) = .error 0) := nodeR_cut hful hl
        have he : s = { data := #[] } := by
          rw [← bs_data s, hl]; rfl
        have cT := S.is.text
        have zT := lt_of_cell cT
        have hlow : 3 ≠ rb := by have := S.low 3 (by decide); omega
        clear S R ih hl hemp
        subst he
        go_enter Tryd.func68, Tryd.ntmps68
        go_wp2_with fail
        go_region
        go_wp2_with fail
        refine bodyPost_ret (v := .tuple #[.agg #[.string { data := #[] }, .string { data := #[] }, .bool false, .slice none 0 0], .iface 176 (.pointer (some (a 0)))]) (by simp [results, Tryd.results68, go_sem]) rfl ?_
        exact ResPost.no HN.out ((HR.out.alloc _).drewN 1) ((HK.out _).alloc _).drew
      · have h0 : 0 < s.size := by omega
        have hl : s.data.toList = s[0] :: s.data.toList.drop 1 := by
          have := List.drop_eq_getElem_cons (l := s.data.toList) (i := 0) (by simpa using h0)
          rw [List.drop_zero] at this
          exact this
        have HN : Hid _ := nodeR_on (f := f) (n := n) hful hl
        have he : s.toList.isEmpty = false := by rw [ByteArray.toList_eq, hl]; rfl
        have h1s : (1 : Int) ≤ (s.size : Int) := by omega
        have HRA : Hid (Rd rb (s.extract 1 s.size) (n + 1) (((w.setCell ⟨rb, 1, none⟩ (.int .i64 ((n : Int) + 1))).setCell ⟨rb, 0, none⟩ (.string (s.extract 1 s.size))).alloc (.cells #[.string { data := #[] }, .string { data := #[] }, .bool false, .slice none 0 0] 24))) := ((R.set1 (n + 1)).set _).alloc _
        have hKA : Kept (fun k => k = rb) w (((w.setCell ⟨rb, 1, none⟩ (.int .i64 ((n : Int) + 1))).setCell ⟨rb, 0, none⟩ (.string (s.extract 1 s.size))).alloc (.cells #[.string { data := #[] }, .string { data := #[] }, .bool false, .slice none 0 0] 24)) := (Kept.setCell (p := ⟨rb, 0, none⟩) (Kept.setCell (C := fun j => j = rb) (p := ⟨rb, 1, none⟩) (Kept.refl _ _) rfl _) rfl _).alloc _
        have HKA : Hid _ := hKA
        have HSA : Hid (SentsB a B (((w.setCell ⟨rb, 1, none⟩ (.int .i64 ((n : Int) + 1))).setCell ⟨rb, 0, none⟩ (.string (s.extract 1 s.size))).alloc (.cells #[.string { data := #[] }, .string { data := #[] }, .bool false, .slice none 0 0] 24))) := S.kept hKA hB (by omega)
        have hsz : ((w.setCell ⟨rb, 1, none⟩ (.int .i64 ((n : Int) + 1))).setCell ⟨rb, 0, none⟩ (.string (s.extract 1 s.size))).heap.size = w.heap.size := by simp [World.setCell]
        have HWZ : Hid ((((w.setCell ⟨rb, 1, none⟩ (.int .i64 ((n : Int) + 1))).setCell ⟨rb, 0, none⟩ (.string (s.extract 1 s.size))).alloc (.cells #[.string { data := #[] }, .string { data := #[] }, .bool false, .slice none 0 0] 24)).heap.size = w.heap.size + 1) := by rw [World.size_alloc, hsz]; exact rfl
        have HROW : Hid ((((w.setCell ⟨rb, 1, none⟩ (.int .i64 ((n : Int) + 1))).setCell ⟨rb, 0, none⟩ (.string (s.extract 1 s.size))).alloc (.cells #[.string { data := #[] }, .string { data := #[] }, .bool false, .slice none 0 0] 24)).heap[w.heap.size]? = some (.cells #[.string { data := #[] }, .string { data := #[] }, .bool false, .slice none 0 0] 24 (0, 0))) := by
          have := row_alloc' ((w.setCell ⟨rb, 1, none⟩ (.int .i64 ((n : Int) + 1))).setCell ⟨rb, 0, none⟩ (.string (s.extract 1 s.size))) #[.string { data := #[] }, .string { data := #[] }, .bool false, .slice none 0 0] 24
          rw [hsz] at this
          exact this
        have HEX : Hid (s.extract 1 s.size = bs (s.data.toList.drop 1)) := extract_drop s 1
        have hexs : (s.extract 1 s.size).size = s.size - 1 := by rw [HEX.out, bs_size, List.length_drop]; simp
        have HT : Hid (w.cell? ⟨3, 0, none⟩ = some (.iface 176 (.pointer (some (a 0)))) ∧ 3 ≠ rb) := ⟨S.is.text, by have := S.low 3 (by decide); omega⟩
        clear hl hemp hKA hsz S R
        have HBY : Hid _ := bytes_any a B rb (n + 1) _ _ HSA.out hB HRA.out (by unfold maxLen; omega)
        by_cases hc1 : s[0] = 102
        · have hc1' : ((s[0].toNat : Int) == 102) = true := by rw [hc1]; rfl
          go_enter Tryd.func68, Tryd.ntmps68
          go_wp2_with fail
          refine Calls.mono HBY.out ?_
          rintro e w2 ⟨s2, R2, K2, ⟨hb, rfl⟩ | ⟨d, r2, hb, rfl, rfl⟩⟩
          · rw [HEX.out, bs_list] at hb
            have HN2 : Hid (nodeR (f + 1) (n, s.data.toList) = .error 0) := by rw [HN.out]; rw [if_pos (.inl hc1), show decide (s[0] = 120) = false by rw [hc1]; decide]; unfold leafR; rw [hb]; exact rfl
            have hres : w2.heap[w.heap.size]? = some (.cells #[.string { data := #[] }, .string { data := #[] }, .bool false, .slice none 0 0] 24 (0, 0)) := by rw [K2.block w.heap.size (by rw [HWZ.out]; omega) (by omega)]; exact HROW.out
            obtain ⟨⟨q0, q1, q2, q3⟩, g0, g1, g2, g3⟩ := row4 hres
            have HR2 : Hid (Rd rb s2 (n + 1) w2) := R2
            have HK2 : Hid (Kept (fun k => k = rb) w w2) := HKA.out.trans K2 (fun k hk => .inl hk)
            clear R2 K2 hb hres HBY HN HRA HKA HSA HROW ih
            unfold errV
            go_wp2_with fail
            refine bodyPost_ret (v := .tuple #[.agg #[.string { data := #[102, 105, 108, 101] }, .string { data := #[] }, .bool false, .slice none 0 0], .iface 176 (.pointer (some (a 0)))]) (by simp [results, Tryd.results68, go_sem, q0, q1, q2, q3]) rfl ?_
            have hS := ((((SameBut.refl w.heap.size w2).set 0 (.string { data := #[102, 105, 108, 101] })).set 1 (.string { data := #[] })).set 2 (.bool false)).set 3 (.slice none 0 0)
            exact ResPost.no HN2.out (hS.rd (by omega) HR2.out) (hS.kept HK2.out)
          · rw [HEX.out, bs_list] at hb
            have hbl := (bytesR_len hb).2
            have HN2 : Hid (nodeR (f + 1) (n, s.data.toList) = .ok (⟨fileK, bs d, false, []⟩, (n + 1, r2))) := by rw [HN.out]; rw [if_pos (.inl hc1), show decide (s[0] = 120) = false by rw [hc1]; decide]; unfold leafR; rw [hb]; exact rfl
            have hres : w2.heap[w.heap.size]? = some (.cells #[.string { data := #[] }, .string { data := #[] }, .bool false, .slice none 0 0] 24 (0, 0)) := by rw [K2.block w.heap.size (by rw [HWZ.out]; omega) (by omega)]; exact HROW.out
            obtain ⟨⟨q0, q1, q2, q3⟩, g0, g1, g2, g3⟩ := row4 hres
            have HR2 : Hid (Rd rb (bs r2) (n + 1) w2) := R2
            have HK2 : Hid (Kept (fun k => k = rb) w w2) := HKA.out.trans K2 (fun k hk => .inl hk)
            clear R2 K2 hb hres HBY HN HRA HKA HSA HROW ih
            go_wp2_with fail
            refine bodyPost_ret (v := .tuple #[.agg #[.string { data := #[102, 105, 108, 101] }, .string (bs d), .bool false, .slice none 0 0], .nilIface]) (by simp [results, Tryd.results68, go_sem, q0, q1, q2, q3]) rfl ?_
            have hS := ((((SameBut.refl w.heap.size w2).set 0 (.string { data := #[102, 105, 108, 101] })).set 1 (.string (bs d))).set 2 (.bool false)).set 3 (.slice none 0 0)
            exact ResPost.yes (kd := fileK) HN2.out rfl (by omega) (hS.rd (by omega) HR2.out) (hS.kept HK2.out) (rest_le hbl) Rd.lies
        · by_cases hc2 : s[0] = 120
          · have hc2' : ((s[0].toNat : Int) == 120) = true := by rw [hc2]; rfl
            go_enter Tryd.func68, Tryd.ntmps68
            go_wp2_with fail
            refine Calls.mono HBY.out ?_
            rintro e w2 ⟨s2, R2, K2, ⟨hb, rfl⟩ | ⟨d, r2, hb, rfl, rfl⟩⟩
            · rw [HEX.out, bs_list] at hb
              have HN2 : Hid (nodeR (f + 1) (n, s.data.toList) = .error 0) := by rw [HN.out]; rw [if_pos (.inr hc2), show decide (s[0] = 120) = true by rw [hc2]; decide]; unfold leafR; rw [hb]; exact rfl
              have hres : w2.heap[w.heap.size]? = some (.cells #[.string { data := #[] }, .string { data := #[] }, .bool false, .slice none 0 0] 24 (0, 0)) := by rw [K2.block w.heap.size (by rw [HWZ.out]; omega) (by omega)]; exact HROW.out
              obtain ⟨⟨q0, q1, q2, q3⟩, g0, g1, g2, g3⟩ := row4 hres
              have HR2 : Hid (Rd rb s2 (n + 1) w2) := R2
              have HK2 : Hid (Kept (fun k => k = rb) w w2) := HKA.out.trans K2 (fun k hk => .inl hk)
              clear R2 K2 hb hres HBY HN HRA HKA HSA HROW ih
              unfold errV
              go_wp2_with fail
              refine bodyPost_ret (v := .tuple #[.agg #[.string { data := #[102, 105, 108, 101] }, .string { data := #[] }, .bool true, .slice none 0 0], .iface 176 (.pointer (some (a 0)))]) (by simp [results, Tryd.results68, go_sem, q0, q1, q2, q3]) rfl ?_
              have hS := ((((SameBut.refl w.heap.size w2).set 0 (.string { data := #[102, 105, 108, 101] })).set 1 (.string { data := #[] })).set 2 (.bool true)).set 3 (.slice none 0 0)
              exact ResPost.no HN2.out (hS.rd (by omega) HR2.out) (hS.kept HK2.out)
            · rw [HEX.out, bs_list] at hb
              have hbl := (bytesR_len hb).2
              have HN2 : Hid (nodeR (f + 1) (n, s.data.toList) = .ok (⟨fileK, bs d, true, []⟩, (n + 1, r2))) := by rw [HN.out]; rw [if_pos (.inr hc2), show decide (s[0] = 120) = true by rw [hc2]; decide]; unfold leafR; rw [hb]; exact rfl
              have hres : w2.heap[w.heap.size]? = some (.cells #[.string { data := #[] }, .string { data := #[] }, .bool false, .slice none 0 0] 24 (0, 0)) := by rw [K2.block w.heap.size (by rw [HWZ.out]; omega) (by omega)]; exact HROW.out
              obtain ⟨⟨q0, q1, q2, q3⟩, g0, g1, g2, g3⟩ := row4 hres
              have HR2 : Hid (Rd rb (bs r2) (n + 1) w2) := R2
              have HK2 : Hid (Kept (fun k => k = rb) w w2) := HKA.out.trans K2 (fun k hk => .inl hk)
              clear R2 K2 hb hres HBY HN HRA HKA HSA HROW ih
              go_wp2_with fail
              refine bodyPost_ret (v := .tuple #[.agg #[.string { data := #[102, 105, 108, 101] }, .string (bs d), .bool true, .slice none 0 0], .nilIface]) (by simp [results, Tryd.results68, go_sem, q0, q1, q2, q3]) rfl ?_
              have hS := ((((SameBut.refl w.heap.size w2).set 0 (.string { data := #[102, 105, 108, 101] })).set 1 (.string (bs d))).set 2 (.bool true)).set 3 (.slice none 0 0)
              exact ResPost.yes (kd := fileK) HN2.out rfl (by omega) (hS.rd (by omega) HR2.out) (hS.kept HK2.out) (rest_le hbl) Rd.lies
          · have hc1' : ((s[0].toNat : Int) == 102) = false := by
              simp only [beq_eq_false_iff_ne, ne_eq]
              exact fun e => hc1 (byteN (by decide) e)
            have hc2' : ((s[0].toNat : Int) == 120) = false := by
              simp only [beq_eq_false_iff_ne, ne_eq]
              exact fun e => hc2 (byteN (by decide) e)
            have hc12 : ¬ (s[0] = 102 ∨ s[0] = 120) := fun h => h.elim hc1 hc2
            by_cases hc3 : s[0] = 108
            · have hc3' : ((s[0].toNat : Int) == 108) = true := by rw [hc3]; rfl
              go_enter Tryd.func68, Tryd.ntmps68
              go_wp2_with fail
              refine Calls.mono HBY.out ?_
              rintro e w2 ⟨s2, R2, K2, ⟨hb, rfl⟩ | ⟨d, r2, hb, rfl, rfl⟩⟩
              · rw [HEX.out, bs_list] at hb
                have HN2 : Hid (nodeR (f + 1) (n, s.data.toList) = .error 0) := by rw [HN.out]; rw [if_neg hc12, if_pos hc3]; unfold leafR; rw [hb]; exact rfl
                have hres : w2.heap[w.heap.size]? = some (.cells #[.string { data := #[] }, .string { data := #[] }, .bool false, .slice none 0 0] 24 (0, 0)) := by rw [K2.block w.heap.size (by rw [HWZ.out]; omega) (by omega)]; exact HROW.out
                obtain ⟨⟨q0, q1, q2, q3⟩, g0, g1, g2, g3⟩ := row4 hres
                have HR2 : Hid (Rd rb s2 (n + 1) w2) := R2
                have HK2 : Hid (Kept (fun k => k = rb) w w2) := HKA.out.trans K2 (fun k hk => .inl hk)
                clear R2 K2 hb hres HBY HN HRA HKA HSA HROW ih
                unfold errV
                go_wp2_with fail
                refine bodyPost_ret (v := .tuple #[.agg #[.string { data := #[108, 105, 110, 107] }, .string { data := #[] }, .bool false, .slice none 0 0], .iface 176 (.pointer (some (a 0)))]) (by simp [results, Tryd.results68, go_sem, q0, q1, q2, q3]) rfl ?_
                have hS := ((((SameBut.refl w.heap.size w2).set 0 (.string { data := #[108, 105, 110, 107] })).set 1 (.string { data := #[] })).set 2 (.bool false)).set 3 (.slice none 0 0)
                exact ResPost.no HN2.out (hS.rd (by omega) HR2.out) (hS.kept HK2.out)
              · rw [HEX.out, bs_list] at hb
                have hbl := (bytesR_len hb).2
                have HN2 : Hid (nodeR (f + 1) (n, s.data.toList) = .ok (⟨linkK, bs d, false, []⟩, (n + 1, r2))) := by rw [HN.out]; rw [if_neg hc12, if_pos hc3]; unfold leafR; rw [hb]; exact rfl
                have hres : w2.heap[w.heap.size]? = some (.cells #[.string { data := #[] }, .string { data := #[] }, .bool false, .slice none 0 0] 24 (0, 0)) := by rw [K2.block w.heap.size (by rw [HWZ.out]; omega) (by omega)]; exact HROW.out
                obtain ⟨⟨q0, q1, q2, q3⟩, g0, g1, g2, g3⟩ := row4 hres
                have HR2 : Hid (Rd rb (bs r2) (n + 1) w2) := R2
                have HK2 : Hid (Kept (fun k => k = rb) w w2) := HKA.out.trans K2 (fun k hk => .inl hk)
                clear R2 K2 hb hres HBY HN HRA HKA HSA HROW ih
                go_wp2_with fail
                refine bodyPost_ret (v := .tuple #[.agg #[.string { data := #[108, 105, 110, 107] }, .string (bs d), .bool false, .slice none 0 0], .nilIface]) (by simp [results, Tryd.results68, go_sem, q0, q1, q2, q3]) rfl ?_
                have hS := ((((SameBut.refl w.heap.size w2).set 0 (.string { data := #[108, 105, 110, 107] })).set 1 (.string (bs d))).set 2 (.bool false)).set 3 (.slice none 0 0)
                exact ResPost.yes (kd := linkK) HN2.out rfl (by omega) (hS.rd (by omega) HR2.out) (hS.kept HK2.out) (rest_le hbl) Rd.lies
            · have hc3' : ((s[0].toNat : Int) == 108) = false := by
                simp only [beq_eq_false_iff_ne, ne_eq]
                exact fun e => hc3 (byteN (by decide) e)
              by_cases hc4 : s[0] = 100
              · have hc4' : ((s[0].toNat : Int) == 100) = true := by rw [hc4]; rfl
                have HDI : Hid _ := dir_any a B rb f deep (n + 1) _ _ HSA.out hB HRA.out (by omega) (by omega) (by omega) (fun n' s' w' S' R' h1 h2 => ih (deep + 1) n' s' w' (by omega) S' R' h1 h2)
                clear HBY ih
                go_enter Tryd.func68, Tryd.ntmps68
                go_wp2_with fail
                refine Calls.mono HDI.out ?_
                rintro e w2 ⟨s2, n2, R2, K2, ⟨er, kd, da, ex, ad, m, cp, hnd, rfl⟩ | ⟨tk, r2, uk, hnd, rfl, hs2, hn2, rfl, hlk⟩⟩
                · rw [HEX.out, bs_list] at hnd
                  have HN2 : Hid (nodeR (f + 1) (n, s.data.toList) = .error er) := by rw [HN.out, if_neg hc12, if_neg hc3, if_pos hc4]; exact hnd
                  have hres : w2.heap[w.heap.size]? = some (.cells #[.string { data := #[] }, .string { data := #[] }, .bool false, .slice none 0 0] 24 (0, 0)) := by rw [K2.block w.heap.size (by rw [HWZ.out]; omega) (by omega)]; exact HROW.out
                  obtain ⟨⟨q0, q1, q2, q3⟩, g0, g1, g2, g3⟩ := row4 hres
                  have HR2 : Hid (Rd rb s2 n2 w2) := R2
                  have HK2 : Hid (Kept (fun k => k = rb) w w2) := HKA.out.trans K2 (fun k hk => .inl hk)
                  clear R2 K2 hnd hres HDI HN HRA HKA HSA HROW
                  go_wp2_with fail
                  refine bodyPost_ret (v := .tuple #[.agg #[.string kd, .string da, .bool ex, .slice ad m cp], .iface 176 (.pointer (some (a er)))]) (by simp [results, Tryd.results68, go_sem, q0, q1, q2, q3]) rfl ?_
                  have hS := ((((SameBut.refl w.heap.size w2).set 0 (.string kd)).set 1 (.string da)).set 2 (.bool ex)).set 3 (.slice ad m cp)
                  exact ResPost.no HN2.out (hS.rd (by omega) HR2.out) (hS.kept HK2.out)
                · rw [HEX.out, bs_list] at hnd
                  obtain ⟨xa, xc, rfl⟩ := hlk.form
                  have HN2 : Hid (nodeR (f + 1) (n, s.data.toList) = .ok (tk, (n2, r2))) := by rw [HN.out, if_neg hc12, if_neg hc3, if_pos hc4]; exact hnd
                  have hres : w2.heap[w.heap.size]? = some (.cells #[.string { data := #[] }, .string { data := #[] }, .bool false, .slice none 0 0] 24 (0, 0)) := by rw [K2.block w.heap.size (by rw [HWZ.out]; omega) (by omega)]; exact HROW.out
                  obtain ⟨⟨q0, q1, q2, q3⟩, g0, g1, g2, g3⟩ := row4 hres
                  have HR2 : Hid (Rd rb (bs r2) n2 w2) := R2
                  have HK2 : Hid (Kept (fun k => k = rb) w w2) := HKA.out.trans K2 (fun k hk => .inl hk)
                  have HLK : Hid _ := hlk
                  clear R2 K2 hnd hres HDI HN HRA HKA HSA HROW hlk
                  go_wp2_with fail
                  refine bodyPost_ret (v := .tuple #[.agg #[.string tk.kind, .string tk.data, .bool tk.exec, .slice xa tk.kids.length xc], .nilIface]) (by simp [results, Tryd.results68, go_sem, q0, q1, q2, q3]) rfl ?_
                  have hS := ((((SameBut.refl w.heap.size w2).set 0 (.string tk.kind)).set 1 (.string tk.data)).set 2 (.bool tk.exec)).set 3 (.slice xa tk.kids.length xc)
                  exact ⟨bs r2, n2, hS.rd (by omega) HR2.out, hS.kept HK2.out, .inr ⟨tk, r2, _, HN2.out, rfl, by omega, hn2, rfl, LiesQ.kept (fun k hk => hS.block k (by have h1 := hk.1; rw [HWZ.out] at h1; omega)) (fun k hk => ⟨by have h1 := hk.1; rw [HWZ.out] at h1; omega, by rw [hS.size]; exact hk.2⟩) HLK.out⟩⟩
              · have hc4' : ((s[0].toNat : Int) == 100) = false := by
                  simp only [beq_eq_false_iff_ne, ne_eq]
                  exact fun e => hc4 (byteN (by decide) e)
                have HN2 : Hid (nodeR (f + 1) (n, s.data.toList) = .error 0) := by rw [HN.out, if_neg hc12, if_neg hc3, if_neg hc4]; exact rfl
                have cT : w.cell? ⟨3, 0, none⟩ = some (.iface 176 (.pointer (some (a 0)))) := HT.out.1
                have zT := lt_of_cell cT
                have hlow : 3 ≠ rb := HT.out.2
                clear HBY ih HN
                go_enter Tryd.func68, Tryd.ntmps68
                go_wp2_with fail
                go_region
                go_wp2_with fail
                refine bodyPost_ret (v := .tuple #[.agg #[.string { data := #[] }, .string { data := #[] }, .bool false, .slice none 0 0], .iface 176 (.pointer (some (a 0)))]) (by simp [results, Tryd.results68, go_sem]) rfl ?_
                exact ResPost.no HN2.out (HRA.out.drewN 1) HKA.out.drew
end Go.Proofs.YtilkjafggfdjeaaDoor
