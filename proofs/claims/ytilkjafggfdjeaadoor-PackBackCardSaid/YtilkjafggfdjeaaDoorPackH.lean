/-
  The contracts of pack.First and pack.Read.
  Conditions: the sentinels hold what the program's text lays; a tree that is read can be checked ('hal').
-/
import Derived.Test.YtilkjafggfdjeaaDoorPackG
namespace Go.Proofs.YtilkjafggfdjeaaDoor
open Go.RowKit
attribute [local go_sem ↓] Go.wp_at_zero Go.wp_at_succ

def firstR (s : ByteArray) : Except Nat (Tree × List UInt8) := if 20000 < s.size then .error 1 else match nodeR 9 (0, s.data.toList) with
  | .error e => .error e
  | .ok (t, (_, r)) => match treeErr 9 t with
    | some e => .error e
    | none => .ok (t, r)
theorem firstR_long {s : ByteArray} (h : 20000 < s.size) : firstR s = .error 1 := by unfold firstR; rw [if_pos h]
theorem firstR_err {s : ByteArray} {e : Nat} (h : ¬ 20000 < s.size) (hn : nodeR 9 (0, s.data.toList) = .error e) : firstR s = .error e := by unfold firstR; rw [if_neg h, hn]
theorem firstR_no {s : ByteArray} {t : Tree} {n e : Nat} {r : List UInt8} (h : ¬ 20000 < s.size) (hn : nodeR 9 (0, s.data.toList) = .ok (t, (n, r))) (ht : treeErr 9 t = some e) : firstR s = .error e := by unfold firstR; rw [if_neg h, hn]; simp only [ht]
theorem firstR_ok {s : ByteArray} {t : Tree} {n : Nat} {r : List UInt8} (h : ¬ 20000 < s.size) (hn : nodeR 9 (0, s.data.toList) = .ok (t, (n, r))) (ht : treeErr 9 t = none) : firstR s = .ok (t, r) := by unfold firstR; rw [if_neg h, hn]; simp only [ht]
/-- What First hands back. -/
def FirstPost (a : Nat → Addr) (s : ByteArray) (w : World) (e : Ending) (w' : World) : Prop := Below w.heap.size w w' ∧
  ((∃ er, firstR s = .error er ∧ e = .returned (.tuple #[.agg #[.string { data := #[] }, .string { data := #[] }, .bool false, .slice none 0 0], .string { data := #[] }, .iface 176 (.pointer (some (a er)))])) ∨
   (∃ t r u, firstR s = .ok (t, r) ∧ e = .returned (.tuple #[.agg #[.string t.kind, .string t.data, .bool t.exec, u], .string (bs r), .nilIface]) ∧ LiesQ w' (fun b => w.heap.size ≤ b ∧ b < w'.heap.size) 9 t.kids u))

set_option maxRecDepth 100000 in
set_option maxHeartbeats 4000000 in
theorem first_any (a : Nat → Addr) (s : ByteArray) (w : World) (S : Sen a w) (hal : ∀ t n r, nodeR 9 (0, s.data.toList) = .ok (t, (n, r)) → Alive ck ckOk 0 (pre 9 ByteArray.empty 0 t)) : Calls Tryd.prog 32 #[.string s] w (FirstPost a s w) := by
  have hA : ∀ o, Below w.heap.size w (w.alloc o) := fun o => (Below.refl _ _).alloc (Nat.le_refl _) o
  have HA : Hid _ := hA
  have HSE : Hid (Sen a w) := S
  have HBG : Hid (∀ o, Calls Tryd.prog 53 #[.string s] (w.alloc o) (BegPost a s (w.alloc o))) := fun o => begin_any a s _ (S.below (hA o))
  have HROW : Hid (∀ (c : Array Value) (T : TypeId), (w.alloc (.cells c T)).heap[w.heap.size]? = some (.cells c T (0, 0))) := row_alloc' w
  have HAL : Hid _ := hal
  clear S hA hal
  go_enter Tryd.func32, Tryd.ntmps32
  go_wp2_with fail
  refine Calls.mono (HBG.out _) ?_
  rintro e w1 ⟨hb1, h1⟩
  have hz := hb1.size
  simp only [World.size_alloc] at hz
  have hres : w1.heap[w.heap.size]? = some (.cells #[.string { data := #[] }, .string { data := #[] }, .bool false, .slice none 0 0] 24 (0, 0)) := by rw [hb1.block w.heap.size (by simp)]; exact HROW.out _ _
  obtain ⟨⟨q0, q1, q2, q3⟩, g0, g1, g2, g3⟩ := row4 hres
  have l0 : w.heap.size < w1.heap.size := by omega
  have HB1 : Hid (Below w.heap.size w w1) := (HA.out _).trans (hb1.mono (by simp))
  rcases h1 with ⟨hlg, rfl⟩ | ⟨er, kd, da, ex, ad, m, cp, q, hlg, hnd, rfl⟩ | ⟨t, n, r, u, hlg, hnd, hrl, rfl, hlk⟩
  · have HF : Hid (firstR s = .error 1) := firstR_long hlg
    clear hb1 hres HBG HAL
    go_wp2_with fail
    refine bodyPost_ret (v := .tuple #[.agg #[.string { data := #[] }, .string { data := #[] }, .bool false, .slice none 0 0], .string { data := #[] }, .iface 176 (.pointer (some (a 1)))]) (by simp [results, Tryd.results32, go_sem, q0, q1, q2, q3, l0]) rfl ?_
    have hS := ((((SameBut.refl w.heap.size w1).set 0 (.string { data := #[] })).set 1 (.string { data := #[] })).set 2 (.bool false)).set 3 (.slice none 0 0)
    exact ⟨(hS.below HB1.out (Nat.le_refl _)).alloc (by have := hS.size; omega) _, .inl ⟨1, HF.out, rfl⟩⟩
  · have HF : Hid (firstR s = .error er) := firstR_err hlg hnd
    clear hb1 hres HBG HAL hnd
    go_wp2_with fail
    refine bodyPost_ret (v := .tuple #[.agg #[.string { data := #[] }, .string { data := #[] }, .bool false, .slice none 0 0], .string { data := #[] }, .iface 176 (.pointer (some (a er)))]) (by simp [results, Tryd.results32, go_sem, q0, q1, q2, q3, l0]) rfl ?_
    have hS := ((((SameBut.refl w.heap.size w1).set 0 (.string { data := #[] })).set 1 (.string { data := #[] })).set 2 (.bool false)).set 3 (.slice none 0 0)
    exact ⟨(hS.below HB1.out (Nat.le_refl _)).alloc (by have := hS.size; omega) _, .inl ⟨er, HF.out, rfl⟩⟩
  · obtain ⟨xa, xc, rfl⟩ := hlk.form
    have hA2 : ∀ o, Below w1.heap.size w1 (w1.alloc o) := fun o => (Below.refl _ _).alloc (Nat.le_refl _) o
    have HA2 : Hid _ := hA2
    have HLK : Hid (LiesQ w1 (fun b => w.heap.size + 1 ≤ b ∧ b < w1.heap.size) 9 t.kids (.slice xa t.kids.length xc)) := LiesQ.kept (fun _ _ => rfl) (fun k hk => by simpa using hk) hlk
    have HCK : Hid (∀ o, Calls Tryd.prog 15 #[.agg #[.string t.kind, .string t.data, .bool t.exec, .slice xa t.kids.length xc]] (w1.alloc o) fun e w' => e = .returned (errV a (treeErr 9 t)) ∧ Below (w1.alloc o).heap.size (w1.alloc o) w') := fun o =>
      check_any a 9 (w1.alloc o).heap.size t _ (w1.alloc o) ((HSE.out.below (HB1.out.trans ((hA2 o).mono (by omega)))).atB) (Nat.le_refl _) (((LiesQ.lies (B := w1.heap.size) (fun k hk => hk.2) HLK.out).below (hA2 o) (Nat.le_refl _)).up (by simp) (Nat.le_refl _)) (HAL.out t n r hnd)
    have HROW1 : Hid (∀ (c : Array Value) (T : TypeId), (w1.alloc (.cells c T)).heap[w1.heap.size]? = some (.cells c T (0, 0))) := row_alloc' w1
    have HND : Hid _ := hnd
    have HRES : Hid _ := hres
    clear hb1 HBG HAL hnd hlk hA2 hres
    go_wp2_with fail
    refine Calls.mono (HCK.out _) ?_
    rintro e w3 ⟨rfl, hb3⟩
    have hz3 := hb3.size
    simp only [World.size_alloc] at hz3
    have hres3 : w3.heap[w.heap.size]? = some (.cells #[.string { data := #[] }, .string { data := #[] }, .bool false, .slice none 0 0] 24 (0, 0)) := by
      rw [hb3.block w.heap.size (by simp; omega), Below.heap_alloc _ _ _ l0]; exact HRES.out
    have hnod3 := (hb3.block w1.heap.size (by simp)).trans (HROW1.out #[.string t.kind, .string t.data, .bool t.exec, .slice xa t.kids.length xc] 24)
    have HB3 : Hid (Below w.heap.size w w3) := HB1.out.trans (((HA2.out _).mono (by omega)).trans (hb3.mono (by simp; omega)))
    have HL3 : Hid (LiesQ w3 (fun b => w.heap.size + 1 ≤ b ∧ b < w3.heap.size) 9 t.kids (.slice xa t.kids.length xc)) := LiesQ.kept (fun k hk => (hb3.block k (by simp; omega)).trans (Below.heap_alloc _ _ _ hk.2)) (fun k hk => ⟨hk.1, by omega⟩) HLK.out
    clear q0 q1 q2 q3 g0 g1 g2 g3
    obtain ⟨⟨q0, q1, q2, q3⟩, g0, g1, g2, g3⟩ := row4 hres3
    obtain ⟨⟨m0, m1, m2, m3⟩, _⟩ := row4 hnod3
    cases ht : treeErr 9 t with
    | some er =>
      have HF : Hid (firstR s = .error er) := firstR_no hlg HND.out ht
      unfold errV
      clear hb3 hres3 hnod3 HCK HROW1 HA2
      go_wp2_with fail
      refine bodyPost_ret (v := .tuple #[.agg #[.string { data := #[] }, .string { data := #[] }, .bool false, .slice none 0 0], .string { data := #[] }, .iface 176 (.pointer (some (a er)))]) (by simp [results, Tryd.results32, go_sem, q0, q1, q2, q3]) rfl ?_
      have hS := ((((SameBut.refl w.heap.size w3).set 0 (.string { data := #[] })).set 1 (.string { data := #[] })).set 2 (.bool false)).set 3 (.slice none 0 0)
      exact ⟨hS.below HB3.out (Nat.le_refl _), .inl ⟨er, HF.out, rfl⟩⟩
    | none =>
      have HF : Hid (firstR s = .ok (t, r)) := firstR_ok hlg HND.out ht
      unfold errV
      clear hb3 hres3 hnod3 HCK HROW1 HA2
      go_wp2_with fail
      refine bodyPost_ret (v := .tuple #[.agg #[.string t.kind, .string t.data, .bool t.exec, .slice xa t.kids.length xc], .string (bs r), .nilIface]) (by simp [results, Tryd.results32, go_sem, q0, q1, q2, q3]) rfl ?_
      have hS := ((((SameBut.refl w.heap.size w3).set 0 (.string t.kind)).set 1 (.string t.data)).set 2 (.bool t.exec)).set 3 (.slice xa t.kids.length xc)
      exact ⟨hS.below HB3.out (Nat.le_refl _), .inr ⟨t, r, _, HF.out, rfl, LiesQ.kept (fun k hk => hS.block k (by omega)) (fun k hk => ⟨by omega, by rw [hS.size]; exact hk.2⟩) HL3.out⟩⟩

def readR (s : ByteArray) : Except Nat Tree := if 20000 < s.size then .error 1 else match nodeR 9 (0, s.data.toList) with
  | .error e => .error e
  | .ok (t, (_, r)) => if r = [] then (match treeErr 9 t with
    | some e => .error e
    | none => .ok t) else .error 0
theorem readR_long {s : ByteArray} (h : 20000 < s.size) : readR s = .error 1 := by unfold readR; rw [if_pos h]
theorem readR_err {s : ByteArray} {e : Nat} (h : ¬ 20000 < s.size) (hn : nodeR 9 (0, s.data.toList) = .error e) : readR s = .error e := by unfold readR; rw [if_neg h, hn]
theorem readR_no {s : ByteArray} {t : Tree} {n e : Nat} {r : List UInt8} (h : ¬ 20000 < s.size) (hn : nodeR 9 (0, s.data.toList) = .ok (t, (n, r))) (hr : r = []) (ht : treeErr 9 t = some e) : readR s = .error e := by unfold readR; rw [if_neg h, hn]; simp only [if_pos hr, ht]
theorem readR_more {s : ByteArray} {t : Tree} {n : Nat} {r : List UInt8} (h : ¬ 20000 < s.size) (hn : nodeR 9 (0, s.data.toList) = .ok (t, (n, r))) (hr : ¬ r = []) : readR s = .error 0 := by unfold readR; rw [if_neg h, hn]; simp only [if_neg hr]
theorem readR_ok {s : ByteArray} {t : Tree} {n : Nat} {r : List UInt8} (h : ¬ 20000 < s.size) (hn : nodeR 9 (0, s.data.toList) = .ok (t, (n, r))) (hr : r = []) (ht : treeErr 9 t = none) : readR s = .ok t := by unfold readR; rw [if_neg h, hn]; simp only [if_pos hr, ht]
/-- What Read hands back. -/
def ReadPost (a : Nat → Addr) (s : ByteArray) (w : World) (e : Ending) (w' : World) : Prop := Below w.heap.size w w' ∧
  ((∃ er, readR s = .error er ∧ e = .returned (.tuple #[.agg #[.string { data := #[] }, .string { data := #[] }, .bool false, .slice none 0 0], .iface 176 (.pointer (some (a er)))])) ∨
   (∃ t u, readR s = .ok t ∧ e = .returned (.tuple #[.agg #[.string t.kind, .string t.data, .bool t.exec, u], .nilIface]) ∧ LiesQ w' (fun b => w.heap.size ≤ b ∧ b < w'.heap.size) 9 t.kids u))

set_option maxRecDepth 100000 in
set_option maxHeartbeats 4000000 in
theorem read_any (a : Nat → Addr) (s : ByteArray) (w : World) (S : Sen a w) (hal : ∀ t n r, nodeR 9 (0, s.data.toList) = .ok (t, (n, r)) → Alive ck ckOk 0 (pre 9 ByteArray.empty 0 t)) : Calls Tryd.prog 30 #[.string s] w (ReadPost a s w) := by
  have hA : ∀ o, Below w.heap.size w (w.alloc o) := fun o => (Below.refl _ _).alloc (Nat.le_refl _) o
  have HA : Hid _ := hA
  have HSE : Hid (Sen a w) := S
  have HBG : Hid (∀ o, Calls Tryd.prog 53 #[.string s] (w.alloc o) (BegPost a s (w.alloc o))) := fun o => begin_any a s _ (S.below (hA o))
  have HROW : Hid (∀ (c : Array Value) (T : TypeId), (w.alloc (.cells c T)).heap[w.heap.size]? = some (.cells c T (0, 0))) := row_alloc' w
  have HAL : Hid _ := hal
  clear S hA hal
  go_enter Tryd.func30, Tryd.ntmps30
  go_wp2_with fail
  refine Calls.mono (HBG.out _) ?_
  rintro e w1 ⟨hb1, h1⟩
  have hz := hb1.size
  simp only [World.size_alloc] at hz
  have hres : w1.heap[w.heap.size]? = some (.cells #[.string { data := #[] }, .string { data := #[] }, .bool false, .slice none 0 0] 24 (0, 0)) := by rw [hb1.block w.heap.size (by simp)]; exact HROW.out _ _
  obtain ⟨⟨q0, q1, q2, q3⟩, g0, g1, g2, g3⟩ := row4 hres
  have l0 : w.heap.size < w1.heap.size := by omega
  have HB1 : Hid (Below w.heap.size w w1) := (HA.out _).trans (hb1.mono (by simp))
  rcases h1 with ⟨hlg, rfl⟩ | ⟨er, kd, da, ex, ad, m, cp, q, hlg, hnd, rfl⟩ | ⟨t, n, r, u, hlg, hnd, hrl, rfl, hlk⟩
  · have HF : Hid (readR s = .error 1) := readR_long hlg
    clear hb1 hres HBG HAL
    go_wp2_with fail
    refine bodyPost_ret (v := .tuple #[.agg #[.string { data := #[] }, .string { data := #[] }, .bool false, .slice none 0 0], .iface 176 (.pointer (some (a 1)))]) (by simp [results, Tryd.results30, go_sem, q0, q1, q2, q3, l0]) rfl ?_
    have hS := ((((SameBut.refl w.heap.size w1).set 0 (.string { data := #[] })).set 1 (.string { data := #[] })).set 2 (.bool false)).set 3 (.slice none 0 0)
    exact ⟨(hS.below HB1.out (Nat.le_refl _)).alloc (by have := hS.size; omega) _, .inl ⟨1, HF.out, rfl⟩⟩
  · have HF : Hid (readR s = .error er) := readR_err hlg hnd
    clear hb1 hres HBG HAL hnd
    go_wp2_with fail
    refine bodyPost_ret (v := .tuple #[.agg #[.string { data := #[] }, .string { data := #[] }, .bool false, .slice none 0 0], .iface 176 (.pointer (some (a er)))]) (by simp [results, Tryd.results30, go_sem, q0, q1, q2, q3, l0]) rfl ?_
    have hS := ((((SameBut.refl w.heap.size w1).set 0 (.string { data := #[] })).set 1 (.string { data := #[] })).set 2 (.bool false)).set 3 (.slice none 0 0)
    exact ⟨(hS.below HB1.out (Nat.le_refl _)).alloc (by have := hS.size; omega) _, .inl ⟨er, HF.out, rfl⟩⟩
  · obtain ⟨xa, xc, rfl⟩ := hlk.form
    have hA2 : ∀ o, Below w1.heap.size w1 (w1.alloc o) := fun o => (Below.refl _ _).alloc (Nat.le_refl _) o
    have HA2 : Hid _ := hA2
    have HLK : Hid (LiesQ w1 (fun b => w.heap.size + 1 ≤ b ∧ b < w1.heap.size) 9 t.kids (.slice xa t.kids.length xc)) := LiesQ.kept (fun _ _ => rfl) (fun k hk => by simpa using hk) hlk
    have HCK : Hid (∀ o, Calls Tryd.prog 15 #[.agg #[.string t.kind, .string t.data, .bool t.exec, .slice xa t.kids.length xc]] (w1.alloc o) fun e w' => e = .returned (errV a (treeErr 9 t)) ∧ Below (w1.alloc o).heap.size (w1.alloc o) w') := fun o =>
      check_any a 9 (w1.alloc o).heap.size t _ (w1.alloc o) ((HSE.out.below (HB1.out.trans ((hA2 o).mono (by omega)))).atB) (Nat.le_refl _) (((LiesQ.lies (B := w1.heap.size) (fun k hk => hk.2) HLK.out).below (hA2 o) (Nat.le_refl _)).up (by simp) (Nat.le_refl _)) (HAL.out t n r hnd)
    have HROW1 : Hid (∀ (c : Array Value) (T : TypeId), (w1.alloc (.cells c T)).heap[w1.heap.size]? = some (.cells c T (0, 0))) := row_alloc' w1
    have HND : Hid _ := hnd
    have HRES : Hid _ := hres
    by_cases hr : r = []
    rotate_left
    · have HF : Hid (readR s = .error 0) := readR_more hlg HND.out hr
      have he : (bs r).toList.isEmpty = false := by
        unfold bs
        rw [ByteArray.toList_mk]
        cases r with
        | nil => exact absurd rfl hr
        | cons => rfl
      have cT := (HSE.out.below HB1.out).text
      have zT := lt_of_cell cT
      have HGT : Hid (3 < w.heap.size) := lt_of_cell HSE.out.text
      have hgt : 3 ≠ w.heap.size := by have := HGT.out; omega
      clear hb1 HBG HAL hnd hlk hA2 hres HCK HROW1 HRES HND HLK hr
      go_wp2_with fail
      go_region
      go_wp2_with fail
      refine bodyPost_ret (v := .tuple #[.agg #[.string { data := #[] }, .string { data := #[] }, .bool false, .slice none 0 0], .iface 176 (.pointer (some (a 0)))]) (by simp [results, Tryd.results30, go_sem, q0, q1, q2, q3, l0]) rfl ?_
      have hS := ((((SameBut.refl w.heap.size w1).set 0 (.string { data := #[] })).set 1 (.string { data := #[] })).set 2 (.bool false)).set 3 (.slice none 0 0)
      exact ⟨((hS.below HB1.out (Nat.le_refl _)).alloc (by have := hS.size; omega) _).drew, .inl ⟨0, HF.out, rfl⟩⟩
    clear hb1 HBG HAL hnd hlk hA2 hres
    have hre : bs r = { data := #[] } := by rw [hr]; rfl
    rw [hre]
    go_wp2_with fail
    refine Calls.mono (HCK.out _) ?_
    rintro e w3 ⟨rfl, hb3⟩
    have hz3 := hb3.size
    simp only [World.size_alloc] at hz3
    have hres3 : w3.heap[w.heap.size]? = some (.cells #[.string { data := #[] }, .string { data := #[] }, .bool false, .slice none 0 0] 24 (0, 0)) := by
      rw [hb3.block w.heap.size (by simp; omega), Below.heap_alloc _ _ _ l0]; exact HRES.out
    have hnod3 := (hb3.block w1.heap.size (by simp)).trans (HROW1.out #[.string t.kind, .string t.data, .bool t.exec, .slice xa t.kids.length xc] 24)
    have HB3 : Hid (Below w.heap.size w w3) := HB1.out.trans (((HA2.out _).mono (by omega)).trans (hb3.mono (by simp; omega)))
    have HL3 : Hid (LiesQ w3 (fun b => w.heap.size + 1 ≤ b ∧ b < w3.heap.size) 9 t.kids (.slice xa t.kids.length xc)) := LiesQ.kept (fun k hk => (hb3.block k (by simp; omega)).trans (Below.heap_alloc _ _ _ hk.2)) (fun k hk => ⟨hk.1, by omega⟩) HLK.out
    clear q0 q1 q2 q3 g0 g1 g2 g3
    obtain ⟨⟨q0, q1, q2, q3⟩, g0, g1, g2, g3⟩ := row4 hres3
    obtain ⟨⟨m0, m1, m2, m3⟩, _⟩ := row4 hnod3
    cases ht : treeErr 9 t with
    | some er =>
      have HF : Hid (readR s = .error er) := readR_no hlg HND.out hr ht
      unfold errV
      clear hb3 hres3 hnod3 HCK HROW1 HA2
      go_wp2_with fail
      refine bodyPost_ret (v := .tuple #[.agg #[.string { data := #[] }, .string { data := #[] }, .bool false, .slice none 0 0], .iface 176 (.pointer (some (a er)))]) (by simp [results, Tryd.results30, go_sem, q0, q1, q2, q3]) rfl ?_
      have hS := ((((SameBut.refl w.heap.size w3).set 0 (.string { data := #[] })).set 1 (.string { data := #[] })).set 2 (.bool false)).set 3 (.slice none 0 0)
      exact ⟨hS.below HB3.out (Nat.le_refl _), .inl ⟨er, HF.out, rfl⟩⟩
    | none =>
      have HF : Hid (readR s = .ok t) := readR_ok hlg HND.out hr ht
      unfold errV
      clear hb3 hres3 hnod3 HCK HROW1 HA2
      go_wp2_with fail
      refine bodyPost_ret (v := .tuple #[.agg #[.string t.kind, .string t.data, .bool t.exec, .slice xa t.kids.length xc], .nilIface]) (by simp [results, Tryd.results30, go_sem, q0, q1, q2, q3]) rfl ?_
      have hS := ((((SameBut.refl w.heap.size w3).set 0 (.string t.kind)).set 1 (.string t.data)).set 2 (.bool t.exec)).set 3 (.slice xa t.kids.length xc)
      exact ⟨hS.below HB3.out (Nat.le_refl _), .inr ⟨t, _, HF.out, rfl, LiesQ.kept (fun k hk => hS.block k (by omega)) (fun k hk => ⟨by omega, by rw [hS.size]; exact hk.2⟩) HL3.out⟩⟩
end Go.Proofs.YtilkjafggfdjeaaDoor
