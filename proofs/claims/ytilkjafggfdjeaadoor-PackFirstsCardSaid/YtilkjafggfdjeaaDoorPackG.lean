/-
  The contract of package pack's begin: the node with which a text begins.
  Conditions: the sentinels hold what the program's text lays.
-/
import Derived.Test.YtilkjafggfdjeaaDoorPackF
namespace Go.Proofs.YtilkjafggfdjeaaDoor
open Go.RowKit
attribute [local go_sem ↓] Go.wp_at_zero Go.wp_at_succ

theorem SameBut.below {B h : Nat} {w wr w' : World} (S : SameBut h wr w') (hb : Below B w wr) (hB : B ≤ h) : Below B w w' :=
  ⟨S.os.trans hb.os, S.tape.trans hb.tape, S.output.trans hb.output, by rw [S.size]; exact hb.size, fun k hk => by rw [S.block k (by omega)]; exact hb.block k hk⟩
/-- What begin hands back. -/
def BegPost (a : Nat → Addr) (s : ByteArray) (w : World) (e : Ending) (w' : World) : Prop := Below w.heap.size w w' ∧
  ((20000 < s.size ∧ e = .returned (.tuple #[.agg #[.string { data := #[] }, .string { data := #[] }, .bool false, .slice none 0 0], .string { data := #[] }, .iface 176 (.pointer (some (a 1)))])) ∨
   (∃ er kd da ex ad m c q, ¬ 20000 < s.size ∧ nodeR 9 (0, s.data.toList) = .error er ∧ e = .returned (.tuple #[.agg #[.string kd, .string da, .bool ex, .slice ad m c], .string q, .iface 176 (.pointer (some (a er)))])) ∨
   (∃ t n r u, ¬ 20000 < s.size ∧ nodeR 9 (0, s.data.toList) = .ok (t, (n, r)) ∧ r.length ≤ s.size ∧ e = .returned (.tuple #[.agg #[.string t.kind, .string t.data, .bool t.exec, u], .string (bs r), .nilIface]) ∧ LiesQ w' (fun b => w.heap.size ≤ b ∧ b < w'.heap.size) 9 t.kids u))

set_option maxRecDepth 100000 in
set_option maxHeartbeats 4000000 in
theorem begin_any (a : Nat → Addr) (s : ByteArray) (w : World) (S : Sen a w) : Calls Tryd.prog 53 #[.string s] w (BegPost a s w) := by
  by_cases hlong : 20000 < s.size
  · have c1 := S.bound
    have z1 := lt_of_cell c1
    have hlong' : (20000 : Int) < (s.size : Int) := by omega
    have HB : Hid (∀ o, Below w.heap.size w (w.alloc o).drew) := fun o => ((Below.refl _ _).alloc (Nat.le_refl _) o).drew
    clear S
    go_enter Tryd.func53, Tryd.ntmps53
    go_wp2_with fail
    go_region
    go_wp2_with fail
    refine bodyPost_ret (v := .tuple #[.agg #[.string { data := #[] }, .string { data := #[] }, .bool false, .slice none 0 0], .string { data := #[] }, .iface 176 (.pointer (some (a 1)))]) (by simp [results, Tryd.results53, go_sem]) rfl ?_
    exact ⟨HB.out _, .inl ⟨hlong, rfl⟩⟩
  · have hlong' : (s.size : Int) ≤ 20000 := by omega
    have hA : ∀ o o', Below w.heap.size w ((w.alloc o).alloc o') := fun o o' => ((Below.refl _ _).alloc (Nat.le_refl _) o).alloc (by simp) o'
    have HA : Hid _ := hA
    have HRD : Hid (∀ o, Rd (w.heap.size + 1) s 0 ((w.alloc o).alloc (.cells #[.string s, .int .i64 0] 99))) := fun o => by
      have := row_alloc' (w.alloc o) #[.string s, .int .i64 0] 99
      rw [World.size_alloc] at this
      exact this
    have HRES : Hid (∀ o', ((w.alloc (.cells #[.string { data := #[] }, .string { data := #[] }, .bool false, .slice none 0 0] 24)).alloc o').heap[w.heap.size]? = some (.cells #[.string { data := #[] }, .string { data := #[] }, .bool false, .slice none 0 0] 24 (0, 0))) := fun o' => by
      rw [Below.heap_alloc _ _ _ (by simp)]
      exact row_alloc' _ _ _
    have HND : Hid (∀ o, Calls Tryd.prog 68 #[.pointer (some ⟨w.heap.size + 1, 0, none⟩), .int .i64 0] ((w.alloc o).alloc (.cells #[.string s, .int .i64 0] 99)) (ResPost (nodeR 9 (0, s.data.toList)) a (w.heap.size + 1) 9 s ((w.alloc o).alloc (.cells #[.string s, .int .i64 0] 99)))) := fun o =>
      node_any a w.heap.size (w.heap.size + 1) (by omega) 9 0 0 s _ (by omega) (S.atB.below (hA _ _) (Nat.le_refl _)) (HRD.out o) (by omega) (by omega)
    clear S hA
    go_enter Tryd.func53, Tryd.ntmps53
    go_wp2_with fail
    refine Calls.mono (HND.out _) ?_
    rintro e w2 ⟨s2, n2, R2, K2, ⟨er, kd, da, ex, ad, m, cp, hnd, rfl⟩ | ⟨tk, r2, uk, hnd, rfl, hs2, hn2, rfl, hlk⟩⟩
    · have hz := K2.size
      simp only [World.size_alloc] at hz
      have hres : w2.heap[w.heap.size]? = some (.cells #[.string { data := #[] }, .string { data := #[] }, .bool false, .slice none 0 0] 24 (0, 0)) := by rw [K2.block w.heap.size (by simp; omega) (by omega)]; exact HRES.out _
      obtain ⟨⟨q0, q1, q2, q3⟩, g0, g1, g2, g3⟩ := row4 hres
      have l0 : w.heap.size < w2.heap.size := by omega
      have l1 : w.heap.size + 1 < w2.heap.size := by omega
      have hc := R2.cell
      have HB2 : Hid (Below w.heap.size w w2) := (HA.out _ _).trans (K2.below (fun k hk => by omega) (by simp; omega))
      have HNN : Hid _ := hnd
      clear R2 K2 hnd hres HND HRD HRES HA
      go_wp2_with fail
      go_region
      go_wp2_with fail
      refine bodyPost_ret (v := .tuple #[.agg #[.string kd, .string da, .bool ex, .slice ad m cp], .string s2, .iface 176 (.pointer (some (a er)))]) (by simp [results, Tryd.results53, go_sem, q0, q1, q2, q3, l0]) rfl ?_
      have hS := ((((SameBut.refl w.heap.size w2).set 0 (.string kd)).set 1 (.string da)).set 2 (.bool ex)).set 3 (.slice ad m cp)
      exact ⟨((hS.below HB2.out (Nat.le_refl _)).alloc (by have := hS.size; omega) _).drew, .inr (.inl ⟨er, kd, da, ex, ad, m, cp, s2, hlong, HNN.out, rfl⟩)⟩
    · obtain ⟨xa, xc, rfl⟩ := hlk.form
      have hz := K2.size
      simp only [World.size_alloc] at hz
      have hres : w2.heap[w.heap.size]? = some (.cells #[.string { data := #[] }, .string { data := #[] }, .bool false, .slice none 0 0] 24 (0, 0)) := by rw [K2.block w.heap.size (by simp; omega) (by omega)]; exact HRES.out _
      obtain ⟨⟨q0, q1, q2, q3⟩, g0, g1, g2, g3⟩ := row4 hres
      have l0 : w.heap.size < w2.heap.size := by omega
      have l1 : w.heap.size + 1 < w2.heap.size := by omega
      have hc := R2.cell
      have HB2 : Hid (Below w.heap.size w w2) := (HA.out _ _).trans (K2.below (fun k hk => by omega) (by simp; omega))
      have HNN : Hid _ := hnd
      have HLK : Hid (LiesQ w2 (fun b => w.heap.size + 2 ≤ b ∧ b < w2.heap.size) 9 tk.kids (.slice xa tk.kids.length xc)) := LiesQ.kept (fun _ _ => rfl) (fun k hk => by simpa using hk) hlk
      clear R2 K2 hnd hres HND HRD HRES HA hlk
      go_wp2_with fail
      go_region
      go_wp2_with fail
      refine bodyPost_ret (v := .tuple #[.agg #[.string tk.kind, .string tk.data, .bool tk.exec, .slice xa tk.kids.length xc], .string (bs r2), .nilIface]) (by simp [results, Tryd.results53, go_sem, q0, q1, q2, q3, l0]) rfl ?_
      have hS := ((((SameBut.refl w.heap.size w2).set 0 (.string tk.kind)).set 1 (.string tk.data)).set 2 (.bool tk.exec)).set 3 (.slice xa tk.kids.length xc)
      have hsz := hS.size
      refine ⟨((hS.below HB2.out (Nat.le_refl _)).alloc (by omega) _).drew, .inr (.inr ⟨tk, n2, r2, _, hlong, HNN.out, hs2, rfl, LiesQ.kept (fun k hk => ?_) (fun k hk => ?_) HLK.out⟩)⟩
      · exact (Below.heap_alloc _ _ _ (by omega)).trans (hS.block k (by omega))
      · exact ⟨by omega, by have := hk.2; show k < (World.alloc _ _).heap.size; rw [World.size_alloc]; omega⟩
end Go.Proofs.YtilkjafggfdjeaaDoor
