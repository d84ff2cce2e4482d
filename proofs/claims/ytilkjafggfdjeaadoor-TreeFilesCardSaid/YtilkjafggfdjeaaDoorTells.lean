/-
  The contracts of tree.Count and tree.Size: how many nodes a tree has, how many bytes its files; 0 of one that is not well.
  Conditions: as those of tree.Check; the numbers stay far below what an int holds.
-/
import Derived.Test.YtilkjafggfdjeaaDoorEach
namespace Go.Proofs.YtilkjafggfdjeaaDoor
open Go.RowKit

def ctStep (n : Nat) (_ : ByteArray × Nat × Tree) : Nat := n + 1
def ctOk (n : Nat) (x : ByteArray × Nat × Tree) : Prop := n ≤ 1000000 ∧ x.1.size ≤ maxLen ∧ x.2.1 ≤ 4611686018427387904
def szStep (n : Nat) (x : ByteArray × Nat × Tree) : Nat := if isFile x.2.2 = true then n + x.2.2.data.size else n
def szOk (n : Nat) (x : ByteArray × Nat × Tree) : Prop := n ≤ 1000000000 ∧ x.2.2.data.size ≤ 1000000000 ∧ x.1.size ≤ maxLen ∧ x.2.1 ≤ 4611686018427387904

set_option maxRecDepth 100000 in
set_option maxHeartbeats 1000000 in
theorem count1_told (c B : Nat) : Told 43 (.pointer (some ⟨c, 0, none⟩)) B ctStep ctOk (ctJ B c) where
  low _ _ _ h := ctJ_low h
  ext _ _ _ _ h := ctJ_ext h
  bound _ _ h := ⟨h.2.1, h.2.2⟩
  call := by
    intro n C w d p k t u hJ hB hl ⟨hn, _⟩
    obtain ⟨hC, hBc, hrow⟩ := hJ
    obtain ⟨ad, cap, rfl⟩ := hl.form
    have hcl : c < w.heap.size := lt_of_row hrow
    have q0 := cell_of_one hrow
    have f0 := free_of_one hrow
    have HC : Hid _ := hC
    have HROW : Hid _ := hrow
    clear hC hrow hl
    go_enter Tryd.func43, Tryd.ntmps43
    go_wp2
    go_end0
    refine ⟨rfl, C, ⟨HC.out, hBc, ?_⟩, ?_, fun j h => .inl h⟩
    · rw [Below.heap_alloc _ _ _ (by simpa [World.setCell] using hcl)]
      exact row1_setCell HROW.out
    · exact ((Kept.of_below (Below.refl _ _)).setCell ((HC.out c).2 rfl) _).trans (Kept.of_below ((Below.refl _ _).alloc (Nat.le_refl _) _)) (fun j h => .inl h)
set_option maxRecDepth 100000 in
set_option maxHeartbeats 1000000 in
theorem size1_told (c B : Nat) : Told 45 (.pointer (some ⟨c, 0, none⟩)) B szStep szOk (ctJ B c) where
  low _ _ _ h := ctJ_low h
  ext _ _ _ _ h := ctJ_ext h
  bound _ _ h := ⟨h.2.2.1, h.2.2.2⟩
  call := by
    intro n C w d p k t u hJ hB hl ⟨hn, hds, _⟩
    simp only at hds
    obtain ⟨hC, hBc, hrow⟩ := hJ
    obtain ⟨ad, cap, rfl⟩ := hl.form
    have hcl : c < w.heap.size := lt_of_row hrow
    have q0 := cell_of_one hrow
    have f0 := free_of_one hrow
    have HC : Hid _ := hC
    have HROW : Hid _ := hrow
    clear hC hrow hl
    cases hf : (t.kind.toList == [102, 105, 108, 101])
    · have HE : Hid (szStep n (p, k, t) = n) := show _ = _ by unfold szStep isFile; simp only [hf]; rfl
      go_enter Tryd.func45, Tryd.ntmps45
      go_wp2
      go_end0
      refine ⟨rfl, C, ⟨HC.out, hBc, ?_⟩, Kept.of_below ((Below.refl _ _).alloc (Nat.le_refl _) _), fun j h => .inl h⟩
      rw [Below.heap_alloc _ _ _ hcl, HE.out]; exact HROW.out
    · have HE : Hid (szStep n (p, k, t) = n + t.data.size) := show _ = _ by unfold szStep isFile; simp only [hf]; rfl
      go_enter Tryd.func45, Tryd.ntmps45
      go_wp2
      go_end0
      refine ⟨rfl, C, ⟨HC.out, hBc, ?_⟩, ?_, fun j h => .inl h⟩
      · rw [Below.heap_alloc _ _ _ (by simpa [World.setCell] using hcl), HE.out]
        exact row1_setCell HROW.out
      · exact ((Kept.of_below (Below.refl _ _)).setCell ((HC.out c).2 rfl) _).trans (Kept.of_below ((Below.refl _ _).alloc (Nat.le_refl _) _)) (fun j h => .inl h)

def countOf (d : Nat) (t : Tree) : Nat := match treeErr d t with | none => (pre d ByteArray.empty 0 t).foldl ctStep 0 | some _ => 0
set_option maxHeartbeats 1000000 in
theorem count_any (a : Nat → Addr) (d B : Nat) (t : Tree) (u : Value) (w : World) (S : SentsB a B w) (hB : B ≤ w.heap.size) (hl : Lies w B d t.kids u) (hal : Alive ck ckOk 0 (pre d ByteArray.empty 0 t))
    (hal2 : treeErr d t = none → Alive (fun s x => (ctStep s x, none)) ctOk 0 (pre d ByteArray.empty 0 t)) :
    Calls Tryd.prog 19 #[.agg #[.string t.kind, .string t.data, .bool t.exec, u]] w fun e w' => e = .returned (.int .i64 (countOf d t : Int)) ∧ Below w.heap.size w w' := by
  obtain ⟨ad, cap, rfl⟩ := hl.form
  have hW : ∀ o o', Below w.heap.size w ((w.alloc o).alloc o') := fun o o' => ((Below.refl _ _).alloc (Nat.le_refl _) o).alloc (by simp) o'
  have hrow : ∀ o, ((w.alloc o).alloc (.cells #[.int .i64 0] 3)).heap[w.heap.size + 1]? = some (.cells #[.int .i64 ((0 : Nat) : Int)] 3 (0, 0)) := fun o => by
    have := row_alloc (w.alloc o) #[.int .i64 0] 3
    simpa using this
  have HW : Hid _ := hW
  cases hE : treeErr d t with
  | some er =>
    have HO : Hid (countOf d t = 0) := show _ = _ by unfold countOf; rw [hE]
    have hcall := fun o o' => each_no_Count1 a d B t (.slice ad t.kids.length cap) ⟨w.heap.size + 1, 0, none⟩ ((w.alloc o).alloc o') (S.below (hW o o') hB) (by simp; omega) (hl.below (hW o o') hB) hal er hE
    have HCALL : Hid _ := hcall
    have HROW : Hid _ := hrow
    clear hcall hW hrow S hl hal hal2 hE
    go_enter Tryd.func19, Tryd.ntmps19
    go_wp2_with fail
    refine Calls.mono (HCALL.out _ _) ?_
    rintro e w2 ⟨rfl, hb⟩
    have g0 : w2.cell? ⟨w.heap.size + 1, 0, none⟩ = some (.int .i64 0) := cell_of_one (by rw [hb.block _ (by simp)]; exact HROW.out _)
    have HB : Hid _ := hb
    clear hb
    go_wp2_with fail
    go_ret
    exact ⟨ret_val (by rw [HO.out]; rfl), (HW.out _ _).trans (HB.out.mono (by simp; omega))⟩
  | none =>
    have HO : Hid (countOf d t = (pre d ByteArray.empty 0 t).foldl ctStep 0) := show _ = _ by unfold countOf; rw [hE]
    have hcall := fun o => each_yes_Count1 a d w.heap.size t (.slice ad t.kids.length cap) ⟨w.heap.size + 1, 0, none⟩ (count1_told (w.heap.size + 1) w.heap.size) 0 (fun k => k = w.heap.size + 1) ((w.alloc o).alloc (.cells #[.int .i64 0] 3))
      ⟨fun k => Iff.rfl, by omega, hrow o⟩ (S.is.atB.below (hW o _) (Nat.le_refl _)) (by simp; omega) (Lies.below (hl.up hB (Nat.le_refl _)) (hW o _) (Nat.le_refl _)) hal hE (hal2 hE)
    have HCALL : Hid _ := hcall
    clear hcall hW hrow S hl hal hal2 hE
    go_enter Tryd.func19, Tryd.ntmps19
    go_wp2_with fail
    refine Calls.mono (HCALL.out _) ?_
    rintro e w2 ⟨rfl, C2, ⟨h1, h2, h3⟩, hK, hC⟩
    have g0 := cell_of_one h3
    have HK : Hid _ := hK
    have HC : Hid _ := hC
    clear h1 h2 h3 hK hC
    go_wp2_with fail
    go_ret
    exact ⟨ret_val (by rw [HO.out]; rfl), (HW.out _ _).trans (HK.out.below (fun k hk => by omega) (by simp; omega))⟩

def sizeOf (d : Nat) (t : Tree) : Nat := match treeErr d t with | none => (pre d ByteArray.empty 0 t).foldl szStep 0 | some _ => 0
set_option maxHeartbeats 1000000 in
theorem size_any (a : Nat → Addr) (d B : Nat) (t : Tree) (u : Value) (w : World) (S : SentsB a B w) (hB : B ≤ w.heap.size) (hl : Lies w B d t.kids u) (hal : Alive ck ckOk 0 (pre d ByteArray.empty 0 t))
    (hal2 : treeErr d t = none → Alive (fun s x => (szStep s x, none)) szOk 0 (pre d ByteArray.empty 0 t)) :
    Calls Tryd.prog 21 #[.agg #[.string t.kind, .string t.data, .bool t.exec, u]] w fun e w' => e = .returned (.int .i64 (sizeOf d t : Int)) ∧ Below w.heap.size w w' := by
  obtain ⟨ad, cap, rfl⟩ := hl.form
  have hW : ∀ o o', Below w.heap.size w ((w.alloc o).alloc o') := fun o o' => ((Below.refl _ _).alloc (Nat.le_refl _) o).alloc (by simp) o'
  have hrow : ∀ o, ((w.alloc o).alloc (.cells #[.int .i64 0] 3)).heap[w.heap.size + 1]? = some (.cells #[.int .i64 ((0 : Nat) : Int)] 3 (0, 0)) := fun o => by
    have := row_alloc (w.alloc o) #[.int .i64 0] 3
    simpa using this
  have HW : Hid _ := hW
  cases hE : treeErr d t with
  | some er =>
    have HO : Hid (sizeOf d t = 0) := show _ = _ by unfold sizeOf; rw [hE]
    have hcall := fun o o' => each_no_Size1 a d B t (.slice ad t.kids.length cap) ⟨w.heap.size + 1, 0, none⟩ ((w.alloc o).alloc o') (S.below (hW o o') hB) (by simp; omega) (hl.below (hW o o') hB) hal er hE
    have HCALL : Hid _ := hcall
    have HROW : Hid _ := hrow
    clear hcall hW hrow S hl hal hal2 hE
    go_enter Tryd.func21, Tryd.ntmps21
    go_wp2_with fail
    refine Calls.mono (HCALL.out _ _) ?_
    rintro e w2 ⟨rfl, hb⟩
    have g0 : w2.cell? ⟨w.heap.size + 1, 0, none⟩ = some (.int .i64 0) := cell_of_one (by rw [hb.block _ (by simp)]; exact HROW.out _)
    have HB : Hid _ := hb
    clear hb
    go_wp2_with fail
    go_ret
    exact ⟨ret_val (by rw [HO.out]; rfl), (HW.out _ _).trans (HB.out.mono (by simp; omega))⟩
  | none =>
    have HO : Hid (sizeOf d t = (pre d ByteArray.empty 0 t).foldl szStep 0) := show _ = _ by unfold sizeOf; rw [hE]
    have hcall := fun o => each_yes_Size1 a d w.heap.size t (.slice ad t.kids.length cap) ⟨w.heap.size + 1, 0, none⟩ (size1_told (w.heap.size + 1) w.heap.size) 0 (fun k => k = w.heap.size + 1) ((w.alloc o).alloc (.cells #[.int .i64 0] 3))
      ⟨fun k => Iff.rfl, by omega, hrow o⟩ (S.is.atB.below (hW o _) (Nat.le_refl _)) (by simp; omega) (Lies.below (hl.up hB (Nat.le_refl _)) (hW o _) (Nat.le_refl _)) hal hE (hal2 hE)
    have HCALL : Hid _ := hcall
    clear hcall hW hrow S hl hal hal2 hE
    go_enter Tryd.func21, Tryd.ntmps21
    go_wp2_with fail
    refine Calls.mono (HCALL.out _) ?_
    rintro e w2 ⟨rfl, C2, ⟨h1, h2, h3⟩, hK, hC⟩
    have g0 := cell_of_one h3
    have HK : Hid _ := hK
    have HC : Hid _ := hC
    clear h1 h2 h3 hK hC
    go_wp2_with fail
    go_ret
    exact ⟨ret_val (by rw [HO.out]; rfl), (HW.out _ _).trans (HK.out.below (fun k hk => by omega) (by simp; omega))⟩
end Go.Proofs.YtilkjafggfdjeaaDoor
