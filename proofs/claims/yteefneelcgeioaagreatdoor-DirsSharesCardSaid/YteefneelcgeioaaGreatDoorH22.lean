/-
  The contracts of dirs' has, Inode and Table.
  Conditions: those that each states.
-/
import Derived.Test.YteefneelcgeioaaGreatDoorH20
import Derived.Test.YteefneelcgeioaaGreatDoorH21
namespace Go.Proofs.YteefneelcgeioaaGreatDoor
open Go.RowKit Go.Maps

theorem zeroNode (w : World) : (zeroValue 32).run Tryz.prog w = .ok (.agg #[.string { data := #[] }, .string { data := #[] }, .bool false, .slice none 0 0]) w := by kernel_rfl
theorem zeroMSI (w : World) : (zeroValue 81).run Tryz.prog w = .ok (.map none) w := by kernel_rfl
section
variable {w : World} {T0 dp tb mb m1 m2 n1 d : Nat} {tr : List (Option NTree)} {fb : Nat → Nat}
theorem DirAt.no (D : DirAt w T0 dp tb mb m1 m2 n1 d tr fb) {k : Int} (hk : (Lit.int .i64 k).wf = true) (h : ntI tr k = none) : (Instr.lookup 76 (.map (some m1)) (.int .i64 k) true).run Tryz.prog w = .ok (.tuple #[.agg #[.string { data := #[] }, .string { data := #[] }, .bool false, .slice none 0 0], .bool false]) w := by
  obtain ⟨f1, f2, M1, M2, h0, _⟩ := D.maps
  have h1 := M1.look_ok keyInt Tryz.underlying76 (zeroNode w) (keyOf_int_mk Tryz.underlying3 hk) trivial
  rw [(h0 k h).1] at h1
  exact h1
theorem DirAt.yes (D : DirAt w T0 dp tb mb m1 m2 n1 d tr fb) {k : Nat} {x : NTree} (hk : (Lit.int .i64 (k : Int)).wf = true) (h : ntI tr (k : Int) = some x) : ∃ ad cap, KidsIn w d x.t (.slice ad x.t.kids.length cap) ∧ (Instr.lookup 76 (.map (some m1)) (.int .i64 (k : Int)) true).run Tryz.prog w = .ok (.tuple #[.agg #[.string x.t.kind, .string x.t.data, .bool x.t.exec, .slice ad x.t.kids.length cap], .bool true]) w ∧ (Instr.lookup 76 (.map (some m1)) (.int .i64 (k : Int)) false).run Tryz.prog w = .ok (.agg #[.string x.t.kind, .string x.t.data, .bool x.t.exec, .slice ad x.t.kids.length cap]) w ∧ (Instr.lookup 77 (.map (some m2)) (.int .i64 (k : Int)) false).run Tryz.prog w = .ok (.map (some (fb k))) w ∧ MapV w 9 (fb k) 1000000 (fmap x.fs) ∧ fb k ≠ m1 ∧ fb k ≠ m2 ∧ fb k ≠ mb ∧ T0 ≤ fb k := by
  obtain ⟨f1, f2, M1, M2, _, h1, _⟩ := D.maps
  obtain ⟨⟨u, a1, a2⟩, a3, a4, a5⟩ := h1 k x h
  obtain ⟨Q, ad, cap, rfl, _⟩ := id a2
  have e1 := M1.look_ok keyInt Tryz.underlying76 (zeroNode w) (keyOf_int_mk Tryz.underlying3 hk) trivial
  have e2 := M1.look keyInt Tryz.underlying76 (zeroNode w) (keyOf_int_mk Tryz.underlying3 hk) trivial
  have e3 := M2.look keyInt Tryz.underlying77 (zeroMSI w) (keyOf_int_mk Tryz.underlying3 hk) trivial
  rw [a1] at e1 e2
  rw [a3] at e3
  exact ⟨ad, cap, a2, e1, e2, e3, a4, a5⟩
theorem ntI_some {k : Int} {x : NTree} (h : ntI tr k = some x) : ∃ j : Nat, k = (j : Int) ∧ ntI tr (j : Int) = some x := by
  unfold ntI at h
  split at h
  · exact ⟨k.toNat, by omega, by rw [ntI_nat]; exact h⟩
  · cases h
set_option maxRecDepth 100000 in
theorem dhas_any (k : Int) (hk : (Lit.int .i64 k).wf = true) (D : DirAt w T0 dp tb mb m1 m2 n1 d tr fb) :
    Calls Tryz.prog 35 #[.pointer (some ⟨dp, 0, none⟩), .int .i64 k] w fun e w' => e = .returned (.bool (ntI tr k).isSome) ∧ Below w.heap.size w w' := by
  obtain ⟨_, c1, _, _⟩ := D.cells
  cases h : ntI tr k with
  | none =>
    have hlk := D.no hk h
    clear D
    go_enter Tryz.func35, Tryz.ntmps35
    go_wp2_with fail
    go_ret
    exact ⟨rfl, (Below.refl _ w).alloc (Nat.le_refl _) _⟩
  | some x =>
    obtain ⟨j, rfl, hj⟩ := ntI_some h
    obtain ⟨ad, cap, _, hlk, _⟩ := D.yes hk hj
    clear D h hj
    go_enter Tryz.func35, Tryz.ntmps35
    go_wp2_with fail
    go_ret
    exact ⟨rfl, (Below.refl _ w).alloc (Nat.le_refl _) _⟩
theorem dtable_any (D : DirAt w T0 dp tb mb m1 m2 n1 d tr fb) : Calls Tryz.prog 13 #[.pointer (some ⟨dp, 0, none⟩)] w fun e w' => e = .returned (.pointer (some ⟨tb, 0, none⟩)) ∧ w' = w := by
  obtain ⟨c0, _⟩ := D.cells
  clear D
  go_enter Tryz.func13, Tryz.ntmps13
  go_wp2_with fail
  go_ret
  exact ⟨rfl, rfl⟩
/-- A path's inode: the last one of that path. -/
def findF (fs : List (ByteArray × Nat)) (p : ByteArray) : Option Nat := fs.foldl (fun o x => if x.1 = p then some x.2 else o) none
theorem bytes_eq {p q : ByteArray} (h : p.data.toList = q.data.toList) : p = q := by
  cases p; cases q
  simp only at h
  congr 1
  exact Array.toList_inj.1 h
theorem fmap_find (p : ByteArray) : ∀ (n : Nat) (fs : List (ByteArray × Nat)), fs.length = n → fmap fs (.string p.data.toList) = (findF fs p).map fun n => .int .i64 (n : Int)
  | 0, fs, h => by rw [List.eq_nil_of_length_eq_zero h]; rfl
  | n + 1, fs, h => by
    have hne : fs ≠ [] := fun e => by rw [e] at h; simp at h
    obtain ⟨l, x, rfl⟩ : ∃ l x, fs = l ++ [x] := ⟨fs.dropLast, fs.getLast hne, (List.dropLast_concat_getLast hne).symm⟩
    rw [fmap_snoc]
    have ef : findF (l ++ [x]) p = if x.1 = p then some x.2 else findF l p := by simp [findF]
    rw [ef]
    by_cases e : x.1 = p
    · rw [if_pos e, ← e, updK_same]; rfl
    · rw [if_neg e, updK_other _ _ (fun h' => e (bytes_eq (by simpa using h'.symm)))]
      exact fmap_find p n l (by simpa using h)
/-- What Inode hands back: the inode, or an error. -/
def inoR (tr : List (Option NTree)) (k : Int) (s : ByteArray) : Except Nat Nat := match ntI tr k with
  | none => .error 5
  | some x => if splitR s = none then .error 4 else match findF x.fs s with
    | some n => .ok n
    | none => .error 5
def inoV (a : Nat → Addr) : Except Nat Nat → Value
  | .ok n => .tuple #[.int .i64 (n : Int), .nilIface]
  | .error c => .tuple #[.int .i64 0, .iface 235 (.pointer (some (a c)))]
theorem below_drewN1 (w : World) (q : Nat) : Below w.heap.size w (w.drewN q) := ⟨rfl, rfl, rfl, Nat.le_refl _, fun _ _ => rfl⟩
set_option maxRecDepth 100000 in
set_option maxHeartbeats 1000000 in
theorem dinode_any (a : Nat → Addr) (k : Int) (s : ByteArray) (hk : (Lit.int .i64 k).wf = true) (hs : s.size ≤ 1000000) (P : PSen a w) (D : DirAt w T0 dp tb mb m1 m2 n1 d tr fb) :
    Calls Tryz.prog 18 #[.pointer (some ⟨dp, 0, none⟩), .int .i64 k, .string s] w fun e w' => e = .returned (inoV a (inoR tr k s)) ∧ Below w.heap.size w w' := by
  have HH := dhas_any k hk D
  have HSP : Hid (∀ W, Below w.heap.size w W → Calls Tryz.prog 44 #[.string s] W (SplitPost a s W)) := fun W hW => split_any a s W (P.below hW) (by omega)
  have HNO : Hid (∀ W, Below w.heap.size w W → W.cell? ⟨1, 0, none⟩ = some (.iface 235 (.pointer (some (a 5))))) := fun W hW => (P.below hW).no
  have HC : Hid (∀ W, Below w.heap.size w W → W.cell? ⟨dp, 2, none⟩ = some (.map (some m2))) := fun W hW => (D.below hW).cells.2.2.1
  cases h : ntI tr k with
  | none =>
    have er : inoR tr k s = .error 5 := by unfold inoR; rw [h]
    rw [er]
    rw [h] at HH
    clear D h er HC HSP
    go_enter Tryz.func18, Tryz.ntmps18
    go_wp2_with (go_at_call 35; refine HH.mono ?_; rintro e w1 ⟨rfl, b1⟩; (have c5 := HNO.out w1 b1))
    go_quiet (fail)
    go_wp2_with fail
    go_ret2
    exact ⟨rfl, b1.trans ((below_drewN1 w1 _).mono b1.size)⟩
  | some x =>
    obtain ⟨j, rfl, hj⟩ := ntI_some h
    have HY : Hid (∀ W, Below w.heap.size w W → ∃ fb, (Instr.lookup 77 (.map (some m2)) (.int .i64 (j : Int)) false).run Tryz.prog W = .ok (.map (some fb)) W ∧ (Instr.lookup 81 (.map (some fb)) (.string s) true).run Tryz.prog W = .ok (.tuple #[(match findF x.fs s with | some n => .int .i64 (n : Int) | none => .int .i64 0), .bool (findF x.fs s).isSome]) W) := fun W hW => by
      obtain ⟨ad, cap, _, _, _, e3, M, _⟩ := (D.below hW).yes hk hj
      refine ⟨fb j, e3, ?_⟩
      have h1 := M.look_ok keyStr Tryz.underlying81 (zeroInt W) (WideMaps.keyOf_string_mk Tryz.underlying9 (s := s) (by unfold maxLen; omega)) trivial
      rw [h1, fmap_find s _ _ rfl]
      cases findF x.fs s <;> rfl
    rw [h] at HH
    cases hsp : splitR s with
    | none =>
      have er : inoR tr (j : Int) s = .error 4 := by unfold inoR; rw [h, hsp]; rfl
      rw [er]
      clear D h er HC hj HNO HY
      go_enter Tryz.func18, Tryz.ntmps18
      go_wp2_with (go_at_call 35; refine HH.mono ?_; rintro e w1 ⟨rfl, b1⟩)
      refine Calls.mono (HSP.out w1 b1) ?_
      rintro e w2 ⟨b2, h2⟩
      rcases h2 with ⟨_, rfl⟩ | ⟨l, v, h3, _⟩
      · go_wp2_with fail
        go_ret2
        exact ⟨rfl, b1.trans (b2.mono b1.size)⟩
      · rw [hsp] at h3; cases h3
    | some l0 =>
      cases hf : findF x.fs s with
      | some n =>
        have er : inoR tr (j : Int) s = .ok n := by unfold inoR; rw [h, hsp]; simp [hf]
        rw [er]
        rw [hf] at HY
        clear D h er hj HNO hf
        go_enter Tryz.func18, Tryz.ntmps18
        go_wp2_with (go_at_call 35; refine HH.mono ?_; rintro e w1 ⟨rfl, b1⟩)
        refine Calls.mono (HSP.out w1 b1) ?_
        rintro e w2 ⟨b2, h2⟩
        rcases h2 with ⟨h3, _⟩ | ⟨l, v, h3, rfl, _⟩
        · rw [hsp] at h3; cases h3
        · have bb := b1.trans (b2.mono b1.size)
          obtain ⟨fbk, hl1, hl2⟩ := HY.out w2 bb
          have c2 := HC.out w2 bb
          clear h3 hsp HY HC HSP
          go_wp2_with fail
          go_ret2
          exact ⟨rfl, bb⟩
      | none =>
        have er : inoR tr (j : Int) s = .error 5 := by unfold inoR; rw [h, hsp]; simp [hf]
        rw [er]
        rw [hf] at HY
        clear D h er hj hf
        go_enter Tryz.func18, Tryz.ntmps18
        go_wp2_with (go_at_call 35; refine HH.mono ?_; rintro e w1 ⟨rfl, b1⟩)
        refine Calls.mono (HSP.out w1 b1) ?_
        rintro e w2 ⟨b2, h2⟩
        rcases h2 with ⟨h3, _⟩ | ⟨l, v, h3, rfl, _⟩
        · rw [hsp] at h3; cases h3
        · have bb := b1.trans (b2.mono b1.size)
          obtain ⟨fbk, hl1, hl2⟩ := HY.out w2 bb
          have c2 := HC.out w2 bb
          have c5 := HNO.out w2 bb
          clear h3 hsp HY HC HSP
          go_wp2_with fail
          go_quiet (fail)
          go_wp2_with fail
          go_ret2
          exact ⟨rfl, bb.trans ((below_drewN1 w2 _).mono bb.size)⟩
end
end Go.Proofs.YteefneelcgeioaaGreatDoor
