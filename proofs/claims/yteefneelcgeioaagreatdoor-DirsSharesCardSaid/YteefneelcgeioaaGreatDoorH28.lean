/-
  The contract of dirs' alike: can one inode stand for another?
  One file's inode is another one: dirs in memory, and pure facts.
  The contract of dirs' Share.
  The contract of dirs' Share, where a file becomes another inode.
  Conditions: those that each states.
-/
import Derived.Test.YteefneelcgeioaaGreatDoorH27
namespace Go.Proofs.YteefneelcgeioaaGreatDoor
open Go.RowKit Go.Maps

/-- Are two inodes alike? -/
def likeI (bl : List (List UInt8)) (x y : Ino) : Bool := sameB 1 (nodeI bl x) (nodeI bl y)
theorem likeI_iff (bl : List (List UInt8)) (x y : Ino) : likeI bl x y = true ↔ readD bl x.blocks x.bytes = readD bl y.blocks y.bytes ∧ x.exec = y.exec := by
  unfold likeI
  rw [sameB_succ]
  simp only [headSame, nodeI, sameTo, Bool.and_eq_true, beq_iff_eq, List.length_nil, List.range_zero, List.all_nil, and_true, true_and]
  constructor
  · rintro ⟨h1, h2⟩
    refine ⟨?_, h2⟩
    rw [ByteArray.toList_eq, ByteArray.toList_eq] at h1
    exact bytes_eq h1
  · rintro ⟨h1, h2⟩
    exact ⟨by rw [h1], h2⟩
section
variable {w : World} {F : Nat → Prop} {T0 tb bb sp sb cap mb n N dp m1 m2 : Nat} {nx : Int} {bl : List (List UInt8)} {u : List Bool} {tab : List (Option Ino)}
set_option maxRecDepth 100000 in
set_option maxHeartbeats 1000000 in
theorem alike_any (p q : Nat) (x y : Ino) (er es : Value) (hx : slotT tab p = some x) (hy : slotT tab q = some y) (hcx : crcR (readD bl x.blocks x.bytes) = x.sum) (hcy : crcR (readD bl y.blocks y.bytes) = y.sum) (T : TbAt w F T0 tb bb sp sb cap mb n bl u tab) (S : SInv N bl u tab)
    (bd : w.heap[dp]? = some (.cells #[.pointer (some ⟨tb, 0, none⟩), .map (some m1), .map (some m2), .int .i64 nx] 79 (0, 0))) (eg : w.cell? ⟨2, 0, none⟩ = some er) (eh : w.cell? ⟨3, 0, none⟩ = some es) :
    Calls Tryz.prog 37 #[.pointer (some ⟨dp, 0, none⟩), .int .i64 (p : Int), .int .i64 (q : Int)] w fun e w' => e = .returned (if likeI bl x y then .nilIface else es) ∧ Below w.heap.size w w' := by
  have hdl := (Array.getElem?_eq_some_iff.1 bd).1
  have HF : Hid (∀ W (k : Nat) (z : Ino), Below w.heap.size w W → slotT tab k = some z → crcR (readD bl z.blocks z.bytes) = z.sum → Calls Tryz.prog 66 #[.pointer (some ⟨dp, 0, none⟩), .int .i64 (k : Int)] W fun e w' => e = .returned (.tuple #[.agg #[.string { data := #[102, 105, 108, 101] }, .string (readD bl z.blocks z.bytes), .bool z.exec, .slice none 0 0], .nilIface]) ∧ Below W.heap.size W w') := fun W k z hW hz hc => dfile_any k z er hz hc (T.below hW) S (by rw [hW.block dp hdl]; exact bd) (by rw [hW.cell (p := ⟨2, 0, none⟩) (World.block_lt_of_cell? w _ eg)]; exact eg)
  have HSH : Hid (∀ W, Below w.heap.size w W → W.cell? ⟨3, 0, none⟩ = some es) := fun W hW => by rw [hW.cell (p := ⟨3, 0, none⟩) (World.block_lt_of_cell? w _ eh)]; exact eh
  have HSA : Hid (∀ W, Calls Tryz.prog 16 #[.agg #[.string { data := #[102, 105, 108, 101] }, .string (readD bl x.blocks x.bytes), .bool x.exec, .slice none 0 0], .agg #[.string { data := #[102, 105, 108, 101] }, .string (readD bl y.blocks y.bytes), .bool y.exec, .slice none 0 0]] W fun e w' => e = .returned (.bool (likeI bl x y)) ∧ Below W.heap.size W w') := fun W => same_any W.heap.size 1 (nodeI bl x) (nodeI bl y) (.slice none 0 0) (.slice none 0 0) W (Nat.le_refl _) ⟨none, 0, rfl, by simp [nodeI], fun i z hz => by simp [nodeI] at hz⟩ ⟨none, 0, rfl, by simp [nodeI], fun i z hz => by simp [nodeI] at hz⟩
  have HF1 := HF.out w p x (Below.refl _ _) hx hcx
  have HF2 : Hid (∀ W, Below w.heap.size w W → Calls Tryz.prog 66 #[.pointer (some ⟨dp, 0, none⟩), .int .i64 (q : Int)] W fun e w' => e = .returned (.tuple #[.agg #[.string { data := #[102, 105, 108, 101] }, .string (readD bl y.blocks y.bytes), .bool y.exec, .slice none 0 0], .nilIface]) ∧ Below W.heap.size W w') := fun W hW => HF.out W q y hW hy hcy
  generalize readD bl x.blocks x.bytes = X at *
  generalize readD bl y.blocks y.bytes = Y at *
  generalize hL : likeI bl x y = L at *
  clear T S bd eg eh hx hy hcx hcy HF hdl hL
  cases L with
  | true =>
    go_enter Tryz.func37, Tryz.ntmps37
    go_wp2_with (first
      | (go_at_call 66; refine HF1.mono ?_; rintro e w1 ⟨rfl, b1⟩; clear HF1; (have HB1 : Hid (Below w.heap.size w (w1.alloc (.cells #[.string { data := #[102, 105, 108, 101] }, .string X, .bool x.exec, .slice none 0 0] 32))) := b1.alloc b1.size _); (have HR1 : Hid ((w1.alloc (.cells #[.string { data := #[102, 105, 108, 101] }, .string X, .bool x.exec, .slice none 0 0] 32)).heap[w1.heap.size]? = some (.cells #[.string { data := #[102, 105, 108, 101] }, .string X, .bool x.exec, .slice none 0 0] 32 (0, 0))) := heap_alloc_last w1 _); (have HG2 := HF2.out _ HB1.out); clear HF2)
      | (go_at_call 66; refine HG2.mono ?_; rintro e w2 ⟨rfl, b2⟩; clear HG2; (have hr1 : (w2.alloc (.cells #[.string { data := #[102, 105, 108, 101] }, .string Y, .bool y.exec, .slice none 0 0] 32)).heap[w1.heap.size]? = some (.cells #[.string { data := #[102, 105, 108, 101] }, .string X, .bool x.exec, .slice none 0 0] 32 (0, 0)) := (Below.heap_alloc _ _ _ (Nat.lt_of_lt_of_le (by simp) b2.size)).trans ((b2.block _ (by simp)).trans HR1.out)); (have k0 : (w2.alloc (.cells #[.string { data := #[102, 105, 108, 101] }, .string Y, .bool y.exec, .slice none 0 0] 32)).cell? ⟨w1.heap.size, 0, none⟩ = some (.string { data := #[102, 105, 108, 101] }) := (by rw [cell_of_row _ _ _ _ _ _ hr1]; rfl)); (have k1 : (w2.alloc (.cells #[.string { data := #[102, 105, 108, 101] }, .string Y, .bool y.exec, .slice none 0 0] 32)).cell? ⟨w1.heap.size, 1, none⟩ = some (.string X) := (by rw [cell_of_row _ _ _ _ _ _ hr1]; rfl)); (have k2 : (w2.alloc (.cells #[.string { data := #[102, 105, 108, 101] }, .string Y, .bool y.exec, .slice none 0 0] 32)).cell? ⟨w1.heap.size, 2, none⟩ = some (.bool x.exec) := (by rw [cell_of_row _ _ _ _ _ _ hr1]; rfl)); (have k3 : (w2.alloc (.cells #[.string { data := #[102, 105, 108, 101] }, .string Y, .bool y.exec, .slice none 0 0] 32)).cell? ⟨w1.heap.size, 3, none⟩ = some (.slice none 0 0) := (by rw [cell_of_row _ _ _ _ _ _ hr1]; rfl)); (have HB2 : Hid (Below w.heap.size w (w2.alloc (.cells #[.string { data := #[102, 105, 108, 101] }, .string Y, .bool y.exec, .slice none 0 0] 32))) := (HB1.out.trans (b2.mono HB1.out.size)).alloc (HB1.out.trans (b2.mono HB1.out.size)).size _); clear b2 hr1)
      | (go_at_call 16; refine (HSA.out _).mono ?_; rintro e w3 ⟨rfl, b3⟩))
    go_ret
    exact ⟨rfl, HB2.out.trans (b3.mono HB2.out.size)⟩
  | false =>
    go_enter Tryz.func37, Tryz.ntmps37
    go_wp2_with (first
      | (go_at_call 66; refine HF1.mono ?_; rintro e w1 ⟨rfl, b1⟩; clear HF1; (have HB1 : Hid (Below w.heap.size w (w1.alloc (.cells #[.string { data := #[102, 105, 108, 101] }, .string X, .bool x.exec, .slice none 0 0] 32))) := b1.alloc b1.size _); (have HR1 : Hid ((w1.alloc (.cells #[.string { data := #[102, 105, 108, 101] }, .string X, .bool x.exec, .slice none 0 0] 32)).heap[w1.heap.size]? = some (.cells #[.string { data := #[102, 105, 108, 101] }, .string X, .bool x.exec, .slice none 0 0] 32 (0, 0))) := heap_alloc_last w1 _); (have HG2 := HF2.out _ HB1.out); clear HF2)
      | (go_at_call 66; refine HG2.mono ?_; rintro e w2 ⟨rfl, b2⟩; clear HG2; (have hr1 : (w2.alloc (.cells #[.string { data := #[102, 105, 108, 101] }, .string Y, .bool y.exec, .slice none 0 0] 32)).heap[w1.heap.size]? = some (.cells #[.string { data := #[102, 105, 108, 101] }, .string X, .bool x.exec, .slice none 0 0] 32 (0, 0)) := (Below.heap_alloc _ _ _ (Nat.lt_of_lt_of_le (by simp) b2.size)).trans ((b2.block _ (by simp)).trans HR1.out)); (have k0 : (w2.alloc (.cells #[.string { data := #[102, 105, 108, 101] }, .string Y, .bool y.exec, .slice none 0 0] 32)).cell? ⟨w1.heap.size, 0, none⟩ = some (.string { data := #[102, 105, 108, 101] }) := (by rw [cell_of_row _ _ _ _ _ _ hr1]; rfl)); (have k1 : (w2.alloc (.cells #[.string { data := #[102, 105, 108, 101] }, .string Y, .bool y.exec, .slice none 0 0] 32)).cell? ⟨w1.heap.size, 1, none⟩ = some (.string X) := (by rw [cell_of_row _ _ _ _ _ _ hr1]; rfl)); (have k2 : (w2.alloc (.cells #[.string { data := #[102, 105, 108, 101] }, .string Y, .bool y.exec, .slice none 0 0] 32)).cell? ⟨w1.heap.size, 2, none⟩ = some (.bool x.exec) := (by rw [cell_of_row _ _ _ _ _ _ hr1]; rfl)); (have k3 : (w2.alloc (.cells #[.string { data := #[102, 105, 108, 101] }, .string Y, .bool y.exec, .slice none 0 0] 32)).cell? ⟨w1.heap.size, 3, none⟩ = some (.slice none 0 0) := (by rw [cell_of_row _ _ _ _ _ _ hr1]; rfl)); (have HB2 : Hid (Below w.heap.size w (w2.alloc (.cells #[.string { data := #[102, 105, 108, 101] }, .string Y, .bool y.exec, .slice none 0 0] 32))) := (HB1.out.trans (b2.mono HB1.out.size)).alloc (HB1.out.trans (b2.mono HB1.out.size)).size _); clear b2 hr1)
      | (go_at_call 16; refine (HSA.out _).mono ?_; rintro e w3 ⟨rfl, b3⟩; (have cS := HSH.out w3 (HB2.out.trans (b3.mono HB2.out.size)))))
    go_ret
    exact ⟨rfl, HB2.out.trans (b3.mono HB2.out.size)⟩
end
end Go.Proofs.YteefneelcgeioaaGreatDoor
namespace Go.Proofs.YteefneelcgeioaaGreatDoor
open Go.RowKit Go.Maps

/-- A key that is there is written: there are no more entries. -/
theorem MapV.put_at {w : World} {kt mb n : Nat} {f : Lit → Option Value} {t e : TypeId} {key : Value} {kl : Lit} (M : MapV w kt mb n f) (K : Keyed Tryz.prog kt) (ht : Tryz.prog.underlying t = some (.map kt e)) (hn : n < maxLen) (hkey : keyOf Tryz.prog kt key = some kl) (hkl : WideAt.IsKeyLit kl) (hin : (f kl).isSome = true) (v : Value) :
    ∃ w', (Instr.mapUpdate t (.map (some mb)) key v).run Tryz.prog w = .ok () w' ∧ MapV w' kt mb n (updK f kl (some v)) ∧ w.grownBy w' (some mb) ∧ w'.heap.size = w.heap.size := by
  obtain ⟨D, hown, hD⟩ := M
  obtain ⟨w', hrun, hown', ht'⟩ := hown.store K ht hn hkey (show heldR v = some (.held v, []) from rfl)
  refine ⟨w', hrun, ⟨_, ?_, MapV.put_facts hown.isMap hkl hD⟩, ht'.grown, by obtain ⟨_, _, _, _, _, rfl⟩ := ht'; simp [ChangeMaps.setBlock]⟩
  have hsz : Maps.size (D.put kl (.held v)) ≤ n := by
    rw [Maps.size_put (hown.tidy K), (hD kl hkl).2, hin]
    exact hown.size_le
  obtain ⟨es, clock, hb, F, _, hDe⟩ := hown'
  refine ⟨es, clock, hb, F, ?_, hDe⟩
  rw [hDe] at hsz
  simpa [Maps.size, length_sorted] using hsz
/-- Files of which one is another inode. -/
def setF (fs : List (ByteArray × Nat)) (s : ByteArray) (q : Nat) : List (ByteArray × Nat) := fs.map fun x => if x.1 = s then (s, q) else x
theorem updK_twice (f : Lit → Option Value) (k : Lit) (a b : Option Value) : updK (updK f k a) k b = updK f k b := by
  funext j
  by_cases e : j = k
  · rw [e, updK_same, updK_same]
  · rw [updK_other _ _ e, updK_other _ _ e, updK_other _ _ e]
theorem updK_comm (f : Lit → Option Value) {k j : Lit} (h : ¬ k = j) (a b : Option Value) : updK (updK f k a) j b = updK (updK f j b) k a := by
  funext i
  by_cases e1 : i = k
  · rw [e1, updK_other _ _ h, updK_same, updK_same]
  · by_cases e2 : i = j
    · rw [e2, updK_same, updK_other _ _ (fun e => h e.symm), updK_same]
    · rw [updK_other _ _ e2, updK_other _ _ e1, updK_other _ _ e1, updK_other _ _ e2]
theorem findF_snoc (l : List (ByteArray × Nat)) (x : ByteArray × Nat) (p : ByteArray) : findF (l ++ [x]) p = if x.1 = p then some x.2 else findF l p := by simp [findF]
theorem setF_snoc (l : List (ByteArray × Nat)) (x : ByteArray × Nat) (s : ByteArray) (q : Nat) : setF (l ++ [x]) s q = setF l s q ++ [if x.1 = s then (s, q) else x] := by simp [setF]
theorem snoc_ind {α : Type} {P : List α → Prop} (h0 : P []) (h1 : ∀ l x, P l → P (l ++ [x])) : ∀ (n : Nat) (l : List α), l.length = n → P l
  | 0, l, h => by rw [List.eq_nil_of_length_eq_zero h]; exact h0
  | n + 1, l, h => by
    have hne : l ≠ [] := fun e => by rw [e] at h; simp at h
    obtain ⟨m, x, rfl⟩ : ∃ m x, l = m ++ [x] := ⟨l.dropLast, l.getLast hne, (List.dropLast_concat_getLast hne).symm⟩
    exact h1 m x (snoc_ind h0 h1 n m (by simpa using h))
theorem setF_none (s : ByteArray) (q : Nat) (fs : List (ByteArray × Nat)) : findF fs s = none → setF fs s q = fs := snoc_ind (P := fun fs => findF fs s = none → setF fs s q = fs) (fun _ => rfl) (fun l x ih h => by
  rw [findF_snoc] at h
  split at h
  · cases h
  · rename_i e
    rw [setF_snoc, if_neg e, ih h]) _ fs rfl
theorem fmap_set (s : ByteArray) (q : Nat) (fs : List (ByteArray × Nat)) : (findF fs s).isSome = true → fmap (setF fs s q) = updK (fmap fs) (.string s.data.toList) (some (.int .i64 (q : Int))) := snoc_ind (P := fun fs => (findF fs s).isSome = true → fmap (setF fs s q) = updK (fmap fs) (.string s.data.toList) (some (.int .i64 (q : Int)))) (fun h => by cases h) (fun l x ih h => by
  rw [findF_snoc] at h
  rw [setF_snoc, fmap_snoc, fmap_snoc]
  by_cases e : x.1 = s
  · rw [if_pos e, e, updK_twice]
    cases hl : findF l s with
    | none => rw [setF_none s q l hl]
    | some m => rw [ih (by rw [hl]; rfl), updK_twice]
  · rw [if_neg e] at h ⊢
    rw [ih h, updK_comm _ (fun h' => e (bytes_eq (by simpa using h'.symm)))]) _ fs rfl
theorem ntI_set {tr : List (Option NTree)} {k : Nat} {x : NTree} (hx : ntI tr (k : Int) = some x) (o : Option NTree) (j : Int) : ntI (tr.set k o) j = if j = (k : Int) then o else ntI tr j := by
  have hk : k < tr.length := by
    rw [ntI_nat] at hx
    cases h : tr[k]? with
    | none => rw [h] at hx; cases hx
    | some z => exact (List.getElem?_eq_some_iff.1 h).1
  unfold ntI
  by_cases h0 : 0 ≤ j
  · rw [if_pos h0, if_pos h0]
    by_cases e : j = (k : Int)
    · rw [if_pos e, e, Int.toNat_natCast, List.getElem?_set_self hk]; rfl
    · rw [if_neg e, List.getElem?_set_ne (by omega)]
  · rw [if_neg h0, if_neg h0, if_neg (by omega)]
section
variable {w w' : World} {T0 dp tb mb m1 m2 n1 d : Nat} {tr : List (Option NTree)} {fb : Nat → Nat}
theorem DirAt.setF (D : DirAt w T0 dp tb mb m1 m2 n1 d tr fb) {k : Nat} {x : NTree} (hx : ntI tr (k : Int) = some x) (fs : List (ByteArray × Nat)) (hg : w.grownBy w' (some (fb k))) (M : MapV w' 9 (fb k) 1000000 (fmap fs)) : DirAt w' T0 dp tb mb m1 m2 n1 d (tr.set k (some { x with fs := fs })) fb := by
  obtain ⟨f1, f2, M1, M2, h0, h1, h2⟩ := D.maps
  obtain ⟨_, _, Mk, q1, q2, q3, q4⟩ := h1 k x hx
  obtain ⟨es, cl, hm⟩ := Mk.obj
  have hk : ∀ (q : Nat) (o : Obj), w.heap[q]? = some o → q ≠ fb k → w'.heap[q]? = some o := fun q o hq hne => by rw [hg.block q (Array.getElem?_eq_some_iff.1 hq).1 (fun e => hne (Option.some.inj e))]; exact hq
  have hc : ∀ (q : Nat) cs ty, w.heap[q]? = some (Obj.cells cs ty (0, 0)) → w'.heap[q]? = some (Obj.cells cs ty (0, 0)) := fun q cs ty hq => hk q _ hq (fun e => by rw [e, hm] at hq; cases hq)
  have mk : ∀ {kt mm q : Nat} {f : Lit → Option Value}, MapV w kt mm q f → mm ≠ fb k → MapV w' kt mm q f := fun M hne => by
    obtain ⟨es, cl, h⟩ := M.obj
    exact M.keep ((hk _ _ h hne).trans h.symm)
  refine ⟨by rw [List.length_set]; exact hc _ _ _ D.box, ⟨f1, f2, mk M1 q1.symm, mk M2 q2.symm, fun j hj => ?_, fun j y hy => ?_, fun i j y z hy hz e => ?_⟩, D.low⟩
  · rw [ntI_set hx] at hj
    split at hj
    · cases hj
    · exact h0 j hj
  · rw [ntI_set hx] at hy
    split at hy
    · rename_i e
      have e' : j = k := by omega
      subst e'
      cases hy
      obtain ⟨⟨u, a1, a2⟩, a3, _, a5⟩ := h1 j x hx
      exact ⟨⟨u, a1, a2.kept hg.size (fun q c h => hc q c _ h)⟩, a3, M, a5⟩
    · rename_i e
      obtain ⟨⟨u, a1, a2⟩, a3, a4, a5⟩ := h1 j y hy
      exact ⟨⟨u, a1, a2.kept hg.size (fun q c h => hc q c _ h)⟩, a3, mk a4 (fun e2 => e (by rw [h2 j k y x hy hx e2])), a5⟩
  · have key : ∀ (i : Nat) (y : NTree), ntI (tr.set k (some { x with fs := fs })) (i : Int) = some y → ∃ y', ntI tr (i : Int) = some y' := fun i y hy => by
      rw [ntI_set hx] at hy
      split at hy
      · rename_i e; exact ⟨x, by rw [e]; exact hx⟩
      · exact ⟨y, hy⟩
    obtain ⟨y', hy'⟩ := key i y hy
    obtain ⟨z', hz'⟩ := key j z hz
    exact h2 i j y' z' hy' hz' e
end
end Go.Proofs.YteefneelcgeioaaGreatDoor
namespace Go.Proofs.YteefneelcgeioaaGreatDoor
open Go.RowKit Go.Maps

section
variable {w : World} {T0 dp tb mb m1 m2 n1 d bb sp sb cap n N : Nat} {tr : List (Option NTree)} {fb : Nat → Nat} {s : TSt} {a : Nat → Addr}
set_option maxRecDepth 100000 in
set_option maxHeartbeats 1000000 in
theorem dshare_ino (k q : Int) (p : ByteArray) (c : Nat) (hk : (Lit.int .i64 k).wf = true) (hp : p.size ≤ 1000000) (P : PSen a w) (D : DirAt w T0 dp tb mb m1 m2 n1 d tr fb) (hi : inoR tr k p = .error c) :
    Calls Tryz.prog 12 #[.pointer (some ⟨dp, 0, none⟩), .int .i64 k, .string p, .int .i64 q] w fun e w' => e = .returned (.iface 235 (.pointer (some (a c)))) ∧ Below w.heap.size w w' := by
  have HIN := dinode_any a k p hk hp P D
  rw [hi] at HIN
  have HIN : Hid (Calls Tryz.prog 18 #[.pointer (some ⟨dp, 0, none⟩), .int .i64 k, .string p] w fun e w' => e = .returned (.tuple #[.int .i64 0, .iface 235 (.pointer (some (a c)))]) ∧ Below w.heap.size w w') := HIN
  clear D P hi
  go_enter Tryz.func12, Tryz.ntmps12
  go_wp2_with (go_at_call 18; refine HIN.out.mono ?_; rintro e w1 ⟨rfl, b1⟩)
  go_ret
  exact ⟨rfl, b1⟩
/-- What Share has ahead of it, where there is such a file. -/
theorem share_ino (k : Int) (p : ByteArray) (was : Nat) (hk : (Lit.int .i64 k).wf = true) (hp : p.size ≤ 1000000) (P : PSen a w) (D : DirAt w T0 dp tb mb m1 m2 n1 d tr fb) (hi : inoR tr k p = .ok was) :
    Calls Tryz.prog 18 #[.pointer (some ⟨dp, 0, none⟩), .int .i64 k, .string p] w fun e w' => e = .returned (.tuple #[.int .i64 (was : Int), .nilIface]) ∧ Below w.heap.size w w' := by
  have HIN := dinode_any a k p hk hp P D
  rw [hi] at HIN
  exact HIN
set_option maxRecDepth 100000 in
set_option maxHeartbeats 1000000 in
theorem dshare_none (k q : Int) (p : ByteArray) (was : Nat) (hk : (Lit.int .i64 k).wf = true) (hq : (Lit.int .i64 q).wf = true) (hp : p.size ≤ 1000000) (P : PSen a w) (D : DirAt w T0 dp tb mb m1 m2 n1 d tr fb) (T : TbAt w (fun _ => False) T0 tb bb sp sb cap mb n s.bl s.u s.tab) (hi : inoR tr k p = .ok was) (hno : slotI s.tab q = none) :
    Calls Tryz.prog 12 #[.pointer (some ⟨dp, 0, none⟩), .int .i64 k, .string p, .int .i64 q] w fun e w' => e = .returned (.iface 235 (.pointer (some (a 5)))) ∧ Below w.heap.size w w' := by
  have HIN := share_ino k p was hk hp P D hi
  have HST : Hid (∀ W, Below w.heap.size w W → W.cell? ⟨dp, 0, none⟩ = some (.pointer (some ⟨tb, 0, none⟩)) ∧ Calls Tryz.prog 20 #[.pointer (some ⟨tb, 0, none⟩), .int .i64 q] W fun e w' => e = .returned (.tuple #[.agg #[.int .i64 0, .int .i64 0, .bool false, .slice none 0 0, .int .u32 0], .bool false]) ∧ Below W.heap.size W w') := fun W hW => ⟨(D.below hW).cells.1, im_stat_none q hq hno W (T.below hW)⟩
  have HNO : Hid (∀ W, Below w.heap.size w W → W.cell? ⟨1, 0, none⟩ = some (.iface 235 (.pointer (some (a 5))))) := fun W hW => (P.below hW).no
  clear D P T hi hno
  go_enter Tryz.func12, Tryz.ntmps12
  go_wp2_with (first
    | (go_at_call 18; refine HIN.mono ?_; rintro e w1 ⟨rfl, b1⟩; (obtain ⟨c0, HS1⟩ := HST.out w1 b1); clear HIN HST)
    | (go_at_call 20; refine HS1.mono ?_; rintro e w2 ⟨rfl, b2⟩; (have HB2 : Hid (Below w.heap.size w (w2.alloc (.cells #[.int .i64 0, .int .i64 0, .bool false, .slice none 0 0, .int .u32 0] 54))) := (b1.trans (b2.mono b1.size)).alloc (b1.trans (b2.mono b1.size)).size _); (have c5 := HNO.out _ HB2.out)))
  go_ret
  exact ⟨rfl, HB2.out⟩
/-- A Stat of what is there. -/
theorem share_stat (j : Nat) (z : Ino) (D : DirAt w T0 dp tb mb m1 m2 n1 d tr fb) (T : TbAt w (fun _ => False) T0 tb bb sp sb cap mb n s.bl s.u s.tab) (S : SInv N s.bl s.u s.tab) (hz : slotT s.tab j = some z) :
    ∀ W, Below w.heap.size w W → W.cell? ⟨dp, 0, none⟩ = some (.pointer (some ⟨tb, 0, none⟩)) ∧ Calls Tryz.prog 20 #[.pointer (some ⟨tb, 0, none⟩), .int .i64 (j : Int)] W fun e w' => ∃ ax cx, e = .returned (.tuple #[.agg #[.int .i64 (z.bytes : Int), .int .i64 (z.links : Int), .bool z.exec, .slice ax z.blocks.length cx, .int .u32 (z.sum : Int)], .bool true]) ∧ Below W.heap.size W w' := fun W hW => by
  obtain ⟨_, _, _, s4, s5⟩ := S.own j z hz
  refine ⟨(D.below hW).cells.1, (im_stat j z hz (by rw [s5]; unfold needN; omega) W (T.below hW)).mono fun e w' ⟨v, he, hv, hb⟩ => ?_⟩
  obtain ⟨ax, cx, rfl, _⟩ := hv
  rw [ints_len] at he
  exact ⟨ax, cx, he, hb⟩
set_option maxRecDepth 100000 in
set_option maxHeartbeats 1000000 in
theorem dshare_same (k : Int) (p : ByteArray) (was : Nat) (z : Ino) (hk : (Lit.int .i64 k).wf = true) (hp : p.size ≤ 1000000) (P : PSen a w) (D : DirAt w T0 dp tb mb m1 m2 n1 d tr fb) (T : TbAt w (fun _ => False) T0 tb bb sp sb cap mb n s.bl s.u s.tab) (S : SInv N s.bl s.u s.tab) (hi : inoR tr k p = .ok was) (hz : slotT s.tab was = some z) :
    Calls Tryz.prog 12 #[.pointer (some ⟨dp, 0, none⟩), .int .i64 k, .string p, .int .i64 (was : Int)] w fun e w' => e = .returned .nilIface ∧ Below w.heap.size w w' := by
  have HIN := share_ino k p was hk hp P D hi
  have HST : Hid _ := share_stat was z D T S hz
  clear D P T hi S hz
  go_enter Tryz.func12, Tryz.ntmps12
  go_wp2_with (first
    | (go_at_call 18; refine HIN.mono ?_; rintro e w1 ⟨rfl, b1⟩; (obtain ⟨c0, HS1⟩ := HST.out w1 b1); clear HIN HST)
    | (go_at_call 20; refine HS1.mono ?_; rintro e w2 ⟨ax, cx, rfl, b2⟩))
  go_ret
  exact ⟨rfl, (b1.trans (b2.mono b1.size)).alloc (b1.trans (b2.mono b1.size)).size _⟩
set_option maxRecDepth 100000 in
set_option maxHeartbeats 1000000 in
theorem dshare_not (k : Int) (p : ByteArray) (was j : Nat) (y z : Ino) (er es : Value) (hk : (Lit.int .i64 k).wf = true) (hp : p.size ≤ 1000000) (P : PSen a w) (D : DirAt w T0 dp tb mb m1 m2 n1 d tr fb) (T : TbAt w (fun _ => False) T0 tb bb sp sb cap mb n s.bl s.u s.tab) (S : SInv N s.bl s.u s.tab) (hi : inoR tr k p = .ok was) (hy : slotT s.tab was = some y) (hz : slotT s.tab j = some z) (hne : ¬ j = was) (hcy : crcR (readD s.bl y.blocks y.bytes) = y.sum) (hcz : crcR (readD s.bl z.blocks z.bytes) = z.sum) (hl : likeI s.bl y z = false) (eg : w.cell? ⟨2, 0, none⟩ = some er) (tE : TypeId) (eh : w.cell? ⟨3, 0, none⟩ = some (.iface tE es)) :
    Calls Tryz.prog 12 #[.pointer (some ⟨dp, 0, none⟩), .int .i64 k, .string p, .int .i64 (j : Int)] w fun e w' => e = .returned (.iface tE es) ∧ Below w.heap.size w w' := by
  have HIN := share_ino k p was hk hp P D hi
  have HST : Hid _ := share_stat j z D T S hz
  have HAL : Hid (∀ W, Below w.heap.size w W → Calls Tryz.prog 37 #[.pointer (some ⟨dp, 0, none⟩), .int .i64 (was : Int), .int .i64 (j : Int)] W fun e w' => e = .returned (.iface tE es) ∧ Below W.heap.size W w') := fun W hW => by
    have h := alike_any was j y z er (.iface tE es) hy hz hcy hcz (T.below hW) S (D.below hW).box (by rw [hW.cell (p := ⟨2, 0, none⟩) (World.block_lt_of_cell? w _ eg)]; exact eg) (by rw [hW.cell (p := ⟨3, 0, none⟩) (World.block_lt_of_cell? w _ eh)]; exact eh)
    rw [hl] at h
    exact h
  have hneI : ((j : Int) == (was : Int)) = false := beq_eq_false_iff_ne.2 (by omega)
  clear D P T hi S hz hy hcy hcz hl eg eh hne
  go_enter Tryz.func12, Tryz.ntmps12
  go_wp2_with (first
    | (go_at_call 18; refine HIN.mono ?_; rintro e w1 ⟨rfl, b1⟩; (obtain ⟨c0, HS1⟩ := HST.out w1 b1); clear HIN HST)
    | (go_at_call 20; refine HS1.mono ?_; rintro e w2 ⟨ax, cx, rfl, b2⟩; (have HB2 : Hid (Below w.heap.size w (w2.alloc (.cells #[.int .i64 (z.bytes : Int), .int .i64 (z.links : Int), .bool z.exec, .slice ax z.blocks.length cx, .int .u32 (z.sum : Int)] 54))) := (b1.trans (b2.mono b1.size)).alloc (b1.trans (b2.mono b1.size)).size _); (have HA2 := HAL.out _ HB2.out); clear HAL b1 b2)
    | (go_at_call 37; refine HA2.mono ?_; rintro e w3 ⟨rfl, b3⟩))
  go_ret
  exact ⟨rfl, HB2.out.trans (b3.mono HB2.out.size)⟩
end
end Go.Proofs.YteefneelcgeioaaGreatDoor
namespace Go.Proofs.YteefneelcgeioaaGreatDoor
open Go.RowKit Go.Maps

/-- One link more, one less. -/
def lnkS (s : TSt) (j : Nat) (z : Ino) : TSt := ⟨s.bl, s.u, s.tab.set j (some { z with links := z.links + 1 })⟩
def unlS (s : TSt) (i : Nat) (y : Ino) : TSt := if y.links = 1 then ⟨s.bl, markR s.u false y.blocks, s.tab.set i none⟩ else ⟨s.bl, s.u, s.tab.set i (some { y with links := y.links - 1 })⟩
theorem lnk_inv {N : Nat} {s : TSt} {j : Nat} {z : Ino} (S : SInv N s.bl s.u s.tab) (hz : slotT s.tab j = some z) : SInv N (lnkS s j z).bl (lnkS s j z).u (lnkS s j z).tab := S.links hz (by omega)
theorem unl_inv {N : Nat} {s : TSt} {i : Nat} {y : Ino} (S : SInv N s.bl s.u s.tab) (hy : slotT s.tab i = some y) : SInv N (unlS s i y).bl (unlS s i y).u (unlS s i y).tab := by
  unfold unlS
  have h1 := (S.own i y hy).2.2.1
  split
  · exact S.drop hy
  · exact S.links hy (by omega)
theorem PBut.of_tb {T0 mb dp : Nat} {w w' : World} (h : TbBut T0 mb w w') : PBut T0 dp w w' := ⟨h.os, h.tape, h.output, h.size, fun k o hk hp _ => h.block k o hk hp⟩
theorem PBut.of_below {T0 dp : Nat} {w w' : World} (h : Below w.heap.size w w') : PBut T0 dp w w' := ⟨h.os, h.tape, h.output, h.size, fun k o hk _ _ => by rw [h.block k (Array.getElem?_eq_some_iff.1 hk).1]; exact hk⟩
theorem PBut.trans {T0 dp : Nat} {w w1 w2 : World} (h : PBut T0 dp w w1) (h' : PBut T0 dp w1 w2) : PBut T0 dp w w2 := ⟨h'.os.trans h.os, h'.tape.trans h.tape, h'.output.trans h.output, Nat.le_trans h.size h'.size, fun k o hk hp hd => h'.block k o (h.block k o hk hp hd) hp hd⟩
section
variable {w : World} {T0 dp tb mb m1 m2 n1 d bb sp sb cap n N : Nat} {tr : List (Option NTree)} {fb : Nat → Nat} {s : TSt} {a : Nat → Addr}
/-- An Unlink of what is there. -/
theorem unlink_any (i : Nat) (y : Ino) (eb en : Value) (hy : slotT s.tab i = some y) (hlk : y.links ≤ 1000000) (T : TbAt w (fun _ => False) T0 tb bb sp sb cap mb n s.bl s.u s.tab) (S : SInv N s.bl s.u s.tab) (hEb : w.cell? ⟨6, 0, none⟩ = some eb) (hEn : w.cell? ⟨1, 0, none⟩ = some en) (hgT : 6 < T0 ∧ 1 < T0) :
    Calls Tryz.prog 36 #[.pointer (some ⟨tb, 0, none⟩), .int .i64 (i : Int)] w fun e w' => e = .returned .nilIface ∧ TbAt w' (fun _ => False) T0 tb bb sp sb cap mb n (unlS s i y).bl (unlS s i y).u (unlS s i y).tab ∧ TbBut T0 mb w w' := by
  obtain ⟨_, _, h1, h4, h5⟩ := S.own i y hy
  by_cases e : y.links = 1
  · have h := im_unlink_last i y eb en hy e w T hEb hEn hgT (fun b hb => by rw [S.lu]; exact S.lt hy b hb) (S.gives hy) (by rw [h5]; unfold needN; omega)
    unfold unlS; rw [if_pos e]; exact h
  · have h := im_unlink i (y.links - 1) y hy (by omega) (by omega) (by omega) w T
    unfold unlS; rw [if_neg e]; exact h
set_option maxRecDepth 100000 in
set_option maxHeartbeats 2000000 in
theorem dshare_ok (k : Nat) (p : ByteArray) (x : NTree) (was j : Nat) (y z : Ino) (er es eb en : Value) (hk : (Lit.int .i64 (k : Int)).wf = true) (hp : p.size ≤ 1000000) (P : PSen a w) (D : DirAt w T0 dp tb mb m1 m2 n1 d tr fb) (T : TbAt w (fun _ => False) T0 tb bb sp sb cap mb n s.bl s.u s.tab) (S : SInv N s.bl s.u s.tab) (hx : ntI tr (k : Int) = some x) (hf : findF x.fs p = some was) (hi : inoR tr (k : Int) p = .ok was) (hy : slotT s.tab was = some y) (hz : slotT s.tab j = some z) (hne : ¬ j = was) (hly : y.links ≤ 1000000) (hlz : z.links ≤ 1000000) (hcy : crcR (readD s.bl y.blocks y.bytes) = y.sum) (hcz : crcR (readD s.bl z.blocks z.bytes) = z.sum) (hl : likeI s.bl y z = true) (eg : w.cell? ⟨2, 0, none⟩ = some er) (eh : w.cell? ⟨3, 0, none⟩ = some es) (hEb : w.cell? ⟨6, 0, none⟩ = some eb) (hEn : w.cell? ⟨1, 0, none⟩ = some en) (hgT : 6 < T0 ∧ 1 < T0) :
    Calls Tryz.prog 12 #[.pointer (some ⟨dp, 0, none⟩), .int .i64 (k : Int), .string p, .int .i64 (j : Int)] w fun e w' => e = .returned .nilIface ∧ DirAt w' T0 dp tb mb m1 m2 n1 d (tr.set k (some { x with fs := setF x.fs p j })) fb ∧ TbAt w' (fun _ => False) T0 tb bb sp sb cap mb n (unlS (lnkS s j z) was y).bl (unlS (lnkS s j z) was y).u (unlS (lnkS s j z) was y).tab ∧ PBut T0 dp w w' := by
  have HIN := share_ino (k : Int) p was hk hp P D hi
  have HST : Hid _ := share_stat j z D T S hz
  have HAL : Hid (∀ W, Below w.heap.size w W → Calls Tryz.prog 37 #[.pointer (some ⟨dp, 0, none⟩), .int .i64 (was : Int), .int .i64 (j : Int)] W fun e w' => e = .returned .nilIface ∧ Below W.heap.size W w') := fun W hW => by
    have h := alike_any was j y z er es hy hz hcy hcz (T.below hW) S (D.below hW).box (by rw [hW.cell (p := ⟨2, 0, none⟩) (World.block_lt_of_cell? w _ eg)]; exact eg) (by rw [hW.cell (p := ⟨3, 0, none⟩) (World.block_lt_of_cell? w _ eh)]; exact eh)
    rw [hl] at h
    exact h
  have hneI : ((j : Int) == (was : Int)) = false := beq_eq_false_iff_ne.2 (by omega)
  have hy1 : slotT (lnkS s j z).tab was = some y := by
    show slotT (s.tab.set j _) was = _
    rw [slotT_set (slotT_lt hz), if_neg (fun e => hne e.symm)]; exact hy
  have HUP : Hid (∀ W, Below w.heap.size w W → W.cell? ⟨dp, 2, none⟩ = some (.map (some m2)) ∧ (Instr.lookup 77 (.map (some m2)) (.int .i64 (k : Int)) false).run Tryz.prog W = .ok (.map (some (fb k))) W ∧ ∃ W4, (Instr.mapUpdate 81 (.map (some (fb k))) (.string p) (.int .i64 (j : Int))).run Tryz.prog W = .ok () W4 ∧ W4.cell? ⟨dp, 0, none⟩ = some (.pointer (some ⟨tb, 0, none⟩)) ∧ Calls Tryz.prog 38 #[.pointer (some ⟨tb, 0, none⟩), .int .i64 (j : Int)] W4 fun e W5 => e = .returned .nilIface ∧ W5.cell? ⟨dp, 0, none⟩ = some (.pointer (some ⟨tb, 0, none⟩)) ∧ Calls Tryz.prog 36 #[.pointer (some ⟨tb, 0, none⟩), .int .i64 (was : Int)] W5 fun e2 W6 => e2 = .returned .nilIface ∧ DirAt W6 T0 dp tb mb m1 m2 n1 d (tr.set k (some { x with fs := setF x.fs p j })) fb ∧ TbAt W6 (fun _ => False) T0 tb bb sp sb cap mb n (unlS (lnkS s j z) was y).bl (unlS (lnkS s j z) was y).u (unlS (lnkS s j z) was y).tab ∧ PBut T0 dp w W6) := fun W hW => by
    have DW := D.below hW
    obtain ⟨_, _, _, _, _, e3, Mk, q1, q2, q3, q4⟩ := DW.yes hk hx
    refine ⟨DW.cells.2.2.1, e3, ?_⟩
    obtain ⟨W4, r4, M4, g4, z4⟩ := Mk.put_at keyStr Tryz.underlying81 (by unfold maxLen; omega) (WideMaps.keyOf_string_mk Tryz.underlying9 (s := p) (by unfold maxLen; omega)) trivial (by rw [fmap_find p _ _ rfl, hf]; rfl) (.int .i64 (j : Int))
    rw [← fmap_set p j x.fs (by rw [hf]; rfl)] at M4
    have D4 := DW.setF hx (setF x.fs p j) g4 M4
    obtain ⟨es4, cl4, hm4⟩ := Mk.obj
    have k4 : ∀ (q : Nat) (o : Obj), W.heap[q]? = some o → q ≠ fb k → W4.heap[q]? = some o := fun q o hq hne => by rw [g4.block q (Array.getElem?_eq_some_iff.1 hq).1 (fun e => hne (Option.some.inj e))]; exact hq
    have T4 := (T.below hW).but1 k4 q3 (fun o ho => by rw [hm4] at ho; cases ho; exact .inl rfl)
    have cE : ∀ (g : Nat) (v : Value), w.cell? ⟨g, 0, none⟩ = some v → W4.cell? ⟨g, 0, none⟩ = some v := fun g v hv => by
      have hgl := World.block_lt_of_cell? w _ hv
      have hWv : W.cell? ⟨g, 0, none⟩ = some v := by rw [hW.cell (p := ⟨g, 0, none⟩) hgl]; exact hv
      have hgf : g ≠ fb k := fun e => by rw [e] at hWv; simp [World.cell?, hm4] at hWv
      rw [World.cell?_of_block (a := ⟨g, 0, none⟩) (g4.block g (World.block_lt_of_cell? W _ hWv) (fun e => hgf (Option.some.inj e)))]; exact hWv
    have P4 : PBut T0 dp w W4 := (PBut.of_below hW).trans ⟨g4.os, g4.tape, g4.output, g4.size, fun q o hq hp' _ => k4 q o hq (fun e => by
      rcases hp' with h | h
      · omega
      · rw [e, hm4] at hq; cases hq; cases h)⟩
    refine ⟨W4, r4, D4.cells.1, (im_link j z hz hlz W4 T4).mono fun e W5 ⟨he, T5, B5⟩ => ⟨he, (D4.but B5).cells.1, ?_⟩⟩
    refine (unlink_any was y eb en hy1 hly T5 (lnk_inv S hz) (B5.cellE hgT.1 (cE _ _ hEb)) (B5.cellE hgT.2 (cE _ _ hEn)) hgT).mono fun e2 W6 ⟨he2, T6, B6⟩ => ⟨he2, (D4.but B5).but B6, T6, (P4.trans (PBut.of_tb B5)).trans (PBut.of_tb B6)⟩
  clear D P T hi S hz hy hcy hcz hl eg eh hne hx hf hy1 hEb hEn
  go_enter Tryz.func12, Tryz.ntmps12
  go_wp2_with (first
    | (go_at_call 18; refine HIN.mono ?_; rintro e w1 ⟨rfl, b1⟩; (obtain ⟨c0, HS1⟩ := HST.out w1 b1); clear HIN HST)
    | (go_at_call 20; refine HS1.mono ?_; rintro e w2 ⟨ax, cx, rfl, b2⟩; (have HB2 : Hid (Below w.heap.size w (w2.alloc (.cells #[.int .i64 (z.bytes : Int), .int .i64 (z.links : Int), .bool z.exec, .slice ax z.blocks.length cx, .int .u32 (z.sum : Int)] 54))) := (b1.trans (b2.mono b1.size)).alloc (b1.trans (b2.mono b1.size)).size _); (have HA2 := HAL.out _ HB2.out); clear HAL b1 b2 HS1)
    | (go_at_call 37; refine HA2.mono ?_; rintro e w3 ⟨rfl, b3⟩; (obtain ⟨c2, hl2, W4, r4, c4, HL4⟩ := HUP.out w3 (HB2.out.trans (b3.mono HB2.out.size))); clear HA2 HUP b3)
    | refine wpList_mapPut (by rfl) _ _ _ 81 (by rfl) (.map (some (fb k))) (.string p) (.int .i64 (j : Int)) (by rfl) (by rfl) (by rfl) r4 ?_
    | (go_at_call 38; refine HL4.mono ?_; rintro e W5 ⟨rfl, c5, HU5⟩; clear HL4)
    | (go_at_call 36; refine HU5.mono ?_; rintro e W6 ⟨rfl, hD6, hT6, hP6⟩; (have HE : Hid _ := (⟨hD6, hT6, hP6⟩ : _ ∧ _ ∧ _)); clear HU5 hD6 hT6 hP6))
  go_ret
  exact ⟨rfl, HE.out⟩
end
end Go.Proofs.YteefneelcgeioaaGreatDoor
