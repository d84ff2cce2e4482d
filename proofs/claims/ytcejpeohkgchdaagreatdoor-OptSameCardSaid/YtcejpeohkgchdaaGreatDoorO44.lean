/-
  A look of an inode as a key; what firsts finds, as a function on lists.
  The contract of opt's firsts: of each inode that can be read, the least one that is alike.
  Files that become the least inodes that are alike, one after another: pure facts.
  Conditions: those that each states.
-/
import Derived.Test.YtcejpeohkgchdaaGreatDoorO43
import Derived.DeepKeys4
namespace Go.Proofs.YtcejpeohkgchdaaGreatDoor
open Go.RowKit Go.Maps Go.WideMaps

theorem laidOutK : laidOutB Tryz.prog = true := by kernel_rfl
theorem rowLook : (259 : TypeId) < Tryz.prog.types.size := of_decide_eq_true (by kernel_rfl)
theorem wideLook : (match Tryz.prog.underlying 259 with | some (.array _ _) | some (.struct _) => true | _ => false) = true := by kernel_rfl
set_option maxRecDepth 100000 in
theorem keyLook : Keyed Tryz.prog 259 := Keyed.of_law (deep_law_laid laidOutK (m := 2) (by omega) rowLook (by kernel_rfl) wideLook)
theorem cellsLook : Tryz.prog.cellsOf 259 = 2 := by kernel_rfl
theorem cellsStrL : Tryz.prog.cellsOf 9 = 1 := by kernel_rfl
theorem cellsBoolL : Tryz.prog.cellsOf 4 = 1 := by kernel_rfl
theorem keyTLook : Tryz.prog.keyType 259 = true := by kernel_rfl
theorem typesN : Tryz.prog.types.size = 346 := by kernel_rfl
/-- The key of a look. -/
def lookL (d : ByteArray) (e : Bool) : Lit := .string (keyBytes [.string d.data.toList, .bool e])
theorem look_key (d : ByteArray) (e : Bool) (hd : d.size ≤ maxLen) : keyOf Tryz.prog 259 (.agg #[.string d, .bool e]) = some (lookL d e) := by
  unfold keyOf
  have hu := Tryz.underlying259
  have hf : (Value.agg #[.string d, .bool e]).formed Tryz.prog 259 = true := by simp [Value.formed, hu, cellsLook]
  rw [hu]
  simp only [keyTLook, hf, Bool.and_self, if_true]
  have hc : (Value.agg #[.string d, .bool e]).cells.toList = [.string d, .bool e] := rfl
  rw [hc, typesN]
  have e1 : Tryz.prog.keyLits (346 + 1) 259 [.string d, .bool e] = some [.string d.data.toList, .bool e] := by
    have k1 : ∀ n, Tryz.prog.keyLits (n + 1) 9 [.string d] = some [.string d.data.toList] := fun n => by
      simp [Program.keyLits, Tryz.underlying9, hd]
    have k2 : ∀ n, Tryz.prog.keyLits (n + 1) 4 [.bool e] = some [.bool e] := fun n => by
      simp [Program.keyLits, Tryz.underlying4]
    rw [show (346 : Nat) = (346 - 1) + 1 from rfl]
    generalize (346 - 1 : Nat) = m
    unfold Program.keyLits
    rw [hu]
    simp only [cellsLook, List.length_cons, List.length_nil]
    rw [if_pos ⟨trivial, by kernel_rfl⟩]
    simp only [List.mapM_cons, List.mapM_nil, cellsStrL, cellsBoolL, List.drop_zero, List.take_succ_cons, List.take_zero, List.drop_succ_cons, k1, k2]
    rfl
  rw [e1]
  rfl
theorem lookL_inj {d d' : ByteArray} {e e' : Bool} (hd : d.size ≤ maxLen) (hd' : d'.size ≤ maxLen) (h : lookL d e = lookL d' e') : d = d' ∧ e = e' := by
  have h1 := look_key d e hd
  have h2 := look_key d' e' hd'
  rw [h] at h1
  have := keyLook.inj h1 h2
  simpa using this
/-- The look of an inode, and can it be read? -/
def lkT (bl : List (List UInt8)) (tab : List (Option Ino)) (q : Nat) : ByteArray × Bool := match slotT tab q with
  | some y => (readD bl y.blocks y.bytes, y.exec)
  | none => (ByteArray.empty, false)
def okT (bl : List (List UInt8)) (tab : List (Option Ino)) (q : Nat) : Bool := match slotT tab q with
  | some y => decide (crcR (readD bl y.blocks y.bytes) = y.sum)
  | none => false
def rl (bl : List (List UInt8)) (tab : List (Option Ino)) (l : List Nat) : List Nat := l.filter (okT bl tab)
/-- The first one with a look. -/
def leastL (lk : Nat → ByteArray × Bool) (R : List Nat) (x : ByteArray × Bool) : Option Nat := R.find? fun r => decide (lk r = x)
def firstL (lk : Nat → ByteArray × Bool) (R : List Nat) (q : Nat) : Option Nat := if q ∈ R then leastL lk R (lk q) else none
theorem leastL_snoc (lk : Nat → ByteArray × Bool) (R : List Nat) (q : Nat) (x : ByteArray × Bool) : leastL lk (R ++ [q]) x = (leastL lk R x).or (if lk q = x then some q else none) := by
  unfold leastL
  rw [List.find?_append]
  congr 1
  by_cases h : lk q = x <;> simp [h]
theorem leastL_self {lk : Nat → ByteArray × Bool} {R : List Nat} {q : Nat} (h : q ∈ R) : ∃ r, leastL lk R (lk q) = some r := by
  unfold leastL
  cases e : R.find? fun r => decide (lk r = lk q) with
  | some r => exact ⟨r, rfl⟩
  | none => exact absurd (List.find?_eq_none.1 e q h) (by simp)
theorem leastL_spec {lk : Nat → ByteArray × Bool} {R : List Nat} {x : ByteArray × Bool} {r : Nat} (h : leastL lk R x = some r) : r ∈ R ∧ lk r = x := by
  unfold leastL at h
  exact ⟨List.mem_of_find?_eq_some h, by simpa using List.find?_some h⟩
def intV (r : Nat) : Value := .int .i64 (r : Int)
/-- The map of the least ones, by looks. -/
def LkM (W : World) (b n : Nat) (lk : Nat → ByteArray × Bool) (R : List Nat) : Prop := ∃ f, MapV W 259 b n f ∧ ∀ d e, d.size ≤ maxLen → f (lookL d e) = (leastL lk R (d, e)).map intV
/-- .. and of the first ones, by numbers. -/
def FtM (W : World) (b n : Nat) (lk : Nat → ByteArray × Bool) (R : List Nat) : Prop := ∃ f, MapV W 3 b n f ∧ ∀ q : Nat, f (.int .i64 (q : Int)) = (firstL lk R q).map intV
section
variable {W W' : World} {b n : Nat} {lk : Nat → ByteArray × Bool} {R : List Nat}
theorem LkM.keep (h : LkM W b n lk R) (hb : W'.heap[b]? = W.heap[b]?) : LkM W' b n lk R := by
  obtain ⟨f, M, hf⟩ := h
  exact ⟨f, M.keep hb, hf⟩
theorem FtM.keep (h : FtM W b n lk R) (hb : W'.heap[b]? = W.heap[b]?) : FtM W' b n lk R := by
  obtain ⟨f, M, hf⟩ := h
  exact ⟨f, M.keep hb, hf⟩
theorem LkM.obj (h : LkM W b n lk R) : ∃ es cl, W.heap[b]? = some (.map es cl) := by
  obtain ⟨f, M, _⟩ := h
  exact M.obj
theorem FtM.obj (h : FtM W b n lk R) : ∃ es cl, W.heap[b]? = some (.map es cl) := by
  obtain ⟨f, M, _⟩ := h
  exact M.obj
theorem LkM.look_none (h : LkM W b n lk R) {d : ByteArray} {e : Bool} (hd : d.size ≤ maxLen) (hn : leastL lk R (d, e) = none) : (Instr.lookup 257 (.map (some b)) (.agg #[.string d, .bool e]) true).run Tryz.prog W = .ok (.tuple #[.int .i64 0, .bool false]) W := by
  obtain ⟨f, M, hf⟩ := h
  have h1 := M.look_ok keyLook Tryz.underlying257 (zeroInt W) (look_key d e hd) trivial
  rw [h1, hf d e hd, hn]
  rfl
theorem LkM.look_some (h : LkM W b n lk R) {d : ByteArray} {e : Bool} {r : Nat} (hd : d.size ≤ maxLen) (hn : leastL lk R (d, e) = some r) : (Instr.lookup 257 (.map (some b)) (.agg #[.string d, .bool e]) true).run Tryz.prog W = .ok (.tuple #[.int .i64 (r : Int), .bool true]) W ∧ (Instr.lookup 257 (.map (some b)) (.agg #[.string d, .bool e]) false).run Tryz.prog W = .ok (.int .i64 (r : Int)) W := by
  obtain ⟨f, M, hf⟩ := h
  have h1 := M.look_ok keyLook Tryz.underlying257 (zeroInt W) (look_key d e hd) trivial
  have h2 := M.look keyLook Tryz.underlying257 (zeroInt W) (look_key d e hd) trivial
  rw [hf d e hd, hn] at h1 h2
  exact ⟨h1, h2⟩
theorem LkM.put (h : LkM W b n lk R) {d : ByteArray} {e : Bool} {q : Nat} (hd : d.size ≤ maxLen) (hn : leastL lk R (d, e) = none) (hq : lk q = (d, e)) (hz : n < 10000000) : ∃ w', (Instr.mapUpdate 257 (.map (some b)) (.agg #[.string d, .bool e]) (.int .i64 (q : Int))).run Tryz.prog W = .ok () w' ∧ LkM w' b (n + 1) lk (R ++ [q]) ∧ W.grownBy w' (some b) ∧ w'.heap.size = W.heap.size := by
  obtain ⟨f, M, hf⟩ := h
  obtain ⟨w', h1, M', h2, h3⟩ := M.put keyLook Tryz.underlying257 (by unfold maxLen; omega) (look_key d e hd) trivial (.int .i64 (q : Int))
  refine ⟨w', h1, ⟨_, M', fun d' e' hd' => ?_⟩, h2, h3⟩
  rw [leastL_snoc]
  by_cases hk : lookL d' e' = lookL d e
  · obtain ⟨rfl, rfl⟩ := lookL_inj hd' hd hk
    rw [updK_same, hn, if_pos hq]
    rfl
  · rw [updK_other _ _ hk, hf d' e' hd', if_neg (fun h => hk (by rw [hq] at h; cases h; rfl)), Option.or_none]
theorem LkM.skip (h : LkM W b n lk R) {q r : Nat} (hn : leastL lk R (lk q) = some r) : LkM W b (n + 1) lk (R ++ [q]) := by
  obtain ⟨f, M, hf⟩ := h
  refine ⟨f, M.mono (by omega), fun d e hd => ?_⟩
  rw [hf d e hd, leastL_snoc]
  by_cases he : lk q = (d, e)
  · rw [← he, hn]; rfl
  · rw [if_neg he, Option.or_none]
theorem FtM.put (h : FtM W b n lk R) {q r : Nat} (hq : q ≤ 1000000) (hn : n < 10000000) (hR : q ∉ R) (hr : leastL lk (R ++ [q]) (lk q) = some r) : ∃ w', (Instr.mapUpdate 222 (.map (some b)) (.int .i64 (q : Int)) (.int .i64 (r : Int))).run Tryz.prog W = .ok () w' ∧ FtM w' b (n + 1) lk (R ++ [q]) ∧ W.grownBy w' (some b) ∧ w'.heap.size = W.heap.size := by
  obtain ⟨f, M, hf⟩ := h
  obtain ⟨w', h1, M', h2, h3⟩ := M.put keyInt Tryz.underlying222 (by unfold maxLen; omega) (keyOf_int_mk Tryz.underlying3 (wf_nat hq)) trivial (.int .i64 (r : Int))
  refine ⟨w', h1, ⟨_, M', fun p => ?_⟩, h2, h3⟩
  unfold firstL
  by_cases e : p = q
  · subst e
    rw [updK_same, if_pos (by simp), hr]
    rfl
  · rw [updK_other _ _ (fun h => e (by simp at h; omega)), hf]
    unfold firstL
    by_cases hm : p ∈ R
    · obtain ⟨s, hs⟩ := leastL_self (lk := lk) hm
      rw [if_pos hm, if_pos (by simp [hm]), leastL_snoc, hs]
      rfl
    · rw [if_neg hm, if_neg (by simp [hm, e])]
theorem FtM.skip (h : FtM W b n lk R) : FtM W b (n + 1) lk R := by
  obtain ⟨f, M, hf⟩ := h
  exact ⟨f, M.mono (by omega), hf⟩
theorem LkM.next (h : LkM W b n lk R) : LkM W b (n + 1) lk R := by
  obtain ⟨f, M, hf⟩ := h
  exact ⟨f, M.mono (by omega), hf⟩
theorem FtM.look (h : FtM W b n lk R) {q : Nat} (hq : q ≤ 1000000) : (Instr.lookup 222 (.map (some b)) (.int .i64 (q : Int)) true).run Tryz.prog W = .ok (.tuple #[((firstL lk R q).map intV).getD (.int .i64 0), .bool (firstL lk R q).isSome]) W := by
  obtain ⟨f, M, hf⟩ := h
  have h1 := M.look_ok keyInt Tryz.underlying222 (zeroInt W) (keyOf_int_mk Tryz.underlying3 (wf_nat hq)) trivial
  rw [h1, hf]
  cases firstL lk R q <;> rfl
end
end Go.Proofs.YtcejpeohkgchdaaGreatDoor
namespace Go.Proofs.YtcejpeohkgchdaaGreatDoor
open Go.RowKit Go.Maps

/-- firsts' loop, between two inodes. -/
structure FsAt (w : World) (i : Nat) (lk : Nat → ByteArray × Bool) (R : List Nat) (av : Value) (A : List Nat) (W : World) : Prop where
  least : LkM W w.heap.size i lk R
  first : FtM W (w.heap.size + 1) i lk R
  all : OwnI W (w.heap.size + 2) av A
  low : Below w.heap.size w W
section
variable {w W W' : World} {i : Nat} {lk : Nat → ByteArray × Bool} {R A : List Nat} {av : Value}
theorem FsAt.below (S : FsAt w i lk R av A W) (h : Below W.heap.size W W') : FsAt w i lk R av A W' := by
  obtain ⟨_, _, h1⟩ := S.least.obj
  obtain ⟨_, _, h2⟩ := S.first.obj
  exact ⟨S.least.keep (h.block _ (Array.getElem?_eq_some_iff.1 h1).1), S.first.keep (h.block _ (Array.getElem?_eq_some_iff.1 h2).1), S.all.below h, S.low.trans (h.mono S.low.size)⟩
theorem FsAt.next (S : FsAt w i lk R av A W) : FsAt w (i + 1) lk R av A W := ⟨S.least.next, S.first.skip, S.all, S.low⟩
theorem all_but {b : Nat} (S : FsAt w i lk R av A W) (hg : W.grownBy W' (some b)) (hb : w.heap.size ≤ b) (ho : ∃ es cl, W.heap[b]? = some (.map es cl)) : OwnI W' (w.heap.size + 2) av A ∧ Below w.heap.size w W' := by
  obtain ⟨es, cl, ho⟩ := ho
  refine ⟨ownsRow_ext' (w := W) (e := 3) (size := 1) S.all fun k hk => hg.block k ((World.ownsRow.lt (w := W) (e := 3) (size := 1) S.all k hk).2) fun e => ?_, ⟨hg.os.trans S.low.os, hg.tape.trans S.low.tape, hg.output.trans S.low.output, Nat.le_trans S.low.size hg.size, fun k hk => ?_⟩⟩
  · obtain ⟨cur, hc⟩ := rowTyD (w := W) (e := 3) (size := 1) S.all hk
    cases e
    rw [ho] at hc
    cases hc
  · rw [hg.block k (Nat.lt_of_lt_of_le hk S.low.size) fun e => by cases e; omega]
    exact S.low.block k hk
/-- An inode with a look that was not seen yet. -/
theorem FsAt.new (S : FsAt w i lk R av A W) {d : ByteArray} {e : Bool} {q : Nat} (hd : d.size ≤ maxLen) (hl : lk q = (d, e)) (hn : leastL lk R (d, e) = none) (hq : q ≤ 1000000) (hi : i ≤ 1000000) (hR : q ∉ R) :
    ∃ w1, (Instr.mapUpdate 257 (.map (some w.heap.size)) (.agg #[.string d, .bool e]) (.int .i64 (q : Int))).run Tryz.prog W = .ok () w1 ∧ (∀ (k : Nat) (o : Obj), W.heap[k]? = some o → k ≠ w.heap.size → w1.heap[k]? = some o) ∧ (Instr.lookup 257 (.map (some w.heap.size)) (.agg #[.string d, .bool e]) false).run Tryz.prog w1 = .ok (.int .i64 (q : Int)) w1 ∧
      ∃ w2, (Instr.mapUpdate 222 (.map (some (w.heap.size + 1))) (.int .i64 (q : Int)) (.int .i64 (q : Int))).run Tryz.prog w1 = .ok () w2 ∧ FsAt w (i + 1) lk (R ++ [q]) av A w2 := by
  obtain ⟨w1, r1, L1, g1, s1⟩ := S.least.put hd hn hl (by omega)
  have o1 := S.least.obj
  obtain ⟨a1, b1⟩ := all_but S g1 (Nat.le_refl _) o1
  have hr : leastL lk (R ++ [q]) (d, e) = some q := by rw [leastL_snoc, hn, if_pos hl]; rfl
  have k1 : ∀ (k : Nat) (o : Obj), W.heap[k]? = some o → k ≠ w.heap.size → w1.heap[k]? = some o := fun k o hk hne => by
    rw [g1.block k (Array.getElem?_eq_some_iff.1 hk).1 fun e => hne (Option.some.inj e)]; exact hk
  obtain ⟨_, _, o2⟩ := S.first.obj
  have F1 : FtM w1 (w.heap.size + 1) i lk R := S.first.keep (by rw [o2]; exact k1 _ _ o2 (by omega))
  obtain ⟨w2, r2, F2, g2, s2⟩ := F1.put (r := q) hq (by omega) hR (by rw [hl]; exact hr)
  refine ⟨w1, r1, k1, (L1.look_some hd hr).2, w2, r2, ?_⟩
  have S1 : FsAt w i lk R av A w1 → True := fun _ => trivial
  obtain ⟨es, cl, o2'⟩ := F1.obj
  obtain ⟨_, _, o1'⟩ := L1.obj
  refine ⟨L1.keep (g2.block _ (Array.getElem?_eq_some_iff.1 o1').1 fun e => absurd (Option.some.inj e) (by omega)), F2, ownsRow_ext' (w := w1) (e := 3) (size := 1) a1 fun k hk => g2.block k ((World.ownsRow.lt (w := w1) (e := 3) (size := 1) a1 k hk).2) fun e => ?_, ⟨g2.os.trans b1.os, g2.tape.trans b1.tape, g2.output.trans b1.output, Nat.le_trans b1.size g2.size, fun k hk => ?_⟩⟩
  · obtain ⟨cur, hc⟩ := rowTyD (w := w1) (e := 3) (size := 1) a1 hk
    cases e
    rw [o2'] at hc
    cases hc
  · rw [g2.block k (Nat.lt_of_lt_of_le hk b1.size) fun e => by cases e; omega]
    exact b1.block k hk
/-- .. and one whose look was seen. -/
theorem FsAt.old (S : FsAt w i lk R av A W) {d : ByteArray} {e : Bool} {q r : Nat} (hl : lk q = (d, e)) (hn : leastL lk R (d, e) = some r) (hq : q ≤ 1000000) (hi : i ≤ 1000000) (hR : q ∉ R) :
    ∃ w2, (Instr.mapUpdate 222 (.map (some (w.heap.size + 1))) (.int .i64 (q : Int)) (.int .i64 (r : Int))).run Tryz.prog W = .ok () w2 ∧ FsAt w (i + 1) lk (R ++ [q]) av A w2 := by
  have hr : leastL lk (R ++ [q]) (d, e) = some r := by rw [leastL_snoc, hn]; rfl
  obtain ⟨w2, r2, F2, g2, s2⟩ := S.first.put (r := r) hq (by omega) hR (by rw [hl]; exact hr)
  obtain ⟨a1, b1⟩ := all_but S g2 (by omega) S.first.obj
  obtain ⟨_, _, o1⟩ := S.least.obj
  exact ⟨w2, r2, (S.least.skip (r := r) (by rw [hl]; exact hn)).keep (g2.block _ (Array.getElem?_eq_some_iff.1 o1).1 fun e => absurd (Option.some.inj e) (by omega)), F2, a1, b1⟩
end
section
variable {w : World} {T0 tb bb sp sb cap mb n N : Nat} {F : Nat → Prop} {bl : List (List UInt8)} {u : List Bool} {tab : List (Option Ino)}
set_option maxRecDepth 100000 in
set_option maxHeartbeats 4000000 in
theorem firsts_any (ep : Value) (T : TbAt w F T0 tb bb sp sb cap mb n bl u tab) (S : SInv N bl u tab) (hE : w.cell? ⟨2, 0, none⟩ = some (.iface 316 ep)) :
    Calls Tryz.prog 132 #[.pointer (some ⟨tb, 0, none⟩)] w fun e w' => ∃ b k, e = .returned (.map (some b)) ∧ FtM w' b k (lkT bl tab) (rl bl tab (allT tab)) ∧ w.heap.size ≤ b ∧ Below w.heap.size w w' := by
  have hmm := @run_makeMap Tryz.prog
  obtain ⟨lk, HLK⟩ : ∃ lk, Hid (lk = lkT bl tab) := ⟨_, (rfl : _ = _)⟩
  obtain ⟨A, HA⟩ : ∃ A, Hid (A = allT tab) := ⟨_, (rfl : _ = _)⟩
  obtain ⟨W0, HW0⟩ : ∃ W0, Hid (W0 = (w.alloc (.map #[] 0)).alloc (.map #[] 0)) := ⟨_, (rfl : _ = _)⟩
  have hb0 : Below w.heap.size w W0 := by rw [HW0.out]; exact ((Below.refl _ w).alloc (Nat.le_refl _) _).trans (((Below.refl _ _).alloc (Nat.le_refl _) _).mono (by simp))
  have hsz0 : W0.heap.size = w.heap.size + 2 := by rw [HW0.out]; simp
  have HM0 : Hid (LkM W0 w.heap.size 0 lk [] ∧ FtM W0 (w.heap.size + 1) 0 lk []) := by
    have e : (w.alloc (.map #[] 0)).heap.size = w.heap.size + 1 := by simp
    rw [HW0.out]
    refine ⟨⟨_, (MapV.made w 259).keep (Below.heap_alloc _ _ _ (by simp)), fun _ _ _ => rfl⟩, ⟨_, by rw [← e]; exact MapV.made _ 3, fun _ => rfl⟩⟩
  have HAL : Hid (Calls Tryz.prog 31 #[.pointer (some ⟨tb, 0, none⟩)] W0 fun e w' => ∃ aa ac, e = .returned (.slice aa A.length ac) ∧ OwnI w' W0.heap.size (.slice aa A.length ac) A ∧ Below W0.heap.size W0 w') := by
    rw [HA.out]
    refine (im_all W0 (T.below hb0)).mono fun e w' ⟨v, he, hO, hb⟩ => ?_
    obtain ⟨ta, tc, rfl⟩ := hO.form
    exact ⟨ta, tc, he, hO, hb⟩
  have HRD : Hid (∀ q ∈ A, q ≤ 1000000 ∧ ∃ (d : ByteArray) (x : Bool), d.size ≤ maxLen ∧ lk q = (d, x) ∧ ∀ W, Below w.heap.size w W →
      ((okT bl tab q = true ∧ (Calls Tryz.prog 14 #[.pointer (some ⟨tb, 0, none⟩), .int .i64 (q : Int)] W fun e w' => e = .returned (.tuple #[.string d, .nilIface]) ∧ Below W.heap.size W w')) ∨ (okT bl tab q = false ∧ (Calls Tryz.prog 14 #[.pointer (some ⟨tb, 0, none⟩), .int .i64 (q : Int)] W fun e w' => e = .returned (.tuple #[.string { data := #[] }, .iface 316 ep]) ∧ Below W.heap.size W w'))) ∧
      Calls Tryz.prog 13 #[.pointer (some ⟨tb, 0, none⟩), .int .i64 (q : Int)] W fun e w' => ∃ x0 x1 x4 ba bn bc, e = .returned (.tuple #[.agg #[.int .i64 x0, .int .i64 x1, .bool x, .slice ba bn bc, .int .u32 x4], .bool true]) ∧ Below W.heap.size W w') := fun q hq => by
    rw [HA.out] at hq
    obtain ⟨y, hy⟩ := allT_mem.1 hq
    have ho := S.own q y hy
    have hlt := slotT_lt hy
    have hl := T.low.2.2.2.2.2
    have hin : ∀ k ∈ y.blocks, k < bl.length := fun k hk => S.lbl ▸ (S.lt hy k hk)
    have hbk : y.blocks.length ≤ 1000 := by rw [ho.2.2.2.2]; unfold needN; omega
    refine ⟨by omega, readD bl y.blocks y.bytes, y.exec, Nat.le_trans (readD_len _ _ _) (by unfold maxLen; omega), by rw [HLK.out]; unfold lkT; rw [hy], fun W hW => ⟨?_, ?_⟩⟩
    · have hEW : W.cell? ⟨2, 0, none⟩ = some (.iface 316 ep) := (hW.cell (p := ⟨2, 0, none⟩) (World.block_lt_of_cell? w _ hE)).trans hE
      by_cases hc : crcR (readD bl y.blocks y.bytes) = y.sum
      · exact .inl ⟨by unfold okT; rw [hy]; simp [hc], im_read q y _ hy hc W (T.below hW) hin hbk (by omega) hEW⟩
      · exact .inr ⟨by unfold okT; rw [hy]; simp [hc], im_read_bad q y _ hy hc W (T.below hW) hin hbk (by omega) hEW⟩
    · refine (im_stat q y hy (by omega) W (T.below hW)).mono ?_
      rintro e w' ⟨v, he, ⟨ba, bc, rfl, _⟩, hb⟩
      exact ⟨_, _, _, ba, _, bc, he, hb⟩
  have hAL : A.length ≤ 100000 := by
    rw [HA.out]
    have h1 := T.low.2.2.2.2.2
    have : (allT tab).length ≤ tab.length := by unfold allT; exact Nat.le_trans (List.length_filter_le _ _) (by rw [List.length_range]; exact Nat.le_refl _)
    omega
  have HND : Hid (A.Nodup) := by rw [HA.out]; exact allT_nodup tab
  have HB0 : Hid (Below w.heap.size w W0) := hb0
  rw [← HLK.out, ← HA.out]
  clear T S hE hb0
  go_enter Tryz.func132, Tryz.ntmps132
  go_wp2_with fail
  rw [← HW0.out]
  refine Calls.mono HAL.out ?_
  rintro e wt ⟨aa, ac, rfl, hO, hb⟩
  have HFT : Hid (FsAt w 0 lk [] (.slice aa A.length ac) A wt) := by
    obtain ⟨_, _, o1⟩ := HM0.out.1.obj
    obtain ⟨_, _, o2⟩ := HM0.out.2.obj
    exact ⟨HM0.out.1.keep (hb.block _ (Array.getElem?_eq_some_iff.1 o1).1), HM0.out.2.keep (hb.block _ (Array.getElem?_eq_some_iff.1 o2).1), by rw [← hsz0]; exact hO, HB0.out.trans (hb.mono HB0.out.size)⟩
  clear hO hb HAL HM0 HB0 HW0 hsz0
  go_wp2_with fail
  go_loopw [19] (fun iv wl => ∃ i : Nat, i ≤ A.length ∧ iv = .int .i64 i ∧ FsAt w i lk (rl bl tab (A.take i)) (.slice aa A.length ac) A wl) (fun iv _ => A.length - (intOf iv).toNat)
  case atStart => exact ⟨0, Nat.zero_le _, rfl, HFT.out⟩
  case round =>
    obtain ⟨i, hi, rfl, hf⟩ := hrel
    have HF : Hid (FsAt w i lk (rl bl tab (A.take i)) (.slice aa A.length ac) A wr) := hf
    clear hf HFT
    by_cases hlt : i < A.length
    · obtain ⟨q, hq⟩ : ∃ q, A[i]? = some q := ⟨_, List.getElem?_eq_getElem hlt⟩
      obtain ⟨hqn, d, x, hd, hlk, hW⟩ := HRD.out q (List.mem_of_getElem? hq)
      obtain ⟨ag, acp, ea, _, hag, hca⟩ := HF.out.all.at hq
      simp only [Value.slice.injEq] at ea
      obtain ⟨rfl, _, rfl⟩ := ea
      have HNR : Hid (q ∉ rl bl tab (A.take i)) := fun h => by
        have hm := (List.mem_filter.1 h).1
        obtain ⟨hk, e⟩ := List.getElem?_eq_some_iff.1 hq
        obtain ⟨m, hm1, hm2⟩ := List.mem_take_iff_getElem.1 hm
        have := (List.pairwise_iff_getElem.1 HND.out) m i (by omega) hk (by omega)
        exact this (by rw [hm2, e])
      have HTK : Hid (rl bl tab (A.take (i + 1)) = if okT bl tab q = true then rl bl tab (A.take i) ++ [q] else rl bl tab (A.take i)) := by
        show _ = _
        unfold rl
        rw [take_next hq, List.filter_append]
        by_cases h : okT bl tab q = true
        · rw [if_pos h, List.filter_cons_of_pos (by simpa using h), List.filter_nil]
        · rw [if_neg h, List.filter_cons_of_neg (by simpa using h), List.filter_nil, List.append_nil]
      have HLQ : Hid (lk q = (d, x)) := hlk
      have HWS : Hid (∀ W, Below w.heap.size w W → Calls Tryz.prog 13 #[.pointer (some ⟨tb, 0, none⟩), .int .i64 (q : Int)] W fun e w' => ∃ x0 x1 x4 ba bn bc, e = .returned (.tuple #[.agg #[.int .i64 x0, .int .i64 x1, .bool x, .slice ba bn bc, .int .u32 x4], .bool true]) ∧ Below W.heap.size W w') := fun W h => (hW W h).2
      have hR := (hW wr HF.out.low).1
      generalize rl bl tab (A.take i) = R at *
      clear hW hq hlk hag
      rcases hR with ⟨hok, hR⟩ | ⟨hok, hR⟩
      · rw [if_pos hok] at HTK
        clear hok
        go_wp2_with fail
        refine Calls.mono hR ?_
        rintro e w4 ⟨rfl, b4⟩
        have HF4 : Hid (FsAt w i lk R (.slice (some ⟨ag, 0, none⟩) A.length ac) A w4) := HF.out.below b4
        clear b4 hR hca HF
        go_wp2_with fail
        refine Calls.mono (HWS.out w4 HF4.out.low) ?_
        rintro e w5 ⟨x0, x1, x4, ba, bn, bc, rfl, b5⟩
        obtain ⟨U7, HU7⟩ : ∃ U7, Hid (U7 = (w5.alloc (.cells #[.int .i64 x0, .int .i64 x1, .bool x, .slice ba bn bc, .int .u32 x4] 39)).alloc (.cells #[.string d, .bool x] 259)) := ⟨_, (rfl : _ = _)⟩
        have hb7 : Below w5.heap.size w5 U7 := by rw [HU7.out]; exact ((Below.refl _ w5).alloc (Nat.le_refl _) _).trans (((Below.refl _ _).alloc (Nat.le_refl _) _).mono (by simp))
        have HF7 : Hid (FsAt w i lk R (.slice (some ⟨ag, 0, none⟩) A.length ac) A U7) := (HF4.out.below b5).below hb7
        have hrow : U7.heap[w5.heap.size + 1]? = some (.cells #[.string d, .bool x] 259 (0, 0)) := by
          have e : (w5.alloc (.cells #[.int .i64 x0, .int .i64 x1, .bool x, .slice ba bn bc, .int .u32 x4] 39)).heap.size = w5.heap.size + 1 := by simp
          rw [HU7.out, ← e]
          exact heap_alloc_last _ _
        have hw5 : w.heap.size < w5.heap.size := by
          obtain ⟨_, _, o⟩ := (HF4.out.below b5).least.obj
          exact (Array.getElem?_eq_some_iff.1 o).1
        clear b5 hb7 HF4 HWS
        cases hl : leastL lk R (d, x) with
        | none =>
          have hlook := HF7.out.least.look_none hd hl
          obtain ⟨w1, r1, k1, l1, w2, r2, F2⟩ := HF7.out.new hd HLQ.out hl hqn (by omega) HNR.out
          have hrow1 := k1 _ _ hrow (by omega)
          have c0 : w1.cell? ⟨w5.heap.size + 1, 0, none⟩ = some (.string d) := by rw [cell_of_row _ _ _ _ _ _ hrow1]; rfl
          have c1 : w1.cell? ⟨w5.heap.size + 1, 1, none⟩ = some (.bool x) := by rw [cell_of_row _ _ _ _ _ _ hrow1]; rfl
          have HF2 : Hid (FsAt w (i + 1) lk (R ++ [q]) (.slice (some ⟨ag, 0, none⟩) A.length ac) A w2) := F2
          rw [HU7.out] at hlook r1
          clear k1 F2 hrow hrow1 HF7 hl HLQ HNR HU7
          go_wp2_with fail
          exact ⟨⟨i + 1, by omega, by simp, by rw [HTK.out]; exact HF2.out⟩, by simp [intOf]; omega⟩
        | some r =>
          obtain ⟨hlook, hlook2⟩ := HF7.out.least.look_some hd hl
          obtain ⟨w2, r2, F2⟩ := HF7.out.old HLQ.out hl hqn (by omega) HNR.out
          have HF2 : Hid (FsAt w (i + 1) lk (R ++ [q]) (.slice (some ⟨ag, 0, none⟩) A.length ac) A w2) := F2
          rw [HU7.out] at hlook hlook2 r2
          clear F2 hrow HF7 hl HLQ HNR HU7
          go_wp2_with fail
          exact ⟨⟨i + 1, by omega, by simp, by rw [HTK.out]; exact HF2.out⟩, by simp [intOf]; omega⟩
      · rw [if_neg (by rw [hok]; simp)] at HTK
        clear hok HWS HNR
        go_wp2_with fail
        refine Calls.mono hR ?_
        rintro e w4 ⟨rfl, b4⟩
        have HF4 : Hid (FsAt w (i + 1) lk R (.slice (some ⟨ag, 0, none⟩) A.length ac) A w4) := (HF.out.below b4).next
        clear b4 hR hca
        go_wp2_with fail
        exact ⟨⟨i + 1, by omega, by simp, by rw [HTK.out]; exact HF4.out⟩, by simp [intOf]; omega⟩
    · obtain rfl : i = A.length := by omega
      rw [List.take_length] at HF
      go_wp2_with fail
      go_ret
      exact ⟨_, _, rfl, HF.out.first, by omega, HF.out.low⟩
end
end Go.Proofs.YtcejpeohkgchdaaGreatDoor
namespace Go.Proofs.YtcejpeohkgchdaaGreatDoor
open Go.RowKit Go.Maps

/-- One file's inode becomes another. -/
def updF (k : Nat) (p : ByteArray) (r : Nat) (f : Nat × ByteArray × Nat) : Nat × ByteArray × Nat := if f.1 = k ∧ f.2.1 = p then (k, p, r) else f
theorem allN_same {tr tr' : List (Option NTree)} (h : tr'.map Option.isSome = tr.map Option.isSome) : allN tr' = allN tr := by
  have hl : tr'.length = tr.length := by have := congrArg List.length h; simpa using this
  unfold allN
  rw [hl]
  refine List.filter_congr fun k _ => ?_
  rw [ntI_nat, ntI_nat]
  have hk := congrArg (fun l => l[k]?) h
  simp only [List.getElem?_map] at hk
  cases h1 : tr'[k]? with
  | none => cases h2 : tr[k]? with
    | none => rfl
    | some o => rw [h1, h2] at hk; cases hk
  | some o' => cases h2 : tr[k]? with
    | none => rw [h1, h2] at hk; cases hk
    | some o =>
      rw [h1, h2] at hk
      simp only [Option.map_some, Option.some.injEq] at hk
      cases o <;> cases o' <;> first | rfl | cases hk
theorem filesD_set {tr : List (Option NTree)} {k : Nat} {x : NTree} (hx : ntI tr (k : Int) = some x) (p : ByteArray) (r : Nat) : filesD (tr.set k (some { x with fs := setF x.fs p r })) = (filesD tr).map (updF k p r) := by
  unfold filesD
  rw [allN_same (isSome_set hx), List.map_flatMap, List.flatMap_def, List.flatMap_def]
  congr 1
  refine List.map_congr_left fun j _ => ?_
  unfold filesK
  rw [ntI_set hx]
  by_cases hj : j = k
  · subst hj
    rw [if_pos rfl, hx]
    simp only [setF, List.map_map]
    refine List.map_congr_left fun f _ => ?_
    simp only [Function.comp, updF]
    by_cases hf : f.1 = p
    · rw [if_pos hf, if_pos ⟨trivial, hf⟩]
    · rw [if_neg hf, if_neg (fun h => hf h.2)]
  · rw [if_neg (by omega)]
    cases ntI tr (j : Int) with
    | none => rfl
    | some y =>
      simp only [List.map_map]
      refine List.map_congr_left fun f _ => ?_
      simp only [Function.comp, updF]
      rw [if_neg (fun h => hj h.1)]
/-- The place of a file. -/
def place (f : Nat × ByteArray × Nat) : Nat × ByteArray := (f.1, f.2.1)
theorem filesD_mem {tr : List (Option NTree)} {k q : Nat} {p : ByteArray} : (k, p, q) ∈ filesD tr ↔ ∃ x, ntI tr (k : Int) = some x ∧ (p, q) ∈ x.fs := by
  unfold filesD
  rw [List.mem_flatMap]
  constructor
  · rintro ⟨j, hj, hf⟩
    unfold filesK at hf
    cases h : ntI tr (j : Int) with
    | none => rw [h] at hf; cases hf
    | some x =>
      rw [h] at hf
      obtain ⟨f, hf2, e⟩ := List.mem_map.1 hf
      simp only [Prod.mk.injEq] at e
      obtain ⟨rfl, rfl, rfl⟩ := e
      exact ⟨x, h, hf2⟩
  · rintro ⟨x, h, hf⟩
    refine ⟨k, allN_mem.2 ⟨x, h⟩, ?_⟩
    unfold filesK
    rw [h]
    exact List.mem_map.2 ⟨_, hf, rfl⟩
theorem flat_nodup {β : Type} {f : Nat → List β} {g : β → Nat} (hg : ∀ k, ∀ b ∈ f k, g b = k) (hf : ∀ k, (f k).Nodup) : ∀ {l : List Nat}, l.Nodup → (l.flatMap f).Nodup
  | [], _ => List.nodup_nil
  | k :: l, h => by
    rw [List.nodup_cons] at h
    rw [List.flatMap_cons, List.nodup_append]
    refine ⟨hf k, flat_nodup hg hf h.2, fun a ha b hb e => ?_⟩
    subst e
    obtain ⟨j, hj, hb⟩ := List.mem_flatMap.1 hb
    rw [← hg j a hb, hg k a ha] at hj
    exact h.1 hj
theorem places_nodup {d : Nat} {tr : List (Option NTree)} (O : TrOk d tr) : ((filesD tr).map place).Nodup := by
  unfold filesD
  rw [List.map_flatMap]
  refine flat_nodup (g := Prod.fst) (fun k b hb => ?_) (fun k => ?_) ((List.nodup_range).filter _)
  · obtain ⟨f, hf, rfl⟩ := List.mem_map.1 hb
    unfold filesK at hf
    cases h : ntI tr (k : Int) with
    | none => rw [h] at hf; cases hf
    | some x =>
      rw [h] at hf
      obtain ⟨f', _, rfl⟩ := List.mem_map.1 hf
      rfl
  · unfold filesK
    cases h : ntI tr (k : Int) with
    | none => exact List.nodup_nil
    | some x =>
      have hn := (O k x h).2.2.2.2.1
      simp only [List.map_map]
      have e : (x.fs.map (place ∘ fun f => (k, f.1, f.2))) = (x.fs.map (·.1)).map fun p => (k, p) := by rw [List.map_map]; rfl
      rw [e]
      exact List.Pairwise.map _ (fun a b hab h => hab (by simpa using h)) hn
/-- The first files are turned. -/
def mixed (G : Nat → Nat) (L : List (Nat × ByteArray × Nat)) (i : Nat) : List (Nat × ByteArray × Nat) := (L.take i).map (fun f => (f.1, f.2.1, G f.2.2)) ++ L.drop i
theorem mixed_zero (G : Nat → Nat) (L : List (Nat × ByteArray × Nat)) : mixed G L 0 = L := by simp [mixed]
theorem drop_at {α : Type} {L : List α} {i : Nat} {f : α} (h : L[i]? = some f) : L.drop i = f :: L.drop (i + 1) := by
  obtain ⟨hk, e⟩ := List.getElem?_eq_some_iff.1 h
  rw [List.drop_eq_getElem_cons hk, e]
theorem mixed_at {G : Nat → Nat} {L : List (Nat × ByteArray × Nat)} {i : Nat} {f : Nat × ByteArray × Nat} (h : L[i]? = some f) : f ∈ mixed G L i := by
  unfold mixed
  rw [drop_at h]
  simp
theorem mixed_skip {G : Nat → Nat} {L : List (Nat × ByteArray × Nat)} {i : Nat} {f : Nat × ByteArray × Nat} (h : L[i]? = some f) (hg : G f.2.2 = f.2.2) : mixed G L (i + 1) = mixed G L i := by
  unfold mixed
  rw [take_next h, drop_at h, List.map_append, List.append_assoc]
  congr 1
  simp [hg]
theorem mixed_next {G : Nat → Nat} {L : List (Nat × ByteArray × Nat)} (hn : (L.map place).Nodup) {i k q : Nat} {p : ByteArray} (h : L[i]? = some (k, p, q)) : (mixed G L i).map (updF k p (G q)) = mixed G L (i + 1) := by
  have hone : ∀ (j : Nat) (f : Nat × ByteArray × Nat), L[j]? = some f → j ≠ i → ¬ (f.1 = k ∧ f.2.1 = p) := fun j f hj hne hf => by
    obtain ⟨hjl, ej⟩ := List.getElem?_eq_some_iff.1 hj
    obtain ⟨hil, ei⟩ := List.getElem?_eq_some_iff.1 h
    have h1 : (L.map place)[j]? = (L.map place)[i]? := by
      rw [List.getElem?_map, List.getElem?_map, hj, h]
      simp [place, hf.1, hf.2]
    exact hne ((List.getElem?_inj (by simpa using hjl) hn).1 h1)
  unfold mixed
  rw [take_next h, drop_at h, List.map_append, List.map_append, List.append_assoc]
  congr 1
  · rw [List.map_map]
    refine List.map_congr_left fun f hf => ?_
    obtain ⟨j, hj, e⟩ := List.mem_take_iff_getElem.1 hf
    have hjl : L[j]? = some f := by rw [← e]; exact List.getElem?_eq_getElem _
    simp only [Function.comp, updF]
    rw [if_neg (hone j f hjl (by omega))]
  · rw [List.map_cons, updF, if_pos ⟨rfl, rfl⟩, List.map_cons, List.map_nil, List.cons_append, List.nil_append]
    congr 1
    have : (L.drop (i + 1)).map (updF k p (G q)) = (L.drop (i + 1)).map id := List.map_congr_left fun f hf => by
      obtain ⟨j, hj, e⟩ := List.mem_iff_getElem.1 hf
      rw [List.getElem_drop] at e
      have hjl : L[i + 1 + j]? = some f := by rw [← e]; exact List.getElem?_eq_getElem _
      unfold updF
      rw [if_neg (hone _ f hjl (by omega))]
      rfl
    rw [this, List.map_id]
/-- What a table keeps of an inode, whatever links there are. -/
def SubT (s s' : TSt) : Prop := ∀ q y', slotT s'.tab q = some y' → ∃ y, slotT s.tab q = some y ∧ y'.blocks = y.blocks ∧ y'.bytes = y.bytes ∧ y'.exec = y.exec ∧ y'.sum = y.sum
theorem SubT.refl (s : TSt) : SubT s s := fun _ y h => ⟨y, h, rfl, rfl, rfl, rfl⟩
theorem SubT.trans {s s1 s2 : TSt} (h : SubT s s1) (h' : SubT s1 s2) : SubT s s2 := fun q y2 hy => by
  obtain ⟨y1, h1, a1, a2, a3, a4⟩ := h' q y2 hy
  obtain ⟨y, h0, b1, b2, b3, b4⟩ := h q y1 h1
  exact ⟨y, h0, a1.trans b1, a2.trans b2, a3.trans b3, a4.trans b4⟩
theorem slot_set {tab : List (Option Ino)} {i : Nat} {z : Ino} (hz : slotT tab i = some z) (o : Option Ino) (q : Nat) : slotT (tab.set i o) q = if q = i then o else slotT tab q := by
  have hi := slotT_lt hz
  unfold slotT
  rw [List.getElem?_set]
  by_cases h : q = i
  · subst h
    rw [if_pos rfl, if_pos rfl, if_pos hi]
    rfl
  · rw [if_neg h, if_neg (fun e => h e.symm)]
theorem SubT.share {s : TSt} {i was : Nat} {y z : Ino} (hy : slotT s.tab was = some y) (hz : slotT s.tab i = some z) (hne : ¬ i = was) : SubT s (unlS (lnkS s i z) was y) := fun q y' h => by
  have hyl : slotT (lnkS s i z).tab was = some y := by
    unfold lnkS
    rw [slot_set hz]
    rw [if_neg (fun e => hne e.symm)]; exact hy
  rw [unl_slot hyl] at h
  by_cases hq : q = was
  · rw [if_pos hq] at h
    split at h
    · cases h
    · cases h
      exact ⟨y, by rw [hq]; exact hy, rfl, rfl, rfl, rfl⟩
  · rw [if_neg hq] at h
    unfold lnkS at h
    rw [slot_set hz] at h
    by_cases hqi : q = i
    · rw [if_pos hqi] at h
      cases h
      exact ⟨z, by rw [hqi]; exact hz, rfl, rfl, rfl, rfl⟩
    · rw [if_neg hqi] at h
      exact ⟨y', h, rfl, rfl, rfl, rfl⟩
theorem lk_same {s s' : TSt} (hb : s'.bl = s.bl) (h : SubT s s') {q : Nat} {y : Ino} (hy : slotT s'.tab q = some y) : lkT s'.bl s'.tab q = lkT s.bl s.tab q := by
  obtain ⟨y0, h0, a1, a2, a3, _⟩ := h q y hy
  unfold lkT
  simp only [hy, h0]
  rw [hb, a1, a2, a3]
end Go.Proofs.YtcejpeohkgchdaaGreatDoor
