/-
  The contract of the document's answer, a text that is read: reading's node.
  Conditions: the reading lies in a block of its own.
-/
import Derived.Test.YtilkjafggfdjeaaDoorRefR
import Derived.Test.YtilkjafggfdjeaaDoorPackF
namespace Go.Proofs.YtilkjafggfdjeaaDoor
open Go.RowKit

/-- The state of dir's loop: so many kids are read. -/
structure RirAt (w : World) (rb H d : Nat) (l : List (ByteArray × Tree)) (us : List Value) (v : Value) (s : ByteArray) (sr nr : Nat) (wr : World) : Prop where
  box : wr.heap[H]? = some (.cells #[.string { data := #[100, 105, 114] }, .string { data := #[] }, .bool false, v] 24 (0, 0))
  res : wr.heap[w.heap.size]? = some (.cells #[.string { data := #[] }, .string { data := #[] }, .bool false, .slice none 0 0] 24 (0, 0))
  up : w.heap.size < H
  rd : Rg rb s sr nr wr
  low : rb < w.heap.size
  len : us.length = l.length
  own : wr.ownsRow (H + 1) 40 5 v l.length (kidCells l us)
  kids : ∀ (i : Nat) (x : ByteArray × Tree) (u : Value), l[i]? = some x → us[i]? = some u → LiesQ wr (fun b => H + 1 ≤ b ∧ b < wr.heap.size ∧ v.ownBlock ≠ some b) d x.2.kids u
  names : ∀ x ∈ l, x.1.size ≤ 140737488355328
  kept : Kept (fun k => k = rb) w wr

/-- One kid more. -/
theorem rir_next {w wr w1 w2 wa w5 w6 : World} {rb H d : Nat} {l : List (ByteArray × Tree)} {us : List Value} {v u' : Value} {s : ByteArray} {sr s2 nr n2 : Nat} {x : ByteArray × Tree} {g cap G : Nat} (D : RirAt w rb H d l us v s sr nr wr)
    (hx : x.1.size ≤ 140737488355328) (hk1 : Kept (fun k => k = rb) wr w1) (hk2 : Kept (fun k => k = rb) w1 w2) (R2 : Rg rb s s2 n2 w2) (hu' : LiesQ w2 (fun b => w1.heap.size ≤ b ∧ b < w2.heap.size) d x.2.kids u') (hba : Below w2.heap.size w2 wa)
    (hown1 : w5.ownsRow (H + 1) 40 5 (.slice (some ⟨g, 0, none⟩) (l.length + 1) cap) (l.length + 1) (kidCells l us ++ [.string x.1, .string x.2.kind, .string x.2.data, .bool x.2.exec, u']))
    (hgrow : wa.grownBy w5 v.ownBlock) (hat : v.ownBlock = some g ∨ g = G) (hG : w2.heap.size ≤ G) (h6 : w6 = w5.setCell ⟨H, 3, none⟩ (.slice (some ⟨g, 0, none⟩) (l.length + 1) cap)) :
    RirAt w rb H d (l ++ [x]) (us ++ [u']) (.slice (some ⟨g, 0, none⟩) (l.length + 1) cap) s s2 n2 w6 := by
  have hlow := D.low
  have hup := D.up
  have hbr := lt_of_row D.box
  have hlt := fun k hk => D.own.lt k hk
  have s1 := hk1.size
  have s2' := hk2.size
  have h5 : ∀ k, k < w2.heap.size → v.ownBlock ≠ some k → w5.heap[k]? = w2.heap[k]? := fun k hk hne => by
    rw [hgrow.block k (Nat.lt_of_lt_of_le hk hba.size) (fun e => hne e.symm), hba.block k hk]
  have h2r : ∀ k, k < wr.heap.size → k ≠ rb → w2.heap[k]? = wr.heap[k]? := fun k hk hne => by
    rw [hk2.block k (by omega) hne, hk1.block k hk hne]
  have h5r : ∀ k, k < wr.heap.size → k ≠ rb → v.ownBlock ≠ some k → w5.heap[k]? = wr.heap[k]? := fun k hk hne hv => by
    rw [h5 k (by omega) hv, h2r k hk hne]
  have hs5 : w2.heap.size ≤ w5.heap.size := Nat.le_trans hba.size hgrow.size
  have h6b : ∀ k, k ≠ H → w6.heap[k]? = w5.heap[k]? := fun k hk => by rw [h6]; exact Below.heap_setCell _ _ _ _ hk
  have hs6 : w6.heap.size = w5.heap.size := by rw [h6]; simp [World.setCell]
  have hbox5 : w5.heap[H]? = some (.cells #[.string { data := #[100, 105, 114] }, .string { data := #[] }, .bool false, v] 24 (0, 0)) := by
    rw [h5r H hbr (by omega) (fun e => by have := (hlt _ e).1; omega)]; exact D.box
  refine ⟨?_, ?_, hup, ?_, hlow, ?_, ?_, ?_, ?_, ?_⟩
  · rw [h6]
    simp [World.setCell, Array.getElem?_modify, hbox5]
  · rw [h6b _ (by omega), h5r _ (by omega) (by omega) (fun e => by have := (hlt _ e).1; omega)]; exact D.res
  · unfold Rg
    rw [h6b _ (by omega), h5 _ (by omega) (fun e => by have := (hlt _ e).1; omega)]; exact R2
  · simp [D.len]
  · have e : kidCells (l ++ [x]) (us ++ [u']) = kidCells l us ++ [.string x.1, .string x.2.kind, .string x.2.data, .bool x.2.exec, u'] := kidCells_snoc _ _ _ _ D.len.symm
    rw [e, List.length_append]
    exact ownsRow_ext' hown1 fun k hk => h6b k (by have := (hown1.lt k hk).1; omega)
  · intro i y u hy hu
    have hne : ∀ b, H + 1 ≤ b → b ≠ rb := fun b hb => by omega
    by_cases hi : i < us.length
    · rw [List.getElem?_append_left hi] at hu
      rw [List.getElem?_append_left (by rw [← D.len]; exact hi)] at hy
      refine (D.kids i y u hy hu).kept (fun k hk => by rw [h6b k (by omega), h5r k hk.2.1 (hne k hk.1) hk.2.2]) (fun k hk => ⟨hk.1, by omega, ?_⟩)
      simp only [Value.ownBlock, ne_eq, Option.some.injEq]
      rcases hat with h | h
      · intro e; exact hk.2.2 (by rw [h, e])
      · have := hk.2.1; omega
    · have hle : us.length ≤ i := by omega
      rw [List.getElem?_append_right hle] at hu
      have hi0 : i - us.length = 0 := by
        rcases Nat.eq_zero_or_pos (i - us.length) with h | h
        · exact h
        · rw [List.getElem?_eq_none (by simp; omega)] at hu; cases hu
      rw [hi0] at hu
      simp only [List.getElem?_cons_zero, Option.some.injEq] at hu
      have hij : i = l.length := by have := D.len; omega
      subst hij
      rw [List.getElem?_append_right (Nat.le_refl _), Nat.sub_self] at hy
      simp only [List.getElem?_cons_zero, Option.some.injEq] at hy
      subst hy; subst hu
      refine hu'.kept (fun k hk => by rw [h6b k (by omega), h5 k hk.2 (fun e => by have := (hlt k e).2; omega)]) (fun k hk => ⟨by omega, by omega, ?_⟩)
      simp only [Value.ownBlock, ne_eq, Option.some.injEq]
      rcases hat with h | h
      · have := (hlt g h).2; omega
      · omega
  · intro y hy
    rcases List.mem_append.1 hy with h | h
    · exact D.names y h
    · rw [List.mem_singleton.1 h]; exact hx
  · have hw := D.kept.size
    refine ⟨?_, ?_, ?_, by omega, fun k hk hne => ?_⟩
    · rw [h6]; exact hgrow.os.trans (hba.os.trans (hk2.os.trans (hk1.os.trans D.kept.os)))
    · rw [h6]; exact hgrow.tape.trans (hba.tape.trans (hk2.tape.trans (hk1.tape.trans D.kept.tape)))
    · rw [h6]; exact hgrow.output.trans (hba.output.trans (hk2.output.trans (hk1.output.trans D.kept.output)))
    · rw [h6b k (by omega), h5r k (by omega) hne (fun e => by have := (hlt k e).1; omega)]
      exact D.kept.block k hk hne
/-- All kids are read. -/
theorem rir_end {w wr w' : World} {rb H d nr : Nat} {l : List (ByteArray × Tree)} {us : List Value} {v : Value} {s : ByteArray} {sr : Nat} (D : RirAt w rb H d l us v s sr nr wr) (hlen : l.length ≤ 1759218604390) (S : SameBut w.heap.size wr w') :
    LiesQ w' (fun b => w.heap.size ≤ b ∧ b < w'.heap.size) (d + 1) l v := by
  have hup := D.up
  have hlt := fun k hk => D.own.lt k hk
  have hs := S.size
  refine LiesQ.made (ownsRow_ext' D.own fun k hk => S.block k (by have := (hlt k hk).1; omega)) hlen D.len (fun g hg => ⟨by have := (hlt g hg).1; omega, by have := (hlt g hg).2; omega⟩) D.names fun i x u hx hu => ?_
  exact (D.kids i x u hx hu).kept (fun k hk => S.block k (by omega)) (fun k hk => ⟨by omega, by omega⟩)


/-- What reading's node hands back, as what R tells. -/
def RnPost (R : Except Nat (Tree × (Nat × List UInt8))) (rb f : Nat) (s : ByteArray) (w : World) (e : Ending) (w' : World) : Prop := ∃ o' n', Rg rb s o' n' w' ∧ Kept (fun k => k = rb) w w' ∧
  ((∃ er, R = .error er ∧ e = .returned (.tuple #[.agg #[.string { data := #[] }, .string { data := #[] }, .bool false, .slice none 0 0], .int .i64 ((er : Int) + 1)])) ∨
   (∃ t u, R = .ok (t, (n', s.data.toList.drop o')) ∧ o' ≤ s.size ∧ n' ≤ 200 ∧ e = .returned (.tuple #[.agg #[.string t.kind, .string t.data, .bool t.exec, u], .int .i64 0]) ∧ LiesQ w' (fun b => w.heap.size ≤ b ∧ b < w'.heap.size) f t.kids u))
theorem RnPost.no {R : Except Nat (Tree × (Nat × List UInt8))} {rb f er o' n' : Nat} {s : ByteArray} {w w' : World} (h : R = .error er) (hr : Rg rb s o' n' w') (hk : Kept (fun k => k = rb) w w') :
    RnPost R rb f s w (.returned (.tuple #[.agg #[.string { data := #[] }, .string { data := #[] }, .bool false, .slice none 0 0], .int .i64 ((er : Int) + 1)])) w' :=
  ⟨o', n', hr, hk, .inl ⟨er, h, rfl⟩⟩
theorem RnPost.yes {R : Except Nat (Tree × (Nat × List UInt8))} {rb f o' n' : Nat} {s : ByteArray} {w w' : World} {kd da : ByteArray} {ex : Bool} {l : List (ByteArray × Tree)} {u : Value} (h : R = .ok (⟨kd, da, ex, l⟩, (n', s.data.toList.drop o'))) (ho : o' ≤ s.size) (hn : n' ≤ 200) (hr : Rg rb s o' n' w') (hk : Kept (fun k => k = rb) w w')
    (hl : LiesQ w' (fun b => w.heap.size ≤ b ∧ b < w'.heap.size) f l u) :
    RnPost R rb f s w (.returned (.tuple #[.agg #[.string kd, .string da, .bool ex, u], .int .i64 0])) w' :=
  ⟨o', n', hr, hk, .inr ⟨⟨kd, da, ex, l⟩, u, h, ho, hn, rfl, hl⟩⟩
theorem SameBut.rg {rb h o n : Nat} {s : ByteArray} {w w' : World} (S : SameBut h w w') (hne : rb ≠ h) (R : Rg rb s o n w) : Rg rb s o n w' := by
  unfold Rg
  rw [S.block rb hne]
  exact R
end Go.Proofs.YtilkjafggfdjeaaDoor
namespace Go.Proofs.YtilkjafggfdjeaaDoor
open Go.RowKit
attribute [local go_sem ↓] Go.wp_at_zero Go.wp_at_succ

/-- The world behind a node's first steps: it is counted, its letter is read, its box is laid. -/
def wB (w : World) (rb n o q : Nat) (x : Obj) : World := ((((w.setCell ⟨rb, 2, none⟩ (.int .i64 ((n : Int) + 1))).alloc (.cells #[.string { data := #[] }, .string { data := #[] }, .bool false, .slice none 0 0] 24)).drewN q).setCell ⟨rb, 1, none⟩ (.int .i64 ((o : Int) + 1))).alloc x
theorem wB_rg {w : World} {rb n o : Nat} {s : ByteArray} (R : Rg rb s o n w) (q : Nat) (x : Obj) : Rg rb s (o + 1) (n + 1) (wB w rb n o q x) := ((((R.set2 (n + 1)).alloc _).drewN q).set1 (o + 1)).alloc x
theorem wB_kept (w : World) (rb n o q : Nat) (x : Obj) : Kept (fun k => k = rb) w (wB w rb n o q x) :=
  ((((Kept.setCell (C := fun k => k = rb) (p := ⟨rb, 2, none⟩) (Kept.refl _ _) rfl _).alloc _).drewN).setCell (p := ⟨rb, 1, none⟩) rfl _).alloc x
theorem wB_size (w : World) (rb n o q : Nat) (x : Obj) : (wB w rb n o q x).heap.size = w.heap.size + 2 := by
  unfold wB
  rw [World.size_alloc]
  have : ∀ (v : World) p y, (World.setCell v p y).heap.size = v.heap.size := fun v p y => by simp [World.setCell]
  rw [this]
  show ((w.setCell _ _).alloc _).heap.size + 1 = _
  rw [World.size_alloc, this]
theorem wB_res {w : World} {rb : Nat} (hrb : rb < w.heap.size) (n o q : Nat) (x : Obj) : (wB w rb n o q x).heap[w.heap.size]? = some (.cells #[.string { data := #[] }, .string { data := #[] }, .bool false, .slice none 0 0] 24 (0, 0)) := by
  have hz := wB_size w rb n o q x
  unfold wB at hz ⊢
  rw [World.size_alloc] at hz
  rw [Below.heap_alloc _ _ _ (by omega), Below.heap_setCell _ _ _ _ (by show w.heap.size ≠ rb; omega)]
  have h := row_alloc' (w.setCell ⟨rb, 2, none⟩ (.int .i64 ((n : Int) + 1))) #[.string { data := #[] }, .string { data := #[] }, .bool false, .slice none 0 0] 24
  have e : (w.setCell ⟨rb, 2, none⟩ (.int .i64 ((n : Int) + 1))).heap.size = w.heap.size := by simp [World.setCell]
  rw [e] at h
  exact h
theorem wB_box (w : World) (rb n o q : Nat) (c : Array Value) : (wB w rb n o q (.cells c 24)).heap[w.heap.size + 1]? = some (.cells c 24 (0, 0)) := by
  have hz := wB_size w rb n o q (.cells c 24)
  unfold wB at hz ⊢
  rw [World.size_alloc] at hz
  have h := row_alloc' ((((w.setCell ⟨rb, 2, none⟩ (.int .i64 ((n : Int) + 1))).alloc (.cells #[.string { data := #[] }, .string { data := #[] }, .bool false, .slice none 0 0] 24)).drewN q).setCell ⟨rb, 1, none⟩ (.int .i64 ((o : Int) + 1))) c 24
  rw [show w.heap.size + 1 = ((((w.setCell ⟨rb, 2, none⟩ (.int .i64 ((n : Int) + 1))).alloc (.cells #[.string { data := #[] }, .string { data := #[] }, .bool false, .slice none 0 0] 24)).drewN q).setCell ⟨rb, 1, none⟩ (.int .i64 ((o : Int) + 1))).heap.size by omega]
  exact h
theorem SameBut.keptUp {rb h : Nat} {w wr w' : World} (S : SameBut h wr w') (hh : w.heap.size ≤ h) (K : Kept (fun k => k = rb) w wr) : Kept (fun k => k = rb) w w' :=
  ⟨S.os.trans K.os, S.tape.trans K.tape, S.output.trans K.output, by rw [S.size]; exact K.size, fun k hk hne => by rw [S.block k (by omega)]; exact K.block k hk hne⟩

/-- The world at the head of a dir's loop. -/
def wD (w : World) (rb n o q p : Nat) : World := (((((w.setCell ⟨rb, 2, none⟩ (.int .i64 ((n : Int) + 1))).alloc (.cells #[.string { data := #[] }, .string { data := #[] }, .bool false, .slice none 0 0] 24)).drewN q).setCell ⟨rb, 1, none⟩ (.int .i64 ((o : Int) + 1))).setCell ⟨rb, 1, none⟩ (.int .i64 (p : Int))).alloc (.cells #[.string { data := #[100, 105, 114] }, .string { data := #[] }, .bool false, .slice none 0 0] 24) |>.drew
theorem rir_start {w : World} {rb n o : Nat} {s : ByteArray} {f : Nat} (R : Rg rb s o n w) (hrb : rb < w.heap.size) (q p : Nat) : RirAt w rb (w.heap.size + 1) f [] [] (.slice none 0 0) s p (n + 1) (wD w rb n o q p) := by
  have hz : ∀ (v : World) a y, (World.setCell v a y).heap.size = v.heap.size := fun v a y => by simp [World.setCell]
  have hZ : (((((w.setCell ⟨rb, 2, none⟩ (.int .i64 ((n : Int) + 1))).alloc (.cells #[.string { data := #[] }, .string { data := #[] }, .bool false, .slice none 0 0] 24)).drewN q).setCell ⟨rb, 1, none⟩ (.int .i64 ((o : Int) + 1))).setCell ⟨rb, 1, none⟩ (.int .i64 (p : Int))).heap.size = w.heap.size + 1 := by
    rw [hz, hz]
    show ((w.setCell _ _).alloc _).heap.size = _
    rw [World.size_alloc, hz]
  refine ⟨?_, ?_, by omega, ?_, hrb, rfl, World.ownsRow_nil _ _ _ _, fun i x u h => by simp at h, fun x h => by simp at h, ?_⟩
  · have h := row_alloc' (((((w.setCell ⟨rb, 2, none⟩ (.int .i64 ((n : Int) + 1))).alloc (.cells #[.string { data := #[] }, .string { data := #[] }, .bool false, .slice none 0 0] 24)).drewN q).setCell ⟨rb, 1, none⟩ (.int .i64 ((o : Int) + 1))).setCell ⟨rb, 1, none⟩ (.int .i64 (p : Int))) #[.string { data := #[100, 105, 114] }, .string { data := #[] }, .bool false, .slice none 0 0] 24
    rw [hZ] at h
    exact h
  · have h := row_alloc' (w.setCell ⟨rb, 2, none⟩ (.int .i64 ((n : Int) + 1))) #[.string { data := #[] }, .string { data := #[] }, .bool false, .slice none 0 0] 24
    rw [hz] at h
    refine (Below.heap_alloc _ _ _ (by rw [hZ]; omega)).trans ((Below.heap_setCell _ _ _ _ (by show w.heap.size ≠ rb; omega)).trans ((Below.heap_setCell _ _ _ _ (by show w.heap.size ≠ rb; omega)).trans h))
  · exact ((((((R.set2 (n + 1)).alloc _).drewN q).set1 (o + 1)).set1 p).alloc _).drew
  · exact ((Kept.setCell (p := ⟨rb, 1, none⟩) (Kept.setCell (p := ⟨rb, 1, none⟩) (((Kept.setCell (C := fun k => k = rb) (p := ⟨rb, 2, none⟩) (Kept.refl _ _) rfl _).alloc _).drewN) rfl _) rfl _).alloc _).drew

set_option maxRecDepth 100000 in
set_option maxHeartbeats 4000000 in
theorem rNode_any (rb : Nat) (s : ByteArray) (hs : s.size ≤ 1000000) : ∀ (f deep n o : Nat) (w : World), deep + f = 9 → Rg rb s o n w → o ≤ s.size → n ≤ 200 →
    Calls Tryd.prog 54 #[.pointer (some ⟨rb, 0, none⟩), .int .i64 (deep : Int)] w (RnPost (nodeR f (n, s.data.toList.drop o)) rb f s w) := by
  intro f
  induction f with
  | zero =>
    intro deep n o w hdf R ho hn
    have hrb := lt_of_row R
    have d9 : deep = 9 := by omega
    obtain ⟨c0, c1, c2⟩ := R.cells
    have f2 := R.free 2
    have hn1 : IntKind.i64.wrap ((n : Int) + 1) = (n : Int) + 1 := by simp (disch := omega) only [IntWalk.i64_in]
    have HK : Hid (∀ v, Kept (fun k => k = rb) w (w.setCell ⟨rb, 2, none⟩ v)) := fun v => Kept.setCell (C := fun j => j = rb) (p := ⟨rb, 2, none⟩) (Kept.refl _ _) rfl v
    have HR : Hid (Rg rb s o (n + 1) (w.setCell ⟨rb, 2, none⟩ (.int .i64 ((n : Int) + 1)))) := R.set2 _
    clear R hdf
    subst d9
    go_enter Tryd.func54, Tryd.ntmps54
    go_wp2_with fail
    refine bodyPost_ret (v := .tuple #[.agg #[.string { data := #[] }, .string { data := #[] }, .bool false, .slice none 0 0], .int .i64 9]) (by simp [results, Tryd.results54, go_sem]) rfl ?_
    exact RnPost.no (er := 8) rfl (HR.out.alloc _) ((HK.out _).alloc _)
  | succ f ih =>
    intro deep n o w hdf R ho hn
    have hrb := lt_of_row R
    have hd8 : (deep : Int) ≤ 8 := by omega
    obtain ⟨c0, c1, c2⟩ := R.cells
    have f1 := R.free 1
    have f2 := R.free 2
    have hn1 : IntKind.i64.wrap ((n : Int) + 1) = (n : Int) + 1 := by simp (disch := omega) only [IntWalk.i64_in]
    have HK : Hid (∀ v, Kept (fun k => k = rb) w (w.setCell ⟨rb, 2, none⟩ v)) := fun v => Kept.setCell (C := fun j => j = rb) (p := ⟨rb, 2, none⟩) (Kept.refl _ _) rfl v
    have HR : Hid (Rg rb s o (n + 1) (w.setCell ⟨rb, 2, none⟩ (.int .i64 ((n : Int) + 1)))) := R.set2 _
    have hlL : s.data.toList.length = s.size := by simp
    by_cases hful : 200 < n + 1
    · have HN : Hid (nodeR (f + 1) (n, s.data.toList.drop o) = .error 7) := nodeR_full hful
      have hful' : (200 : Int) < (n : Int) + 1 := by omega
      clear R ih
      go_enter Tryd.func54, Tryd.ntmps54
      go_wp2_with fail
      refine bodyPost_ret (v := .tuple #[.agg #[.string { data := #[] }, .string { data := #[] }, .bool false, .slice none 0 0], .int .i64 8]) (by simp [results, Tryd.results54, go_sem]) rfl ?_
      exact RnPost.no (er := 7) HN.out (HR.out.alloc _) ((HK.out _).alloc _)
    · have hful' : (n : Int) + 1 ≤ 200 := by omega
      by_cases hemp : s.size ≤ o
      · have HN : Hid (nodeR (f + 1) (n, s.data.toList.drop o) = .error 0) := nodeR_cut hful (List.drop_of_length_le (by omega))
        have hemp' : (s.size : Int) ≤ (o : Int) := by omega
        clear R ih
        go_enter Tryd.func54, Tryd.ntmps54
        go_wp2_with fail
        go_quiet (fail)
        go_wp2_with fail
        refine bodyPost_ret (v := .tuple #[.agg #[.string { data := #[] }, .string { data := #[] }, .bool false, .slice none 0 0], .int .i64 1]) (by simp [results, Tryd.results54, go_sem]) rfl ?_
        have hS := fun (B : World) => ((((SameBut.refl w.heap.size B).set 0 (.string { data := #[] })).set 1 (.string { data := #[] })).set 2 (.bool false)).set 3 (.slice none 0 0)
        exact RnPost.no (er := 0) HN.out ((hS _).rg (by omega) ((HR.out.alloc _).drewN _)) ((hS _).kept ((HK.out _).alloc _).drewN)
      · have h0 : o < s.size := by omega
        have h0' : (o : Int) < (s.size : Int) := by omega
        have hlt0 : (0 : Int) ≤ (o : Int) := by omega
        have hl : s.data.toList.drop o = s[o] :: s.data.toList.drop (o + 1) := by
          rw [List.drop_eq_getElem_cons (by omega)]
          rfl
        have HN : Hid _ := nodeR_on (f := f) (n := n) hful hl
        have ho1 : IntKind.i64.wrap ((o : Int) + 1) = (o : Int) + 1 := by simp (disch := omega) only [IntWalk.i64_in]
        have HBY : Hid (∀ W, Rg rb s (o + 1) (n + 1) W → Calls Tryd.prog 69 #[.pointer (some ⟨rb, 0, none⟩)] W (RbPost rb (n + 1) s (o + 1) W)) := fun W hW => rBytes_any rb (n + 1) s (o + 1) W hW hs (by omega)
        have HR0 : Hid (Rg rb s o n w) := R
        clear hl hemp R
        by_cases hc1 : s[o] = 102
        · have hc1' : ((s[o].toNat : Int) == 102) = true := by rw [hc1]; rfl
          go_enter Tryd.func54, Tryd.ntmps54
          go_wp2_with fail
          go_quiet (fail)
          go_wp2_with fail
          go_quiet (fail)
          go_wp2_with fail
          refine Calls.mono (HBY.out _ (wB_rg HR0.out _ (.cells #[.string { data := #[102, 105, 108, 101] }, .string { data := #[] }, .bool false, .slice none 0 0] 24))) ?_
          rintro e w2 ⟨o2, R2, K2, hb⟩
          have K2 : Kept (fun k => k = rb) (wB w rb n o _ (.cells #[.string { data := #[102, 105, 108, 101] }, .string { data := #[] }, .bool false, .slice none 0 0] 24)) w2 := K2
          have hz2 := K2.size
          rw [wB_size] at hz2
          have hres : w2.heap[w.heap.size]? = some (.cells #[.string { data := #[] }, .string { data := #[] }, .bool false, .slice none 0 0] 24 (0, 0)) := (K2.block w.heap.size (by rw [wB_size]; omega) (by omega)).trans (wB_res hrb n o _ _)
          have hbox : w2.heap[w.heap.size + 1]? = some (.cells #[.string { data := #[102, 105, 108, 101] }, .string { data := #[] }, .bool false, .slice none 0 0] 24 (0, 0)) := (K2.block (w.heap.size + 1) (by rw [wB_size]; omega) (by omega)).trans (wB_box w rb n o _ _)
          have HK2 : Hid (Kept (fun k => k = rb) w w2) := (wB_kept w rb n o _ _).trans K2 (fun k hk => .inl hk)
          obtain ⟨⟨q0, q1, q2, q3⟩, g0, g1, g2, g3⟩ := row4 hres
          obtain ⟨⟨b0, b1, b2, b3⟩, h0', h1', h2', h3'⟩ := row4 hbox
          have HR2 : Hid (Rg rb s o2 (n + 1) w2) := R2
          clear R2 K2 hres hbox HBY ih
          rcases hb with ⟨hb, rfl⟩ | ⟨d, hb, ho2, rfl⟩
          · have HN2 : Hid (nodeR (f + 1) (n, s.data.toList.drop o) = .error 0) := by rw [HN.out]; rw [if_pos (.inl hc1), show decide (s[o] = 120) = false by rw [hc1]; decide]; unfold leafR; rw [hb]; exact rfl
            clear hb HN
            go_wp2_with fail
            refine bodyPost_ret (v := .tuple #[.agg #[.string { data := #[] }, .string { data := #[] }, .bool false, .slice none 0 0], .int .i64 1]) (by simp [results, Tryd.results54, go_sem, q0, q1, q2, q3]) rfl ?_
            have hS := ((((SameBut.refl w.heap.size w2).set 0 (.string { data := #[] })).set 1 (.string { data := #[] })).set 2 (.bool false)).set 3 (.slice none 0 0)
            exact RnPost.no (er := 0) HN2.out (hS.rg (by omega) HR2.out) (hS.kept HK2.out)
          · have HN2 : Hid (nodeR (f + 1) (n, s.data.toList.drop o) = .ok (⟨fileK, bs d, false, []⟩, (n + 1, s.data.toList.drop o2))) := by rw [HN.out]; rw [if_pos (.inl hc1), show decide (s[o] = 120) = false by rw [hc1]; decide]; unfold leafR; rw [hb]; exact rfl
            clear hb HN
            go_wp2_with fail
            refine bodyPost_ret (v := .tuple #[.agg #[.string { data := #[102, 105, 108, 101] }, .string (bs d), .bool false, .slice none 0 0], .int .i64 0]) (by simp [results, Tryd.results54, go_sem, q0, q1, q2, q3]) rfl ?_
            have hS1 := (SameBut.refl (w.heap.size + 1) w2).set 1 (.string (bs d))
            have hS := ((((SameBut.refl w.heap.size (w2.setCell ⟨w.heap.size + 1, 1, none⟩ (.string (bs d)))).set 0 (.string { data := #[102, 105, 108, 101] })).set 1 (.string (bs d))).set 2 (.bool false)).set 3 (.slice none 0 0)
            exact RnPost.yes (kd := fileK) HN2.out ho2 (by omega) (hS.rg (by omega) (hS1.rg (by omega) HR2.out)) (hS.kept (hS1.keptUp (by omega) HK2.out)) Rd.lies
        · by_cases hc2 : s[o] = 120
          · have hc2' : ((s[o].toNat : Int) == 120) = true := by rw [hc2]; rfl
            have hc1' : ((s[o].toNat : Int) == 102) = false := by rw [hc2]; rfl
            go_enter Tryd.func54, Tryd.ntmps54
            go_wp2_with fail
            go_quiet (fail)
            go_wp2_with fail
            go_quiet (fail)
            go_wp2_with fail
            refine Calls.mono (HBY.out _ (wB_rg HR0.out _ (.cells #[.string { data := #[102, 105, 108, 101] }, .string { data := #[] }, .bool true, .slice none 0 0] 24))) ?_
            rintro e w2 ⟨o2, R2, K2, hb⟩
            have K2 : Kept (fun k => k = rb) (wB w rb n o _ (.cells #[.string { data := #[102, 105, 108, 101] }, .string { data := #[] }, .bool true, .slice none 0 0] 24)) w2 := K2
            have hz2 := K2.size
            rw [wB_size] at hz2
            have hres : w2.heap[w.heap.size]? = some (.cells #[.string { data := #[] }, .string { data := #[] }, .bool false, .slice none 0 0] 24 (0, 0)) := (K2.block w.heap.size (by rw [wB_size]; omega) (by omega)).trans (wB_res hrb n o _ _)
            have hbox : w2.heap[w.heap.size + 1]? = some (.cells #[.string { data := #[102, 105, 108, 101] }, .string { data := #[] }, .bool true, .slice none 0 0] 24 (0, 0)) := (K2.block (w.heap.size + 1) (by rw [wB_size]; omega) (by omega)).trans (wB_box w rb n o _ _)
            have HK2 : Hid (Kept (fun k => k = rb) w w2) := (wB_kept w rb n o _ _).trans K2 (fun k hk => .inl hk)
            obtain ⟨⟨q0, q1, q2, q3⟩, g0, g1, g2, g3⟩ := row4 hres
            obtain ⟨⟨b0, b1, b2, b3⟩, h0', h1', h2', h3'⟩ := row4 hbox
            have HR2 : Hid (Rg rb s o2 (n + 1) w2) := R2
            clear R2 K2 hres hbox HBY ih
            rcases hb with ⟨hb, rfl⟩ | ⟨d, hb, ho2, rfl⟩
            · have HN2 : Hid (nodeR (f + 1) (n, s.data.toList.drop o) = .error 0) := by rw [HN.out]; rw [if_pos (.inr hc2), show decide (s[o] = 120) = true by rw [hc2]; decide]; unfold leafR; rw [hb]; exact rfl
              clear hb HN
              go_wp2_with fail
              refine bodyPost_ret (v := .tuple #[.agg #[.string { data := #[] }, .string { data := #[] }, .bool false, .slice none 0 0], .int .i64 1]) (by simp [results, Tryd.results54, go_sem, q0, q1, q2, q3]) rfl ?_
              have hS := ((((SameBut.refl w.heap.size w2).set 0 (.string { data := #[] })).set 1 (.string { data := #[] })).set 2 (.bool false)).set 3 (.slice none 0 0)
              exact RnPost.no (er := 0) HN2.out (hS.rg (by omega) HR2.out) (hS.kept HK2.out)
            · have HN2 : Hid (nodeR (f + 1) (n, s.data.toList.drop o) = .ok (⟨fileK, bs d, true, []⟩, (n + 1, s.data.toList.drop o2))) := by rw [HN.out]; rw [if_pos (.inr hc2), show decide (s[o] = 120) = true by rw [hc2]; decide]; unfold leafR; rw [hb]; exact rfl
              clear hb HN
              go_wp2_with fail
              refine bodyPost_ret (v := .tuple #[.agg #[.string { data := #[102, 105, 108, 101] }, .string (bs d), .bool true, .slice none 0 0], .int .i64 0]) (by simp [results, Tryd.results54, go_sem, q0, q1, q2, q3]) rfl ?_
              have hS1 := (SameBut.refl (w.heap.size + 1) w2).set 1 (.string (bs d))
              have hS := ((((SameBut.refl w.heap.size (w2.setCell ⟨w.heap.size + 1, 1, none⟩ (.string (bs d)))).set 0 (.string { data := #[102, 105, 108, 101] })).set 1 (.string (bs d))).set 2 (.bool true)).set 3 (.slice none 0 0)
              exact RnPost.yes (kd := fileK) HN2.out ho2 (by omega) (hS.rg (by omega) (hS1.rg (by omega) HR2.out)) (hS.kept (hS1.keptUp (by omega) HK2.out)) Rd.lies
          · have hc1' : ((s[o].toNat : Int) == 102) = false := by
              simp only [beq_eq_false_iff_ne, ne_eq]
              exact fun e => hc1 (byteN (by decide) e)
            have hc2' : ((s[o].toNat : Int) == 120) = false := by
              simp only [beq_eq_false_iff_ne, ne_eq]
              exact fun e => hc2 (byteN (by decide) e)
            have hc12 : ¬ (s[o] = 102 ∨ s[o] = 120) := fun h => h.elim hc1 hc2
            by_cases hc3 : s[o] = 108
            · have hc3' : ((s[o].toNat : Int) == 108) = true := by rw [hc3]; rfl
              go_enter Tryd.func54, Tryd.ntmps54
              go_wp2_with fail
              go_quiet (fail)
              go_wp2_with fail
              go_quiet (fail)
              go_wp2_with fail
              refine Calls.mono (HBY.out _ (wB_rg HR0.out _ (.cells #[.string { data := #[108, 105, 110, 107] }, .string { data := #[] }, .bool false, .slice none 0 0] 24))) ?_
              rintro e w2 ⟨o2, R2, K2, hb⟩
              have K2 : Kept (fun k => k = rb) (wB w rb n o _ (.cells #[.string { data := #[108, 105, 110, 107] }, .string { data := #[] }, .bool false, .slice none 0 0] 24)) w2 := K2
              have hz2 := K2.size
              rw [wB_size] at hz2
              have hres : w2.heap[w.heap.size]? = some (.cells #[.string { data := #[] }, .string { data := #[] }, .bool false, .slice none 0 0] 24 (0, 0)) := (K2.block w.heap.size (by rw [wB_size]; omega) (by omega)).trans (wB_res hrb n o _ _)
              have hbox : w2.heap[w.heap.size + 1]? = some (.cells #[.string { data := #[108, 105, 110, 107] }, .string { data := #[] }, .bool false, .slice none 0 0] 24 (0, 0)) := (K2.block (w.heap.size + 1) (by rw [wB_size]; omega) (by omega)).trans (wB_box w rb n o _ _)
              have HK2 : Hid (Kept (fun k => k = rb) w w2) := (wB_kept w rb n o _ _).trans K2 (fun k hk => .inl hk)
              obtain ⟨⟨q0, q1, q2, q3⟩, g0, g1, g2, g3⟩ := row4 hres
              obtain ⟨⟨b0, b1, b2, b3⟩, h0', h1', h2', h3'⟩ := row4 hbox
              have HR2 : Hid (Rg rb s o2 (n + 1) w2) := R2
              clear R2 K2 hres hbox HBY ih
              rcases hb with ⟨hb, rfl⟩ | ⟨d, hb, ho2, rfl⟩
              · have HN2 : Hid (nodeR (f + 1) (n, s.data.toList.drop o) = .error 0) := by rw [HN.out]; rw [if_neg hc12, if_pos hc3]; unfold leafR; rw [hb]; exact rfl
                clear hb HN
                go_wp2_with fail
                refine bodyPost_ret (v := .tuple #[.agg #[.string { data := #[] }, .string { data := #[] }, .bool false, .slice none 0 0], .int .i64 1]) (by simp [results, Tryd.results54, go_sem, q0, q1, q2, q3]) rfl ?_
                have hS := ((((SameBut.refl w.heap.size w2).set 0 (.string { data := #[] })).set 1 (.string { data := #[] })).set 2 (.bool false)).set 3 (.slice none 0 0)
                exact RnPost.no (er := 0) HN2.out (hS.rg (by omega) HR2.out) (hS.kept HK2.out)
              · have HN2 : Hid (nodeR (f + 1) (n, s.data.toList.drop o) = .ok (⟨linkK, bs d, false, []⟩, (n + 1, s.data.toList.drop o2))) := by rw [HN.out]; rw [if_neg hc12, if_pos hc3]; unfold leafR; rw [hb]; exact rfl
                clear hb HN
                go_wp2_with fail
                refine bodyPost_ret (v := .tuple #[.agg #[.string { data := #[108, 105, 110, 107] }, .string (bs d), .bool false, .slice none 0 0], .int .i64 0]) (by simp [results, Tryd.results54, go_sem, q0, q1, q2, q3]) rfl ?_
                have hS1 := (SameBut.refl (w.heap.size + 1) w2).set 1 (.string (bs d))
                have hS := ((((SameBut.refl w.heap.size (w2.setCell ⟨w.heap.size + 1, 1, none⟩ (.string (bs d)))).set 0 (.string { data := #[108, 105, 110, 107] })).set 1 (.string (bs d))).set 2 (.bool false)).set 3 (.slice none 0 0)
                exact RnPost.yes (kd := linkK) HN2.out ho2 (by omega) (hS.rg (by omega) (hS1.rg (by omega) HR2.out)) (hS.kept (hS1.keptUp (by omega) HK2.out)) Rd.lies
            · have hc3' : ((s[o].toNat : Int) == 108) = false := by
                simp only [beq_eq_false_iff_ne, ne_eq]
                exact fun e => hc3 (byteN (by decide) e)
              by_cases hc4 : s[o] = 100
              · have hc4' : ((s[o].toNat : Int) == 100) = true := by rw [hc4]; rfl
                have HC : Hid (∀ w', Rg rb s (o + 1) (n + 1) w' → w'.cell? ⟨rb, 0, none⟩ = some (.string s) ∧ w'.cell? ⟨rb, 1, none⟩ = some (.int .i64 ((o : Int) + 1))) := fun w' h => ⟨h.cells.1, h.cells.2.1⟩
                have HHD : Hid (∀ w', Calls Tryd.prog 70 #[.string s, .int .i64 ((o : Int) + 1)] w' (HeadPost s (o + 1) w')) := fun w' => headOf_any s (o + 1) w' hs (by omega)
                have HIH : Hid _ := ih
                clear HBY ih
                go_enter Tryd.func54, Tryd.ntmps54
                go_wp2_with fail
                go_quiet (fail)
                go_wp2_with fail
                go_quiet (fail)
                go_upto_region 26 with fail
                refine wp_region_held_drew (S := fun w' => w'.cell? ⟨rb, 0, none⟩ = some (.string s) ∧ w'.cell? ⟨rb, 1, none⟩ = some (.int .i64 ((o : Int) + 1))) (by kernel_rfl) (HC.out _ (wB_rg HR0.out _ (.cells #[.string { data := #[100, 105, 114] }, .string { data := #[] }, .bool false, .slice none 0 0] 24))) (fun hHeld => ?_)
                refine wpAnyH_take (i := 0) (v := .pointer (some ⟨rb, 0, none⟩)) rfl (by kernel_rfl) (by kernel_rfl) (by kernel_rfl) (fun _ _ _ h => h) (Or.inl ⟨by rfl, ?_⟩) hHeld ?_
                · intro w hSw; (try dsimp only at hSw); simp only [List.getElem_toArray, List.getElem_cons_zero]; go_simp
                simp only [List.getElem_toArray, List.getElem_cons_zero, Act.put, List.setIfInBounds_toArray, List.set_cons_zero, List.set_cons_succ]
                refine wpAnyH_take (i := 1) (v := .pointer (some ⟨rb, 0, none⟩)) rfl (by kernel_rfl) (by kernel_rfl) (by kernel_rfl) (fun _ _ _ h => h) (Or.inl ⟨by rfl, ?_⟩) hHeld ?_
                · intro w hSw; (try dsimp only at hSw); simp only [List.getElem_toArray, List.getElem_cons_zero, List.getElem_cons_succ]; go_simp
                simp only [List.getElem_toArray, List.getElem_cons_zero, List.getElem_cons_succ, Act.put, List.setIfInBounds_toArray, List.set_cons_zero, List.set_cons_succ]
                refine wpAnyH_take (i := 2) (v := .pointer (some ⟨rb, 0, none⟩)) rfl (by kernel_rfl) (by kernel_rfl) (by kernel_rfl) (fun _ _ _ h => h) (Or.inl ⟨by rfl, ?_⟩) hHeld ?_
                · intro w hSw; (try dsimp only at hSw); simp only [List.getElem_toArray, List.getElem_cons_zero, List.getElem_cons_succ]; go_simp
                simp only [List.getElem_toArray, List.getElem_cons_zero, List.getElem_cons_succ, Act.put, List.setIfInBounds_toArray, List.set_cons_zero, List.set_cons_succ]
                refine wpAnyH_take (i := 3) (v := .string s) rfl (by kernel_rfl) (by kernel_rfl) (by kernel_rfl) (fun _ _ _ h => h) (Or.inl ⟨by rfl, ?_⟩) hHeld ?_
                · intro w hSw; (try dsimp only at hSw); simp only [List.getElem_toArray, List.getElem_cons_zero, List.getElem_cons_succ]; go_simp
                simp only [List.getElem_toArray, List.getElem_cons_zero, List.getElem_cons_succ, Act.put, List.setIfInBounds_toArray, List.set_cons_zero, List.set_cons_succ]
                refine wpAnyH_take (i := 4) (v := .pointer (some ⟨rb, 0, none⟩)) rfl (by kernel_rfl) (by kernel_rfl) (by kernel_rfl) (fun _ _ _ h => h) (Or.inl ⟨by rfl, ?_⟩) hHeld ?_
                · intro w hSw; (try dsimp only at hSw); simp only [List.getElem_toArray, List.getElem_cons_zero, List.getElem_cons_succ]; go_simp
                simp only [List.getElem_toArray, List.getElem_cons_zero, List.getElem_cons_succ, Act.put, List.setIfInBounds_toArray, List.set_cons_zero, List.set_cons_succ]
                refine wpAnyH_take (i := 5) (v := .pointer (some ⟨rb, 0, none⟩)) rfl (by kernel_rfl) (by kernel_rfl) (by kernel_rfl) (fun _ _ _ h => h) (Or.inl ⟨by rfl, ?_⟩) hHeld ?_
                · intro w hSw; (try dsimp only at hSw); simp only [List.getElem_toArray, List.getElem_cons_zero, List.getElem_cons_succ]; go_simp
                simp only [List.getElem_toArray, List.getElem_cons_zero, List.getElem_cons_succ, Act.put, List.setIfInBounds_toArray, List.set_cons_zero, List.set_cons_succ]
                refine wpAnyH_take (i := 6) (v := .pointer (some ⟨rb, 1, none⟩)) rfl (by kernel_rfl) (by kernel_rfl) (by kernel_rfl) (fun _ _ _ h => h) (Or.inl ⟨by rfl, ?_⟩) hHeld ?_
                · intro w hSw; (try dsimp only at hSw); simp only [List.getElem_toArray, List.getElem_cons_zero, List.getElem_cons_succ]; go_simp
                simp only [List.getElem_toArray, List.getElem_cons_zero, List.getElem_cons_succ, Act.put, List.setIfInBounds_toArray, List.set_cons_zero, List.set_cons_succ]
                refine wpAnyH_take (i := 7) (v := .int .i64 ((o : Int) + 1)) rfl (by kernel_rfl) (by kernel_rfl) (by kernel_rfl) (fun _ _ _ h => h) (Or.inl ⟨by rfl, ?_⟩) hHeld ?_
                · intro w hSw; (try dsimp only at hSw); simp only [List.getElem_toArray, List.getElem_cons_zero, List.getElem_cons_succ]; go_simp
                simp only [List.getElem_toArray, List.getElem_cons_zero, List.getElem_cons_succ, Act.put, List.setIfInBounds_toArray, List.set_cons_zero, List.set_cons_succ]
                refine wpAnyH_ready (rs := [8]) (by kernel_rfl) (by simp) ?_
                refine AllReadyH.cons rfl (fun K' hK => ?_) AllReadyH.nil
                simp only [List.getElem_toArray, List.getElem_cons_zero, List.getElem_cons_succ]
                go_simp
                refine Calls.mono (HHD.out _) ?_
                rintro e wx ⟨rfl, ⟨hn, p, rfl⟩ | ⟨c, p, hn, hp1, hp2, rfl⟩⟩
                · have HN2 : Hid (nodeR (f + 1) (n, s.data.toList.drop o) = .error 0) := by rw [HN.out, if_neg hc12, if_neg hc3, if_pos hc4]; unfold dirR; rw [hn]; exact rfl
                  clear hn HN
                  go_wp2_with fail
                  refine hK.out _ _ (HC.out _ (wB_rg HR0.out _ (.cells #[.string { data := #[100, 105, 114] }, .string { data := #[] }, .bool false, .slice none 0 0] 24))) (fun hHeld' => ?_)
                  clear hK K' hHeld
                  have hHeld := hHeld'
                  clear hHeld'
                  refine wpAnyH_take (i := 9) (v := .tuple #[.int .i64 (-1), .int .i64 p]) rfl (by kernel_rfl) (by kernel_rfl) (by kernel_rfl) (fun _ _ _ h => h) (Or.inl ⟨by rfl, ?_⟩) hHeld ?_
                  · intro w hSw; (try dsimp only at hSw); simp only [List.getElem_toArray, List.getElem_cons_zero, List.getElem_cons_succ]; go_simp
                  simp only [List.getElem_toArray, List.getElem_cons_zero, List.getElem_cons_succ, Act.put, List.setIfInBounds_toArray, List.set_cons_zero, List.set_cons_succ]
                  refine wpAnyH_take (i := 10) (v := .int .i64 (-1)) rfl (by kernel_rfl) (by kernel_rfl) (by kernel_rfl) (fun _ _ _ h => h) (Or.inl ⟨by rfl, ?_⟩) hHeld ?_
                  · intro w hSw; (try dsimp only at hSw); simp only [List.getElem_toArray, List.getElem_cons_zero, List.getElem_cons_succ]; go_simp
                  simp only [List.getElem_toArray, List.getElem_cons_zero, List.getElem_cons_succ, Act.put, List.setIfInBounds_toArray, List.set_cons_zero, List.set_cons_succ]
                  refine wpAnyH_take (i := 11) (v := .int .i64 p) rfl (by kernel_rfl) (by kernel_rfl) (by kernel_rfl) (fun _ _ _ h => h) (Or.inl ⟨by rfl, ?_⟩) hHeld ?_
                  · intro w hSw; (try dsimp only at hSw); simp only [List.getElem_toArray, List.getElem_cons_zero, List.getElem_cons_succ]; go_simp
                  simp only [List.getElem_toArray, List.getElem_cons_zero, List.getElem_cons_succ, Act.put, List.setIfInBounds_toArray, List.set_cons_zero, List.set_cons_succ]
                  refine wpAnyH_take (i := 12) (v := .int .i64 (-1)) rfl (by kernel_rfl) (by kernel_rfl) (by kernel_rfl) (fun _ _ _ h => h) (Or.inl ⟨by rfl, ?_⟩) hHeld ?_
                  · intro w hSw; (try dsimp only at hSw); simp only [List.getElem_toArray, List.getElem_cons_zero, List.getElem_cons_succ]; go_simp
                  simp only [List.getElem_toArray, List.getElem_cons_zero, List.getElem_cons_succ, Act.put, List.setIfInBounds_toArray, List.set_cons_zero, List.set_cons_succ]
                  refine wpAnyH_take (i := 13) (v := .int .i64 p) rfl (by kernel_rfl) (by kernel_rfl) (by kernel_rfl) (fun _ _ _ h => h) (Or.inl ⟨by rfl, ?_⟩) hHeld ?_
                  · intro w hSw; (try dsimp only at hSw); simp only [List.getElem_toArray, List.getElem_cons_zero, List.getElem_cons_succ]; go_simp
                  simp only [List.getElem_toArray, List.getElem_cons_zero, List.getElem_cons_succ, Act.put, List.setIfInBounds_toArray, List.set_cons_zero, List.set_cons_succ]
                  refine wpAnyH_done (by kernel_rfl) ?_ _
                  go_wp2_with fail
                  refine bodyPost_ret (v := .tuple #[.agg #[.string { data := #[] }, .string { data := #[] }, .bool false, .slice none 0 0], .int .i64 1]) (by simp [results, Tryd.results54, go_sem]) rfl ?_
                  have hS := fun (B : World) => ((((SameBut.refl w.heap.size B).set 0 (.string { data := #[] })).set 1 (.string { data := #[] })).set 2 (.bool false)).set 3 (.slice none 0 0)
                  exact RnPost.no (er := 0) HN2.out ((((hS _).rg (by omega) ((((HR0.out.set2 (n + 1)).alloc _).drewN _).set1 (o + 1))).alloc _).drew) ((((hS _).kept (Kept.setCell (p := ⟨rb, 1, none⟩) (((HK.out _).alloc _).drewN) rfl _)).alloc _).drew)
                · have HN1 : Hid _ := hn
                  have hcb := (numR_len hn).2
                  clear hn
                  go_wp2_with fail
                  refine hK.out _ _ (HC.out _ (wB_rg HR0.out _ (.cells #[.string { data := #[100, 105, 114] }, .string { data := #[] }, .bool false, .slice none 0 0] 24))) (fun hHeld' => ?_)
                  clear hK K' hHeld
                  have hHeld := hHeld'
                  clear hHeld'
                  refine wpAnyH_take (i := 9) (v := .tuple #[.int .i64 (c : Int), .int .i64 (p : Int)]) rfl (by kernel_rfl) (by kernel_rfl) (by kernel_rfl) (fun _ _ _ h => h) (Or.inl ⟨by rfl, ?_⟩) hHeld ?_
                  · intro w hSw; (try dsimp only at hSw); simp only [List.getElem_toArray, List.getElem_cons_zero, List.getElem_cons_succ]; go_simp
                  simp only [List.getElem_toArray, List.getElem_cons_zero, List.getElem_cons_succ, Act.put, List.setIfInBounds_toArray, List.set_cons_zero, List.set_cons_succ]
                  refine wpAnyH_take (i := 10) (v := .int .i64 (c : Int)) rfl (by kernel_rfl) (by kernel_rfl) (by kernel_rfl) (fun _ _ _ h => h) (Or.inl ⟨by rfl, ?_⟩) hHeld ?_
                  · intro w hSw; (try dsimp only at hSw); simp only [List.getElem_toArray, List.getElem_cons_zero, List.getElem_cons_succ]; go_simp
                  simp only [List.getElem_toArray, List.getElem_cons_zero, List.getElem_cons_succ, Act.put, List.setIfInBounds_toArray, List.set_cons_zero, List.set_cons_succ]
                  refine wpAnyH_take (i := 11) (v := .int .i64 (p : Int)) rfl (by kernel_rfl) (by kernel_rfl) (by kernel_rfl) (fun _ _ _ h => h) (Or.inl ⟨by rfl, ?_⟩) hHeld ?_
                  · intro w hSw; (try dsimp only at hSw); simp only [List.getElem_toArray, List.getElem_cons_zero, List.getElem_cons_succ]; go_simp
                  simp only [List.getElem_toArray, List.getElem_cons_zero, List.getElem_cons_succ, Act.put, List.setIfInBounds_toArray, List.set_cons_zero, List.set_cons_succ]
                  refine wpAnyH_take (i := 12) (v := .int .i64 (c : Int)) rfl (by kernel_rfl) (by kernel_rfl) (by kernel_rfl) (fun _ _ _ h => h) (Or.inl ⟨by rfl, ?_⟩) hHeld ?_
                  · intro w hSw; (try dsimp only at hSw); simp only [List.getElem_toArray, List.getElem_cons_zero, List.getElem_cons_succ]; go_simp
                  simp only [List.getElem_toArray, List.getElem_cons_zero, List.getElem_cons_succ, Act.put, List.setIfInBounds_toArray, List.set_cons_zero, List.set_cons_succ]
                  refine wpAnyH_take (i := 13) (v := .int .i64 (p : Int)) rfl (by kernel_rfl) (by kernel_rfl) (by kernel_rfl) (fun _ _ _ h => h) (Or.inl ⟨by rfl, ?_⟩) hHeld ?_
                  · intro w hSw; (try dsimp only at hSw); simp only [List.getElem_toArray, List.getElem_cons_zero, List.getElem_cons_succ]; go_simp
                  simp only [List.getElem_toArray, List.getElem_cons_zero, List.getElem_cons_succ, Act.put, List.setIfInBounds_toArray, List.set_cons_zero, List.set_cons_succ]
                  refine wpAnyH_done (by kernel_rfl) ?_ _
                  have hc0 : ¬ (c : Int) < 0 := by omega
                  obtain ⟨i0, hi0, hz0, hz1, hz2⟩ := info_parts infoKid
                  have HST : Hid (∀ q, RirAt w rb (w.heap.size + 1) f [] [] (.slice none 0 0) s p (n + 1) (wD w rb n o q p)) := fun q => rir_start HR0.out hrb q p
                  clear hHeld HC HHD
                  go_wp2_with fail
                  clear c0 c1 c2 f1 f2
                  go_loopw [12] (fun i wr => ∃ (j : Nat) (l : List (ByteArray × Tree)) (us : List Value) (va : Option Addr) (vc : Nat) (sr nr : Nat), j ≤ c ∧ i = .int .i64 j ∧ l.length = j ∧ kidsR (nodeR f) j (n + 1, s.data.toList.drop p) = .ok (l, (nr, s.data.toList.drop sr)) ∧ nr ≤ 200 ∧ sr ≤ s.size ∧ RirAt w rb (w.heap.size + 1) f l us (.slice va j vc) s sr nr wr) (fun i _ => c - (intOf i).toNat)
                  case atStart => exact ⟨0, [], [], none, 0, p, n + 1, Nat.zero_le _, rfl, rfl, rfl, by omega, hp2, HST.out _⟩
                  case round =>
                    obtain ⟨j, l, us, va, vc, sr, nr, hj, rfl, hlj, hkr, hnr, hsr, D⟩ := hrel
                    have HKR : Hid _ := hkr
                    have HDD : Hid _ := D
                    have hrbr : rb < wr.heap.size := lt_of_row D.rd
                    have hwr : w.heap.size ≤ wr.heap.size := D.kept.size
                    have hres := D.res
                    have hbox := D.box
                    have hlres := lt_of_row hres
                    have hlbox := lt_of_row hbox
                    have HDE : Hid (∀ er, kidsR (nodeR f) (j + 1) (n + 1, s.data.toList.drop p) = .error er → j < c → nodeR (f + 1) (n, s.data.toList.drop o) = .error er) := fun er h hlt => by
                      rw [HN.out, if_neg hc12, if_neg hc3, if_pos hc4]
                      exact dirR_err HN1.out h (by omega)
                    by_cases hlt : j < c
                    · have HBY : Hid _ := rBytes_any rb nr s sr wr D.rd hs hsr
                      clear D hkr HST
                      go_wp2_with fail
                      refine Calls.mono HBY.out ?_
                      rintro e w2 ⟨o2, R2, K2, hb⟩
                      have hw2 : wr.heap.size ≤ w2.heap.size := K2.size
                      rcases hb with ⟨hb, rfl⟩ | ⟨d, hb, ho2, rfl⟩
                      · have hres2 : w2.heap[w.heap.size]? = some (.cells #[.string { data := #[] }, .string { data := #[] }, .bool false, .slice none 0 0] 24 (0, 0)) := by rw [K2.block w.heap.size hlres (by omega)]; exact hres
                        obtain ⟨⟨r0, r1, r2, r3⟩, g0, g1, g2, g3⟩ := row4 hres2
                        have HD : Hid _ := HDE.out 0 (by simp only [kidsR, HKR.out, kidR, hb]) hlt
                        have HR2 : Hid (Rg rb s o2 nr w2) := R2
                        have HK2 : Hid (Kept (fun k => k = rb) w w2) := HDD.out.kept.trans K2 (fun k hk => .inl hk)
                        clear R2 K2 hb hres hres2 hbox HBY HIH HDD HKR HDE HN
                        go_wp2_with fail
                        refine bodyPost_ret (v := .tuple #[.agg #[.string { data := #[] }, .string { data := #[] }, .bool false, .slice none 0 0], .int .i64 1]) (by simp [results, Tryd.results54, go_sem, r0, r1, r2, r3]) rfl ?_
                        have hS := ((((SameBut.refl w.heap.size w2).set 0 (.string { data := #[] })).set 1 (.string { data := #[] })).set 2 (.bool false)).set 3 (.slice none 0 0)
                        exact RnPost.no (er := 0) HD.out (hS.rg (by omega) HR2.out) (hS.kept HK2.out)
                      · have hbl := bytesR_len hb
                        have HND : Hid _ := HIH.out (deep + 1) nr o2 w2 (by omega) R2 ho2 hnr
                        have HND : Hid (Calls Tryd.prog 54 #[.pointer (some ⟨rb, 0, none⟩), .int .i64 ((deep : Int) + 1)] w2 (RnPost (nodeR f (nr, s.data.toList.drop o2)) rb f s w2)) := HND.out
                        have wdp : IntKind.i64.wrap ((deep : Int) + 1) = (deep : Int) + 1 := by simp (disch := omega) only [IntWalk.i64_in]
                        have hlD : (s.data.toList.drop sr).length ≤ s.size := by rw [List.length_drop]; simp
                        have hdd : (bs d).size = d.length := rfl
                        have HK2 : Hid _ := K2
                        have HB2 : Hid _ := hb
                        clear R2 K2 hb HBY HIH
                        go_wp2_with fail
                        refine Calls.mono HND.out ?_
                        rintro e w3 ⟨s3, n3, R3, K3, ⟨er, hnd, rfl⟩ | ⟨tk, uk, hnd, hs3, hn3, rfl, hlk⟩⟩
                        · have hres3 : w3.heap[w.heap.size]? = some (.cells #[.string { data := #[] }, .string { data := #[] }, .bool false, .slice none 0 0] 24 (0, 0)) := by
                            rw [K3.block w.heap.size (by omega) (by omega), HK2.out.block w.heap.size hlres (by omega)]; exact hres
                          have lw3 := lt_of_row hres3
                          obtain ⟨⟨r0, r1, r2, r3⟩, g0, g1, g2, g3⟩ := row4 hres3
                          have HD : Hid _ := HDE.out er (by simp only [kidsR, HKR.out, kidR, HB2.out, hnd]) hlt
                          have HR3 : Hid (Rg rb s s3 n3 w3) := R3
                          have HK3 : Hid (Kept (fun k => k = rb) w w3) := (HDD.out.kept.trans HK2.out (fun k hk => .inl hk)).trans K3 (fun k hk => .inl hk)
                          have her : (0 : Int) < (er : Int) + 1 := by omega
                          clear R3 K3 hnd hres hres3 hbox HND HDD HKR HDE HN
                          go_wp2_with fail
                          refine bodyPost_ret (v := .tuple #[.agg #[.string { data := #[] }, .string { data := #[] }, .bool false, .slice none 0 0], .int .i64 ((er : Int) + 1)]) (by simp [results, Tryd.results54, go_sem, r0, r1, r2, r3, lw3]) rfl ?_
                          have hS := ((((SameBut.refl w.heap.size w3).set 0 (.string { data := #[] })).set 1 (.string { data := #[] })).set 2 (.bool false)).set 3 (.slice none 0 0)
                          exact RnPost.no HD.out ((hS.rg (by omega) HR3.out).alloc _) ((hS.kept HK3.out).alloc _)
                        · obtain ⟨xa, xc, rfl⟩ := hlk.form
                          have hw3 : w2.heap.size ≤ w3.heap.size := K3.size
                          have h3r : ∀ k, k < wr.heap.size → k ≠ rb → w3.heap[k]? = wr.heap[k]? := fun k hk hne => by rw [K3.block k (by omega) hne, HK2.out.block k hk hne]
                          have hbox3 : w3.heap[(w.heap.size + 1)]? = some (.cells #[.string { data := #[100, 105, 114] }, .string { data := #[] }, .bool false, .slice va j vc] 24 (0, 0)) := by rw [h3r _ hlbox (by omega)]; exact hbox
                          have b3 : w3.cell? ⟨w.heap.size + 1, 3, none⟩ = some (.slice va j vc) := (row4 hbox3).1.2.2.2
                          have lb3 := lt_of_row hbox3
                          have HOW3 : Hid (w3.ownsRow ((w.heap.size + 1) + 1) 40 5 (.slice va j vc) j (kidCells l us)) := by
                            have h := HDD.out.own
                            rw [hlj] at h
                            exact ownsRow_ext' h fun k hk => h3r k (h.lt k hk).2 (by have := (h.lt k hk).1; omega)
                          have HN2 : Hid (∀ o, ((w3.alloc o).alloc (.cells #[.string (bs d), .string tk.kind, .string tk.data, .bool tk.exec, .slice xa tk.kids.length xc] 40)).heap[w3.heap.size + 1]? = some (.cells #[.string (bs d), .string tk.kind, .string tk.data, .bool tk.exec, .slice xa tk.kids.length xc] 40 (0, 0))) := fun o => by
                            have := row_alloc' (w3.alloc o) #[.string (bs d), .string tk.kind, .string tk.data, .bool tk.exec, .slice xa tk.kids.length xc] 40
                            simpa using this
                          have HBX : Hid (∀ o o' w5, ((w3.alloc o).alloc o').grownBy w5 (Value.slice va j vc).ownBlock → w5.cell? ⟨w.heap.size + 1, 3, none⟩ = some (.slice va j vc) ∧ w5.frozen? ⟨w.heap.size + 1, 3, none⟩ = false) := fun o o' w5 hg => by
                            have h5 : w5.heap[(w.heap.size + 1)]? = some (.cells #[.string { data := #[100, 105, 114] }, .string { data := #[] }, .bool false, .slice va j vc] 24 (0, 0)) := by
                              rw [hg.block _ (by simp; omega) (fun e => by have := (HOW3.out.lt _ e.symm).1; omega), Below.heap_alloc _ _ _ (by simp; omega), Below.heap_alloc _ _ _ lb3]
                              exact hbox3
                            exact ⟨(row4 h5).1.2.2.2, (row4 h5).2.2.2.2⟩
                          have HR3 : Hid (Rg rb s s3 n3 w3) := R3
                          have HK3 : Hid _ := K3
                          have HLK : Hid _ := hlk
                          have HND2 : Hid _ := hnd
                          have hcc : j ≤ 999999 := by omega
                          clear R3 K3 hlk hnd hbox hbox3 hres h3r HND HDE HN
                          go_wp2_with (at_builtin; go_must (refine wpList_append_lies _ (by rfl) _ _ 22 (by rfl) ((w.heap.size + 1) + 1) 40 i0 _ 5 80 Tryd.underlying22 hi0 hz0 hz1 hz2 rfl (by omega) (.slice va j vc) j (kidCells l us) (by rfl) (World.ownsRow.alloc (World.ownsRow.alloc HOW3.out _) _) ⟨w3.heap.size + 1, 0, none⟩ 1 1 [.string (bs d), .string tk.kind, .string tk.data, .bool tk.exec, .slice xa tk.kids.length xc] (by rfl) (by rfl) (World.news_of_block (cs := #[.string (bs d), .string tk.kind, .string tk.data, .bool tk.exec, .slice xa tk.kids.length xc]) (t := 40) (fr := (0, 0)) (HN2.out _)) (by simp [Value.oneCell']) (by omega) (by unfold maxLen; omega) (by omega) (by simp; omega) (w3.heap.size + 1 + 1) (by simp) ?_; intro g cap' w5 hown1 hgrow hat hlt5; obtain ⟨e1, e2⟩ := HBX.out _ _ _ hgrow; have HG : Hid _ := hgrow; have HO1 : Hid _ := hown1; have HAT : Hid _ := hat; clear hgrow hown1 hat))
                          go_roundw
                          case rel =>
                            subst hlj
                            refine ⟨l.length + 1, l ++ [(bs d, tk)], us ++ [.slice xa tk.kids.length xc], some ⟨g, 0, none⟩, cap', s3, n3, by omega, by go_num, by simp, ?_, hn3, hs3, ?_⟩
                            · have h := HND2.out
                              simp only [kidsR, HKR.out, kidR, HB2.out, h]
                            · exact rir_next (x := (bs d, tk)) HDD.out (by show (bs d).size ≤ _; omega) HK2.out HK3.out HR3.out HLK.out (((Below.refl _ _).alloc (Nat.le_refl _) _).alloc (by simp) _) HO1.out HG.out HAT.out (by omega) rfl
                          case measure => simp [intOf]; omega
                    · have hjc : j = c := by omega
                      have HDR : Hid (nodeR (f + 1) (n, s.data.toList.drop o) = .ok (⟨dirK, ByteArray.empty, false, l⟩, (nr, s.data.toList.drop sr))) := by
                        rw [HN.out, if_neg hc12, if_neg hc3, if_pos hc4]
                        unfold dirR
                        rw [HN1.out]
                        simp only
                        rw [← hjc, HKR.out]
                        exact rfl
                      obtain ⟨⟨r0, r1, r2, r3⟩, g0, g1, g2, g3⟩ := row4 hres
                      obtain ⟨⟨b0, b1, b2, b3⟩, _⟩ := row4 hbox
                      clear D hkr HST HIH hres hbox hjc HN HDE
                      go_wp2_with fail
                      refine bodyPost_ret (v := .tuple #[.agg #[.string { data := #[100, 105, 114] }, .string { data := #[] }, .bool false, .slice va j vc], .int .i64 0]) (by simp [results, Tryd.results54, go_sem, r0, r1, r2, r3]) rfl ?_
                      have hS := ((((SameBut.refl w.heap.size wr).set 0 (.string { data := #[100, 105, 114] })).set 1 (.string { data := #[] })).set 2 (.bool false)).set 3 (.slice va j vc)
                      exact RnPost.yes (kd := dirK) (da := ByteArray.empty) HDR.out hsr hnr (hS.rg (by omega) HDD.out.rd) (hS.kept HDD.out.kept) (rir_end HDD.out (by omega) hS)
              · have hc4' : ((s[o].toNat : Int) == 100) = false := by
                  simp only [beq_eq_false_iff_ne, ne_eq]
                  exact fun e => hc4 (byteN (by decide) e)
                have HN2 : Hid (nodeR (f + 1) (n, s.data.toList.drop o) = .error 0) := by rw [HN.out, if_neg hc12, if_neg hc3, if_neg hc4]; exact rfl
                clear HBY ih HN
                go_enter Tryd.func54, Tryd.ntmps54
                go_wp2_with fail
                go_quiet (fail)
                go_wp2_with fail
                go_quiet (fail)
                go_wp2_with fail
                have hS := fun (B : World) => ((((SameBut.refl w.heap.size B).set 0 (.string { data := #[] })).set 1 (.string { data := #[] })).set 2 (.bool false)).set 3 (.slice none 0 0)
                refine bodyPost_ret (v := .tuple #[.agg #[.string { data := #[] }, .string { data := #[] }, .bool false, .slice none 0 0], .int .i64 1]) (by simp [results, Tryd.results54, go_sem]) rfl ?_
                exact RnPost.no (er := 0) HN2.out (((hS _).rg (by omega) ((((HR0.out.set2 (n + 1)).alloc _).drewN _).set1 (o + 1))).alloc _) (((hS _).kept (Kept.setCell (p := ⟨rb, 1, none⟩) (((HK.out _).alloc _).drewN) rfl _)).alloc _)
end Go.Proofs.YtilkjafggfdjeaaDoor
