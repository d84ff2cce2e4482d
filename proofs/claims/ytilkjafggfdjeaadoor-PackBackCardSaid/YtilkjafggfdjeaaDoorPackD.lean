/-
  The contract of package pack's reader: dir, over a contract of node one level deeper.
  Conditions: the sentinels hold what the program's text lays; the reader lies in a block of its own, behind them.
-/
import Derived.Test.YtilkjafggfdjeaaDoorPackB
import Derived.Test.YtilkjafggfdjeaaDoorOwn
import Derived.Deep.DeepMust
namespace Go.Proofs.YtilkjafggfdjeaaDoor
open Go.RowKit

theorem bytesR_len {l d r : List UInt8} (h : bytesR l = some (d, r)) : d.length ≤ l.length ∧ r.length ≤ l.length := by
  unfold bytesR at h
  split at h
  · cases h
  · rename_i c r' e
    have h1 := (numR_len e).1
    split at h
    · cases h
    · injection h with h
      injection h with h2 h3
      subst h2; subst h3
      rw [List.length_take, List.length_drop]
      omega
theorem kidsR_err {f : Nat × List UInt8 → Except Nat (Tree × (Nat × List UInt8))} {j : Nat} {s : Nat × List UInt8} {e : Nat} (h : kidsR f j s = .error e) : ∀ c, j ≤ c → kidsR f c s = .error e := by
  intro c hc
  induction c with
  | zero => rw [Nat.le_zero.1 hc] at h; exact h
  | succ c ih =>
    rcases Nat.lt_or_ge c j with h' | h'
    · rw [show c + 1 = j by omega]; exact h
    · simp only [kidsR]
      rw [ih h']
theorem dirR_err {f : Nat × List UInt8 → Except Nat (Tree × (Nat × List UInt8))} {c j n er : Nat} {l r : List UInt8} (h : numR l = some (c, r)) (hj : kidsR f j (n, r) = .error er) (hc : j ≤ c) : dirR f n l = .error er := by
  unfold dirR
  rw [h]
  simp only
  rw [kidsR_err hj c hc]

/-- What node and dir hand back, as what R tells. -/
def ResPost (R : Except Nat (Tree × (Nat × List UInt8))) (a : Nat → Addr) (rb f : Nat) (s : ByteArray) (w : World) (e : Ending) (w' : World) : Prop := ∃ s' n', Rd rb s' n' w' ∧ Kept (fun k => k = rb) w w' ∧
  ((∃ er kd da ex ad m c, R = .error er ∧ e = .returned (.tuple #[.agg #[.string kd, .string da, .bool ex, .slice ad m c], .iface 176 (.pointer (some (a er)))])) ∨
   (∃ t r u, R = .ok (t, (n', r)) ∧ s' = bs r ∧ s'.size ≤ s.size ∧ n' ≤ 200 ∧ e = .returned (.tuple #[.agg #[.string t.kind, .string t.data, .bool t.exec, u], .nilIface]) ∧ LiesQ w' (fun b => w.heap.size ≤ b ∧ b < w'.heap.size) f t.kids u))

/-- The state of dir's loop: so many kids are read. -/
structure DirAt (w : World) (rb H d : Nat) (l : List (ByteArray × Tree)) (us : List Value) (v : Value) (sr : ByteArray) (nr : Nat) (wr : World) : Prop where
  box : wr.heap[H]? = some (.cells #[.string { data := #[100, 105, 114] }, .string { data := #[] }, .bool false, v] 24 (0, 0))
  res : wr.heap[w.heap.size]? = some (.cells #[.string { data := #[] }, .string { data := #[] }, .bool false, .slice none 0 0] 24 (0, 0))
  up : w.heap.size < H
  rd : Rd rb sr nr wr
  low : rb < w.heap.size
  len : us.length = l.length
  own : wr.ownsRow (H + 1) 40 5 v l.length (kidCells l us)
  kids : ∀ (i : Nat) (x : ByteArray × Tree) (u : Value), l[i]? = some x → us[i]? = some u → LiesQ wr (fun b => H + 1 ≤ b ∧ b < wr.heap.size ∧ v.ownBlock ≠ some b) d x.2.kids u
  names : ∀ x ∈ l, x.1.size ≤ 140737488355328
  kept : Kept (fun k => k = rb) w wr

/-- One kid more. -/
theorem dir_next {w wr w1 w2 wa w5 w6 : World} {rb H d : Nat} {l : List (ByteArray × Tree)} {us : List Value} {v u' : Value} {sr s2 : ByteArray} {nr n2 : Nat} {x : ByteArray × Tree} {g cap G : Nat} (D : DirAt w rb H d l us v sr nr wr)
    (hx : x.1.size ≤ 140737488355328) (hk1 : Kept (fun k => k = rb) wr w1) (hk2 : Kept (fun k => k = rb) w1 w2) (R2 : Rd rb s2 n2 w2) (hu' : LiesQ w2 (fun b => w1.heap.size ≤ b ∧ b < w2.heap.size) d x.2.kids u') (hba : Below w2.heap.size w2 wa)
    (hown1 : w5.ownsRow (H + 1) 40 5 (.slice (some ⟨g, 0, none⟩) (l.length + 1) cap) (l.length + 1) (kidCells l us ++ [.string x.1, .string x.2.kind, .string x.2.data, .bool x.2.exec, u']))
    (hgrow : wa.grownBy w5 v.ownBlock) (hat : v.ownBlock = some g ∨ g = G) (hG : w2.heap.size ≤ G) (h6 : w6 = w5.setCell ⟨H, 3, none⟩ (.slice (some ⟨g, 0, none⟩) (l.length + 1) cap)) :
    DirAt w rb H d (l ++ [x]) (us ++ [u']) (.slice (some ⟨g, 0, none⟩) (l.length + 1) cap) s2 n2 w6 := by
  have hlow := D.low
  have hup := D.up
  have hbr := lt_of_row D.box
  have hlt := fun k hk => D.own.lt k hk
  have s1 := hk1.size
  have s2' := hk2.size
  have h5 : ∀ k, k < w2.heap.size → v.ownBlock ≠ some k → w5.heap[k]? = w2.heap[k]? := fun k hk hne => by
    rw [hgrow.block k (Nat.lt_of_lt_of_le hk hba.size) (fun e => hne e.symm), hba.block k hk]
  have h2r : ∀ k, k < wr.heap.size → k ≠ rb → w2.heap[k]? = wr.heap[k]? := fun k hk hne => by
    rw [hk2.block k (by omega) hne, hk1.block k hk hne]
  have h5r : ∀ k, k < wr.heap.size → k ≠ rb → v.ownBlock ≠ some k → w5.heap[k]? = wr.heap[k]? := fun k hk hne hv => by
    rw [h5 k (by omega) hv, h2r k hk hne]
  have hs5 : w2.heap.size ≤ w5.heap.size := Nat.le_trans hba.size hgrow.size
  have h6b : ∀ k, k ≠ H → w6.heap[k]? = w5.heap[k]? := fun k hk => by rw [h6]; exact Below.heap_setCell _ _ _ _ hk
  have hs6 : w6.heap.size = w5.heap.size := by rw [h6]; simp [World.setCell]
  have hbox5 : w5.heap[H]? = some (.cells #[.string { data := #[100, 105, 114] }, .string { data := #[] }, .bool false, v] 24 (0, 0)) := by
    rw [h5r H hbr (by omega) (fun e => by have := (hlt _ e).1; omega)]; exact D.box
  refine ⟨?_, ?_, hup, ?_, hlow, ?_, ?_, ?_, ?_, ?_⟩
  · rw [h6]
    simp [World.setCell, Array.getElem?_modify, hbox5]
  · rw [h6b _ (by omega), h5r _ (by omega) (by omega) (fun e => by have := (hlt _ e).1; omega)]; exact D.res
  · unfold Rd
    rw [h6b _ (by omega), h5 _ (by omega) (fun e => by have := (hlt _ e).1; omega)]; exact R2
  · simp [D.len]
  · have e : kidCells (l ++ [x]) (us ++ [u']) = kidCells l us ++ [.string x.1, .string x.2.kind, .string x.2.data, .bool x.2.exec, u'] := kidCells_snoc _ _ _ _ D.len.symm
    rw [e, List.length_append]
    exact ownsRow_ext' hown1 fun k hk => h6b k (by have := (hown1.lt k hk).1; omega)
  · intro i y u hy hu
    have hne : ∀ b, H + 1 ≤ b → b ≠ rb := fun b hb => by omega
    by_cases hi : i < us.length
    · rw [List.getElem?_append_left hi] at hu
      rw [List.getElem?_append_left (by rw [← D.len]; exact hi)] at hy
      refine (D.kids i y u hy hu).kept (fun k hk => by rw [h6b k (by omega), h5r k hk.2.1 (hne k hk.1) hk.2.2]) (fun k hk => ⟨hk.1, by omega, ?_⟩)
      simp only [Value.ownBlock, ne_eq, Option.some.injEq]
      rcases hat with h | h
      · intro e; exact hk.2.2 (by rw [h, e])
      · have := hk.2.1; omega
    · have hle : us.length ≤ i := by omega
      rw [List.getElem?_append_right hle] at hu
      have hi0 : i - us.length = 0 := by
        rcases Nat.eq_zero_or_pos (i - us.length) with h | h
        · exact h
        · rw [List.getElem?_eq_none (by simp; omega)] at hu; cases hu
      rw [hi0] at hu
      simp only [List.getElem?_cons_zero, Option.some.injEq] at hu
      have hij : i = l.length := by have := D.len; omega
      subst hij
      rw [List.getElem?_append_right (Nat.le_refl _), Nat.sub_self] at hy
      simp only [List.getElem?_cons_zero, Option.some.injEq] at hy
      subst hy; subst hu
      refine hu'.kept (fun k hk => by rw [h6b k (by omega), h5 k hk.2 (fun e => by have := (hlt k e).2; omega)]) (fun k hk => ⟨by omega, by omega, ?_⟩)
      simp only [Value.ownBlock, ne_eq, Option.some.injEq]
      rcases hat with h | h
      · have := (hlt g h).2; omega
      · omega
  · intro y hy
    rcases List.mem_append.1 hy with h | h
    · exact D.names y h
    · rw [List.mem_singleton.1 h]; exact hx
  · have hw := D.kept.size
    refine ⟨?_, ?_, ?_, by omega, fun k hk hne => ?_⟩
    · rw [h6]; exact hgrow.os.trans (hba.os.trans (hk2.os.trans (hk1.os.trans D.kept.os)))
    · rw [h6]; exact hgrow.tape.trans (hba.tape.trans (hk2.tape.trans (hk1.tape.trans D.kept.tape)))
    · rw [h6]; exact hgrow.output.trans (hba.output.trans (hk2.output.trans (hk1.output.trans D.kept.output)))
    · rw [h6b k (by omega), h5r k (by omega) hne (fun e => by have := (hlt k e).1; omega)]
      exact D.kept.block k hk hne
end Go.Proofs.YtilkjafggfdjeaaDoor
