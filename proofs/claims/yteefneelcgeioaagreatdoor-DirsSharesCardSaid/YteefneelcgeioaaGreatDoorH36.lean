/-
  The document's disk in memory: texts, and writes that wait.
  The contracts of the document's zeros, CRC, has and turned.
  The contracts of the document's disk: Read, Put, Crash.
  Conditions: those that each states.
-/
import Derived.Test.YteefneelcgeioaaGreatDoorH35
import Derived.Test.YteefneelcgeioaaGreatDoorH14
import Derived.Laws.BitsAllLaws
import Derived.Laws.Bits64
import Derived.Deep.RegionHeld3
import Derived.Deep.AppendLies
namespace Go.Proofs.YteefneelcgeioaaGreatDoor
open Go.RowKit

/-- A block as a text. -/
def sB (b : List UInt8) : ByteArray := ⟨b.toArray⟩
def sV (b : List UInt8) : Value := .string (sB b)
def mw (x : Nat × List UInt8) : List Value := [.int .i64 (x.1 : Int), sV x.2]
theorem mw_len (x : Nat × List UInt8) : (mw x).length = 2 := rfl
structure MkAt (w : World) (mb : Nat) (la : Option Addr) (lc : Nat) (wa : Option Addr) (wcp : Nat) (bl : List (List UInt8)) (wt : List (Nat × List UInt8)) : Prop where
  disk : w.heap[mb]? = some (.cells #[.slice la bl.length lc, .slice wa wt.length wcp] 155 (0, 0))
  lrow : w.ownsRow (mb + 1) 9 1 (.slice la bl.length lc) bl.length (bl.map sV)
  wrow : w.ownsRow (mb + 1) 255 2 (.slice wa wt.length wcp) wt.length (wt.flatMap mw)
structure MkBut (mb : Nat) (la wa : Option Addr) (w w' : World) : Prop where
  os : w'.os = w.os
  tape : w'.tape = w.tape
  output : w'.output = w.output
  size : w.heap.size ≤ w'.heap.size
  block : ∀ k, k < w.heap.size → k ≠ mb → (∀ a, la = some a → k ≠ a.block) → (∀ a, wa = some a → k ≠ a.block) → w'.heap[k]? = w.heap[k]?
theorem MkBut.of_below {mb : Nat} {la wa : Option Addr} {w w' : World} (h : Below w.heap.size w w') : MkBut mb la wa w w' := ⟨h.os, h.tape, h.output, h.size, fun k hk _ _ _ => h.block k hk⟩
theorem MkBut.trans {mb : Nat} {la wa : Option Addr} {w w' w'' : World} (h : MkBut mb la wa w w') (h' : MkBut mb la wa w' w'') : MkBut mb la wa w w'' :=
  ⟨h'.os.trans h.os, h'.tape.trans h.tape, h'.output.trans h.output, Nat.le_trans h.size h'.size, fun k hk a b c => (h'.block k (Nat.lt_of_lt_of_le hk h.size) a b c).trans (h.block k hk a b c)⟩
theorem own_row {w : World} {base : Nat} {e : TypeId} {size : Nat} {sa : Option Addr} {n c : Nat} {xs : List Value} (h : w.ownsRow base e size (.slice sa n c) n xs) {a : Addr} (ha : sa = some a) : a = ⟨a.block, 0, none⟩ ∧ base ≤ a.block ∧ ∃ cur, w.heap[a.block]? = some (.cells cur e (0, 0)) ∧ cur.toList.take (n * size) = xs ∧ n * size ≤ cur.size := by
  rcases h.2 with ⟨e1, _⟩ | ⟨g, cap, cur, e1, h1, h2, h3, h4, h5, h6⟩
  · subst ha; simp at e1
  · simp only [Value.slice.injEq] at e1
    have e2 : a = ⟨g, 0, none⟩ := by rw [ha] at e1; exact Option.some.inj e1.1
    subst e2
    exact ⟨rfl, h1, cur, h2, h6, by rw [h5]; exact Nat.mul_le_mul_right _ h3⟩
theorem own_some {w : World} {base : Nat} {e : TypeId} {size : Nat} {sa : Option Addr} {n c : Nat} {xs : List Value} (h : w.ownsRow base e size (.slice sa n c) n xs) (hn : 0 < n) : ∃ a, sa = some a := by
  rcases h.2 with ⟨_, e0⟩ | ⟨g, cap, cur, e1, _⟩
  · omega
  · simp only [Value.slice.injEq] at e1
    exact ⟨_, e1.1⟩
theorem own_ext {w w' : World} {base : Nat} {e : TypeId} {size : Nat} {v : Value} {n : Nat} {xs : List Value} (h : w.ownsRow base e size v n xs) (hb : ∀ k, v.ownBlock = some k → w'.heap[k]? = w.heap[k]?) : w'.ownsRow base e size v n xs := by
  refine ⟨h.1, ?_⟩
  rcases h.2 with h2 | ⟨g, cap, cur, e1, e2, e3, e4⟩
  · exact .inl h2
  · exact .inr ⟨g, cap, cur, e1, e2, by rw [hb g (by rw [e1]; rfl)]; exact e3, e4⟩
/-- A cell of a row of its own is set. -/
theorem own_set {w : World} {base : Nat} {e : TypeId} {size : Nat} {g n c : Nat} {xs : List Value} (h : w.ownsRow base e size (.slice (some ⟨g, 0, none⟩) n c) n xs) {i : Nat} (v : Value) : (w.setCell ⟨g, i, none⟩ v).ownsRow base e size (.slice (some ⟨g, 0, none⟩) n c) n (xs.set i v) := by
  refine ⟨by rw [List.length_set]; exact h.1, ?_⟩
  rcases h.2 with ⟨e1, _⟩ | ⟨g', cap, cur, e1, h1, h2, h3, h4, h5, h6⟩
  · simp at e1
  · simp only [Value.slice.injEq, Option.some.injEq, Addr.mk.injEq, and_true, true_and] at e1
    obtain ⟨rfl, rfl⟩ := e1
    exact .inr ⟨g, c, _, rfl, h1, row_setCell h2 v, h3, h4, by simp; exact h5, by simp only [List.take_set, h6]⟩

def tyOf : Option Obj → Nat
  | some (.cells _ t _) => t
  | _ => 0
namespace MkAt
variable {w w' : World} {mb : Nat} {la : Option Addr} {lc : Nat} {wa : Option Addr} {wcp : Nat} {bl : List (List UInt8)} {wt : List (Nat × List UInt8)}
theorem lt (M : MkAt w mb la lc wa wcp bl wt) : mb < w.heap.size := (Array.getElem?_eq_some_iff.1 M.disk).1
theorem lowL (M : MkAt w mb la lc wa wcp bl wt) {a : Addr} (ha : la = some a) : mb + 1 ≤ a.block ∧ a.block < w.heap.size ∧ a = ⟨a.block, 0, none⟩ := by
  obtain ⟨e, h, cur, h2, _⟩ := own_row M.lrow ha
  exact ⟨h, (Array.getElem?_eq_some_iff.1 h2).1, e⟩
theorem lowW (M : MkAt w mb la lc wa wcp bl wt) {a : Addr} (ha : wa = some a) : mb + 1 ≤ a.block ∧ a.block < w.heap.size ∧ a = ⟨a.block, 0, none⟩ := by
  obtain ⟨e, h, cur, h2, _⟩ := own_row M.wrow ha
  exact ⟨h, (Array.getElem?_eq_some_iff.1 h2).1, e⟩
theorem ne (M : MkAt w mb la lc wa wcp bl wt) {a b : Addr} (ha : la = some a) (hb : wa = some b) : a.block ≠ b.block := fun e => by
  obtain ⟨_, _, c1, h1, _⟩ := own_row M.lrow ha
  obtain ⟨_, _, c2, h2, _⟩ := own_row M.wrow hb
  rw [e, h2] at h1
  exact absurd (show 255 = 9 from congrArg tyOf h1) (by decide)
theorem ext (M : MkAt w mb la lc wa wcp bl wt) (h : ∀ k, k = mb ∨ (∃ a, la = some a ∧ k = a.block) ∨ (∃ a, wa = some a ∧ k = a.block) → w'.heap[k]? = w.heap[k]?) : MkAt w' mb la lc wa wcp bl wt :=
  ⟨(h _ (.inl rfl)).trans M.disk, own_ext M.lrow fun k hk => h k (.inr (.inl (by
    cases la with
    | none => simp [Value.ownBlock] at hk
    | some a => exact ⟨a, rfl, by simpa [Value.ownBlock] using hk.symm⟩))), own_ext M.wrow fun k hk => h k (.inr (.inr (by
    cases wa with
    | none => simp [Value.ownBlock] at hk
    | some a => exact ⟨a, rfl, by simpa [Value.ownBlock] using hk.symm⟩)))⟩
theorem below (M : MkAt w mb la lc wa wcp bl wt) {B : Nat} (hB : w.heap.size ≤ B) (hb : Below B w w') : MkAt w' mb la lc wa wcp bl wt := M.ext fun k hk => hb.block k (by
  rcases hk with rfl | ⟨a, ha, rfl⟩ | ⟨a, ha, rfl⟩
  · have := M.lt; omega
  · have := (M.lowL ha).2.1; omega
  · have := (M.lowW ha).2.1; omega)
theorem up (M : MkAt w mb la lc wa wcp bl wt) {B : Nat} {w0 : World} (hB : B ≤ mb) (h0 : Below B w0 w) (h : MkBut mb la wa w w') : Below B w0 w' :=
  ⟨h.os.trans h0.os, h.tape.trans h0.tape, h.output.trans h0.output, Nat.le_trans h0.size h.size, fun k hk => by
    have := M.lt
    exact (h.block k (by omega) (by omega) (fun a ha => by have := (M.lowL ha).1; omega) (fun a ha => by have := (M.lowW ha).1; omega)).trans (h0.block k hk)⟩
theorem cells (M : MkAt w mb la lc wa wcp bl wt) : w.cell? ⟨mb, 0, none⟩ = some (.slice la bl.length lc) ∧ w.cell? ⟨mb, 1, none⟩ = some (.slice wa wt.length wcp) ∧ (∀ i, w.frozen? ⟨mb, i, none⟩ = false) := by
  refine ⟨?_, ?_, fun i => by simp [World.frozen?, M.disk]⟩
  · rw [cell_of_row w _ _ _ _ _ M.disk]; rfl
  · rw [cell_of_row w _ _ _ _ _ M.disk]; rfl
theorem l_at (M : MkAt w mb la lc wa wcp bl wt) {k : Nat} {b : List UInt8} (hk : bl[k]? = some b) : ∃ g, la = some ⟨g, 0, none⟩ ∧ w.cell? ⟨g, k, none⟩ = some (sV b) ∧ w.frozen? ⟨g, k, none⟩ = false := by
  have hkl := (List.getElem?_eq_some_iff.1 hk).1
  obtain ⟨a, ha⟩ := own_some M.lrow (by omega)
  obtain ⟨e, _, cur, h2, h6, _⟩ := own_row M.lrow ha
  refine ⟨a.block, by rw [ha]; exact congrArg some e, ?_, by simp [World.frozen?, h2]⟩
  rw [cell_of_row _ _ _ _ _ _ h2, ← Array.getElem?_toList]
  have : cur.toList[k]? = (cur.toList.take (bl.length * 1))[k]? := by rw [List.getElem?_take_of_lt (by omega)]
  rw [this, h6, List.getElem?_map, hk]; rfl
theorem w_at (M : MkAt w mb la lc wa wcp bl wt) {i : Nat} {x : Nat × List UInt8} (hi : wt[i]? = some x) : ∃ g, wa = some ⟨g, 0, none⟩ ∧ w.cell? ⟨g, i * 2, none⟩ = some (.int .i64 (x.1 : Int)) ∧ w.cell? ⟨g, i * 2 + 1, none⟩ = some (sV x.2) ∧ w.frozen? ⟨g, i * 2 + 1, none⟩ = false := by
  have hil := (List.getElem?_eq_some_iff.1 hi).1
  obtain ⟨a, ha⟩ := own_some M.wrow (by omega)
  obtain ⟨e, _, cur, h2, h6, _⟩ := own_row M.wrow ha
  have hc : ∀ j, j < 2 → w.cell? ⟨a.block, i * 2 + j, none⟩ = (mw x)[j]? := fun j hj => by
    rw [cell_of_row _ _ _ _ _ _ h2, ← Array.getElem?_toList]
    have : cur.toList[i * 2 + j]? = (cur.toList.take (wt.length * 2))[i * 2 + j]? := by rw [List.getElem?_take_of_lt (by omega)]
    rw [this, h6, flat_get (fun y _ => mw_len y) hi hj]
  exact ⟨a.block, by rw [ha]; exact congrArg some e, hc 0 (by omega), hc 1 (by omega), by simp [World.frozen?, h2]⟩
/-- A text is set. -/
theorem set_l (M : MkAt w mb la lc wa wcp bl wt) {g k : Nat} (hg : la = some ⟨g, 0, none⟩) (y : List UInt8) : MkAt (w.setCell ⟨g, k, none⟩ (sV y)) mb la lc wa wcp (bl.set k y) wt := by
  have hlow := M.lowL hg
  simp only at hlow
  refine ⟨?_, ?_, own_ext M.wrow fun q hq => Below.heap_setCell _ _ _ _ (show q ≠ g from ?_)⟩
  · rw [Below.heap_setCell _ _ _ _ (show mb ≠ g by omega), List.length_set]; exact M.disk
  · subst hg
    have h := own_set M.lrow (i := k) (sV y)
    rw [← List.map_set] at h
    rw [List.length_set]; exact h
  · cases wa with
    | none => simp [Value.ownBlock] at hq
    | some a => intro e; exact M.ne hg rfl (by simp [Value.ownBlock] at hq; simp only; omega)
theorem but_l {g : Nat} (hg : la = some ⟨g, 0, none⟩) (k : Nat) (v : Value) : MkBut mb la wa w (w.setCell ⟨g, k, none⟩ v) :=
  ⟨rfl, rfl, rfl, by simp [World.setCell], fun j _ _ hj _ => Below.heap_setCell _ _ _ _ (show j ≠ g from hj _ hg)⟩
/-- A text of a write that waits is set. -/
theorem set_w (M : MkAt w mb la lc wa wcp bl wt) {g i a : Nat} {l y : List UInt8} (hi : wt[i]? = some (a, l)) (hg : wa = some ⟨g, 0, none⟩) : MkAt (w.setCell ⟨g, i * 2 + 1, none⟩ (sV y)) mb la lc wa wcp bl (wt.set i (a, y)) := by
  have hlow := M.lowW hg
  simp only at hlow
  refine ⟨?_, own_ext M.lrow fun q hq => Below.heap_setCell _ _ _ _ (show q ≠ g from ?_), ?_⟩
  · rw [Below.heap_setCell _ _ _ _ (show mb ≠ g by omega), List.length_set]; exact M.disk
  · cases la with
    | none => simp [Value.ownBlock] at hq
    | some b => intro e; exact M.ne rfl hg (by simp [Value.ownBlock] at hq; simp only; omega)
  · subst hg
    have h := own_set M.wrow (i := i * 2 + 1) (sV y)
    rw [set_flat (fun z _ => mw_len z) hi (show 1 < 2 by omega) (y := (a, y)) (by rfl)] at h
    rw [List.length_set]; exact h
theorem but_w {g : Nat} (hg : wa = some ⟨g, 0, none⟩) (k : Nat) (v : Value) : MkBut mb la wa w (w.setCell ⟨g, k, none⟩ v) :=
  ⟨rfl, rfl, rfl, by simp [World.setCell], fun j _ _ _ hj => Below.heap_setCell _ _ _ _ (show j ≠ g from hj _ hg)⟩
theorem forget (M : MkAt w mb la lc wa wcp bl wt) : MkAt (w.setCell ⟨mb, 1, none⟩ (.slice none 0 0)) mb la lc none 0 bl [] := by
  refine ⟨?_, own_ext M.lrow fun q hq => Below.heap_setCell _ _ _ _ (show q ≠ mb from ?_), ⟨rfl, .inl ⟨rfl, rfl⟩⟩⟩
  · rw [row_setCell M.disk]; rfl
  · cases la with
    | none => simp [Value.ownBlock] at hq
    | some b => have := (M.lowL rfl).1; simp [Value.ownBlock] at hq; omega
theorem but_forget (i : Nat) (v : Value) : MkBut mb la wa w (w.setCell ⟨mb, i, none⟩ v) :=
  ⟨rfl, rfl, rfl, by simp [World.setCell], fun j _ hj _ _ => Below.heap_setCell _ _ _ _ hj⟩
end MkAt
theorem MkBut.of_heap {mb : Nat} {la wa : Option Addr} {w w1 w' : World} (h : MkBut mb la wa w w1) (e : w'.heap = w1.heap) (e1 : w'.os = w1.os) (e2 : w'.tape = w1.tape) (e3 : w'.output = w1.output) : MkBut mb la wa w w' :=
  ⟨e1.trans h.os, e2.trans h.tape, e3.trans h.output, by rw [e]; exact h.size, fun k a b c d => by rw [e]; exact h.block k a b c d⟩

section
variable {w w' : World} {mb : Nat} {la : Option Addr} {lc : Nat} {wa : Option Addr} {wcp : Nat} {bl bl' : List (List UInt8)} {wt wt' : List (Nat × List UInt8)} {bb : Nat} {va : Option Addr} {vc : Nat}
/-- The two disks lie apart: their rows are of other types. -/
theorem MkAt.keep (M : MkAt w mb la lc wa wcp bl wt) (D : DkAt w bb va vc bl' wt') (h : DkBut bb va w w') : MkAt w' mb la lc wa wcp bl wt := by
  have tD : ∀ k, (k = bb ∨ k = bb + 1 ∨ ∃ a, va = some a ∧ k = a.block) → tyOf w.heap[k]? = 179 ∨ tyOf w.heap[k]? = 159 ∨ tyOf w.heap[k]? = 210 := fun k hk => by
    rcases hk with rfl | rfl | ⟨a, ha, rfl⟩
    · left; rw [D.blocks]; rfl
    · right; left; rw [D.disk]; rfl
    · right; right
      obtain ⟨_, _, cur, h2, _⟩ := own_row D.waits ha
      rw [h2]; rfl
  refine M.ext fun k hk => ?_
  have tM : k < w.heap.size ∧ (tyOf w.heap[k]? = 155 ∨ tyOf w.heap[k]? = 9 ∨ tyOf w.heap[k]? = 255) := by
    rcases hk with rfl | ⟨a, ha, rfl⟩ | ⟨a, ha, rfl⟩
    · exact ⟨M.lt, .inl (by rw [M.disk]; rfl)⟩
    · obtain ⟨_, _, cur, h2, _⟩ := own_row M.lrow ha
      exact ⟨(M.lowL ha).2.1, .inr (.inl (by rw [h2]; rfl))⟩
    · obtain ⟨_, _, cur, h2, _⟩ := own_row M.wrow ha
      exact ⟨(M.lowW ha).2.1, .inr (.inr (by rw [h2]; rfl))⟩
  have no : ¬ (k = bb ∨ k = bb + 1 ∨ ∃ a, va = some a ∧ k = a.block) := fun hk' => by
    have h1 := tD k hk'
    have h2 := tM.2
    omega
  exact h.block k tM.1 (fun e => no (.inl e)) (fun e => no (.inr (.inl e))) (fun a ha e => no (.inr (.inr ⟨a, ha, e⟩)))
theorem DkAt.keep (D : DkAt w bb va vc bl' wt') (M : MkAt w mb la lc wa wcp bl wt) (h : MkBut mb la wa w w') : DkAt w' bb va vc bl' wt' := by
  have tM : ∀ k, (k = mb ∨ (∃ a, la = some a ∧ k = a.block) ∨ (∃ a, wa = some a ∧ k = a.block)) → tyOf w.heap[k]? = 155 ∨ tyOf w.heap[k]? = 9 ∨ tyOf w.heap[k]? = 255 := fun k hk => by
    rcases hk with rfl | ⟨a, ha, rfl⟩ | ⟨a, ha, rfl⟩
    · left; rw [M.disk]; rfl
    · right; left
      obtain ⟨_, _, cur, h2, _⟩ := own_row M.lrow ha
      rw [h2]; rfl
    · right; right
      obtain ⟨_, _, cur, h2, _⟩ := own_row M.wrow ha
      rw [h2]; rfl
  refine D.ext fun k hk => ?_
  have tD : k < w.heap.size ∧ (tyOf w.heap[k]? = 179 ∨ tyOf w.heap[k]? = 159 ∨ tyOf w.heap[k]? = 210) := by
    rcases hk with rfl | rfl | ⟨a, ha, rfl⟩
    · exact ⟨by have := D.lt; omega, .inl (by rw [D.blocks]; rfl)⟩
    · exact ⟨D.lt, .inr (.inl (by rw [D.disk]; rfl))⟩
    · obtain ⟨_, _, cur, h2, _⟩ := own_row D.waits ha
      exact ⟨(D.low a ha).2.1, .inr (.inr (by rw [h2]; rfl))⟩
  have no : ¬ (k = mb ∨ (∃ a, la = some a ∧ k = a.block) ∨ (∃ a, wa = some a ∧ k = a.block)) := fun hk' => by
    have h1 := tM k hk'
    have h2 := tD.2
    omega
  exact h.block k tD.1 (fun e => no (.inl e)) (fun a ha e => no (.inr (.inl ⟨a, ha, e⟩))) (fun a ha e => no (.inr (.inr ⟨a, ha, e⟩)))
end
end Go.Proofs.YteefneelcgeioaaGreatDoor
namespace Go.Proofs.YteefneelcgeioaaGreatDoor
open Go.RowKit

set_option maxRecDepth 100000 in
set_option maxHeartbeats 1000000 in
theorem zeros2_any (w : World) : Calls Tryz.prog 83 #[] w fun e w' => e = .returned (.string (zerosB 16)) ∧ w' = w := by
  go_enter Tryz.func83, Tryz.ntmps83
  go_wp2_with fail
  go_loopw [1, 2] (fun p i wr => ∃ (k : Nat) (s : ByteArray), k ≤ 16 ∧ i = .int .i64 k ∧ p = .string s ∧ Hid (s = zerosB k) ∧ wr = w) (fun _ i _ => 16 - (intOf i).toNat)
  case atStart => exact ⟨0, _, Nat.zero_le _, rfl, rfl, rfl, rfl⟩
  case round =>
    obtain ⟨k, s, hk, rfl, rfl, HX, rfl⟩ := hrel
    have hsz : s.size ≤ 1000000 := by rw [HX.out]; show (List.replicate k (0 : UInt8)).toArray.size ≤ _; simp; omega
    by_cases hkn : k < 16
    · go_wp2_with fail
      refine ⟨⟨k + 1, _, by omega, by simp, rfl, ?_, trivial⟩, by simp [intOf]; omega⟩
      show _ = _
      rw [zerosB_succ, HX.out]
    · obtain rfl : k = 16 := by omega
      go_wp2_with fail
      go_ret
      exact ⟨by rw [HX.out]; rfl, rfl⟩

/-- Is it one of these, as far as the first j? -/
def hasTo (l : List Int) (x : Int) (j : Nat) : Bool := (l.take j).any (· == x)
theorem hasTo_next {l : List Int} {x y : Int} {j : Nat} (h : l[j]? = some y) : hasTo l x (j + 1) = (hasTo l x j || (y == x)) := by
  obtain ⟨hj, e⟩ := List.getElem?_eq_some_iff.1 h
  unfold hasTo
  rw [List.take_succ_eq_append_getElem hj, e]; simp
/-- Those that are kept are those that are there. -/
theorem kept_has (n : Nat) (keep : List Int) (i : Nat) (hi : i < n) : keptB n keep i = hasTo keep (i : Int) keep.length := by
  unfold keptB
  have h : ∀ j, (kpL n keep j)[i]? = some (hasTo keep (i : Int) j) := by
    intro j
    induction j with
    | zero => simp [kpL, hasTo, hi]
    | succ j ih =>
      unfold kpL
      cases e : keep[j]? with
      | none =>
        have hle := List.getElem?_eq_none_iff.1 e
        simp only
        rw [ih]
        unfold hasTo
        rw [List.take_of_length_le hle, List.take_of_length_le (by omega)]
      | some x =>
        simp only
        rw [hasTo_next e]
        by_cases hx : 0 ≤ x ∧ x < (n : Int)
        · rw [if_pos hx, List.getElem?_set]
          by_cases hxi : x.toNat = i
          · rw [if_pos hxi, if_pos (by rw [kpL_len]; omega)]
            have : (x == (i : Int)) = true := by rw [← hxi]; simp; omega
            rw [this]; simp
          · rw [if_neg hxi, ih]
            have : (x == (i : Int)) = false := beq_eq_false_iff_ne.2 (by omega)
            rw [this]; simp
        · rw [if_neg hx, ih]
          have : (x == (i : Int)) = false := beq_eq_false_iff_ne.2 (by omega)
          rw [this]; simp
  rw [h]; rfl
end Go.Proofs.YteefneelcgeioaaGreatDoor
namespace Go.Proofs.YteefneelcgeioaaGreatDoor
open Go.RowKit

theorem rdR_next {bl : List (List UInt8)} {wt : List (Nat × List UInt8)} {k j : Nat} {x : Nat × List UInt8} (h : wt[j]? = some x) : rdR bl (wt.take (j + 1)) k = if x.1 = k then x.2 else rdR bl (wt.take j) k := by
  obtain ⟨hj, e⟩ := List.getElem?_eq_some_iff.1 h
  unfold rdR
  rw [List.take_succ_eq_append_getElem hj, e, List.reverse_append]
  simp only [List.reverse_singleton, List.singleton_append, List.find?_cons]
  by_cases hx : x.1 = k
  · simp [hx]
  · have : (x.1 == k) = false := by simpa using hx
    rw [this, if_neg hx]


theorem infoMW : (Tryz.prog.info? 255).map (fun i => (i.zero, i.size, i.bytes)) = some (some (.agg #[.int .i64 0, .string { data := #[] }]), 2, 24) := by kernel_rfl
/-- One write more waits. -/
theorem put_end {mb : Nat} {la : Option Addr} {lc : Nat} {wa : Option Addr} {wcp : Nat} {bl : List (List UInt8)} {wt : List (Nat × List UInt8)} {x : Nat × List UInt8} {w wa1 w5 w6 : World} {g cap : Nat} (M : MkAt w mb la lc wa wcp bl wt)
    (hown : w5.ownsRow (mb + 1) 255 2 (.slice (some ⟨g, 0, none⟩) (wt.length + 1) cap) (wt.length + 1) (wt.flatMap mw ++ mw x)) (hba : Below w.heap.size w wa1) (hgrow : wa1.grownBy w5 (Value.slice wa wt.length wcp).ownBlock)
    (h6 : w6 = w5.setCell ⟨mb, 1, none⟩ (.slice (some ⟨g, 0, none⟩) (wt.length + 1) cap)) :
    MkAt w6 mb la lc (some ⟨g, 0, none⟩) cap bl (wt ++ [x]) ∧ MkBut mb la wa w w6 := by
  have hlt := M.lt
  have hob : ∀ k, k < w.heap.size → (∀ a, wa = some a → k ≠ a.block) → w5.heap[k]? = w.heap[k]? := fun k hk hne => by
    rw [hgrow.block k (Nat.lt_of_lt_of_le hk hba.size) (fun e => ?_), hba.block k hk]
    cases wa with
    | none => simp [Value.ownBlock] at e
    | some a => exact hne a rfl (by simpa [Value.ownBlock] using e)
  have h6b : ∀ k, k ≠ mb → w6.heap[k]? = w5.heap[k]? := fun k hk => by rw [h6]; exact Below.heap_setCell _ _ _ _ hk
  have hg : mb + 1 ≤ g := (hown.lt g rfl).1
  have hd : w5.heap[mb]? = w.heap[mb]? := hob _ (by omega) (fun a ha => by have := (M.lowW ha).1; omega)
  refine ⟨⟨?_, ?_, ?_⟩, ⟨?_, ?_, ?_, ?_, fun k hk k1 k2 k3 => ?_⟩⟩
  · rw [h6, row_setCell (hd.trans M.disk)]
    simp
  · refine own_ext M.lrow fun k hk => ?_
    cases la with
    | none => simp [Value.ownBlock] at hk
    | some a =>
      have hk' : a.block = k := by simpa [Value.ownBlock] using hk
      have hl := M.lowL (a := a) rfl
      rw [h6b k (by omega), hob k (by omega) (fun b hb e => M.ne (a := a) rfl hb (by omega))]
  · rw [List.length_append, List.length_singleton, List.flatMap_append, List.flatMap_singleton]
    refine own_ext hown fun k hk => h6b k ?_
    have hk' : g = k := by simpa [Value.ownBlock] using hk
    omega
  · rw [h6]; exact hgrow.os.trans hba.os
  · rw [h6]; exact hgrow.tape.trans hba.tape
  · rw [h6]; exact hgrow.output.trans hba.output
  · have : w6.heap.size = w5.heap.size := by rw [h6]; simp [World.setCell]
    have := hgrow.size
    have := hba.size
    omega
  · rw [h6b k k1, hob k hk k3]

end Go.Proofs.YteefneelcgeioaaGreatDoor
