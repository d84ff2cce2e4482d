/-
  The contract of package disk's Rot.
  Acts on a disk in memory; what blocks may be.
  The document's disk in memory: texts, and writes that wait.
  The contracts of the document's zeros, CRC, has and turned.
  Conditions: those that each states.
-/
import Derived.Test.YtcejpeohkgchdaaGreatDoorQ04
import Derived.Test.YtcejpeohkgchdaaGreatDoorQ07
import Derived.Test.YtcejpeohkgchdaaGreatDoorQ10
import Derived.Laws.BitsAllLaws
import Derived.Laws.Bits64
namespace Go.Proofs.YtcejpeohkgchdaaGreatDoor
open Go.RowKit

theorem DkBut.of_heap {bb : Nat} {va : Option Addr} {w w1 w' : World} (h : DkBut bb va w w1) (e : w'.heap = w1.heap) (e1 : w'.os = w1.os) (e2 : w'.tape = w1.tape) (e3 : w'.output = w1.output) : DkBut bb va w w' :=
  ⟨e1.trans h.os, e2.trans h.tape, e3.trans h.output, by rw [e]; exact h.size, fun k a b c d => by rw [e]; exact h.block k a b c d⟩
theorem set_same {β : Type} {l : List β} {j : Nat} {x : β} (h : l[j]? = some x) : l.set j x = l := by
  apply List.ext_getElem?
  intro i
  rw [List.getElem?_set]
  by_cases e : j = i
  · subst e
    rw [if_pos rfl, h, if_pos (List.getElem?_eq_some_iff.1 h).1]
  · rw [if_neg e]
/-- A write with a bit turned, if it is of that block. -/
def rotX (k bit : Nat) (x : Nat × List UInt8) : Nat × List UInt8 := if x.1 = k then (x.1, turnL x.2 bit) else x
def rotJ (wt : List (Nat × List UInt8)) (k bit j : Nat) : List (Nat × List UInt8) := (wt.take j).map (rotX k bit) ++ wt.drop j
theorem rotJ_len (wt : List (Nat × List UInt8)) (k bit j : Nat) : (rotJ wt k bit j).length = wt.length := by simp [rotJ]; omega
theorem rotJ_at {wt : List (Nat × List UInt8)} {k bit j : Nat} {x : Nat × List UInt8} (h : wt[j]? = some x) : (rotJ wt k bit j)[j]? = some x := by
  have hj := (List.getElem?_eq_some_iff.1 h).1
  unfold rotJ
  rw [List.getElem?_append_right (by simp; omega)]
  simp [Nat.min_eq_left (Nat.le_of_lt hj), h]
theorem rotJ_next {wt : List (Nat × List UInt8)} {k bit j : Nat} {x : Nat × List UInt8} (h : wt[j]? = some x) : rotJ wt k bit (j + 1) = (rotJ wt k bit j).set j (rotX k bit x) := by
  obtain ⟨hj, e⟩ := List.getElem?_eq_some_iff.1 h
  unfold rotJ
  rw [List.set_append_right _ _ (by simp; omega)]
  have hl : j - ((wt.take j).map (rotX k bit)).length = 0 := by simp; omega
  rw [hl, List.drop_eq_getElem_cons hj, List.set_cons_zero, List.take_succ_eq_append_getElem hj, e]
  simp

set_option maxRecDepth 100000 in
set_option maxHeartbeats 2000000 in
theorem rot_any {bb : Nat} {va : Option Addr} {vc : Nat} {bl : List (List UInt8)} {wt : List (Nat × List UInt8)} (k bit : Nat) (b : List UInt8) (w : World) (D : DkAt w bb va vc bl wt) (hk : bl[k]? = some b) (hbit : bit < 128) (hwl : wt.length ≤ 100000) :
    Calls Tryz.prog 52 #[.pointer (some ⟨bb + 1, 0, none⟩), .int .i64 (k : Int), .int .i64 (bit : Int)] w fun e w' => e = .returned .nilIface ∧ DkAt w' bb va vc (bl.set k (turnL b bit)) (wt.map (rotX k bit)) ∧ DkBut bb va w w' := by
  have HH := has_any (k : Int) w D
  have hkl := (List.getElem?_eq_some_iff.1 hk).1
  rw [hasB_yes (by omega) (by omega)] at HH
  obtain ⟨c1, c2, _⟩ := D.cells
  have HT := turn_any bb (k * 16) bit b (D.bl16 b (List.mem_of_getElem? hk)) hbit w (D.block_range hk) (D.block_there hk)
  have HD1 : Hid (DkAt (w.setCell ⟨bb, k * 16 + bit / 8, none⟩ (.int .u8 ((turnB (b[bit / 8]?.getD 0) bit).toNat : Int))) bb va vc (bl.set k (turnL b bit)) wt) := D.set_byte hk (by omega) _
  clear D
  go_enter Tryz.func52, Tryz.ntmps52
  go_wp2_with (first
    | (go_at_call 97; refine HH.mono ?_; rintro e w' ⟨rfl, hw⟩; rw [hw]; clear hw)
    | (go_at_call 98; refine HT.mono ?_; rintro e w1 ⟨rfl, hh1, ho1, ht1, hp1⟩; have HD2 : Hid (DkAt w1 bb va vc (bl.set k (turnL b bit)) wt) := HD1.out.ext fun _ _ => (by rw [hh1]); have HB2 : Hid (DkBut bb va w w1) := DkBut.of_heap (DkAt.but_byte _ _) hh1 ho1 ht1 hp1; clear hh1 ho1 ht1 hp1 HT c1 c2; have d1 := HD2.out.cells.1; have d2 := HD2.out.cells.2.1))
  clear d1 d2 HH
  go_loopw [35] (fun i wr => ∃ j : Nat, j ≤ wt.length ∧ i = .int .i64 j ∧ DkAt wr bb va vc (bl.set k (turnL b bit)) (rotJ wt k bit j) ∧ DkBut bb va w wr) (fun i _ => wt.length - (intOf i).toNat)
  case atStart => exact ⟨0, Nat.zero_le _, rfl, HD2.out, HB2.out⟩
  case round =>
    obtain ⟨j, hj, rfl, D, hbut⟩ := hrel
    have HDr : Hid _ := D
    have HBUT : Hid _ := hbut
    have d2 : wr.cell? ⟨bb + 1, 1, none⟩ = some (.slice va wt.length vc) := by rw [← rotJ_len wt k bit j]; exact D.cells.2.1
    by_cases hlt : j < wt.length
    · obtain ⟨x, HX⟩ : ∃ x, Hid (wt[j]? = some x) := ⟨_, List.getElem?_eq_getElem hlt⟩
      obtain ⟨ga, rfl, hr, hth⟩ := D.write_range (rotJ_at HX.out)
      have hx16 := D.wt16 x (List.mem_of_getElem? (rotJ_at HX.out))
      have cx : wr.cell? ⟨ga, j * 17, none⟩ = some (.int .i64 (x.1 : Int)) := hr 0 _ rfl
      clear D hbut
      by_cases hxk : x.1 = k
      · have hb : ((x.1 : Int) == (k : Int)) = true := by rw [hxk]; exact beq_self_eq_true _
        have HT := turn_any ga (j * 17 + 1) bit x.2 hx16.2 hbit wr (fun i v hi => by
          have := hr (i + 1) v (by simpa [wc] using hi)
          rw [Nat.add_assoc, Nat.add_comm 1 i]; exact this) (fun i hi => by
          have := hth (i + 1) (by omega)
          rw [Nat.add_assoc, Nat.add_comm 1 i]; exact this)
        have HD3 : Hid (DkAt (wr.setCell ⟨ga, j * 17 + 1 + bit / 8, none⟩ (.int .u8 ((turnB (x.2[bit / 8]?.getD 0) bit).toNat : Int))) bb (some ⟨ga, 0, none⟩) vc (bl.set k (turnL b bit)) (rotJ wt k bit (j + 1))) := by
          rw [rotJ_next HX.out, rotX, if_pos hxk]
          exact HDr.out.set_wait (rotJ_at HX.out) rfl (by omega) _
        have HXK : Hid (x.1 = k) := hxk
        clear hr hth hxk
        go_wp2_with (go_at_call 98; refine HT.mono ?_; rintro e w3 ⟨rfl, hh1, ho1, ht1, hp1⟩; have HD4 : Hid (DkAt w3 bb (some ⟨ga, 0, none⟩) vc (bl.set k (turnL b bit)) (rotJ wt k bit (j + 1))) := HD3.out.ext fun _ _ => (by rw [hh1]); have HB4 : Hid (DkBut bb (some ⟨ga, 0, none⟩) w w3) := HBUT.out.trans (DkBut.of_heap (DkAt.but_wait rfl _ _) hh1 ho1 ht1 hp1); clear hh1 ho1 ht1 hp1 HT)
        exact ⟨⟨j + 1, by omega, by simp, HD4.out, HB4.out⟩, by simp [intOf]; omega⟩
      · have hb : ((x.1 : Int) == (k : Int)) = false := beq_eq_false_iff_ne.2 (by omega)
        have e : Hid (rotJ wt k bit (j + 1) = rotJ wt k bit j) := by
          show _ = _
          rw [rotJ_next HX.out, rotX, if_neg hxk]
          exact set_same (rotJ_at HX.out)
        clear hr hth
        go_wp2_with fail
        exact ⟨⟨j + 1, by omega, by simp, by rw [e.out]; exact HDr.out, HBUT.out⟩, by simp [intOf]; omega⟩
    · obtain rfl : j = wt.length := by omega
      clear D hbut
      go_wp2_with fail
      go_ret
      refine ⟨rfl, ?_, HBUT.out⟩
      have e : rotJ wt k bit wt.length = wt.map (rotX k bit) := by simp [rotJ]
      rw [← e]; exact HDr.out
set_option maxRecDepth 100000 in
set_option maxHeartbeats 2000000 in
theorem rot_not {bb : Nat} {va : Option Addr} {vc : Nat} {bl : List (List UInt8)} {wt : List (Nat × List UInt8)} (k bit : Int) (er : Value) (w : World) (D : DkAt w bb va vc bl wt) (hk : ¬ (hasB bl.length k = true ∧ 0 ≤ bit ∧ bit < 128)) (hE : w.cell? ⟨4, 0, none⟩ = some er) :
    Calls Tryz.prog 52 #[.pointer (some ⟨bb + 1, 0, none⟩), .int .i64 k, .int .i64 bit] w fun e w' => e = .returned er ∧ w' = w := by
  have HH := has_any k w D
  clear D
  cases hh : hasB bl.length k with
  | false =>
    rw [hh] at HH
    clear hk
    go_enter Tryz.func52, Tryz.ntmps52
    go_wp2_with (go_at_call 97; refine HH.mono ?_; rintro e w' ⟨rfl, hw⟩; rw [hw]; clear hw)
    go_ret
    exact ⟨rfl, rfl⟩
  | true =>
    rw [hh] at HH
    by_cases h0 : bit < 0
    · clear hk
      go_enter Tryz.func52, Tryz.ntmps52
      go_wp2_with (go_at_call 97; refine HH.mono ?_; rintro e w' ⟨rfl, hw⟩; rw [hw]; clear hw)
      go_ret
      exact ⟨rfl, rfl⟩
    · have h1 : ¬ bit < 128 := fun h => hk ⟨hh, by omega, h⟩
      clear hk
      go_enter Tryz.func52, Tryz.ntmps52
      go_wp2_with (go_at_call 97; refine HH.mono ?_; rintro e w' ⟨rfl, hw⟩; rw [hw]; clear hw)
      go_ret
      exact ⟨rfl, rfl⟩
end Go.Proofs.YtcejpeohkgchdaaGreatDoor
namespace Go.Proofs.YtcejpeohkgchdaaGreatDoor
open Go.RowKit

/-- An act on a disk. -/
structure DAct where
  kind : ByteArray
  s : ByteArray
  k : Int
  bit : Int
  keep : List Int
/-- Acts in memory. -/
def ActsAt (w : World) (v : Value) (l : List DAct) : Prop := ∃ ad cap, v = .slice ad l.length cap ∧ ∀ i a, l[i]? = some a → ∃ b off kv, ad = some ⟨b, off, none⟩ ∧ w.cell? ⟨b, off + i * 5, none⟩ = some (.string a.kind) ∧ w.cell? ⟨b, off + i * 5 + 1, none⟩ = some (.string a.s) ∧ w.cell? ⟨b, off + i * 5 + 2, none⟩ = some (.int .i64 a.k) ∧ w.cell? ⟨b, off + i * 5 + 3, none⟩ = some (.int .i64 a.bit) ∧ w.cell? ⟨b, off + i * 5 + 4, none⟩ = some kv ∧ IntsAt w kv a.keep
/-- The word of a barrier. -/
def barL : List UInt8 := [98, 97, 114, 114, 105, 101, 114]
/-- Was it written there? -/
def Wrote (l : List DAct) (j : Nat) (b : List UInt8) : Prop := ∃ (i : Nat) (a : DAct), l[i]? = some a ∧ (a.kind.toList == barL) = false ∧ a.k = (j : Int) ∧ a.s = ⟨b.toArray⟩
structure Good (l : List DAct) (bl : List (List UInt8)) (wt : List (Nat × List UInt8)) : Prop where
  bl : ∀ j b, bl[j]? = some b → b = zb ∨ Wrote l j b
  wt : ∀ x ∈ wt, Wrote l x.1 x.2
theorem Good.start (l : List DAct) (n : Nat) : Good l (List.replicate n zb) [] := ⟨fun j b h => .inl (by rw [List.getElem?_replicate] at h; split at h <;> simp_all), fun x hx => by cases hx⟩
theorem Good.write {l : List DAct} {bl : List (List UInt8)} {wt : List (Nat × List UInt8)} (G : Good l bl wt) {x : Nat × List UInt8} (h : Wrote l x.1 x.2) : Good l bl (wt ++ [x]) := ⟨G.bl, fun y hy => by
  rcases List.mem_append.1 hy with h' | h'
  · exact G.wt y h'
  · rw [List.mem_singleton.1 h']; exact h⟩
theorem Good.settle {l : List DAct} {bl : List (List UInt8)} {wt : List (Nat × List UInt8)} (G : Good l bl wt) (keep : Nat → Bool) : ∀ i, Good l (setl keep wt bl i) []
  | 0 => ⟨G.bl, fun x hx => by cases hx⟩
  | i + 1 => by
    have IH := G.settle keep i
    refine ⟨?_, fun x hx => by cases hx⟩
    unfold setl
    cases h : wt[i]? with
    | none => exact IH.bl
    | some x =>
      by_cases hk : keep i
      · simp only [hk, if_true]
        intro j b hj
        rw [List.getElem?_set] at hj
        split at hj
        · next e =>
          split at hj
          · cases hj
            right
            rw [← e]; exact G.wt x (List.mem_of_getElem? h)
          · cases hj
        · exact IH.bl j b hj
      · simp only [hk]
        exact IH.bl
theorem Good.rd {l : List DAct} {bl : List (List UInt8)} {wt : List (Nat × List UInt8)} (G : Good l bl wt) {k : Nat} {b : List UInt8} (hk : bl[k]? = some b) : rdR bl wt k = zb ∨ Wrote l k (rdR bl wt k) := by
  rcases rdR_mem (wt := wt) hk with h | h
  · rw [h]; exact G.bl k b hk
  · exact .inr (G.wt _ h)
theorem turnL_twice (l : List UInt8) (k : Nat) : turnL (turnL l k) k = l := by
  unfold turnL
  by_cases h : k / 8 < l.length
  · rw [List.getElem?_set_self h, Option.getD_some, turnB_twice, List.set_set]
    rw [List.getElem?_eq_getElem h, Option.getD_some]
    exact set_same (List.getElem?_eq_getElem h)
  · rw [List.set_eq_of_length_le (by rw [List.length_set]; omega), List.set_eq_of_length_le (by omega)]
theorem rotX_twice (k bit : Nat) (x : Nat × List UInt8) : rotX k bit (rotX k bit x) = x := by
  unfold rotX
  by_cases h : x.1 = k
  · simp [h, turnL_twice]; rw [← h]
  · simp [h]
theorem rot_back {bl : List (List UInt8)} {wt : List (Nat × List UInt8)} {k bit : Nat} {b : List UInt8} (hk : bl[k]? = some b) : (bl.set k (turnL b bit)).set k (turnL (turnL b bit) bit) = bl ∧ (wt.map (rotX k bit)).map (rotX k bit) = wt := by
  refine ⟨?_, ?_⟩
  · rw [turnL_twice, List.set_set]; exact set_same hk
  · rw [List.map_map]
    have : rotX k bit ∘ rotX k bit = id := by funext x; exact rotX_twice k bit x
    rw [this, List.map_id]
end Go.Proofs.YtcejpeohkgchdaaGreatDoor
namespace Go.Proofs.YtcejpeohkgchdaaGreatDoor
open Go.RowKit

/-- A block as a text. -/
def sB (b : List UInt8) : ByteArray := ⟨b.toArray⟩
def sV (b : List UInt8) : Value := .string (sB b)
def mw (x : Nat × List UInt8) : List Value := [.int .i64 (x.1 : Int), sV x.2]
theorem mw_len (x : Nat × List UInt8) : (mw x).length = 2 := rfl
structure MkAt (w : World) (mb : Nat) (la : Option Addr) (lc : Nat) (wa : Option Addr) (wcp : Nat) (bl : List (List UInt8)) (wt : List (Nat × List UInt8)) : Prop where
  disk : w.heap[mb]? = some (.cells #[.slice la bl.length lc, .slice wa wt.length wcp] 102 (0, 0))
  lrow : w.ownsRow (mb + 1) 9 1 (.slice la bl.length lc) bl.length (bl.map sV)
  wrow : w.ownsRow (mb + 1) 191 2 (.slice wa wt.length wcp) wt.length (wt.flatMap mw)
structure MkBut (mb : Nat) (la wa : Option Addr) (w w' : World) : Prop where
  os : w'.os = w.os
  tape : w'.tape = w.tape
  output : w'.output = w.output
  size : w.heap.size ≤ w'.heap.size
  block : ∀ k, k < w.heap.size → k ≠ mb → (∀ a, la = some a → k ≠ a.block) → (∀ a, wa = some a → k ≠ a.block) → w'.heap[k]? = w.heap[k]?
theorem MkBut.of_below {mb : Nat} {la wa : Option Addr} {w w' : World} (h : Below w.heap.size w w') : MkBut mb la wa w w' := ⟨h.os, h.tape, h.output, h.size, fun k hk _ _ _ => h.block k hk⟩
theorem MkBut.trans {mb : Nat} {la wa : Option Addr} {w w' w'' : World} (h : MkBut mb la wa w w') (h' : MkBut mb la wa w' w'') : MkBut mb la wa w w'' :=
  ⟨h'.os.trans h.os, h'.tape.trans h.tape, h'.output.trans h.output, Nat.le_trans h.size h'.size, fun k hk a b c => (h'.block k (Nat.lt_of_lt_of_le hk h.size) a b c).trans (h.block k hk a b c)⟩
theorem own_row {w : World} {base : Nat} {e : TypeId} {size : Nat} {sa : Option Addr} {n c : Nat} {xs : List Value} (h : w.ownsRow base e size (.slice sa n c) n xs) {a : Addr} (ha : sa = some a) : a = ⟨a.block, 0, none⟩ ∧ base ≤ a.block ∧ ∃ cur, w.heap[a.block]? = some (.cells cur e (0, 0)) ∧ cur.toList.take (n * size) = xs ∧ n * size ≤ cur.size := by
  rcases h.2 with ⟨e1, _⟩ | ⟨g, cap, cur, e1, h1, h2, h3, h4, h5, h6⟩
  · subst ha; simp at e1
  · simp only [Value.slice.injEq] at e1
    have e2 : a = ⟨g, 0, none⟩ := by rw [ha] at e1; exact Option.some.inj e1.1
    subst e2
    exact ⟨rfl, h1, cur, h2, h6, by rw [h5]; exact Nat.mul_le_mul_right _ h3⟩
theorem own_some {w : World} {base : Nat} {e : TypeId} {size : Nat} {sa : Option Addr} {n c : Nat} {xs : List Value} (h : w.ownsRow base e size (.slice sa n c) n xs) (hn : 0 < n) : ∃ a, sa = some a := by
  rcases h.2 with ⟨_, e0⟩ | ⟨g, cap, cur, e1, _⟩
  · omega
  · simp only [Value.slice.injEq] at e1
    exact ⟨_, e1.1⟩
theorem own_ext {w w' : World} {base : Nat} {e : TypeId} {size : Nat} {v : Value} {n : Nat} {xs : List Value} (h : w.ownsRow base e size v n xs) (hb : ∀ k, v.ownBlock = some k → w'.heap[k]? = w.heap[k]?) : w'.ownsRow base e size v n xs := by
  refine ⟨h.1, ?_⟩
  rcases h.2 with h2 | ⟨g, cap, cur, e1, e2, e3, e4⟩
  · exact .inl h2
  · exact .inr ⟨g, cap, cur, e1, e2, by rw [hb g (by rw [e1]; rfl)]; exact e3, e4⟩
/-- A cell of a row of its own is set. -/
theorem own_set {w : World} {base : Nat} {e : TypeId} {size : Nat} {g n c : Nat} {xs : List Value} (h : w.ownsRow base e size (.slice (some ⟨g, 0, none⟩) n c) n xs) {i : Nat} (v : Value) : (w.setCell ⟨g, i, none⟩ v).ownsRow base e size (.slice (some ⟨g, 0, none⟩) n c) n (xs.set i v) := by
  refine ⟨by rw [List.length_set]; exact h.1, ?_⟩
  rcases h.2 with ⟨e1, _⟩ | ⟨g', cap, cur, e1, h1, h2, h3, h4, h5, h6⟩
  · simp at e1
  · simp only [Value.slice.injEq, Option.some.injEq, Addr.mk.injEq, and_true, true_and] at e1
    obtain ⟨rfl, rfl⟩ := e1
    exact .inr ⟨g, c, _, rfl, h1, row_setCell h2 v, h3, h4, by simp; exact h5, by simp only [List.take_set, h6]⟩

def tyOf : Option Obj → Nat
  | some (.cells _ t _) => t
  | _ => 0
namespace MkAt
variable {w w' : World} {mb : Nat} {la : Option Addr} {lc : Nat} {wa : Option Addr} {wcp : Nat} {bl : List (List UInt8)} {wt : List (Nat × List UInt8)}
theorem lt (M : MkAt w mb la lc wa wcp bl wt) : mb < w.heap.size := (Array.getElem?_eq_some_iff.1 M.disk).1
theorem lowL (M : MkAt w mb la lc wa wcp bl wt) {a : Addr} (ha : la = some a) : mb + 1 ≤ a.block ∧ a.block < w.heap.size ∧ a = ⟨a.block, 0, none⟩ := by
  obtain ⟨e, h, cur, h2, _⟩ := own_row M.lrow ha
  exact ⟨h, (Array.getElem?_eq_some_iff.1 h2).1, e⟩
theorem lowW (M : MkAt w mb la lc wa wcp bl wt) {a : Addr} (ha : wa = some a) : mb + 1 ≤ a.block ∧ a.block < w.heap.size ∧ a = ⟨a.block, 0, none⟩ := by
  obtain ⟨e, h, cur, h2, _⟩ := own_row M.wrow ha
  exact ⟨h, (Array.getElem?_eq_some_iff.1 h2).1, e⟩
theorem ne (M : MkAt w mb la lc wa wcp bl wt) {a b : Addr} (ha : la = some a) (hb : wa = some b) : a.block ≠ b.block := fun e => by
  obtain ⟨_, _, c1, h1, _⟩ := own_row M.lrow ha
  obtain ⟨_, _, c2, h2, _⟩ := own_row M.wrow hb
  rw [e, h2] at h1
  exact absurd (show 191 = 9 from congrArg tyOf h1) (by decide)
theorem ext (M : MkAt w mb la lc wa wcp bl wt) (h : ∀ k, k = mb ∨ (∃ a, la = some a ∧ k = a.block) ∨ (∃ a, wa = some a ∧ k = a.block) → w'.heap[k]? = w.heap[k]?) : MkAt w' mb la lc wa wcp bl wt :=
  ⟨(h _ (.inl rfl)).trans M.disk, own_ext M.lrow fun k hk => h k (.inr (.inl (by
    cases la with
    | none => simp [Value.ownBlock] at hk
    | some a => exact ⟨a, rfl, by simpa [Value.ownBlock] using hk.symm⟩))), own_ext M.wrow fun k hk => h k (.inr (.inr (by
    cases wa with
    | none => simp [Value.ownBlock] at hk
    | some a => exact ⟨a, rfl, by simpa [Value.ownBlock] using hk.symm⟩)))⟩
theorem below (M : MkAt w mb la lc wa wcp bl wt) {B : Nat} (hB : w.heap.size ≤ B) (hb : Below B w w') : MkAt w' mb la lc wa wcp bl wt := M.ext fun k hk => hb.block k (by
  rcases hk with rfl | ⟨a, ha, rfl⟩ | ⟨a, ha, rfl⟩
  · have := M.lt; omega
  · have := (M.lowL ha).2.1; omega
  · have := (M.lowW ha).2.1; omega)
theorem up (M : MkAt w mb la lc wa wcp bl wt) {B : Nat} {w0 : World} (hB : B ≤ mb) (h0 : Below B w0 w) (h : MkBut mb la wa w w') : Below B w0 w' :=
  ⟨h.os.trans h0.os, h.tape.trans h0.tape, h.output.trans h0.output, Nat.le_trans h0.size h.size, fun k hk => by
    have := M.lt
    exact (h.block k (by omega) (by omega) (fun a ha => by have := (M.lowL ha).1; omega) (fun a ha => by have := (M.lowW ha).1; omega)).trans (h0.block k hk)⟩
theorem cells (M : MkAt w mb la lc wa wcp bl wt) : w.cell? ⟨mb, 0, none⟩ = some (.slice la bl.length lc) ∧ w.cell? ⟨mb, 1, none⟩ = some (.slice wa wt.length wcp) ∧ (∀ i, w.frozen? ⟨mb, i, none⟩ = false) := by
  refine ⟨?_, ?_, fun i => by simp [World.frozen?, M.disk]⟩
  · rw [cell_of_row w _ _ _ _ _ M.disk]; rfl
  · rw [cell_of_row w _ _ _ _ _ M.disk]; rfl
theorem l_at (M : MkAt w mb la lc wa wcp bl wt) {k : Nat} {b : List UInt8} (hk : bl[k]? = some b) : ∃ g, la = some ⟨g, 0, none⟩ ∧ w.cell? ⟨g, k, none⟩ = some (sV b) ∧ w.frozen? ⟨g, k, none⟩ = false := by
  have hkl := (List.getElem?_eq_some_iff.1 hk).1
  obtain ⟨a, ha⟩ := own_some M.lrow (by omega)
  obtain ⟨e, _, cur, h2, h6, _⟩ := own_row M.lrow ha
  refine ⟨a.block, by rw [ha]; exact congrArg some e, ?_, by simp [World.frozen?, h2]⟩
  rw [cell_of_row _ _ _ _ _ _ h2, ← Array.getElem?_toList]
  have : cur.toList[k]? = (cur.toList.take (bl.length * 1))[k]? := by rw [List.getElem?_take_of_lt (by omega)]
  rw [this, h6, List.getElem?_map, hk]; rfl
theorem w_at (M : MkAt w mb la lc wa wcp bl wt) {i : Nat} {x : Nat × List UInt8} (hi : wt[i]? = some x) : ∃ g, wa = some ⟨g, 0, none⟩ ∧ w.cell? ⟨g, i * 2, none⟩ = some (.int .i64 (x.1 : Int)) ∧ w.cell? ⟨g, i * 2 + 1, none⟩ = some (sV x.2) ∧ w.frozen? ⟨g, i * 2 + 1, none⟩ = false := by
  have hil := (List.getElem?_eq_some_iff.1 hi).1
  obtain ⟨a, ha⟩ := own_some M.wrow (by omega)
  obtain ⟨e, _, cur, h2, h6, _⟩ := own_row M.wrow ha
  have hc : ∀ j, j < 2 → w.cell? ⟨a.block, i * 2 + j, none⟩ = (mw x)[j]? := fun j hj => by
    rw [cell_of_row _ _ _ _ _ _ h2, ← Array.getElem?_toList]
    have : cur.toList[i * 2 + j]? = (cur.toList.take (wt.length * 2))[i * 2 + j]? := by rw [List.getElem?_take_of_lt (by omega)]
    rw [this, h6, flat_get (fun y _ => mw_len y) hi hj]
  exact ⟨a.block, by rw [ha]; exact congrArg some e, hc 0 (by omega), hc 1 (by omega), by simp [World.frozen?, h2]⟩
/-- A text is set. -/
theorem set_l (M : MkAt w mb la lc wa wcp bl wt) {g k : Nat} (hg : la = some ⟨g, 0, none⟩) (y : List UInt8) : MkAt (w.setCell ⟨g, k, none⟩ (sV y)) mb la lc wa wcp (bl.set k y) wt := by
  have hlow := M.lowL hg
  simp only at hlow
  refine ⟨?_, ?_, own_ext M.wrow fun q hq => Below.heap_setCell _ _ _ _ (show q ≠ g from ?_)⟩
  · rw [Below.heap_setCell _ _ _ _ (show mb ≠ g by omega), List.length_set]; exact M.disk
  · subst hg
    have h := own_set M.lrow (i := k) (sV y)
    rw [← List.map_set] at h
    rw [List.length_set]; exact h
  · cases wa with
    | none => simp [Value.ownBlock] at hq
    | some a => intro e; exact M.ne hg rfl (by simp [Value.ownBlock] at hq; simp only; omega)
theorem but_l {g : Nat} (hg : la = some ⟨g, 0, none⟩) (k : Nat) (v : Value) : MkBut mb la wa w (w.setCell ⟨g, k, none⟩ v) :=
  ⟨rfl, rfl, rfl, by simp [World.setCell], fun j _ _ hj _ => Below.heap_setCell _ _ _ _ (show j ≠ g from hj _ hg)⟩
/-- A text of a write that waits is set. -/
theorem set_w (M : MkAt w mb la lc wa wcp bl wt) {g i a : Nat} {l y : List UInt8} (hi : wt[i]? = some (a, l)) (hg : wa = some ⟨g, 0, none⟩) : MkAt (w.setCell ⟨g, i * 2 + 1, none⟩ (sV y)) mb la lc wa wcp bl (wt.set i (a, y)) := by
  have hlow := M.lowW hg
  simp only at hlow
  refine ⟨?_, own_ext M.lrow fun q hq => Below.heap_setCell _ _ _ _ (show q ≠ g from ?_), ?_⟩
  · rw [Below.heap_setCell _ _ _ _ (show mb ≠ g by omega), List.length_set]; exact M.disk
  · cases la with
    | none => simp [Value.ownBlock] at hq
    | some b => intro e; exact M.ne rfl hg (by simp [Value.ownBlock] at hq; simp only; omega)
  · subst hg
    have h := own_set M.wrow (i := i * 2 + 1) (sV y)
    rw [set_flat (fun z _ => mw_len z) hi (show 1 < 2 by omega) (y := (a, y)) (by rfl)] at h
    rw [List.length_set]; exact h
theorem but_w {g : Nat} (hg : wa = some ⟨g, 0, none⟩) (k : Nat) (v : Value) : MkBut mb la wa w (w.setCell ⟨g, k, none⟩ v) :=
  ⟨rfl, rfl, rfl, by simp [World.setCell], fun j _ _ _ hj => Below.heap_setCell _ _ _ _ (show j ≠ g from hj _ hg)⟩
theorem forget (M : MkAt w mb la lc wa wcp bl wt) : MkAt (w.setCell ⟨mb, 1, none⟩ (.slice none 0 0)) mb la lc none 0 bl [] := by
  refine ⟨?_, own_ext M.lrow fun q hq => Below.heap_setCell _ _ _ _ (show q ≠ mb from ?_), ⟨rfl, .inl ⟨rfl, rfl⟩⟩⟩
  · rw [row_setCell M.disk]; rfl
  · cases la with
    | none => simp [Value.ownBlock] at hq
    | some b => have := (M.lowL rfl).1; simp [Value.ownBlock] at hq; omega
theorem but_forget (i : Nat) (v : Value) : MkBut mb la wa w (w.setCell ⟨mb, i, none⟩ v) :=
  ⟨rfl, rfl, rfl, by simp [World.setCell], fun j _ hj _ _ => Below.heap_setCell _ _ _ _ hj⟩
end MkAt
theorem MkBut.of_heap {mb : Nat} {la wa : Option Addr} {w w1 w' : World} (h : MkBut mb la wa w w1) (e : w'.heap = w1.heap) (e1 : w'.os = w1.os) (e2 : w'.tape = w1.tape) (e3 : w'.output = w1.output) : MkBut mb la wa w w' :=
  ⟨e1.trans h.os, e2.trans h.tape, e3.trans h.output, by rw [e]; exact h.size, fun k a b c d => by rw [e]; exact h.block k a b c d⟩

section
variable {w w' : World} {mb : Nat} {la : Option Addr} {lc : Nat} {wa : Option Addr} {wcp : Nat} {bl bl' : List (List UInt8)} {wt wt' : List (Nat × List UInt8)} {bb : Nat} {va : Option Addr} {vc : Nat}
/-- The two disks lie apart: their rows are of other types. -/
theorem MkAt.keep (M : MkAt w mb la lc wa wcp bl wt) (D : DkAt w bb va vc bl' wt') (h : DkBut bb va w w') : MkAt w' mb la lc wa wcp bl wt := by
  have tD : ∀ k, (k = bb ∨ k = bb + 1 ∨ ∃ a, va = some a ∧ k = a.block) → tyOf w.heap[k]? = 184 ∨ tyOf w.heap[k]? = 175 ∨ tyOf w.heap[k]? = 188 := fun k hk => by
    rcases hk with rfl | rfl | ⟨a, ha, rfl⟩
    · left; rw [D.blocks]; rfl
    · right; left; rw [D.disk]; rfl
    · right; right
      obtain ⟨_, _, cur, h2, _⟩ := own_row D.waits ha
      rw [h2]; rfl
  refine M.ext fun k hk => ?_
  have tM : k < w.heap.size ∧ (tyOf w.heap[k]? = 102 ∨ tyOf w.heap[k]? = 9 ∨ tyOf w.heap[k]? = 191) := by
    rcases hk with rfl | ⟨a, ha, rfl⟩ | ⟨a, ha, rfl⟩
    · exact ⟨M.lt, .inl (by rw [M.disk]; rfl)⟩
    · obtain ⟨_, _, cur, h2, _⟩ := own_row M.lrow ha
      exact ⟨(M.lowL ha).2.1, .inr (.inl (by rw [h2]; rfl))⟩
    · obtain ⟨_, _, cur, h2, _⟩ := own_row M.wrow ha
      exact ⟨(M.lowW ha).2.1, .inr (.inr (by rw [h2]; rfl))⟩
  have no : ¬ (k = bb ∨ k = bb + 1 ∨ ∃ a, va = some a ∧ k = a.block) := fun hk' => by
    have h1 := tD k hk'
    have h2 := tM.2
    omega
  exact h.block k tM.1 (fun e => no (.inl e)) (fun e => no (.inr (.inl e))) (fun a ha e => no (.inr (.inr ⟨a, ha, e⟩)))
theorem DkAt.keep (D : DkAt w bb va vc bl' wt') (M : MkAt w mb la lc wa wcp bl wt) (h : MkBut mb la wa w w') : DkAt w' bb va vc bl' wt' := by
  have tM : ∀ k, (k = mb ∨ (∃ a, la = some a ∧ k = a.block) ∨ (∃ a, wa = some a ∧ k = a.block)) → tyOf w.heap[k]? = 102 ∨ tyOf w.heap[k]? = 9 ∨ tyOf w.heap[k]? = 191 := fun k hk => by
    rcases hk with rfl | ⟨a, ha, rfl⟩ | ⟨a, ha, rfl⟩
    · left; rw [M.disk]; rfl
    · right; left
      obtain ⟨_, _, cur, h2, _⟩ := own_row M.lrow ha
      rw [h2]; rfl
    · right; right
      obtain ⟨_, _, cur, h2, _⟩ := own_row M.wrow ha
      rw [h2]; rfl
  refine D.ext fun k hk => ?_
  have tD : k < w.heap.size ∧ (tyOf w.heap[k]? = 184 ∨ tyOf w.heap[k]? = 175 ∨ tyOf w.heap[k]? = 188) := by
    rcases hk with rfl | rfl | ⟨a, ha, rfl⟩
    · exact ⟨by have := D.lt; omega, .inl (by rw [D.blocks]; rfl)⟩
    · exact ⟨D.lt, .inr (.inl (by rw [D.disk]; rfl))⟩
    · obtain ⟨_, _, cur, h2, _⟩ := own_row D.waits ha
      exact ⟨(D.low a ha).2.1, .inr (.inr (by rw [h2]; rfl))⟩
  have no : ¬ (k = mb ∨ (∃ a, la = some a ∧ k = a.block) ∨ (∃ a, wa = some a ∧ k = a.block)) := fun hk' => by
    have h1 := tM k hk'
    have h2 := tD.2
    omega
  exact h.block k tD.1 (fun e => no (.inl e)) (fun a ha e => no (.inr (.inl ⟨a, ha, e⟩))) (fun a ha e => no (.inr (.inr ⟨a, ha, e⟩)))
end
end Go.Proofs.YtcejpeohkgchdaaGreatDoor
namespace Go.Proofs.YtcejpeohkgchdaaGreatDoor
open Go.RowKit

set_option maxRecDepth 100000 in
set_option maxHeartbeats 1000000 in
theorem zeros2_any (w : World) : Calls Tryz.prog 92 #[] w fun e w' => e = .returned (.string (zerosB 16)) ∧ w' = w := by
  go_enter Tryz.func92, Tryz.ntmps92
  go_wp2_with fail
  go_loopw [1, 2] (fun p i wr => ∃ (k : Nat) (s : ByteArray), k ≤ 16 ∧ i = .int .i64 k ∧ p = .string s ∧ Hid (s = zerosB k) ∧ wr = w) (fun _ i _ => 16 - (intOf i).toNat)
  case atStart => exact ⟨0, _, Nat.zero_le _, rfl, rfl, rfl, rfl⟩
  case round =>
    obtain ⟨k, s, hk, rfl, rfl, HX, rfl⟩ := hrel
    have hsz : s.size ≤ 1000000 := by rw [HX.out]; show (List.replicate k (0 : UInt8)).toArray.size ≤ _; simp; omega
    by_cases hkn : k < 16
    · go_wp2_with fail
      refine ⟨⟨k + 1, _, by omega, by simp, rfl, ?_, trivial⟩, by simp [intOf]; omega⟩
      show _ = _
      rw [zerosB_succ, HX.out]
    · obtain rfl : k = 16 := by omega
      go_wp2_with fail
      go_ret
      exact ⟨by rw [HX.out]; rfl, rfl⟩

/-- Is it one of these, as far as the first j? -/
def hasTo (l : List Int) (x : Int) (j : Nat) : Bool := (l.take j).any (· == x)
theorem hasTo_next {l : List Int} {x y : Int} {j : Nat} (h : l[j]? = some y) : hasTo l x (j + 1) = (hasTo l x j || (y == x)) := by
  obtain ⟨hj, e⟩ := List.getElem?_eq_some_iff.1 h
  unfold hasTo
  rw [List.take_succ_eq_append_getElem hj, e]; simp
set_option maxRecDepth 100000 in
set_option maxHeartbeats 1000000 in
theorem hasInts_any (v : Value) (l : List Int) (x : Int) (w : World) (hv : IntsAt w v l) (hl : l.length ≤ 100000) : Calls Tryz.prog 149 #[v, .int .i64 x] w fun e w' => e = .returned (.bool (hasTo l x l.length)) ∧ w' = w := by
  obtain ⟨ad, cap, rfl, hcs⟩ := hv
  have HCS : Hid (∀ i x, l[i]? = some x → ∃ b off, ad = some ⟨b, off, none⟩ ∧ w.cell? ⟨b, off + i, none⟩ = some (.int .i64 x)) := hcs
  clear hcs
  go_enter Tryz.func149, Tryz.ntmps149
  go_wp2_with fail
  go_loopw [5] (fun i wr => ∃ j : Nat, j ≤ l.length ∧ i = .int .i64 j ∧ Hid (hasTo l x j = false) ∧ wr = w) (fun i _ => l.length - (intOf i).toNat)
  case atStart => exact ⟨0, Nat.zero_le _, rfl, (by show _ = _; simp [hasTo]), rfl⟩
  case round =>
    obtain ⟨j, hj, rfl, HT, rfl⟩ := hrel
    by_cases hlt : j < l.length
    · obtain ⟨y, HX⟩ : ∃ y, Hid (l[j]? = some y) := ⟨_, List.getElem?_eq_getElem hlt⟩
      obtain ⟨b, off, rfl, cx⟩ := HCS.out j y HX.out
      cases hyx : (y == x) with
      | true =>
        have HE : Hid (hasTo l x l.length = true) := by
          show _ = _
          unfold hasTo
          rw [List.take_length, List.any_eq_true]
          exact ⟨y, List.mem_of_getElem? HX.out, hyx⟩
        go_wp2_with fail
        go_ret
        exact ⟨by rw [HE.out]; rfl, rfl⟩
      | false =>
        go_wp2_with fail
        exact ⟨⟨j + 1, by omega, by simp, (by show _ = _; rw [hasTo_next HX.out, HT.out, hyx]; rfl), (by first | rfl | trivial)⟩, by simp [intOf]; omega⟩
    · obtain rfl : j = l.length := by omega
      go_wp2_with fail
      go_ret
      exact ⟨by rw [HT.out]; rfl, rfl⟩
/-- Those that are kept are those that are there. -/
theorem kept_has (n : Nat) (keep : List Int) (i : Nat) (hi : i < n) : keptB n keep i = hasTo keep (i : Int) keep.length := by
  unfold keptB
  have h : ∀ j, (kpL n keep j)[i]? = some (hasTo keep (i : Int) j) := by
    intro j
    induction j with
    | zero => simp [kpL, hasTo, hi]
    | succ j ih =>
      unfold kpL
      cases e : keep[j]? with
      | none =>
        have hle := List.getElem?_eq_none_iff.1 e
        simp only
        rw [ih]
        unfold hasTo
        rw [List.take_of_length_le hle, List.take_of_length_le (by omega)]
      | some x =>
        simp only
        rw [hasTo_next e]
        by_cases hx : 0 ≤ x ∧ x < (n : Int)
        · rw [if_pos hx, List.getElem?_set]
          by_cases hxi : x.toNat = i
          · rw [if_pos hxi, if_pos (by rw [kpL_len]; omega)]
            have : (x == (i : Int)) = true := by rw [← hxi]; simp; omega
            rw [this]; simp
          · rw [if_neg hxi, ih]
            have : (x == (i : Int)) = false := beq_eq_false_iff_ne.2 (by omega)
            rw [this]; simp
        · rw [if_neg hx, ih]
          have : (x == (i : Int)) = false := beq_eq_false_iff_ne.2 (by omega)
          rw [this]; simp
  rw [h]; rfl
end Go.Proofs.YtcejpeohkgchdaaGreatDoor
