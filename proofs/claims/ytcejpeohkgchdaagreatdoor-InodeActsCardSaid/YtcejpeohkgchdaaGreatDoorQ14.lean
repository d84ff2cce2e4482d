/-
  The contracts of the document's disk: Read, Put, Crash.
  The document's table of inodes in memory.
  Conditions: those that each states.
-/
import Derived.Test.YtcejpeohkgchdaaGreatDoorQ13
import Derived.Deep.RegionHeld3
import Derived.Deep.AppendLies
import Derived.Test.YtcejpeohkgchdaaGreatDoorQ12
import Derived.Laws.OwnMore
namespace Go.Proofs.YtcejpeohkgchdaaGreatDoor
open Go.RowKit

theorem rdR_next {bl : List (List UInt8)} {wt : List (Nat × List UInt8)} {k j : Nat} {x : Nat × List UInt8} (h : wt[j]? = some x) : rdR bl (wt.take (j + 1)) k = if x.1 = k then x.2 else rdR bl (wt.take j) k := by
  obtain ⟨hj, e⟩ := List.getElem?_eq_some_iff.1 h
  unfold rdR
  rw [List.take_succ_eq_append_getElem hj, e, List.reverse_append]
  simp only [List.reverse_singleton, List.singleton_append, List.find?_cons]
  by_cases hx : x.1 = k
  · simp [hx]
  · have : (x.1 == k) = false := by simpa using hx
    rw [this, if_neg hx]

set_option maxRecDepth 100000 in
set_option maxHeartbeats 1000000 in
theorem readM_any {mb : Nat} {la : Option Addr} {lc : Nat} {wa : Option Addr} {wcp : Nat} {bl : List (List UInt8)} {wt : List (Nat × List UInt8)} (k : Nat) (b : List UInt8) (w : World) (M : MkAt w mb la lc wa wcp bl wt) (hk : bl[k]? = some b) (hwl : wt.length ≤ 100000) :
    Calls Tryz.prog 108 #[.pointer (some ⟨mb, 0, none⟩), .int .i64 (k : Int)] w fun e w' => e = .returned (.string (sB (rdR bl wt k))) ∧ w' = w := by
  obtain ⟨c1, c2, _⟩ := M.cells
  have HM : Hid (MkAt w mb la lc wa wcp bl wt) := M
  obtain ⟨g, rfl, cl, _⟩ := M.l_at hk
  have hkl := (List.getElem?_eq_some_iff.1 hk).1
  have cl' : w.cell? ⟨g, k, none⟩ = some (.string (sB b)) := cl
  have H0 : Hid (b = rdR bl (wt.take 0) k) := by show _ = _; simp [rdR, hk]
  clear M hk cl
  go_enter Tryz.func108, Tryz.ntmps108
  go_wp2_with fail
  go_loopw [5, 6] (fun p i wr => ∃ (j : Nat) (y : List UInt8), j ≤ wt.length ∧ i = .int .i64 j ∧ p = .string (sB y) ∧ Hid (y = rdR bl (wt.take j) k) ∧ wr = w) (fun _ i _ => wt.length - (intOf i).toNat)
  case atStart => exact ⟨0, b, Nat.zero_le _, rfl, rfl, H0, rfl⟩
  case round =>
    obtain ⟨j, y, hj, rfl, rfl, HY, rfl⟩ := hrel
    by_cases hlt : j < wt.length
    · obtain ⟨x, HX⟩ : ∃ x, Hid (wt[j]? = some x) := ⟨_, List.getElem?_eq_getElem hlt⟩
      obtain ⟨gw, rfl, q0, q1, _⟩ := HM.out.w_at HX.out
      have q1' : wr.cell? ⟨gw, j * 2 + 1, none⟩ = some (.string (sB x.2)) := q1
      have HN := rdR_next (bl := bl) (k := k) HX.out
      clear q1
      by_cases hx : x.1 = k
      · have hb : ((x.1 : Int) == (k : Int)) = true := by rw [hx]; exact beq_self_eq_true _
        rw [if_pos hx] at HN
        have HN' : Hid (rdR bl (wt.take (j + 1)) k = x.2) := HN
        clear HN hx
        go_wp2_with fail
        exact ⟨⟨j + 1, x.2, by omega, by simp, rfl, (by show _ = _; rw [HN'.out]), (by first | rfl | trivial)⟩, by simp [intOf]; omega⟩
      · have hb : ((x.1 : Int) == (k : Int)) = false := beq_eq_false_iff_ne.2 (by omega)
        rw [if_neg hx] at HN
        have HN' : Hid (rdR bl (wt.take (j + 1)) k = rdR bl (wt.take j) k) := HN
        clear HN
        go_wp2_with fail
        exact ⟨⟨j + 1, y, by omega, by simp, rfl, (by show _ = _; rw [HN'.out, HY.out]), (by first | rfl | trivial)⟩, by simp [intOf]; omega⟩
    · obtain rfl : j = wt.length := by omega
      go_wp2_with fail
      go_ret
      refine ⟨?_, rfl⟩
      show Ending.returned (Value.string (sB y)) = _
      rw [HY.out, List.take_length]

theorem infoMW : (Tryz.prog.info? 191).map (fun i => (i.zero, i.size, i.bytes)) = some (some (.agg #[.int .i64 0, .string { data := #[] }]), 2, 24) := by kernel_rfl
/-- One write more waits. -/
theorem put_end {mb : Nat} {la : Option Addr} {lc : Nat} {wa : Option Addr} {wcp : Nat} {bl : List (List UInt8)} {wt : List (Nat × List UInt8)} {x : Nat × List UInt8} {w wa1 w5 w6 : World} {g cap : Nat} (M : MkAt w mb la lc wa wcp bl wt)
    (hown : w5.ownsRow (mb + 1) 191 2 (.slice (some ⟨g, 0, none⟩) (wt.length + 1) cap) (wt.length + 1) (wt.flatMap mw ++ mw x)) (hba : Below w.heap.size w wa1) (hgrow : wa1.grownBy w5 (Value.slice wa wt.length wcp).ownBlock)
    (h6 : w6 = w5.setCell ⟨mb, 1, none⟩ (.slice (some ⟨g, 0, none⟩) (wt.length + 1) cap)) :
    MkAt w6 mb la lc (some ⟨g, 0, none⟩) cap bl (wt ++ [x]) ∧ MkBut mb la wa w w6 := by
  have hlt := M.lt
  have hob : ∀ k, k < w.heap.size → (∀ a, wa = some a → k ≠ a.block) → w5.heap[k]? = w.heap[k]? := fun k hk hne => by
    rw [hgrow.block k (Nat.lt_of_lt_of_le hk hba.size) (fun e => ?_), hba.block k hk]
    cases wa with
    | none => simp [Value.ownBlock] at e
    | some a => exact hne a rfl (by simpa [Value.ownBlock] using e)
  have h6b : ∀ k, k ≠ mb → w6.heap[k]? = w5.heap[k]? := fun k hk => by rw [h6]; exact Below.heap_setCell _ _ _ _ hk
  have hg : mb + 1 ≤ g := (hown.lt g rfl).1
  have hd : w5.heap[mb]? = w.heap[mb]? := hob _ (by omega) (fun a ha => by have := (M.lowW ha).1; omega)
  refine ⟨⟨?_, ?_, ?_⟩, ⟨?_, ?_, ?_, ?_, fun k hk k1 k2 k3 => ?_⟩⟩
  · rw [h6, row_setCell (hd.trans M.disk)]
    simp
  · refine own_ext M.lrow fun k hk => ?_
    cases la with
    | none => simp [Value.ownBlock] at hk
    | some a =>
      have hk' : a.block = k := by simpa [Value.ownBlock] using hk
      have hl := M.lowL (a := a) rfl
      rw [h6b k (by omega), hob k (by omega) (fun b hb e => M.ne (a := a) rfl hb (by omega))]
  · rw [List.length_append, List.length_singleton, List.flatMap_append, List.flatMap_singleton]
    refine own_ext hown fun k hk => h6b k ?_
    have hk' : g = k := by simpa [Value.ownBlock] using hk
    omega
  · rw [h6]; exact hgrow.os.trans hba.os
  · rw [h6]; exact hgrow.tape.trans hba.tape
  · rw [h6]; exact hgrow.output.trans hba.output
  · have : w6.heap.size = w5.heap.size := by rw [h6]; simp [World.setCell]
    have := hgrow.size
    have := hba.size
    omega
  · rw [h6b k k1, hob k hk k3]

set_option maxRecDepth 100000 in
set_option maxHeartbeats 1000000 in
theorem put_any {mb : Nat} {la : Option Addr} {lc : Nat} {wa : Option Addr} {wcp : Nat} {bl : List (List UInt8)} {wt : List (Nat × List UInt8)} (k : Nat) (s : List UInt8) (w : World) (M : MkAt w mb la lc wa wcp bl wt) (hwl : wt.length ≤ 100000) :
    Calls Tryz.prog 137 #[.pointer (some ⟨mb, 0, none⟩), .int .i64 (k : Int), .string (sB s)] w fun e w' => e = .returned (.tuple #[]) ∧ ∃ wa' wcp', MkAt w' mb la lc wa' wcp' bl (wt ++ [(k, s)]) ∧ MkBut mb la wa w w' := by
  obtain ⟨c1, c2, c3⟩ := M.cells
  have f1 := c3 1
  have HM : Hid (MkAt w mb la lc wa wcp bl wt) := M
  have hlt := M.lt
  have hltE : mb < w.heap.size + 1 := by omega
  have hneE : ¬ mb = w.heap.size := by omega
  obtain ⟨i0, hi0, hz0, hz1, hz2⟩ := info_parts infoMW
  have HOW : Hid ((w.alloc (.cells #[.int .i64 (k : Int), .string (sB s)] 191)).ownsRow (mb + 1) 191 2 (.slice wa wt.length wcp) wt.length (wt.flatMap mw)) := World.ownsRow.alloc M.wrow _
  clear M c3
  go_enter Tryz.func137, Tryz.ntmps137
  go_wp2_with (at_builtin; refine wpList_append_own _ (by rfl) (.tmp 10) (.tmp 14) 100 (by rfl) (mb + 1) 191 i0 _ 2 24 Tryz.underlying100 hi0 hz0 hz1 hz2 rfl (by omega) (.slice wa wt.length wcp) wt.length (wt.flatMap mw) (by rfl) HOW.out ⟨w.heap.size, 0, none⟩ 1 1 (mw (k, s)) (by rfl) (by rfl) (World.news_of_block (cs := #[.int .i64 (k : Int), .string (sB s)]) (t := 191) (fr := (0, 0)) (heap_alloc_last w _)) (by simp [mw, sV, Value.oneCell']) (by unfold maxLen; omega) (by omega) (by simp; omega) ?_; intro v' w4 hown4 hgrow _; have c4 : w4.cell? ⟨mb, 1, none⟩ = some (.slice wa wt.length wcp) := (by rw [World.cell?_of_block (hgrow.block mb (by simp; omega) (fun e => by have := (World.ownsRow.lt HM.out.wrow _ e.symm).1; omega)), World.cell?_of_block (Below.heap_alloc _ _ _ hlt)]; exact c2); have f4 : w4.frozen? ⟨mb, 1, none⟩ = false := (by simp [World.frozen?, hgrow.block mb (by simp; omega) (fun e => by have := (World.ownsRow.lt HM.out.wrow _ e.symm).1; omega), Below.heap_alloc _ _ _ hlt, HM.out.disk]); obtain ⟨g, cap, hv'⟩ : ∃ g cap, v' = .slice (some ⟨g, 0, none⟩) (wt.length + 1) cap := (by
    rcases hown4.2 with ⟨_, e0⟩ | ⟨g, cap, cur, e, _⟩
    · omega
    · exact ⟨_, _, e⟩); subst hv')
  go_returns
  obtain ⟨h1, h2⟩ := put_end (x := (k, s)) HM.out hown4 ((Below.refl _ w).alloc (Nat.le_refl _) _) hgrow rfl
  exact ⟨rfl, _, _, h1, h2⟩
end Go.Proofs.YtcejpeohkgchdaaGreatDoor
namespace Go.Proofs.YtcejpeohkgchdaaGreatDoor
open Go.RowKit

/-- A slot as cells. -/
def inoC (p : Option Ino × Value) : List Value := match p.1 with
  | some x => [.bool true, .int .i64 (x.bytes : Int), .int .i64 (x.links : Int), .bool x.exec, p.2, .int .i64 (x.sum : Int)]
  | none => [.bool false, .int .i64 0, .int .i64 0, .bool false, .slice none 0 0, .int .i64 0]
theorem inoC_len (p : Option Ino × Value) : (inoC p).length = 6 := by
  unfold inoC
  cases p.1 <;> rfl
def mtTy : Obj → Bool
  | .cells _ t _ => t == 97 || t == 119 || t == 102 || t == 9 || t == 191
  | _ => false
structure MtAt (w : World) (B mt md : Nat) (la : Option Addr) (lc : Nat) (ia : Option Addr) (ic : Nat) (bl : List (List UInt8)) (tab : List (Option Ino)) (vs : List Value) : Prop where
  box : w.heap[mt]? = some (.cells #[.pointer (some ⟨md, 0, none⟩), .slice ia tab.length ic] 97 (0, 0))
  disk : MkAt w md la lc none 0 bl []
  row : w.ownsRow B 119 6 (.slice ia tab.length ic) tab.length ((tab.zip vs).flatMap inoC)
  len : vs.length = tab.length
  its : ∀ (k : Nat) (x : Ino) (v : Value), tab[k]? = some (some x) → vs[k]? = some v → IntsT w v (ints x.blocks)
/-- What was there is as it was, but for the document's table from T0 on. -/
structure MtBut (T0 : Nat) (w w' : World) : Prop where
  os : w'.os = w.os
  tape : w'.tape = w.tape
  output : w'.output = w.output
  size : w.heap.size ≤ w'.heap.size
  block : ∀ (k : Nat) (o : Obj), w.heap[k]? = some o → (k < T0 ∨ mtTy o = false) → w'.heap[k]? = some o
namespace MtBut
variable {T0 : Nat} {w w' w'' : World}
theorem refl (T0 : Nat) (w : World) : MtBut T0 w w := ⟨rfl, rfl, rfl, Nat.le_refl _, fun _ _ h _ => h⟩
theorem trans (h : MtBut T0 w w') (h' : MtBut T0 w' w'') : MtBut T0 w w'' :=
  ⟨h'.os.trans h.os, h'.tape.trans h.tape, h'.output.trans h.output, Nat.le_trans h.size h'.size, fun k o hk hp => h'.block k o (h.block k o hk hp) hp⟩
theorem of_below (h : Below w.heap.size w w') : MtBut T0 w w' := ⟨h.os, h.tape, h.output, h.size, fun k o hk _ => by rw [h.block k (Array.getElem?_eq_some_iff.1 hk).1]; exact hk⟩
theorem below (h : MtBut T0 w w') {B : Nat} {w0 : World} (hB : B ≤ T0) (hs : B ≤ w.heap.size) (h0 : Below B w0 w) : Below B w0 w' :=
  ⟨h.os.trans h0.os, h.tape.trans h0.tape, h.output.trans h0.output, Nat.le_trans h0.size h.size, fun k hk => by
    rw [← h0.block k hk]
    have e : w.heap[k]? = some w.heap[k] := Array.getElem?_eq_getElem (by omega)
    rw [e]; exact h.block k _ e (.inl (by omega))⟩
end MtBut
theorem zipAt {α β : Type} {l : List α} {m : List β} {k : Nat} {x : α} {y : β} (h : l[k]? = some x) (h' : m[k]? = some y) : (l.zip m)[k]? = some (x, y) := by
  rw [List.getElem?_zip_eq_some]; exact ⟨h, h'⟩
section
variable {w w' : World} {B mt md : Nat} {la : Option Addr} {lc : Nat} {ia : Option Addr} {ic : Nat} {bl : List (List UInt8)} {tab : List (Option Ino)} {vs : List Value}
theorem c6 : ∀ p ∈ tab.zip vs, (inoC p).length = 6 := fun p _ => inoC_len p
theorem MkAt.turn {p : Obj → Bool} {la wa : Option Addr} {lc wcp : Nat} {bl : List (List UInt8)} {wt : List (Nat × List UInt8)} (M : MkAt w md la lc wa wcp bl wt) (h : Turn p w w') (h1 : ∀ c f, p (.cells c 102 f) = false) (h2 : ∀ c f, p (.cells c 9 f) = false) (h3 : ∀ c f, p (.cells c 191 f) = false) : MkAt w' md la lc wa wcp bl wt :=
  M.ext fun k hk => by
    rcases hk with rfl | ⟨a, ha, rfl⟩ | ⟨a, ha, rfl⟩
    · rw [M.disk]; exact h _ _ M.disk (h1 _ _)
    · obtain ⟨_, _, cur, h2', _⟩ := own_row M.lrow ha
      rw [h2']; exact h _ _ h2' (h2 _ _)
    · obtain ⟨_, _, cur, h2', _⟩ := own_row M.wrow ha
      rw [h2']; exact h _ _ h2' (h3 _ _)
theorem rowKeep {e : TypeId} {size n : Nat} {v : Value} {xs : List Value} (h : w.ownsRow B e size v n xs) (hb : ∀ (k : Nat) (cur : Array Value), w.heap[k]? = some (.cells cur e (0, 0)) → w'.heap[k]? = some (.cells cur e (0, 0))) : w'.ownsRow B e size v n xs := by
  refine ⟨h.1, ?_⟩
  rcases h.2 with h2 | ⟨g, cap, cur, e1, e2, e3, e4⟩
  · exact .inl h2
  · exact .inr ⟨g, cap, cur, e1, e2, hb g cur e3, e4⟩
theorem MtAt.turn {p : Obj → Bool} (M : MtAt w B mt md la lc ia ic bl tab vs) (h : Turn p w w') (h0 : ∀ c f, p (.cells c 97 f) = false) (h1 : ∀ c f, p (.cells c 102 f) = false) (h2 : ∀ c f, p (.cells c 9 f) = false) (h3 : ∀ c f, p (.cells c 191 f) = false) (h4 : ∀ c f, p (.cells c 119 f) = false) (h5 : ∀ c f, p (.cells c 3 f) = false) : MtAt w' B mt md la lc ia ic bl tab vs :=
  ⟨h _ _ M.box (h0 _ _), M.disk.turn h h1 h2 h3, rowKeep M.row fun _ _ hk => h _ _ hk (h4 _ _), M.len, fun k x v hk hv => (M.its k x v hk hv).turn h h5⟩
theorem MtAt.below (M : MtAt w B mt md la lc ia ic bl tab vs) (h : Below w.heap.size w w') : MtAt w' B mt md la lc ia ic bl tab vs :=
  M.turn (Turn.of_below (p := fun _ => false) h) (fun _ _ => rfl) (fun _ _ => rfl) (fun _ _ => rfl) (fun _ _ => rfl) (fun _ _ => rfl) (fun _ _ => rfl)
theorem MtAt.tb {T0 mb : Nat} (M : MtAt w B mt md la lc ia ic bl tab vs) (h : TbBut T0 mb w w') : MtAt w' B mt md la lc ia ic bl tab vs :=
  M.turn (p := tbTy) (fun k o hk hp => h.block k o hk (.inr hp)) (fun _ _ => rfl) (fun _ _ => rfl) (fun _ _ => rfl) (fun _ _ => rfl) (fun _ _ => rfl) (fun _ _ => rfl)
theorem TbAt.mtb {F : Nat → Prop} {T0 T1 tb bb sp sb cap mb n : Nat} {bl : List (List UInt8)} {u : List Bool} {tab : List (Option Ino)} (T : TbAt w F T0 tb bb sp sb cap mb n bl u tab) (h : MtBut T1 w w') : TbAt w' F T0 tb bb sp sb cap mb n bl u tab := by
  have ht : Turn mtTy w w' := fun k o hk hp => h.block k o hk (.inr hp)
  obtain ⟨f, N⟩ := T.nodes
  exact ⟨ht _ _ T.box rfl, T.disk.turn ht (fun _ _ => rfl) (fun _ _ => rfl) (fun _ _ => rfl), T.space.turn ht (fun _ _ => rfl) (fun _ _ => rfl), ⟨f, N.turn ht (fun _ _ => rfl) (fun _ _ => rfl) (fun _ _ => rfl)⟩, T.low⟩
theorem MtAt.cells (M : MtAt w B mt md la lc ia ic bl tab vs) : w.cell? ⟨mt, 0, none⟩ = some (.pointer (some ⟨md, 0, none⟩)) ∧ w.cell? ⟨mt, 1, none⟩ = some (.slice ia tab.length ic) ∧ w.frozen? ⟨mt, 1, none⟩ = false := by
  refine ⟨?_, ?_, by simp [World.frozen?, M.box]⟩ <;> rw [cell_of_row _ _ _ _ _ _ M.box] <;> rfl
theorem MtAt.slot (M : MtAt w B mt md la lc ia ic bl tab vs) {k : Nat} {o : Option Ino} (hk : tab[k]? = some o) : ∃ v g, vs[k]? = some v ∧ ia = some ⟨g, 0, none⟩ ∧ (∀ i c, (inoC (o, v))[i]? = some c → w.cell? ⟨g, k * 6 + i, none⟩ = some c) ∧ (∀ i, w.frozen? ⟨g, i, none⟩ = false) := by
  have hl := (List.getElem?_eq_some_iff.1 hk).1
  have hv : vs[k]? = some (vs[k]'(by rw [M.len]; exact hl)) := List.getElem?_eq_getElem _
  rcases M.row.2 with ⟨_, h0⟩ | ⟨g, c, cur, e, _⟩
  · omega
  · simp only [Value.slice.injEq] at e
    obtain ⟨rfl, _, rfl⟩ := e
    refine ⟨_, g, hv, rfl, fun i cc hi => ?_, fun i => World.ownsRow.frozenAt M.row i⟩
    have hi6 : i < 6 := by have := (List.getElem?_eq_some_iff.1 hi).1; rw [inoC_len] at this; exact this
    rw [World.ownsRow.cellAt M.row (k * 6 + i) (by have : k * 6 + 6 ≤ tab.length * 6 := by omega
                                                   omega), flat_get c6 (zipAt hk hv) hi6]
    exact hi
theorem MtAt.ty {g : Nat} (M : MtAt w B mt md la lc (some ⟨g, 0, none⟩) ic bl tab vs) : ∃ cur, w.heap[g]? = some (.cells cur 119 (0, 0)) := by
  rcases M.row.2 with ⟨h, _⟩ | ⟨g', c, cur, e, _, h, _⟩
  · simp at h
  · simp only [Value.slice.injEq, Option.some.injEq, Addr.mk.injEq] at e
    obtain ⟨⟨rfl, _⟩, _⟩ := e
    exact ⟨cur, h⟩
/-- The row of slots as it comes to be. -/
theorem MtAt.rowed {g : Nat} {tab' : List (Option Ino)} {vs' : List Value} (M : MtAt w B mt md la lc (some ⟨g, 0, none⟩) ic bl tab vs) (hk : ∀ k, k ≠ g → w'.heap[k]? = w.heap[k]?) (hr : w'.ownsRow B 119 6 (.slice (some ⟨g, 0, none⟩) tab.length ic) tab.length ((tab'.zip vs').flatMap inoC)) (hl : tab'.length = tab.length) (hl' : vs'.length = tab'.length)
    (hi : ∀ (k : Nat) (x : Ino) (v : Value), tab'[k]? = some (some x) → vs'[k]? = some v → IntsT w v (ints x.blocks)) : MtAt w' B mt md la lc (some ⟨g, 0, none⟩) ic bl tab' vs' := by
  obtain ⟨cg, hg⟩ := M.ty
  have ht : Turn (fun o => match o with | .cells _ t _ => t == 119 | _ => false) w w' := fun k o hk2 hp => by
    rw [hk k (fun e => by rw [e, hg] at hk2; cases hk2; exact absurd (show true = false from hp) (by simp))]; exact hk2
  exact ⟨by rw [hl]; exact ht _ _ M.box rfl, M.disk.turn ht (fun _ _ => rfl) (fun _ _ => rfl) (fun _ _ => rfl), by rw [hl]; exact hr, hl', fun k x v h1 h2 => (hi k x v h1 h2).turn ht (fun _ _ => rfl)⟩
theorem MtAt.but {g : Nat} (M : MtAt w B mt md la lc (some ⟨g, 0, none⟩) ic bl tab vs) {T0 : Nat} (hT : T0 ≤ B) (hg : w.grownBy w' (some g)) : MtBut T0 w w' := by
  obtain ⟨cg, hc⟩ := M.ty
  have hgB : B ≤ g := (World.ownsRow.lt M.row g rfl).1
  refine ⟨hg.os, hg.tape, hg.output, hg.size, fun k o hk hp => ?_⟩
  rw [hg.block k (Array.getElem?_eq_some_iff.1 hk).1 (fun e => ?_)]
  · exact hk
  · cases e
    rcases hp with hp | hp
    · omega
    · rw [hc] at hk; cases hk; exact absurd (show true = false from hp) (by simp)
theorem MtAt.links {g k : Nat} {x : Ino} (M : MtAt w B mt md la lc (some ⟨g, 0, none⟩) ic bl tab vs) (hx : tab[k]? = some (some x)) (l : Nat) : MtAt (w.setCell ⟨g, k * 6 + 2, none⟩ (.int .i64 (l : Int))) B mt md la lc (some ⟨g, 0, none⟩) ic bl (tab.set k (some { x with links := l })) vs := by
  obtain ⟨v, g', hv, e, _⟩ := M.slot hx
  have hl := (List.getElem?_eq_some_iff.1 hx).1
  refine M.rowed (fun q hq => Below.heap_setCell _ _ _ _ hq) ?_ (by simp) (by simp [M.len]) (fun q y z h1 h2 => ?_)
  · have h := (World.ownsRow.stored M.row (k * 6 + 2) (.int .i64 (l : Int))).1
    rw [set_flat (y := (some { x with links := l }, v)) c6 (zipAt hx hv) (by omega) rfl] at h
    have e2 : (tab.zip vs).set k (some { x with links := l }, v) = (tab.set k (some { x with links := l })).zip vs := by
      apply List.ext_getElem?
      intro q
      by_cases hq : q = k
      · subst hq
        rw [List.getElem?_set_self (by rw [List.length_zip, M.len]; omega), zipAt (List.getElem?_set_self hl) hv]
      · rw [List.getElem?_set_ne (fun h => hq h.symm)]
        simp only [List.zip, List.getElem?_zipWith, List.getElem?_set_ne (fun h => hq h.symm)]
    rw [e2] at h; exact h
  · by_cases hq : q = k
    · subst hq
      rw [List.getElem?_set_self hl] at h1
      cases h1
      exact M.its q x z hx h2
    · rw [List.getElem?_set_ne (fun h => hq h.symm)] at h1
      exact M.its q y z h1 h2
theorem sets6 (xs : List Value) (o : Nat) (a b c d e f : Value) (h : o + 6 ≤ xs.length) : (((((xs.set o a).set (o + 1) b).set (o + 2) c).set (o + 3) d).set (o + 4) e).set (o + 5) f = over xs o [a, b, c, d, e, f] := by
  rw [← over_cons _ _ _ _ (by omega), ← over_cons _ _ _ _ (by simp; omega), ← over_cons _ _ _ _ (by simp; omega), ← over_cons _ _ _ _ (by simp; omega), ← over_cons _ _ _ _ (by simp; omega), ← over_cons _ _ _ _ (by simp; omega)]
  simp [over]
def put6 (w : World) (g o : Nat) (a b c d e f : Value) : World := (((((w.setCell ⟨g, o, none⟩ a).setCell ⟨g, o + 1, none⟩ b).setCell ⟨g, o + 2, none⟩ c).setCell ⟨g, o + 3, none⟩ d).setCell ⟨g, o + 4, none⟩ e).setCell ⟨g, o + 5, none⟩ f
theorem put6_block (w : World) (g o : Nat) (a b c d e f : Value) {k : Nat} (h : k ≠ g) : (put6 w g o a b c d e f).heap[k]? = w.heap[k]? := by
  unfold put6
  rw [Below.heap_setCell _ _ _ _ h, Below.heap_setCell _ _ _ _ h, Below.heap_setCell _ _ _ _ h, Below.heap_setCell _ _ _ _ h, Below.heap_setCell _ _ _ _ h, Below.heap_setCell _ _ _ _ h]
theorem grown1 (w : World) (g i : Nat) (v : Value) : w.grownBy (w.setCell ⟨g, i, none⟩ v) (some g) :=
  ⟨rfl, rfl, rfl, by simp [World.setCell], fun k _ hk => Below.heap_setCell _ _ _ _ (fun e => hk (by rw [e]))⟩
theorem grown2 {w w1 w2 : World} {g : Option Nat} (h : w.grownBy w1 g) (h' : w1.grownBy w2 g) : w.grownBy w2 g :=
  ⟨h'.os.trans h.os, h'.tape.trans h.tape, h'.output.trans h.output, Nat.le_trans h.size h'.size, fun k hk hne => (h'.block k (Nat.lt_of_lt_of_le hk h.size) hne).trans (h.block k hk hne)⟩
theorem put6_grown (w : World) (g o : Nat) (a b c d e f : Value) : w.grownBy (put6 w g o a b c d e f) (some g) :=
  grown2 (grown2 (grown2 (grown2 (grown2 (grown1 w g o a) (grown1 _ g _ b)) (grown1 _ g _ c)) (grown1 _ g _ d)) (grown1 _ g _ e)) (grown1 _ g _ f)
theorem MtAt.put {g k : Nat} {o0 o : Option Ino} {v a b c d e f : Value} (M : MtAt w B mt md la lc (some ⟨g, 0, none⟩) ic bl tab vs) (hx : tab[k]? = some o0) (hc : inoC (o, v) = [a, b, c, d, e, f]) (hi : ∀ x, o = some x → IntsT w v (ints x.blocks)) : MtAt (put6 w g (k * 6) a b c d e f) B mt md la lc (some ⟨g, 0, none⟩) ic bl (tab.set k o) (vs.set k v) := by
  obtain ⟨v0, g', hv, _⟩ := M.slot hx
  have hl := (List.getElem?_eq_some_iff.1 hx).1
  have hl' := (List.getElem?_eq_some_iff.1 hv).1
  refine M.rowed (fun q hq => put6_block _ _ _ _ _ _ _ _ _ hq) ?_ (by simp) (by simp [M.len]) (fun q y z h1 h2 => ?_)
  · have hxl : ((tab.zip vs).flatMap inoC).length = tab.length * 6 := by rw [flat_len c6, List.length_zip, M.len, Nat.min_self]
    have r0 := (World.ownsRow.stored M.row (k * 6) a).1
    have r1 := (World.ownsRow.stored r0 (k * 6 + 1) b).1
    have r2 := (World.ownsRow.stored r1 (k * 6 + 2) c).1
    have r3 := (World.ownsRow.stored r2 (k * 6 + 3) d).1
    have r4 := (World.ownsRow.stored r3 (k * 6 + 4) e).1
    have r5 := (World.ownsRow.stored r4 (k * 6 + 5) f).1
    rw [sets6 _ _ _ _ _ _ _ _ (by rw [hxl]; omega), ← hc, over_flat (y := (o, v)) c6 (zipAt hx hv) (inoC_len _)] at r5
    have e2 : (tab.zip vs).set k (o, v) = (tab.set k o).zip (vs.set k v) := by
      apply List.ext_getElem?
      intro q
      by_cases hq : q = k
      · subst hq
        rw [List.getElem?_set_self (by rw [List.length_zip, M.len]; omega), zipAt (List.getElem?_set_self hl) (List.getElem?_set_self hl')]
      · rw [List.getElem?_set_ne (fun h => hq h.symm)]
        simp only [List.zip, List.getElem?_zipWith, List.getElem?_set_ne (fun h => hq h.symm)]
    rw [e2] at r5; exact r5
  · by_cases hq : q = k
    · subst hq
      rw [List.getElem?_set_self hl] at h1
      rw [List.getElem?_set_self hl'] at h2
      cases h1; cases h2
      exact hi y rfl
    · rw [List.getElem?_set_ne (fun h => hq h.symm)] at h1 h2
      exact M.its q y z h1 h2
/-- Is a block some inode's? -/
def usedM (tab : List (Option Ino)) (b : Nat) : Bool := tab.any fun o => match o with
  | some x => x.blocks.contains b
  | none => false
def freeM (tab : List (Option Ino)) (n : Nat) : List Nat := (List.range n).filter fun b => !usedM tab b
theorem usedM_iff {tab : List (Option Ino)} {b : Nat} : usedM tab b = true ↔ ∃ k x, slotT tab k = some x ∧ b ∈ x.blocks := by
  unfold usedM
  rw [List.any_eq_true]
  constructor
  · rintro ⟨o, ho, h⟩
    obtain ⟨k, hk⟩ := List.mem_iff_getElem?.1 ho
    cases o with
    | none => cases h
    | some x => exact ⟨k, x, slotT_of hk, by simpa using h⟩
  · rintro ⟨k, x, hx, hb⟩
    exact ⟨some x, List.mem_of_getElem? (slotT_get hx), by simpa using hb⟩
theorem SInv.freeM {N : Nat} {bl : List (List UInt8)} {u : List Bool} {tab : List (Option Ino)} (S : SInv N bl u tab) : freeM tab N = freeR u := by
  unfold Proofs.YtcejpeohkgchdaaGreatDoor.freeM freeR whereR
  rw [S.lu]
  apply List.filter_congr
  intro b hb
  have hbN : b < u.length := by rw [S.lu]; simpa using hb
  rw [List.getElem?_eq_getElem hbN]
  simp only [Option.getD_some]
  congr 1
  rw [Bool.eq_iff_iff, usedM_iff]
  constructor
  · rintro ⟨k, x, hx, h⟩
    have := (S.own k x hx).2.1 b h
    rw [List.getElem?_eq_getElem hbN] at this
    simpa using this
  · intro h
    exact S.all b (by rw [List.getElem?_eq_getElem hbN, h])
end
end Go.Proofs.YtcejpeohkgchdaaGreatDoor
