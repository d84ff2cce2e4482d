/-
  The contract of package inode's Lay.
  Conditions: those that each states.
-/
import Derived.Test.YteefneelcgeioaaGreatDoorQ05
import Derived.Test.YteefneelcgeioaaGreatDoorQ07
import Derived.Test.YteefneelcgeioaaGreatDoorQ08
import Derived.Lib.BufferWrite
namespace Go.Proofs.YteefneelcgeioaaGreatDoor
open Go.RowKit Go.Shelf

attribute [local go_sem] Oper.semAt_some

/-- Data, and zeros behind it. -/
def fillR (data : ByteArray) (m : Nat) : List UInt8 := data.data.toList ++ List.replicate (m * 16 - data.size) 0
def pieceR (data : ByteArray) (m i : Nat) : List UInt8 := ((fillR data m).drop (i * 16)).take 16
/-- The first j writes of data into blocks. -/
def wtR (blocks : List Nat) (data : ByteArray) (j : Nat) : List (Nat × List UInt8) := (List.range j).map fun i => (blocks[i]?.getD 0, pieceR data blocks.length i)
theorem fill_len {data : ByteArray} {m : Nat} (h : data.size ≤ m * 16) : (fillR data m).length = m * 16 := by
  have e : data.data.toList.length = data.size := Array.length_toList
  unfold fillR
  rw [List.length_append, e, List.length_replicate]; omega
theorem piece_len {data : ByteArray} {m i : Nat} (h : data.size ≤ m * 16) (hi : i < m) : (pieceR data m i).length = 16 := by
  unfold pieceR
  rw [List.length_take, List.length_drop, fill_len h]; omega
theorem piece_at {data : ByteArray} {m i j : Nat} (hj : j < 16) : (pieceR data m i)[j]? = (fillR data m)[i * 16 + j]? := by
  unfold pieceR
  rw [List.getElem?_take_of_lt hj, List.getElem?_drop]
def wtP (blocks : List Nat) (data : ByteArray) {m : Nat} (pre : List { x : Nat // x < m }) : List (Nat × List UInt8) := pre.zipIdx.map fun p => (blocks[p.2]?.getD 0, pieceR data blocks.length p.1.1)
theorem wtP_snoc (blocks : List Nat) (data : ByteArray) {m : Nat} (pre : List { x : Nat // x < m }) (x : { x : Nat // x < m }) : wtP blocks data (pre ++ [x]) = wtP blocks data pre ++ [(blocks[pre.length]?.getD 0, pieceR data blocks.length x.1)] := by
  unfold wtP
  rw [List.zipIdx_append]
  simp
theorem wtP_len (blocks : List Nat) (data : ByteArray) {m : Nat} (pre : List { x : Nat // x < m }) : (wtP blocks data pre).length = pre.length := by simp [wtP]
theorem wtP_fr (blocks : List Nat) (data : ByteArray) {m : Nat} : ∀ {j : Nat}, j ≤ m → wtP blocks data (fr m j) = wtR blocks data j
  | 0, _ => rfl
  | j + 1, h => by
    rw [fr_succ (by omega), wtP_snoc, wtP_fr blocks data (by omega), fr_len (by omega)]
    unfold wtR
    rw [List.range_succ, List.map_append]; rfl

/-- The disk while data is written: what was there is as it was, but for it and the counter. -/
structure WrI (T0 bb B0 : Nat) (bl : List (List UInt8)) (W0 : World) (wt : List (Nat × List UInt8)) (i : Nat) (W : World) : Prop where
  disk : ∃ va vc, DkAt W bb va vc bl wt
  box : W.heap[B0]? = some (.cells #[.int .i64 (i : Int)] 3 (0, 0))
  os : W.os = W0.os
  tape : W.tape = W0.tape
  output : W.output = W0.output
  size : W0.heap.size ≤ W.heap.size
  kept : ∀ (k : Nat) (o : Obj), W0.heap[k]? = some o → (k < T0 ∨ dkTy o = false) → k ≠ B0 → W.heap[k]? = some o
theorem turn_own {A B : World} {row : Option Nat} (hg : A.grownBy B row) (hr : ∀ r, row = some r → ∃ o : Obj, A.heap[r]? = some o ∧ o.isCells = false) : Turn (fun o => !o.isCells) A B := fun k o hk hp => by
  rw [hg.block k (Array.getElem?_eq_some_iff.1 hk).1 (fun e => ?_)]
  · exact hk
  · obtain ⟨o', ho', hc⟩ := hr k e.symm
    rw [hk] at ho'; cases ho'
    simp [hc] at hp
theorem WrI.own {T0 bb B0 : Nat} {bl : List (List UInt8)} {W0 : World} {β : Type} (wt : β → List (Nat × List UInt8)) (i : β → Nat) : OwnFrom W0.heap.size (fun s W => WrI T0 bb B0 bl W0 (wt s) (i s) W) := fun s A B row hs hg hr => by
  have ht := turn_own hg (fun r e => (hr r e).2)
  obtain ⟨va, vc, D⟩ := hs.disk
  exact ⟨⟨va, vc, D.turn ht (fun _ _ => rfl) (fun _ _ => rfl) (fun _ _ => rfl)⟩, ht _ _ hs.box rfl, hg.os.trans hs.os, hg.tape.trans hs.tape, hg.output.trans hs.output, Nat.le_trans hs.size hg.size, fun k o hk hp hne => by
    have h1 := hs.kept k o hk hp hne
    rw [hg.block k (Array.getElem?_eq_some_iff.1 h1).1 (fun e => ?_)]
    · exact h1
    · have := (hr k e.symm).1
      have := (Array.getElem?_eq_some_iff.1 hk).1
      omega⟩
theorem WrI.write {T0 bb B0 : Nat} {bl : List (List UInt8)} {W0 W W' : World} {wt wt' : List (Nat × List UInt8)} {i : Nat} {va : Option Addr} {vc : Nat} (hT : T0 ≤ bb) (I : WrI T0 bb B0 bl W0 wt i W) (D : DkAt W bb va vc bl wt) (D' : ∃ va vc, DkAt W' bb va vc bl wt') (h : DkBut bb va W W') : WrI T0 bb B0 bl W0 wt' i W' := by
  have ht := Turn.of_but D h
  refine ⟨D', ht _ _ I.box rfl, h.os.trans I.os, h.tape.trans I.tape, h.output.trans I.output, Nat.le_trans I.size h.size, fun k o hk hp hne => ?_⟩
  have h1 := I.kept k o hk hp hne
  rcases hp with hp | hp
  · rw [h.block k (Array.getElem?_eq_some_iff.1 h1).1 (by omega) (by omega) (fun a ha => by have := (D.low a ha).1; omega)]; exact h1
  · exact ht k o h1 hp
theorem WrI.next {T0 bb B0 : Nat} {bl : List (List UInt8)} {W0 W : World} {wt : List (Nat × List UInt8)} {i : Nat} (I : WrI T0 bb B0 bl W0 wt i W) : WrI T0 bb B0 bl W0 wt (i + 1) (W.setCell ⟨B0, 0, none⟩ (.int .i64 ((i : Int) + 1))) := by
  obtain ⟨va, vc, D⟩ := I.disk
  have ht : ∀ k, k ≠ B0 → (W.setCell ⟨B0, 0, none⟩ (.int .i64 ((i : Int) + 1))).heap[k]? = W.heap[k]? := fun k hk => Below.heap_setCell _ _ _ _ hk
  have hne : ∀ (k : Nat) (c : Array Value) (t : TypeId), t ≠ 3 → W.heap[k]? = some (.cells c t (0, 0)) → k ≠ B0 := fun k c t htt hk e => by
    rw [e, I.box] at hk
    simp only [Option.some.injEq, Obj.cells.injEq] at hk
    exact htt hk.2.1.symm
  refine ⟨⟨va, vc, D.ext fun k hk => ht k ?_⟩, ?_, I.os, I.tape, I.output, by simp [World.setCell]; exact I.size, fun k o hk hp hkb => by rw [ht k hkb]; exact I.kept k o hk hp hkb⟩
  · rcases hk with rfl | rfl | ⟨a, ha, rfl⟩
    · exact hne _ _ _ (by decide) D.blocks
    · exact hne _ _ _ (by decide) D.disk
    · rcases D.waits.2 with ⟨e, _⟩ | ⟨g, cap, cur, e, _, hr, _⟩
      · cases ha; simp at e
      · cases ha
        simp only [Value.slice.injEq, Option.some.injEq] at e
        rw [e.1]
        exact hne _ _ _ (by decide) hr
  · rw [row_setCell I.box]; simp

section
variable {F : Nat → Prop} {T0 tb bb sp sb cap mb n : Nat} {bl : List (List UInt8)} {u : List Bool} {tab : List (Option Ino)}
set_option maxRecDepth 100000 in
theorem run_make_bytes (m M : Nat) (hM : M = m * 16) (hm : m ≤ 1000) (w : World) : (Instr.makeSlice 147 (.int .i64 ((m : Int) * 16)) (.int .i64 ((m : Int) * 16))).run Tryz.prog w = .ok (.slice (some ⟨w.heap.size, 0, none⟩) M M) (w.alloc (.cells (bc (List.replicate M 0)).toArray 5)) := by
  have infoU : (Tryz.prog.info? 5).map (fun i => (i.zero, i.size, i.bytes)) = some (some (.int .u8 0), 1, 1) := by kernel_rfl
  obtain ⟨i0, hi0, hz0, hz1, hz2⟩ := info_parts infoU
  have e : ((m : Int) * 16) = (M : Int) := by omega
  rw [e]
  have := run_make (P := Tryz.prog) w 147 5 i0 _ Tryz.underlying147 hi0 hz0 .i64 .i64 M M (by omega) (Int.le_refl _) (by rw [hz2]; omega) (by omega)
  simp only [Int.toNat_natCast] at this
  rw [this, hz1]
  congr 3
  apply Array.ext
  · simp [size_madeCells, bc]
  · intro i h1 h2
    simp [madeCells, Value.cells, Nat.mod_one, bc]
theorem run_copy_data (data : ByteArray) (m M g : Nat) (hM : M = m * 16) (hd : data.size ≤ M) (w : World) (hg : w.heap[g]? = some (.cells (bc (List.replicate M 0)).toArray 5 (0, 0))) : (Builtin.copy_ #[147, 9] 3 #[.slice (some ⟨g, 0, none⟩) M M, .string data]).run Tryz.prog w = .ok (goInt data.size) (w.setRow g (bc (fillR data m)).toArray) := by
  have := Lib.run_copy_row_string (P := Tryz.prog) w 147 9 3 5 g 0 M M data _ _ Tryz.underlying147 (by kernel_rfl) hg hd (by simp [bc]; exact hd)
  have e : List.take 0 (bc (List.replicate M 0)).toArray.toList ++ Lib.byteCells data.data.toList ++ List.drop (0 + data.size) (bc (List.replicate M 0)).toArray.toList = bc (fillR data m) := by
    rw [List.take_zero, List.nil_append]
    unfold fillR bc
    rw [List.map_append, Nat.zero_add, ← hM]
    have e2 : Lib.byteCells data.data.toList = data.data.toList.map (fun x => Value.int .u8 (x.toNat : Int)) := rfl
    rw [e2]
    simp
  rw [e] at this
  exact this
set_option maxRecDepth 100000 in
set_option maxHeartbeats 2000000 in
theorem im_lay (v : Value) (blocks : List Nat) (data : ByteArray) (er : Value) (w : World) (T : TbAt w F T0 tb bb sp sb cap mb n bl u tab) (hv : IntsT w v (ints blocks)) (hin : ∀ k ∈ blocks, k < bl.length) (hbl : blocks.length ≤ 1000) (hd : data.size ≤ blocks.length * 16) (hE : w.cell? ⟨6, 0, none⟩ = some er) (hgT : 6 < T0) :
    Calls Tryz.prog 90 #[.pointer (some ⟨bb + 1, 0, none⟩), v, .string data] w fun e w' => e = .returned (.tuple #[]) ∧ TbAt w' F T0 tb bb sp sb cap mb n (setl (fun _ => true) (wtR blocks data blocks.length) bl blocks.length) u tab ∧ TbBut T0 mb w w' ∧ Turn dkTy w w' := by
  refine (callsIn_wide (n := 5)).1 ?_
  obtain ⟨ad, vc, rfl, hcs⟩ := id hv
  rw [ints_len]
  obtain ⟨m, hm⟩ : ∃ m, m = blocks.length := ⟨_, rfl⟩
  obtain ⟨M, hM⟩ : ∃ M, M = m * 16 := ⟨_, rfl⟩
  have HM : Hid (M = m * 16) := hM
  have Hm : Hid (m = blocks.length) := hm
  rw [← hm] at hbl hd ⊢
  have hmk := run_make_bytes m M hM hbl
  obtain ⟨Wb, hWb⟩ : ∃ Wb, Wb = ((w.alloc (.cells #[.pointer (some ⟨bb + 1, 0, none⟩)] 102)).alloc (.cells #[.slice ad m vc] 44)).alloc (.cells (bc (List.replicate M 0)).toArray 5) := ⟨_, rfl⟩
  have hWbs : Wb.heap.size = w.heap.size + 3 := by rw [hWb]; simp
  have hWb2 : Wb.heap[w.heap.size + 2]? = some (.cells (bc (List.replicate M 0)).toArray 5 (0, 0)) := by
    have h := heap_alloc_last ((w.alloc (.cells #[.pointer (some ⟨bb + 1, 0, none⟩)] 102)).alloc (.cells #[.slice ad m vc] 44)) (.cells (bc (List.replicate M 0)).toArray 5)
    rw [World.size_alloc, World.size_alloc, ← hWb] at h
    exact h
  have hcp := run_copy_data data m M (w.heap.size + 2) hM (by omega) Wb hWb2
  obtain ⟨Wc, hWc⟩ : ∃ Wc, Wc = ((w.alloc (.cells #[.pointer (some ⟨bb + 1, 0, none⟩)] 102)).alloc (.cells #[.slice ad m vc] 44)).alloc (.cells (bc (fillR data m)).toArray 5) := ⟨_, rfl⟩
  have hset := World.setRow_alloc_new ((w.alloc (.cells #[.pointer (some ⟨bb + 1, 0, none⟩)] 102)).alloc (.cells #[.slice ad m vc] 44)) (bc (List.replicate M 0)).toArray (bc (fillR data m)).toArray 5
  rw [World.size_alloc, World.size_alloc, ← hWb, ← hWc] at hset
  rw [hset, hWb] at hcp
  have hWcs : Wc.heap.size = w.heap.size + 3 := by rw [hWc]; simp
  have hbWc : Below w.heap.size w Wc := by rw [hWc]; exact (((Below.refl _ w).alloc (Nat.le_refl _) _).alloc (by simp) _).alloc (by simp; omega) _
  have q0 : Wc.heap[w.heap.size]? = some (.cells #[.pointer (some ⟨bb + 1, 0, none⟩)] 102 (0, 0)) := by
    rw [hWc, Below.heap_alloc _ _ _ (by simp; omega), Below.heap_alloc _ _ _ (by simp), heap_alloc_last]
  have q1 : Wc.heap[w.heap.size + 1]? = some (.cells #[.slice ad m vc] 44 (0, 0)) := by
    have h := heap_alloc_last (w.alloc (.cells #[.pointer (some ⟨bb + 1, 0, none⟩)] 102)) (.cells #[.slice ad m vc] 44)
    rw [World.size_alloc] at h
    rw [hWc, Below.heap_alloc _ _ _ (by simp)]; exact h
  have q2 : Wc.heap[w.heap.size + 2]? = some (.cells (bc (fillR data m)).toArray 5 (0, 0)) := by
    have h := heap_alloc_last ((w.alloc (.cells #[.pointer (some ⟨bb + 1, 0, none⟩)] 102)).alloc (.cells #[.slice ad m vc] 44)) (.cells (bc (fillR data m)).toArray 5)
    rw [World.size_alloc, World.size_alloc, ← hWc] at h
    exact h
  refine callsIn_of_wp_marks Tryz.func90 rfl trivial ?_ rfl
  simp only [Tryz.ntmps90, List.size_toArray, List.length_cons, List.length_nil, Nat.reduceAdd, Nat.reduceSub, Array.replicate_succ, Array.replicate_zero, List.push_toArray, List.append_toArray, List.nil_append, List.cons_append]
  have HB := chunk_in 4 (some ⟨w.heap.size + 2, 0, none⟩) M M
  clear hset hWb hWc hWb2 hWbs Wb
  have HV : Hid (IntsT w (.slice ad (ints blocks).length vc) (ints blocks)) := hv
  have HT : Hid _ := T
  have HCS : Hid (∀ (i k : Nat), blocks[i]? = some k → ∃ g off cur, ad = some ⟨g, off, none⟩ ∧ w.heap[g]? = some (.cells cur 3 (0, 0)) ∧ cur[off + i]? = some (.int .i64 (k : Int))) := fun i k hk => by
    obtain ⟨g, off, cur, e1, e2, e3⟩ := hcs (fun h => by (have : blocks = [] := by simpa [ints] using h); rw [this] at hk; simp at hk)
    exact ⟨g, off, cur, e1, e2, e3 i k (by simp [ints, hk])⟩
  clear hv hm hM hcs T
  gi_wp2_with (refine ⟨trivial, ?_⟩; gi_at_call 105; refine (HB _).mono ?_; rintro e w' ⟨rfl, rfl⟩)
  simp only [Nat.add_assoc, Nat.reduceAdd]
  obtain ⟨W0, hW0⟩ : ∃ W0, ((Wc.alloc (.cells #[.int .i64 0] 3)).alloc (.cells #[.slice (some ⟨w.heap.size + 2, 0, none⟩) M M] 147)).alloc (.cells #[.int .i64 16] 3) = W0 := ⟨_, rfl⟩
  have hsz : W0.heap.size = w.heap.size + 6 := by rw [← hW0]; simp; omega
  have hbc0 : Below Wc.heap.size Wc W0 := by rw [← hW0]; exact (((Below.refl _ Wc).alloc (Nat.le_refl _) _).alloc (by simp) _).alloc (by simp; omega) _
  have r0 := (hbc0.block w.heap.size (by omega)).trans q0
  have r1 := (hbc0.block (w.heap.size + 1) (by omega)).trans q1
  have r2 := (hbc0.block (w.heap.size + 2) (by omega)).trans q2
  have r3 : W0.heap[w.heap.size + 3]? = some (.cells #[.int .i64 ((0 : Nat) : Int)] 3 (0, 0)) := by
    rw [← hW0, Below.heap_alloc _ _ _ (by simp; omega), Below.heap_alloc _ _ _ (by simp; omega), ← hWcs]; exact heap_alloc_last Wc _
  have r4 : W0.heap[w.heap.size + 4]? = some (.cells #[.slice (some ⟨w.heap.size + 2, 0, none⟩) M M] 147 (0, 0)) := by
    have h := heap_alloc_last (Wc.alloc (.cells #[.int .i64 0] 3)) (.cells #[.slice (some ⟨w.heap.size + 2, 0, none⟩) M M] 147)
    rw [World.size_alloc, hWcs] at h
    rw [← hW0, Below.heap_alloc _ _ _ (by simp; omega)]; exact h
  have r5 : W0.heap[w.heap.size + 5]? = some (.cells #[.int .i64 16] 3 (0, 0)) := by
    have h := heap_alloc_last ((Wc.alloc (.cells #[.int .i64 0] 3)).alloc (.cells #[.slice (some ⟨w.heap.size + 2, 0, none⟩) M M] 147)) (.cells #[.int .i64 16] 3)
    rw [World.size_alloc, World.size_alloc, hWcs] at h
    rw [← hW0]; exact h
  have hB0 : Below w.heap.size w W0 := hbWc.trans (hbc0.mono (by omega))
  rw [hW0]
  clear hW0 q0 q1 q2 hcp hmk HB hbc0 hbWc hWcs
  have DW := HT.out.disk.below (Nat.le_refl _) hB0
  have htb : tb < w.heap.size := (Array.getElem?_eq_some_iff.1 HT.out.box).1
  have hbb : bb + 1 < w.heap.size := HT.out.disk.lt
  have hTb : T0 ≤ bb := HT.out.low.1
  have h0I : WrI T0 bb (w.heap.size + 3) bl W0 (wtP blocks data ([] : List { x : Nat // x < m })) 0 W0 := ⟨⟨none, 0, DW⟩, r3, rfl, rfl, rfl, Nat.le_refl _, fun _ _ h _ _ => h⟩
  have HEr : Hid (∃ o, W0.heap[6]? = some o ∧ (∀ W : World, W.heap[6]? = some o → W.cell? ⟨6, 0, none⟩ = some er)) := by
    have hl := World.block_lt_of_cell? w _ hE
    refine ⟨w.heap[6], by rw [hB0.block _ hl]; exact Array.getElem?_eq_getElem hl, fun W hW => ?_⟩
    rw [World.cell?_of_block (a := ⟨6, 0, none⟩) (hW.trans (Array.getElem?_eq_getElem hl).symm)]; exact hE
  have HCS0 : Hid (∀ (i k : Nat), blocks[i]? = some k → ∃ g off cur, ad = some ⟨g, off, none⟩ ∧ g < w.heap.size ∧ W0.heap[g]? = some (.cells cur 3 (0, 0)) ∧ cur[off + i]? = some (.int .i64 (k : Int))) := fun i k hk => by
    obtain ⟨g, off, cur, e1, e2, e3⟩ := HCS.out i k hk
    have hg := (Array.getElem?_eq_some_iff.1 e2).1
    exact ⟨g, off, cur, e1, hg, (hB0.block g hg).trans e2, e3⟩
  obtain ⟨s, hs⟩ : ∃ s, s = w.heap.size := ⟨_, rfl⟩
  rw [← hs] at hsz r0 r1 r2 r3 r4 r5 h0I htb hbb HCS0 ⊢
  have Hs : Hid (s = w.heap.size) := hs
  have HB0 : Hid (Below w.heap.size w W0) := hB0
  clear hs hB0
  have r2' : W0.heap[s + 2]? = some (.cells (bc (fillR data blocks.length)).toArray 5 (0, 0)) := by rw [← Hm.out]; exact r2
  refine wpIn_rangeFunc_ownH (α := { x : Nat // x < m }) rfl (by omega) (gf := 129) (lb := #[.pointer (some ⟨s + 4, 0, none⟩), .pointer (some ⟨s + 5, 0, none⟩)]) rfl trivial (enters_of Tryz.func129 (by kernel_rfl) rfl)
    (chunk_stops 4 (by omega) (s + 4) (s + 5) (s + 2) m M M HM.out hbl (Nat.le_refl _) W0 (by omega) (by omega) r4 r5) (fun h k => ⟨k.1.trans h.1, k.2.trans h.2⟩)
    (fun W l o o' hl _ _ _ => ⟨World.putObj_heap_other (by omega), World.putObj_heap_other (by omega)⟩) (Below.refl _ _) (fun _ => rfl)
    (fun pre W => WrI T0 bb (s + 3) bl W0 (wtP blocks data pre) pre.length W) (fun _ _ _ => False) (WrI.own _ _) (fun _ _ _ _ _ h _ _ => h) h0I
    (fun x a' _ => a' = { tmps := #[.pointer (some ⟨bb + 1, 0, none⟩), .slice ad m vc, .string data, .pointer (some ⟨s, 0, none⟩), .pointer (some ⟨s + 1, 0, none⟩), undef, .slice (some ⟨s + 2, 0, none⟩) M M, .pointer (some ⟨s + 3, 0, none⟩), .slice (some ⟨s + 2, x.1 * 16, none⟩) 16 16, .slice ad m vc, .int .i64 (m : Int), .int .i64 ((m : Int) * 16), .slice (some ⟨s + 2, 0, none⟩) M M, .slice (some ⟨s + 2, 0, none⟩) M M, .string data, .int .i64 (data.size : Int), .slice (some ⟨s + 2, 0, none⟩) M M, .func (.func 129) #[] #[.pointer (some ⟨s + 4, 0, none⟩), .pointer (some ⟨s + 5, 0, none⟩)], .slice (some ⟨s + 2, x.1 * 16, none⟩) 16 16, undef, undef, undef, undef, undef, undef, undef, undef, undef, undef, undef, undef], defers := [] }) (fun _ _ _ _ _ _ h _ _ => h)
    ?assign ?body ?done ?stop
  case assign =>
    intro l pre x W K hI hK
    gi_wp2
    exact hK _ _ (KeepsFrom.refl _ _) ⟨rfl, rfl⟩ hI rfl
  case body =>
    rintro l pre x a' W hl ⟨r, hr⟩ hI rfl hlt
    obtain ⟨i, hi⟩ : ∃ i, i = pre.length := ⟨_, rfl⟩
    rw [← hi] at hI hlt
    obtain ⟨k, hk⟩ : ∃ k, blocks[i]? = some k := ⟨_, List.getElem?_eq_getElem (by rw [← Hm.out]; exact hlt)⟩
    obtain ⟨g, off, cur, rfl, hg, hgr, hgc⟩ := HCS0.out i k hk
    have hkl := hin k (List.mem_of_getElem? hk)
    have hsz16 : data.size ≤ blocks.length * 16 := by rw [← Hm.out]; exact hd
    have hp16 := piece_len hsz16 (i := x.1) (by rw [← Hm.out]; exact x.2)
    obtain ⟨ps, hps⟩ : ∃ ps : ByteArray, ps = ⟨(pieceR data blocks.length x.1).toArray⟩ := ⟨_, rfl⟩
    have HSW : Hid (∀ wt W', WrI T0 bb (s + 3) bl W0 wt i W' → (W'.cell? ⟨s, 0, none⟩ = some (.pointer (some ⟨bb + 1, 0, none⟩)) ∧ W'.cell? ⟨s + 1, 0, none⟩ = some (.slice (some ⟨g, off, none⟩) m vc) ∧ W'.cell? ⟨s + 3, 0, none⟩ = some (.int .i64 (i : Int)) ∧ W'.cell? ⟨g, off + i, none⟩ = some (.int .i64 (k : Int)) ∧ (convert 147 9 (.slice (some ⟨s + 2, x.1 * 16, none⟩) 16 16)).run Tryz.prog W' = .ok (.string ps) W')) := fun wt W' hW' => by
      have k0 := hW'.kept _ _ r0 (.inr rfl) (by omega)
      have k1 := hW'.kept _ _ r1 (.inr rfl) (by omega)
      have kg := hW'.kept _ _ hgr (.inr rfl) (by omega)
      have k2 := hW'.kept _ _ r2' (.inr rfl) (by omega)
      refine ⟨by rw [cell_of_row _ _ _ _ _ _ k0]; rfl, by rw [cell_of_row _ _ _ _ _ _ k1]; rfl, by rw [cell_of_row _ _ _ _ _ _ hW'.box]; rfl, by rw [cell_of_row _ _ _ _ _ _ kg]; exact hgc, ?_⟩
      have hcv := run_convert_bytes_back (P := Tryz.prog) W' 147 9 5 ⟨s + 2, x.1 * 16, none⟩ 16 (pieceR data blocks.length x.1) Tryz.underlying147 Tryz.underlying5 Tryz.underlying9 (fun j hj => by
        rw [Addr.add_mid, cell_of_row _ _ _ _ _ _ k2]
        have h1 : (pieceR data blocks.length x.1)[j]? = some (pieceR data blocks.length x.1)[j] := List.getElem?_eq_getElem hj
        rw [piece_at (by omega)] at h1
        simp only [List.getElem?_toArray, bc, List.getElem?_map]
        rw [h1]; rfl)
      rw [hp16] at hcv
      rw [hps]; exact hcv
    have HS6 : Hid (∀ W', W' = W.drew → (W'.cell? ⟨s, 0, none⟩ = some (.pointer (some ⟨bb + 1, 0, none⟩)) ∧ W'.cell? ⟨s + 1, 0, none⟩ = some (.slice (some ⟨g, off, none⟩) m vc) ∧ W'.cell? ⟨s + 3, 0, none⟩ = some (.int .i64 (i : Int)) ∧ W'.cell? ⟨g, off + i, none⟩ = some (.int .i64 (k : Int)) ∧ (convert 147 9 (.slice (some ⟨s + 2, x.1 * 16, none⟩) 16 16)).run Tryz.prog W' = .ok (.string ps) W')) := fun W' e => by
      rw [e]
      exact HSW.out _ _ (WrI.own (fun (_ : Unit) => wtP blocks data pre) (fun _ => i) () W W.drew none hI ⟨rfl, rfl, rfl, Nat.le_refl _, fun _ _ _ => rfl⟩ (fun r e => by cases e))
    have HWR : Hid (∀ W', W' = W.drew → Calls Tryz.prog 106 #[.pointer (some ⟨bb + 1, 0, none⟩), .int .i64 (k : Int), .string ps] W' fun e w' => e = .returned .nilIface ∧ (WrI T0 bb (s + 3) bl W0 (wtP blocks data (pre ++ [x])) i w' ∧ KeepsOthers W w') ∧ (w'.cell? ⟨s, 0, none⟩ = some (.pointer (some ⟨bb + 1, 0, none⟩)) ∧ w'.cell? ⟨s + 1, 0, none⟩ = some (.slice (some ⟨g, off, none⟩) m vc) ∧ w'.cell? ⟨s + 3, 0, none⟩ = some (.int .i64 (i : Int)) ∧ w'.cell? ⟨g, off + i, none⟩ = some (.int .i64 (k : Int)) ∧ (convert 147 9 (.slice (some ⟨s + 2, x.1 * 16, none⟩) 16 16)).run Tryz.prog w' = .ok (.string ps) w')) := fun W' e => by
      have hI' : WrI T0 bb (s + 3) bl W0 (wtP blocks data pre) i W' := by
        rw [e]
        exact WrI.own (fun (_ : Unit) => wtP blocks data pre) (fun _ => i) () W W.drew none hI ⟨rfl, rfl, rfl, Nat.le_refl _, fun _ _ _ => rfl⟩ (fun r e => by cases e)
      obtain ⟨va, vc1, D⟩ := hI'.disk
      obtain ⟨oE, hoE, hcE⟩ := HEr.out
      have hlow : 6 < s := by rw [Hs.out]; exact World.block_lt_of_cell? w _ hE
      refine (write_any (k : Int) ps er W' D (hcE W' (hI'.kept _ _ hoE (.inl hgT) (by omega))) (by rw [wtP_len, ← hi]; omega)).mono ?_
      rintro e w' (⟨_, _, rfl, va', vc', D', hb', _⟩ | ⟨hno, _⟩)
      · have e2 : wtP blocks data (pre ++ [x]) = wtP blocks data pre ++ [((k : Int).toNat, ps.data.toList)] := by
          rw [wtP_snoc, ← hi, hk, hps]; simp
        have hW2 : WrI T0 bb (s + 3) bl W0 (wtP blocks data (pre ++ [x])) i w' := hI'.write hTb D ⟨va', vc', by rw [e2]; exact D'⟩ hb'
        refine ⟨rfl, ⟨hW2, ?_⟩, HSW.out _ _ hW2⟩
        refine ⟨?_, fun q o hq ho => ?_⟩
        · have := hb'.size; rw [e] at this; exact this
        · refine Turn.of_but D hb' q o (by rw [e]; exact hq) ?_
          cases o <;> first | rfl | (simp [Obj.isCells] at ho)
      · rcases hno with hno | hno
        · rw [hasB_yes (by omega) (by omega)] at hno; cases hno
        · exfalso; apply hno; rw [hps]; show (List.toArray _).size = 16; simp [hp16]
    have Hi : Hid (i = pre.length) := hi
    have HII : Hid _ := hI
    have Hr4 : Hid _ := r4
    have Hr5 : Hid _ := r5
    clear hgc hkl hk hin hi hps hp16 hsz16 hI r0 r1 r2 r2' r3 r4 r5 hgr h0I DW hr hd
    gi_wp2
    refine region_round_held (S := fun w' => w'.cell? ⟨s, 0, none⟩ = some (.pointer (some ⟨bb + 1, 0, none⟩)) ∧ w'.cell? ⟨s + 1, 0, none⟩ = some (.slice (some ⟨g, off, none⟩) m vc) ∧ w'.cell? ⟨s + 3, 0, none⟩ = some (.int .i64 (i : Int)) ∧ w'.cell? ⟨g, off + i, none⟩ = some (.int .i64 (k : Int)) ∧ (convert 147 9 (.slice (some ⟨s + 2, x.1 * 16, none⟩) 16 16)).run Tryz.prog w' = .ok (.string ps) w') (by kernel_rfl) (by kernel_rfl) (by rintro ⟨_, _, h⟩; exact h) (HS6.out _ rfl) (fun hHeld => ?_)
    refine wpAnyH_take (i := 0) (v := (.pointer (some ⟨bb + 1, 0, none⟩))) rfl (by kernel_rfl) (by kernel_rfl) (by kernel_rfl) (fun _ _ _ h => h) (Or.inl ⟨by rfl, ?_⟩) hHeld ?_
    · intro w hSw; (try dsimp only at hSw); simp only [List.getElem_toArray, List.getElem_cons_zero]; go_simp
    simp only [List.getElem_toArray, List.getElem_cons_zero, Act.put, List.setIfInBounds_toArray, List.set_cons_zero, List.set_cons_succ]
    refine wpAnyH_take (i := 1) (v := (.slice (some ⟨g, off, none⟩) m vc)) rfl (by kernel_rfl) (by kernel_rfl) (by kernel_rfl) (fun _ _ _ h => h) (Or.inl ⟨by rfl, ?_⟩) hHeld ?_
    · intro w hSw; (try dsimp only at hSw); simp only [List.getElem_toArray, List.getElem_cons_zero, List.getElem_cons_succ]; go_simp
    simp only [List.getElem_toArray, List.getElem_cons_zero, List.getElem_cons_succ, Act.put, List.setIfInBounds_toArray, List.set_cons_zero, List.set_cons_succ]
    refine wpAnyH_take (i := 2) (v := (.int .i64 (i : Int))) rfl (by kernel_rfl) (by kernel_rfl) (by kernel_rfl) (fun _ _ _ h => h) (Or.inl ⟨by rfl, ?_⟩) hHeld ?_
    · intro w hSw; (try dsimp only at hSw); simp only [List.getElem_toArray, List.getElem_cons_zero, List.getElem_cons_succ]; go_simp
    simp only [List.getElem_toArray, List.getElem_cons_zero, List.getElem_cons_succ, Act.put, List.setIfInBounds_toArray, List.set_cons_zero, List.set_cons_succ]
    refine wpAnyH_take (i := 3) (v := (.pointer (some ⟨g, off + i, none⟩))) rfl (by kernel_rfl) (by kernel_rfl) (by kernel_rfl) (fun _ _ _ h => h) (Or.inl ⟨by rfl, ?_⟩) hHeld ?_
    · intro w hSw; (try dsimp only at hSw); simp only [List.getElem_toArray, List.getElem_cons_zero, List.getElem_cons_succ]; go_simp
    simp only [List.getElem_toArray, List.getElem_cons_zero, List.getElem_cons_succ, Act.put, List.setIfInBounds_toArray, List.set_cons_zero, List.set_cons_succ]
    refine wpAnyH_take (i := 4) (v := (.int .i64 (k : Int))) rfl (by kernel_rfl) (by kernel_rfl) (by kernel_rfl) (fun _ _ _ h => h) (Or.inl ⟨by rfl, ?_⟩) hHeld ?_
    · intro w hSw; (try dsimp only at hSw); simp only [List.getElem_toArray, List.getElem_cons_zero, List.getElem_cons_succ]; go_simp
    simp only [List.getElem_toArray, List.getElem_cons_zero, List.getElem_cons_succ, Act.put, List.setIfInBounds_toArray, List.set_cons_zero, List.set_cons_succ]
    refine wpAnyH_take (i := 5) (v := (.slice (some ⟨s + 2, x.1 * 16, none⟩) 16 16)) rfl (by kernel_rfl) (by kernel_rfl) (by kernel_rfl) (fun _ _ _ h => h) (Or.inl ⟨by rfl, ?_⟩) hHeld ?_
    · intro w hSw; (try dsimp only at hSw); simp only [List.getElem_toArray, List.getElem_cons_zero, List.getElem_cons_succ]; go_simp
    simp only [List.getElem_toArray, List.getElem_cons_zero, List.getElem_cons_succ, Act.put, List.setIfInBounds_toArray, List.set_cons_zero, List.set_cons_succ]
    refine wpAnyH_take (i := 6) (v := (.string ps)) rfl (by kernel_rfl) (by kernel_rfl) (by kernel_rfl) (fun _ _ _ h => h) (Or.inl ⟨by rfl, ?_⟩) hHeld ?_
    · intro w hSw; (try dsimp only at hSw); simp only [List.getElem_toArray, List.getElem_cons_zero, List.getElem_cons_succ]; go_simp
    simp only [List.getElem_toArray, List.getElem_cons_zero, List.getElem_cons_succ, Act.put, List.setIfInBounds_toArray, List.set_cons_zero, List.set_cons_succ]
    refine wpAnyH_ready (rs := [7]) (by kernel_rfl) (by simp) ?_
    refine AllReadyH.cons rfl (fun K' hK => ?_) AllReadyH.nil
    simp only [List.getElem_toArray, List.getElem_cons_zero, List.getElem_cons_succ]
    go_simp
    refine Calls.mono (HWR.out _ rfl) ?_
    rintro e wx ⟨rfl, h1, h2⟩
    have HI1 : Hid _ := h1
    clear h1
    go_wp2_with fail
    refine hK.out _ _ (h2) (fun hHeld' => ?_)
    clear hK K' hHeld
    have hHeld := hHeld'
    clear hHeld'
    refine wpAnyH_done (by kernel_rfl) ?_ _
    obtain ⟨hI1, hK1⟩ := HI1.out
    have c3 : wx.cell? ⟨s + 3, 0, none⟩ = some (.int .i64 (i : Int)) := by rw [cell_of_row _ _ _ _ _ _ hI1.box]; rfl
    have f3 : wx.frozen? ⟨s + 3, 0, none⟩ = false := by simp [World.frozen?, hI1.box]
    clear hI1 hK1
    gi_wp2
    have hI2 := HI1.out.1.next
    refine ⟨((HI1.out.2.trans (KeepsOthers.setCell _ _ _)).from _), ⟨?_, ?_⟩, ?_⟩
    · rw [HII.out.kept _ _ Hr4.out (.inr rfl) (by omega)]; exact hI2.kept _ _ Hr4.out (.inr rfl) (by omega)
    · rw [HII.out.kept _ _ Hr5.out (.inr rfl) (by omega)]; exact hI2.kept _ _ Hr5.out (.inr rfl) (by omega)
    · show WrI T0 bb (s + 3) bl W0 (wtP blocks data (pre ++ [x])) (pre ++ [x]).length _
      rw [List.length_append, List.length_singleton, ← Hi.out]; exact hI2
  case done =>
    rintro Dd ys W hD rfl hI hK
    rw [wtP_fr blocks data (Nat.le_refl _), fr_len (Nat.le_refl _)] at hI
    obtain ⟨va, vcd, D⟩ := hI.disk
    have hwl : (wtR blocks data m).length = m := by simp [wtR]
    have HBR := barrier_any W D (by omega)
    rw [hwl] at HBR
    have c0 : W.cell? ⟨s, 0, none⟩ = some (.pointer (some ⟨bb + 1, 0, none⟩)) := by rw [cell_of_row _ _ _ _ _ _ (hI.kept _ _ r0 (.inr rfl) (by omega))]; rfl
    have HEND : Hid (∀ w2, DkAt w2 bb none 0 (setl (fun _ => true) (wtR blocks data m) bl m) [] → DkBut bb va W w2 → ∀ o', (w2.heap[Dd]? = some (.deferred (some []))) ∧ TbAt (w2.putObj Dd o') F T0 tb bb sp sb cap mb n (setl (fun _ => true) (wtR blocks data m) bl m) u tab ∧ TbBut T0 mb w (w2.putObj Dd o') ∧ Turn dkTy w (w2.putObj Dd o')) := fun w2 D2 hb2 o' => by
      have hs := Hs.out
      have ht2 := Turn.of_but D hb2
      have hkD := ht2 _ _ hK rfl
      have key : ∀ (k : Nat) (o : Obj), w.heap[k]? = some o → (k < T0 ∨ dkTy o = false) → (w2.putObj Dd o').heap[k]? = some o := fun k o hk hp => by
        have hkl := (Array.getElem?_eq_some_iff.1 hk).1
        rw [World.putObj_heap_other (by omega)]
        have hW := hI.kept k o ((HB0.out.block k hkl).trans hk) hp (by omega)
        rcases hp with hp | hp
        · rw [hb2.block k (Array.getElem?_eq_some_iff.1 hW).1 (by omega) (by omega) (fun a ha => by have := (D.low a ha).1; omega)]; exact hW
        · exact ht2 k o hW hp
      have ht : Turn dkTy w (w2.putObj Dd o') := fun k o hk hp => key k o hk (.inr hp)
      have hgp := grownBy_putObj' w2 Dd o'
      obtain ⟨f, N⟩ := HT.out.nodes
      obtain ⟨l1, l2, l3, l4, l5⟩ := HT.out.low
      refine ⟨hkD, ⟨ht _ _ HT.out.box rfl, D2.ext fun k hk => ?_, HT.out.space.turn ht (fun _ _ => rfl) (fun _ _ => rfl), ⟨f, N.turn ht (fun _ _ => rfl) (fun _ _ => rfl) (fun _ _ => rfl)⟩, l1, l2, l3, by rw [setl_len]; exact l4, l5⟩, ?_⟩
      · rcases hk with rfl | rfl | ⟨a, ha, rfl⟩
        · exact World.putObj_heap_other (by omega)
        · exact World.putObj_heap_other (by omega)
        · cases ha
      · refine ⟨?_, ht⟩
        exact ⟨hgp.os.trans (hb2.os.trans (hI.os.trans HB0.out.os)), hgp.tape.trans (hb2.tape.trans (hI.tape.trans HB0.out.tape)), hgp.output.trans (hb2.output.trans (hI.output.trans HB0.out.output)), Nat.le_trans HB0.out.size (Nat.le_trans hI.size (Nat.le_trans hb2.size hgp.size)), fun k o hk hp => key k o hk (hp.imp id (fun h => by unfold tbTy at h; simp only [Bool.or_eq_false_iff] at h; exact h.1.1.1)), fun k o hk hp _ => ht k o hk (by cases o <;> first | rfl | (cases hp))⟩
    clear hI D hK r0 r1 r2 r2' r3 r4 r5 h0I DW hin
    gi_wp2_with (refine ⟨trivial, ?_⟩; gi_at_call 107; refine (callsIn_wide.2 HBR).mono ?_; rintro e w2 ⟨rfl, D2, hb2⟩)
    have hE2 := HEND.out w2 D2 hb2 (.deferred none)
    refine ⟨by simp, .inl ⟨_, _, rfl, run_takeDeferred hE2.1, ?_⟩⟩
    exact ⟨_, results_none rfl _ _ _, rfl, hE2.2⟩
  case stop =>
    rintro Dd c pre W hD _ h _
    exact h.elim
theorem im_write0 (v : Value) (blocks : List Nat) (data : ByteArray) (er : Value) (w : World) (T : TbAt w F T0 tb bb sp sb cap mb n bl u tab) (hv : IntsT w v (ints blocks)) (hin : ∀ k ∈ blocks, k < bl.length) (hbl : blocks.length ≤ 1000) (hd : data.size ≤ blocks.length * 16) (hE : w.cell? ⟨6, 0, none⟩ = some er) (hgT : 6 < T0) :
    Calls Tryz.prog 90 #[.pointer (some ⟨bb + 1, 0, none⟩), v, .string data] w fun e w' => e = .returned (.tuple #[]) ∧ TbAt w' F T0 tb bb sp sb cap mb n (setl (fun _ => true) (wtR blocks data blocks.length) bl blocks.length) u tab ∧ TbBut T0 mb w w' :=
  (im_lay v blocks data er w T hv hin hbl hd hE hgT).mono fun _ _ h => ⟨h.1, h.2.1, h.2.2.1⟩
end
end Go.Proofs.YteefneelcgeioaaGreatDoor
