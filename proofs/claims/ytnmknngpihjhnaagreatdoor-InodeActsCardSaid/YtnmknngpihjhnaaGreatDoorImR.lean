/-
  The contract of package inode's read.
  Conditions: the table lies in memory; the blocks are the disk's.
-/
import Derived.Test.YtnmknngpihjhnaaGreatDoorImN
import Derived.Test.YtnmknngpihjhnaaGreatDoorBuildS
import Derived.Deep.RegionHeld3
namespace Go.Proofs.YtnmknngpihjhnaaGreatDoor
open Go.RowKit Go.Maps

/-- What stands in blocks. -/
def catR (bl : List (List UInt8)) (blocks : List Nat) : List UInt8 := blocks.flatMap fun k => bl[k]?.getD []
def readD (bl : List (List UInt8)) (blocks : List Nat) (bytes : Nat) : ByteArray := ⟨((catR bl blocks).take bytes).toArray⟩
theorem catR_next {bl : List (List UInt8)} {blocks : List Nat} {j k : Nat} {b : List UInt8} (hj : blocks[j]? = some k) (hb : bl[k]? = some b) : catR bl (blocks.take (j + 1)) = catR bl (blocks.take j) ++ b := by
  obtain ⟨h, e⟩ := List.getElem?_eq_some_iff.1 hj
  unfold catR
  rw [List.take_succ_eq_append_getElem h, List.flatMap_append, e]
  simp [hb]
theorem isB_ext {T e : TypeId} {B b : Nat} {l : List Value} {w w' : World} (h : Lib.IsBuilderF T e B b l w) (hb : ∀ k, k < w.heap.size → w'.heap[k]? = w.heap[k]?) : Lib.IsBuilderF T e B b l w' := by
  have one : ∀ p, Lib.BuilderAtF T e B b p l w → Lib.BuilderAtF T e B b p l w' := fun p h => by
    obtain ⟨hB, v, hbk, ⟨h1, h2⟩, hne⟩ := h
    refine ⟨hB, v, by rw [hb b ((Array.getElem?_eq_some_iff.1 hbk).1)]; exact hbk, ⟨h1, ?_⟩, hne⟩
    rcases h2 with h2 | ⟨g, cap, cur, fz, hv, hg, hh, r⟩
    · exact .inl h2
    · exact .inr ⟨g, cap, cur, fz, hv, hg, by rw [hb g ((Array.getElem?_eq_some_iff.1 hh).1)]; exact hh, r⟩
  rcases h with h | h
  · exact .inl (one _ h)
  · exact .inr (one _ h)
theorem cells_more (l : List UInt8) (s : ByteArray) : Lib.byteCells l ++ Lib.strCells s = Lib.byteCells (l ++ s.data.toList) := by simp [Lib.byteCells, Lib.strCells]
theorem take_more (l b : List UInt8) (n : Nat) (hb : b.length = 16) : (l ++ b).take n = l.take n ++ b.take (min 16 (n - (l.take n).length)) := by
  rw [List.take_append, List.length_take]
  congr 1
  by_cases h2 : n - l.length ≤ 16
  · have e : min 16 (n - min n l.length) = n - l.length := by omega
    rw [e]
  · have e : min 16 (n - min n l.length) = 16 := by omega
    rw [e, List.take_of_length_le (by omega), List.take_of_length_le (by omega)]
section
variable {F : Nat → Prop} {T0 tb bb sp sb cap mb n : Nat} {bl : List (List UInt8)} {u : List Bool} {tab : List (Option Ino)}
set_option maxRecDepth 100000 in
set_option maxHeartbeats 1000000 in
theorem im_read0 (v : Value) (blocks : List Nat) (bytes : Nat) (w : World) (T : TbAt w F T0 tb bb sp sb cap mb n bl u tab) (hv : IntsT w v (ints blocks)) (hin : ∀ k ∈ blocks, k < bl.length) (hbl : blocks.length ≤ 1000) (hby : bytes ≤ 1000000) :
    Calls Tryz.prog 30 #[.pointer (some ⟨tb, 0, none⟩), v, .int .i64 (bytes : Int)] w fun e w' => e = .returned (.string (readD bl blocks bytes)) ∧ Below w.heap.size w w' := by
  obtain ⟨ad, vc, rfl, hcs⟩ := hv.at
  rw [ints_len]
  have HT : Hid (TbAt w F T0 tb bb sp sb cap mb n bl u tab) := T
  have HIN : Hid (∀ k ∈ blocks, k < bl.length) := hin
  have htl : tb < w.heap.size := (Array.getElem?_eq_some_iff.1 T.box).1
  have HC : Hid (∀ (j k : Nat), blocks[j]? = some k → ∃ g off, ad = some ⟨g, off, none⟩ ∧ ∀ w', Below w.heap.size w w' → w'.cell? ⟨g, off + j, none⟩ = some (.int .i64 (k : Int))) := fun j k hj => by
    obtain ⟨g, off, e, hc⟩ := hcs j k (by simp [ints, hj])
    refine ⟨g, off, e, fun w' hb => ?_⟩
    have hg : g < w.heap.size := by
      cases ho : w.heap[g]? with
      | none => simp [World.cell?, ho] at hc
      | some o => exact (Array.getElem?_eq_some_iff.1 ho).1
    rw [hb.cell (p := ⟨g, off + j, none⟩) hg]; exact hc
  clear hcs hv T hin
  go_enter Tryz.func30, Tryz.ntmps30
  go_wp2_with fail
  go_loopw [14] (fun i wr => ∃ j : Nat, j ≤ blocks.length ∧ i = .int .i64 j ∧ Lib.IsBuilderF 114 5 w.heap.size w.heap.size (Lib.byteCells ((catR bl (blocks.take j)).take bytes)) wr ∧ Below w.heap.size w wr) (fun i _ => blocks.length - (intOf i).toNat)
  case atStart => exact ⟨0, Nat.zero_le _, rfl, by
    have e0 : (catR bl (blocks.take 0)).take bytes = [] := by simp [catR]
    rw [e0]; exact .inl ⟨Nat.le_refl _, .slice none 0 0, heap_alloc_last w _, ⟨rfl, .inl ⟨rfl, rfl⟩⟩, by simp [Value.ownBlock]⟩, (Below.refl _ w).alloc (Nat.le_refl _) _⟩
  case round =>
    obtain ⟨j, hj, rfl, hB, hb⟩ := hrel
    have HB : Hid _ := hB
    have HW : Hid (Below w.heap.size w wr) := hb
    by_cases hlt : j < blocks.length
    · obtain ⟨k, hk⟩ : ∃ k, blocks[j]? = some k := ⟨_, List.getElem?_eq_getElem hlt⟩
      obtain ⟨g, off, rfl, hc⟩ := HC.out j k hk
      have c1 := hc wr hb
      obtain ⟨b, hbk⟩ : ∃ b, bl[k]? = some b := ⟨_, List.getElem?_eq_getElem (HIN.out k (List.mem_of_getElem? hk))⟩
      have Tr := HT.out.below hb
      have hb16 : b.length = 16 := Tr.disk.bl16 b (List.mem_of_getElem? hbk)
      have HRD := read_any k b wr Tr.disk hbk (by simp)
      have erd : rdR bl [] k = b := by simp [rdR, hbk]
      rw [erd] at HRD
      obtain ⟨c0, _, _⟩ := Tr.cells
      obtain ⟨L, hL⟩ : ∃ L, L = (catR bl (blocks.take j)).take bytes := ⟨_, rfl⟩
      have hLl : L.length ≤ bytes := by rw [hL, List.length_take]; omega
      have HN : Hid ((catR bl (blocks.take (j + 1))).take bytes = L ++ b.take (min 16 (bytes - L.length))) := by
        show _ = _
        rw [catR_next hk hbk, take_more _ _ _ hb16, ← hL]
      rw [← hL] at HB
      have HLEN : Hid (∀ W, Below wr.heap.size wr W → Calls Tryz.prog 52 #[.pointer (some ⟨w.heap.size, 0, none⟩)] W fun e w' => e = .returned (.int .i64 (L.length : Int)) ∧ w' = W) := fun W hW => by
        have := blen_any w.heap.size w.heap.size (Lib.byteCells L) W (isB_ext HB.out (fun k hk => hW.block k hk))
        simpa [Lib.byteCells] using this
      clear hB hb hc hk hbk Tr erd hL
      go_wp2_with (first
        | (go_at_call 50; refine HRD.mono ?_; rintro e w1 ⟨rfl, h1⟩)
        | (go_at_call 52; refine (HLEN.out w1 h1).mono ?_; rintro e w2 ⟨rfl, hw⟩; rw [hw]; clear hw))
      have HI1 : Hid (Lib.IsBuilderF 114 5 w.heap.size w.heap.size (Lib.byteCells L) w1) := isB_ext HB.out (fun k hk => h1.block k hk)
      have HW1 : Hid (Below w.heap.size w w1) := HW.out.trans (h1.mono HW.out.size)
      have hLc : (Lib.byteCells L).length = L.length := by simp [Lib.byteCells]
      have hs16 : (ByteArray.extract { data := b.toArray } 0 (min 16 ((bytes : Int) - (L.length : Int))).toNat).data.toList = b.take (min 16 (bytes - L.length)) := by
        have e : (min 16 ((bytes : Int) - (L.length : Int))).toNat = min 16 (bytes - L.length) := by omega
        rw [e]
        simp [ByteArray.data_extract]
      have hsz : (ByteArray.extract { data := b.toArray } 0 (min 16 ((bytes : Int) - (L.length : Int))).toNat).size ≤ 16 := by
        have := congrArg List.length hs16
        rw [List.length_take] at this
        have e2 : ∀ a : ByteArray, a.size = a.data.toList.length := fun a => Array.length_toList.symm
        rw [e2]; omega
      refine Calls.mono (writeString_any w.heap.size w.heap.size _ _ w1 HI1.out (by rw [hLc]; omega) HW1.out.size) ?_
      rintro e w3 ⟨rfl, hB3, hW3, _⟩
      rw [cells_more, hs16, ← HN.out] at hB3
      have HB3 : Hid _ := hB3
      have HW3 : Hid (Below w.heap.size w w3) := HW1.out.trans hW3
      clear hB3 hW3 hs16 hsz h1 hLc
      go_wp2_with fail
      exact ⟨⟨j + 1, by omega, by simp, .inr HB3.out, HW3.out⟩, by simp [intOf]; omega⟩
    · obtain rfl : j = blocks.length := by omega
      have HS := string_any w.heap.size w.heap.size _ wr hB hb.size
      rw [List.take_length] at HS
      clear hB
      go_wp2_with (go_at_call 53; refine HS.mono ?_; rintro e w1 ⟨rfl, _, h1, _⟩)
      go_ret
      exact ⟨rfl, HW.out.trans h1⟩
end
end Go.Proofs.YtnmknngpihjhnaaGreatDoor
