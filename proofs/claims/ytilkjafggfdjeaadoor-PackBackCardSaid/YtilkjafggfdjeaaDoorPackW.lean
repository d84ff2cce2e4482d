/-
  The contracts of package pack's writers: letter, writeNumber, writeBytes, writeNode.
  Conditions: the builder lies in a block of its own from B on, the tree below B; the library's table of powers of ten holds what its text lays; the text stays below 2 to the 47 bytes.
-/
import Derived.Test.YtilkjafggfdjeaaDoorPacks
import Derived.Test.YtilkjafggfdjeaaDoorBuilder
import Derived.Test.YtilkjafggfdjeaaDoorShelf
import Derived.Test.YtilkjafggfdjeaaDoorOwn
import Derived.Lib.AppendIntMem
namespace Go.Proofs.YtilkjafggfdjeaaDoor
open Go.RowKit
attribute [local go_sem ↓] Go.wp_at_zero Go.wp_at_succ

def powTab : List Int := Lib.pow10Tab
/-- The library's table reads as its text lays it, whatever is done from block B on. -/
def Tab (B : Nat) (w : World) : Prop := Lib.TabBelow Tryd.prog B w "internal/strconv.uint64pow10" .u64 Lib.pow10Tab
/-- A builder that holds these bytes; what else there is stands. -/
structure Wr (B b : Nat) (l : List UInt8) (w w' : World) : Prop where
  is : Lib.IsBuilderF 74 5 B b (Lib.byteCells l) w'
  below : Below B w w'
  others : Lib.OthersKept 5 (some b) w w'
theorem Wr.trans {B b : Nat} {l m : List UInt8} {w w1 w2 : World} (h : Wr B b l w w1) (h' : Wr B b m w1 w2) : Wr B b m w w2 := ⟨h'.is, h.below.trans h'.below, h.others.trans h'.others⟩
theorem isB_ext {T e : TypeId} {B b : Nat} {l : List Value} {w w' : World} (h : Lib.IsBuilderF T e B b l w) (hb : ∀ k, k < w.heap.size → w'.heap[k]? = w.heap[k]?) : Lib.IsBuilderF T e B b l w' := by
  have one : ∀ p, Lib.BuilderAtF T e B b p l w → Lib.BuilderAtF T e B b p l w' := fun p h => by
    obtain ⟨hB, v, hbk, ⟨h1, h2⟩, hne⟩ := h
    refine ⟨hB, v, by rw [hb b (lt_of_row hbk)]; exact hbk, ⟨h1, ?_⟩, hne⟩
    rcases h2 with h2 | ⟨g, cap, cur, fz, hv, hg, hh, r⟩
    · exact .inl h2
    · exact .inr ⟨g, cap, cur, fz, hv, hg, by rw [hb g (lt_of_row hh)]; exact hh, r⟩
  rcases h with h | h
  · exact .inl (one _ h)
  · exact .inr (one _ h)
theorem Wr.start {B b : Nat} {l : List UInt8} {w w' : World} (h : Lib.IsBuilderF 74 5 B b (Lib.byteCells l) w) (hb : Below w.heap.size w w') (hB : B ≤ w.heap.size) : Wr B b l w w' :=
  ⟨isB_ext h fun k hk => hb.block k hk, hb.mono hB, fun k o hk _ _ => by rw [hb.block k (lt_of_row hk)]; exact hk⟩
theorem cells_snoc (l : List UInt8) (c : UInt8) : Lib.byteCells l ++ [.int .u8 (c.toNat : Int)] = Lib.byteCells (l ++ [c]) := by simp [Lib.byteCells]
theorem cells_more (l : List UInt8) (s : ByteArray) : Lib.byteCells l ++ Lib.strCells s = Lib.byteCells (l ++ s.data.toList) := by simp [Lib.byteCells, Lib.strCells]
theorem below_grow (w : World) (k : Nat) (os : Array Obj) : Below w.heap.size w (Go.Sort.grow (w.drewN k) os) :=
  ⟨rfl, rfl, rfl, by simp [Go.Sort.grow], fun j hj => by
    show (w.heap ++ os)[j]? = _
    rw [Array.getElem?_append_left hj]⟩
theorem itoa_nat (n : Nat) : Lib.itoa (n : Int) = Lib.decDigits n := by
  unfold Lib.itoa
  rw [if_neg (by omega)]
  rfl

set_option maxHeartbeats 1000000 in
theorem letter_any (t : Tree) (ad : Option Addr) (cap : Nat) (w : World) :
    Calls Tryd.prog 64 #[.agg #[.string t.kind, .string t.data, .bool t.exec, .slice ad t.kids.length cap]] w fun e w' => e = .returned (.int .u8 ((letterOf t).toNat : Int)) ∧ Below w.heap.size w w' := by
  have HB : Hid (∀ o, Below w.heap.size w (w.alloc o)) := fun o => (Below.refl _ _).alloc (Nat.le_refl _) o
  cases hd : t.kind.toList == [100, 105, 114]
  · cases hl : t.kind.toList == [108, 105, 110, 107]
    · cases hx : t.exec
      · have HE : Hid (letterOf t = 102) := show _ = _ by unfold letterOf isDir isLink; rw [hd, hl, hx]; rfl
        go_enter Tryd.func64, Tryd.ntmps64
        go_wp2
        go_ret
        exact ⟨by rw [HE.out]; rfl, HB.out _⟩
      · have HE : Hid (letterOf t = 120) := show _ = _ by unfold letterOf isDir isLink; rw [hd, hl, hx]; rfl
        go_enter Tryd.func64, Tryd.ntmps64
        go_wp2
        go_ret
        exact ⟨by rw [HE.out]; rfl, HB.out _⟩
    · have HE : Hid (letterOf t = 108) := show _ = _ by unfold letterOf isDir isLink; rw [hd, hl]; rfl
      go_enter Tryd.func64, Tryd.ntmps64
      go_wp2
      go_ret
      exact ⟨by rw [HE.out]; rfl, HB.out _⟩
  · have HE : Hid (letterOf t = 100) := show _ = _ by unfold letterOf isDir; rw [hd]; rfl
    go_enter Tryd.func64, Tryd.ntmps64
    go_wp2
    go_ret
    exact ⟨by rw [HE.out]; rfl, HB.out _⟩

set_option maxHeartbeats 1000000 in
theorem wNum_any (B b n : Nat) (l : List UInt8) (w : World) (hI : Lib.IsBuilderF 74 5 B b (Lib.byteCells l) w) (hB : B ≤ w.heap.size) (hT : Tab B w) (hn : n ≤ 140737488355328) (hlen : l.length + (numT n).length ≤ 140737488355328) :
    Calls Tryd.prog 66 #[.pointer (some ⟨b, 0, none⟩), .int .i64 (n : Int)] w fun e w' => e = .returned (.tuple #[]) ∧ Wr B b (l ++ numT n) w w' := by
  have hl1 : (numT n).length = (Lib.decDigits n).length + 1 := by simp [numT]
  have HI : Hid _ := Tryd.strconv_Itoa (n : Int) (by omega) (by omega) w hT.here
  have HB0 : Hid (Lib.IsBuilderF 74 5 B b (Lib.byteCells l) w) := hI
  have HNT : Hid (l ++ Lib.decDigits n ++ [58] = l ++ numT n) := by simp [numT]; exact True.intro
  clear hI hT
  go_enter Tryd.func66, Tryd.ntmps66
  go_wp2_with fail
  refine Calls.mono HI.out ?_
  rintro e w1 ⟨rfl, k, os, rfl⟩
  have hb1 : Below w.heap.size w (Go.Sort.grow (w.drewN k) os) := below_grow w k os
  have W1 := Wr.start HB0.out hb1 hB
  generalize Go.Sort.grow (w.drewN k) os = w1 at *
  have HW1 : Hid _ := W1
  have hs1 := hb1.size
  have HS : Hid _ := writeString_any B b (Lib.byteCells l) ⟨(Lib.itoa (n : Int)).toArray⟩ w1 W1.is (by rw [Lib.byteCells_length, itoa_nat]; show l.length + (Lib.decDigits n).length ≤ _; omega) (by omega)
  clear W1 hb1 HI HB0
  go_wp2_with fail
  refine Calls.mono HS.out ?_
  rintro e w2 ⟨rfl, hAt, hb2, hk2⟩
  have hs2 := hb2.size
  have e2 : Lib.byteCells l ++ Lib.strCells ⟨(Lib.itoa (n : Int)).toArray⟩ = Lib.byteCells (l ++ Lib.decDigits n) := by rw [cells_more, itoa_nat]
  rw [e2] at hAt
  have HW2 : Hid (Wr B b (l ++ Lib.decDigits n) w w2) := HW1.out.trans ⟨.inr hAt, hb2, hk2⟩
  have HC : Hid _ := writeByte_any B b (Lib.byteCells (l ++ Lib.decDigits n)) 58 w2 (.inr hAt) (by rw [Lib.byteCells_length, List.length_append]; omega) (by omega)
  clear hAt hb2 hk2 HS HW1 e2
  go_wp2_with fail
  refine Calls.mono HC.out ?_
  rintro e w3 ⟨rfl, hAt, hb3, hk3⟩
  have e3 : Lib.byteCells (l ++ Lib.decDigits n) ++ [.int .u8 58] = Lib.byteCells (l ++ numT n) := by rw [← HNT.out]; exact cells_snoc _ 58
  rw [e3] at hAt
  have HW3 : Hid (Wr B b (l ++ numT n) w w3) := HW2.out.trans ⟨.inr hAt, hb3, hk3⟩
  clear hAt hb3 hk3 HC HW2 e3
  go_wp2_with fail
  go_end0
  exact ⟨rfl, HW3.out⟩

set_option maxHeartbeats 1000000 in
theorem wByt_any (B b : Nat) (s : ByteArray) (l : List UInt8) (w : World) (hI : Lib.IsBuilderF 74 5 B b (Lib.byteCells l) w) (hB : B ≤ w.heap.size) (hT : Tab B w) (hlen : l.length + (bytesT s).length ≤ 140737488355328) :
    Calls Tryd.prog 65 #[.pointer (some ⟨b, 0, none⟩), .string s] w fun e w' => e = .returned (.tuple #[]) ∧ Wr B b (l ++ bytesT s) w w' := by
  have hl1 : (bytesT s).length = (numT s.size).length + s.size := by simp [bytesT]
  have HN : Hid _ := wNum_any B b s.size l w hI hB hT (by omega) (by omega)
  have HBT : Hid (l ++ numT s.size ++ s.data.toList = l ++ bytesT s) := by simp [bytesT]; exact True.intro
  clear hI hT
  go_enter Tryd.func65, Tryd.ntmps65
  go_wp2_with fail
  refine Calls.mono HN.out ?_
  rintro e w1 ⟨rfl, W1⟩
  have hs1 := W1.below.size
  have HW1 : Hid _ := W1
  have HS : Hid _ := writeString_any B b (Lib.byteCells (l ++ numT s.size)) s w1 W1.is (by rw [Lib.byteCells_length, List.length_append]; omega) (by omega)
  clear W1 HN
  go_wp2_with fail
  refine Calls.mono HS.out ?_
  rintro e w2 ⟨rfl, hAt, hb2, hk2⟩
  rw [cells_more, HBT.out] at hAt
  have HW2 : Hid (Wr B b (l ++ bytesT s) w w2) := HW1.out.trans ⟨.inr hAt, hb2, hk2⟩
  clear hAt hb2 hk2 HS HW1
  go_wp2_with fail
  go_end0
  exact ⟨rfl, HW2.out⟩
end Go.Proofs.YtilkjafggfdjeaaDoor
