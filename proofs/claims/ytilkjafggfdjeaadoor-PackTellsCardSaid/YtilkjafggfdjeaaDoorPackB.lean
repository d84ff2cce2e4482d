/-
  The contract of package pack's reader: bytes.
  Conditions: the sentinels hold what the program's text lays; the reader lies in a block of its own, behind them.
-/
import Derived.Test.YtilkjafggfdjeaaDoorPackN
namespace Go.Proofs.YtilkjafggfdjeaaDoor
open Go.RowKit

theorem extract_drop (s : ByteArray) (k : Nat) : s.extract k s.size = bs (s.data.toList.drop k) := by
  obtain ⟨⟨l⟩⟩ := s
  have h := ByteArray.extract_mk l k l.length
  have hl : (ByteArray.mk l.toArray).size = l.length := rfl
  show (ByteArray.mk l.toArray).extract k (ByteArray.mk l.toArray).size = bs (l.drop k)
  rw [hl, h, List.take_of_length_le (by rw [List.length_drop]; exact Nat.le_refl _)]
  rfl
theorem extract_take (s : ByteArray) (k : Nat) : s.extract 0 k = bs (s.data.toList.take k) := by
  obtain ⟨⟨l⟩⟩ := s
  have h := ByteArray.extract_mk l 0 k
  show (ByteArray.mk l.toArray).extract 0 k = bs (l.take k)
  rw [h]
  rfl
theorem numR_len {l r : List UInt8} {c : Nat} (h : numR l = some (c, r)) : r.length ≤ l.length ∧ c < 1000000 := by
  unfold numR at h
  split at h
  · rename_i hok
    split at h
    · cases h
    · rename_i x r' e
      split at h
      · injection h with h
        injection h with h1 h2
        subst h2
        have e2 := congrArg List.length e
        simp only [List.length_drop, List.length_cons] at e2
        refine ⟨by omega, ?_⟩
        unfold numOk at hok
        simp only [Bool.and_eq_true, decide_eq_true_eq] at hok
        have h6 := hok.1.2
        have hall : (l.takeWhile digit).all digit = true := List.all_takeWhile
        have hv := valOf_lt (l.takeWhile digit).length (bs (l.takeWhile digit)) (Nat.le_refl _) (by rw [bs_list, List.take_length]; exact hall)
        rw [bs_list, List.take_length, h1] at hv
        exact Nat.lt_of_lt_of_le hv (Nat.pow_le_pow_right (by omega) h6 : 10 ^ _ ≤ 10 ^ 6)
      · cases h
  · cases h

theorem bytesR_cut {l r : List UInt8} {c : Nat} (h : numR l = some (c, r)) (hlt : r.length < c) : bytesR l = none := by
  unfold bytesR
  rw [h]
  simp only [if_pos hlt]
theorem bytesR_is {l r : List UInt8} {c : Nat} (h : numR l = some (c, r)) (hlt : ¬ r.length < c) : bytesR l = some (r.take c, r.drop c) := by
  unfold bytesR
  rw [h]
  simp only [if_neg hlt]
/-- What bytes hands back. -/
def BytPost (a : Nat → Addr) (rb n : Nat) (s : ByteArray) (w : World) (e : Ending) (w' : World) : Prop := ∃ s', Rd rb s' n w' ∧ Kept (fun k => k = rb) w w' ∧
  ((bytesR s.data.toList = none ∧ e = .returned (.tuple #[.string { data := #[] }, errV a (some 0)])) ∨ ∃ (d r : List UInt8), bytesR s.data.toList = some (d, r) ∧ e = .returned (.tuple #[.string (bs d), .nilIface]) ∧ s' = bs r)
theorem BytPost.no {a : Nat → Addr} {rb n : Nat} {s s' : ByteArray} {w w' : World} (h : bytesR s.data.toList = none) (hr : Rd rb s' n w') (hk : Kept (fun k => k = rb) w w') : BytPost a rb n s w (.returned (.tuple #[.string { data := #[] }, errV a (some 0)])) w' :=
  ⟨s', hr, hk, .inl ⟨h, rfl⟩⟩
theorem BytPost.yes {a : Nat → Addr} {rb n : Nat} {s d' s' : ByteArray} {d r : List UInt8} {w w' : World} (h : bytesR s.data.toList = some (d, r)) (hd : d' = bs d) (hs : s' = bs r) (hr : Rd rb s' n w') (hk : Kept (fun k => k = rb) w w') : BytPost a rb n s w (.returned (.tuple #[.string d', .nilIface])) w' :=
  ⟨s', hr, hk, .inr ⟨d, r, h, by rw [hd], hs⟩⟩
theorem SentsB.kept {a : Nat → Addr} {B rb : Nat} {w w' : World} (S : SentsB a B w) (hk : Kept (fun k => k = rb) w w') (hB : B ≤ rb) (hw : B ≤ w.heap.size) : SentsB a B w' :=
  S.below (hk.below (B := B) (fun k e => by omega) hw) (Nat.le_refl _)
theorem Rd.cell {rb n : Nat} {s : ByteArray} {w : World} (R : Rd rb s n w) : w.cell? ⟨rb, 0, none⟩ = some (.string s) := by rw [cell_of_row w _ _ _ _ _ R]; rfl
theorem Rd.cell1 {rb n : Nat} {s : ByteArray} {w : World} (R : Rd rb s n w) : w.cell? ⟨rb, 1, none⟩ = some (.int .i64 (n : Int)) := by rw [cell_of_row w _ _ _ _ _ R]; rfl
theorem Rd.free {rb n : Nat} {s : ByteArray} {w : World} (R : Rd rb s n w) (i : Nat) : w.frozen? ⟨rb, i, none⟩ = false := by simp [World.frozen?, show w.heap[rb]? = _ from R]
theorem Rd.set {rb n : Nat} {s : ByteArray} {w : World} (R : Rd rb s n w) (s' : ByteArray) : Rd rb s' n (w.setCell ⟨rb, 0, none⟩ (.string s')) := two_setCell R

set_option maxRecDepth 100000 in
set_option maxHeartbeats 2000000 in
theorem bytes_any (a : Nat → Addr) (B rb n : Nat) (s : ByteArray) (w : World) (S : SentsB a B w) (hB : B ≤ rb) (R : Rd rb s n w) (hs : s.size ≤ maxLen) :
    Calls Tryd.prog 86 #[.pointer (some ⟨rb, 0, none⟩)] w (BytPost a rb n s w) := by
  unfold maxLen at hs
  have hrb := lt_of_row R
  have HC : Hid _ := number_any a rb n s w S.is R hs
  have HS : Hid (SentsB a B w) := S
  clear S R
  go_enter Tryd.func86, Tryd.ntmps86
  go_wp2_with fail
  refine Calls.mono HC.out ?_
  rintro e w1 ⟨s1, R1, K1, ⟨hn, rfl⟩ | ⟨c, r, hn, rfl, rfl⟩⟩
  · have HN : Hid (bytesR s.data.toList = none) := by unfold bytesR; rw [hn]; exact rfl
    have HR : Hid _ := R1
    have HK : Hid _ := K1
    clear R1 K1 hn HC
    unfold errV
    go_wp2_with fail
    go_ret2
    exact BytPost.no HN.out HR.out HK.out
  · have hlen := numR_len hn
    have hcell := R1.cell
    have hfree := R1.free 0
    have c0 := (HS.out.kept K1 hB (by omega)).is.text
    have hsz : (bs r).size = r.length := rfl
    have hl : s.data.toList.length = s.size := by simp
    have HR : Hid (Rd rb (bs r) n w1) := R1
    have HK : Hid _ := K1
    have HN : Hid _ := hn
    clear R1 K1 hn HC
    by_cases hlt : r.length < c
    · have HB : Hid (bytesR s.data.toList = none) := bytesR_cut HN.out hlt
      have h1 : ((bs r).size : Int) < (c : Int) := by omega
      go_wp2_with fail
      go_quiet (fail)
      go_wp2_with fail
      go_ret2
      exact BytPost.no HB.out (HR.out.drewN _) HK.out.drewN
    · have HB : Hid (bytesR s.data.toList = some (r.take c, r.drop c)) := bytesR_is HN.out hlt
      have h1 : (c : Int) ≤ ((bs r).size : Int) := by omega
      have h2 : c ≤ (bs r).size := by omega
      have HE : Hid _ := extract_drop (bs r) c
      have HE2 : Hid _ := extract_take (bs r) c
      go_wp2_with fail
      go_ret2
      exact BytPost.yes HB.out HE2.out HE.out (HR.out.set _) (HK.out.setCell (p := ⟨rb, 0, none⟩) rfl _)
end Go.Proofs.YtilkjafggfdjeaaDoor
