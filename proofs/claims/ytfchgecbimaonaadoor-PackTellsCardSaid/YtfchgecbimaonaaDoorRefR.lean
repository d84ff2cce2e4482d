/-
  The contract of the document's answer, a text that is read: headOf.
  Conditions: none beside the texts' bounds.
-/
import Derived.Test.YtfchgecbimaonaaDoorRefQ
namespace Go.Proofs.YtfchgecbimaonaaDoor
open Go.RowKit

theorem colon_no {l : List UInt8} (h : ∀ c ∈ l.take 7, c ≠ 58) : numR l = none := by
  unfold numR
  split
  · rename_i hok
    have h6 : (l.takeWhile digit).length ≤ 6 := by
      unfold numOk at hok
      simp only [Bool.and_eq_true, decide_eq_true_eq] at hok
      exact hok.1.2
    generalize (l.takeWhile digit).length = n at h6 ⊢
    split
    · rfl
    · rename_i c r e
      have hc : l[n]? = some c := by rw [← List.head?_drop, e]; rfl
      have hm : c ∈ l.take 7 := List.mem_of_getElem? (i := n) (by rw [List.getElem?_take, if_pos (by omega)]; exact hc)
      rw [if_neg (h c hm)]
  · rfl
theorem colon_split {l q r : List UInt8} (h : l = q ++ 58 :: r) (hp : ∀ c ∈ q, c ≠ 58) : numR l = if (numOk q && q.all digit) = true then some (valOf q, r) else none := by
  by_cases hall : q.all digit = true
  · have ht : l.takeWhile digit = q := by rw [h]; exact take_digits hall
    unfold numR
    rw [ht, h, List.drop_left, hall, Bool.and_true]
    rfl
  · have hf : q.all digit = false := by simpa using hall
    rw [hf, Bool.and_false, if_neg (by simp)]
    unfold numR
    split
    · generalize hn : (l.takeWhile digit).length = n
      have hlt : n < q.length := by
        rcases Nat.lt_or_ge n q.length with h' | h'
        · exact h'
        · exfalso
          apply hall
          have hpre : l.takeWhile digit <+: l := List.takeWhile_prefix _
          have e1 : l.takeWhile digit = l.take n := by rw [← hn]; exact List.prefix_iff_eq_take.1 hpre
          have e2 : q = (l.takeWhile digit).take q.length := by rw [e1, List.take_take, Nat.min_eq_left h', h, List.take_left]
          rw [e2, List.all_eq_true]
          intro x hx
          exact List.all_eq_true.1 List.all_takeWhile x (List.mem_of_mem_take hx)
      split
      · rfl
      · rename_i c r' e
        have hc : l[n]? = some c := by rw [← List.head?_drop, e]; rfl
        rw [h, List.getElem?_append_left hlt] at hc
        rw [if_neg (hp c (List.mem_of_getElem? hc))]
    · rfl

/-- What headOf hands back. -/
def HeadPost (s : ByteArray) (o : Nat) (w : World) (e : Ending) (w' : World) : Prop := w' = w ∧
  ((numR (s.data.toList.drop o) = none ∧ ∃ p : Int, e = .returned (.tuple #[.int .i64 (-1), .int .i64 p])) ∨ ∃ (c p : Nat), numR (s.data.toList.drop o) = some (c, s.data.toList.drop p) ∧ o ≤ p ∧ p ≤ s.size ∧ e = .returned (.tuple #[.int .i64 (c : Int), .int .i64 (p : Int)]))
theorem HeadPost.no {s : ByteArray} {o : Nat} {w : World} {p : Int} (h : numR (s.data.toList.drop o) = none) : HeadPost s o w (.returned (.tuple #[.int .i64 (-1), .int .i64 p])) w := ⟨rfl, .inl ⟨h, p, rfl⟩⟩
theorem head_num {s : ByteArray} {o i : Nat} {w : World} (hk : o + i < s.size) (hp : ∀ c ∈ (s.data.toList.drop o).take i, c ≠ 58) (h58 : s[o + i] = 58) :
    HeadPost s o w (.returned (.tuple #[.int .i64 (numV ((s.extract o (o + i)).data.toList)), .int .i64 (((o + i + 1 : Nat)) : Int)])) w := by
  have hl : s.data.toList.length = s.size := by simp
  have ex : (s.extract o (o + i)).data.toList = (s.data.toList.drop o).take i := by
    obtain ⟨⟨l⟩⟩ := s
    have h := ByteArray.extract_mk l o (o + i)
    show ((ByteArray.mk l.toArray).extract o (o + i)).data.toList = (l.drop o).take i
    rw [h, Nat.add_sub_cancel_left]
  have e1 : s.data.toList.drop o = (s.data.toList.drop o).take i ++ 58 :: s.data.toList.drop (o + i + 1) := by
    have e2 : (s.data.toList.drop o).drop i = 58 :: s.data.toList.drop (o + i + 1) := by
      rw [List.drop_drop, List.drop_eq_getElem_cons (by omega)]
      congr 1
    rw [← e2, List.take_append_drop]
  have hs := colon_split e1 hp
  rw [ex]
  refine ⟨rfl, ?_⟩
  by_cases hok : (numOk ((s.data.toList.drop o).take i) && ((s.data.toList.drop o).take i).all digit) = true
  · rw [if_pos hok] at hs
    refine .inr ⟨_, o + i + 1, hs, by omega, by omega, ?_⟩
    unfold numV
    rw [if_pos hok]
  · rw [if_neg hok] at hs
    refine .inl ⟨hs, ((o + i + 1 : Nat) : Int), ?_⟩
    unfold numV
    rw [if_neg hok]

set_option maxRecDepth 100000 in
set_option maxHeartbeats 2000000 in
theorem headOf_any (s : ByteArray) (o : Nat) (w : World) (hs : s.size ≤ 1000000) (ho : o ≤ s.size) : Calls Tryd.prog 78 #[.string s, .int .i64 (o : Int)] w (HeadPost s o w) := by
  have hl : s.data.toList.length = s.size := by simp
  have HL : Hid _ := hl
  clear hl
  go_enter Tryd.func78, Tryd.ntmps78
  go_wp2_with fail
  go_loop [6] (fun v => ∃ i : Nat, i ≤ 7 ∧ o + i ≤ s.size ∧ v = .int .i64 ((o + i : Nat) : Int) ∧ ∀ c ∈ (s.data.toList.drop o).take i, c ≠ 58) (fun v => s.size - (intOf v).toNat)
  case atStart => exact ⟨0, by omega, by omega, by simp, fun c h => by simp at h⟩
  case round =>
    obtain ⟨i, hi, hk, rfl, hne⟩ := hrel
    have HNE : Hid _ := hne
    have hw : IntKind.i64.wrap ((o : Int) + 7) = (o : Int) + 7 := by simp (disch := omega) only [IntWalk.i64_in]
    clear hne
    obtain ⟨k, hke⟩ : ∃ k, k = o + i := ⟨_, rfl⟩
    rw [← hke]
    by_cases hlt : k < s.size
    · have HEX : Hid (∀ h : s[k] = 58, HeadPost s o w (.returned (.tuple #[.int .i64 (numV ((s.extract o k).data.toList)), .int .i64 ((k + 1 : Nat) : Int)])) w) := fun h => by
        subst hke
        exact head_num hlt HNE.out h
      have HNX : Hid (s[k] ≠ 58 → ∀ c ∈ (s.data.toList.drop o).take (i + 1), c ≠ 58) := fun h c hc => by
        subst hke
        have e : (s.data.toList.drop o).take (i + 1) = (s.data.toList.drop o).take i ++ [s[o + i]] := by
          rw [List.take_succ_eq_append_getElem (by rw [List.length_drop, HL.out]; omega)]
          congr 2
          rw [List.getElem_drop]
          rfl
        rw [e] at hc
        rcases List.mem_append.1 hc with h' | h'
        · exact HNE.out c h'
        · rw [List.mem_singleton.1 h']; exact h
      have HNN : Hid (¬ k < o + 7 → numR (s.data.toList.drop o) = none) := fun h => colon_no (by rw [show 7 = i by omega]; exact HNE.out)
      have HNO : Hid (∀ w', Calls Tryd.prog 92 #[.string (s.extract o k), .int .i64 6] w' fun e w'' => e = .returned (.int .i64 (numV (s.extract o k).data.toList)) ∧ w'' = w') := fun w' => numberOf_any _ w' (by
        have h1 : (s.extract o k).size ≤ s.size := by rw [ByteArray.size_extract]; omega
        omega)
      have HKE : Hid (k = o + i) := hke
      have hok : o ≤ k := by omega
      have hok2 : k ≤ s.size := by omega
      clear HNE hke hk hi
      have g1 : (k : Int) < (s.size : Int) := by omega
      by_cases h58 : s[k] = 58
      · have h58' : ((s[k].toNat : Int) != 58) = false := by simp only [bne_eq_false_iff_eq]; exact (byte58 _).1 h58
        have HP : Hid (HeadPost s o w (.returned (.tuple #[.int .i64 (numV ((s.extract o k).data.toList)), .int .i64 ((k : Int) + 1)])) w) := HEX.out h58
        have hw2 : IntKind.i64.wrap ((k : Int) + 1) = (k : Int) + 1 := by simp (disch := omega) only [IntWalk.i64_in]
        clear HEX HNX h58
        by_cases h7 : k < o + 7
        · have g2 : (k : Int) < (o : Int) + 7 := by omega
          go_wp2_with fail
          refine Calls.mono (HNO.out _) ?_
          rintro e w1 ⟨rfl, rfl⟩
          generalize numV (s.extract o k).data.toList = z at HP ⊢
          clear HNO
          go_wp2_with fail
          go_ret2
          exact HP.out
        · have g2 : ¬ (k : Int) < (o : Int) + 7 := by omega
          go_wp2_with fail
          refine Calls.mono (HNO.out _) ?_
          rintro e w1 ⟨rfl, rfl⟩
          generalize numV (s.extract o k).data.toList = z at HP ⊢
          clear HNO
          go_wp2_with fail
          go_ret2
          exact HP.out
      · have h58' : ((s[k].toNat : Int) != 58) = true := by simp only [bne_iff_ne, ne_eq]; exact fun e => h58 ((byte58 _).2 e)
        have HX : Hid _ := HNX.out h58
        clear HEX HNX h58 HNO
        by_cases h7 : k < o + 7
        · have g2 : (k : Int) < (o : Int) + 7 := by omega
          go_wp2_with fail
          go_round
          case rel => exact ⟨i + 1, by have := HKE.out; omega, by have := HKE.out; omega, by rw [HKE.out]; go_num, HX.out⟩
          case measure => simp [intOf]; omega
        · have g2 : ¬ (k : Int) < (o : Int) + 7 := by omega
          have HN : Hid _ := HNN.out h7
          go_wp2_with fail
          go_ret2
          exact HeadPost.no HN.out
    · have HN : Hid (numR (s.data.toList.drop o) = none) := colon_no (fun c hc => HNE.out c (by
        have e : (s.data.toList.drop o).take i = s.data.toList.drop o := List.take_of_length_le (by rw [List.length_drop, HL.out]; omega)
        rw [e]
        exact List.mem_of_mem_take hc))
      clear HNE hke hk hi
      have g1 : ¬ (k : Int) < (s.size : Int) := by omega
      go_wp2_with fail
      go_ret2
      exact HeadPost.no HN.out
end Go.Proofs.YtfchgecbimaonaaDoor
