/-
  The closed fact of the statements of chapter 1: a dir of a file is well, has two nodes, two bytes and one file.
  Conditions: the sentinels hold what the program's text lays.
-/
import Derived.Test.YtfchgecbimaonaaDoorSums3
import Derived.Test.YtfchgecbimaonaaDoorSmall
import Derived.Test.YtfchgecbimaonaaDoorCode
namespace Go.Proofs.YtfchgecbimaonaaDoor
open Go.RowKit

/-! ### Lists of texts -/
def Texts (w : World) (v : Value) (l : List ByteArray) : Prop := ∃ ad cap, v = .slice ad l.length cap ∧ ∀ i x, l[i]? = some x → ∃ b off, ad = some ⟨b, off, none⟩ ∧ w.cell? ⟨b, off + i, none⟩ = some (.string x)
theorem Texts.of_own {w : World} {base : Nat} {v : Value} {l : List ByteArray} (h : w.ownsRow base 9 1 v l.length (l.map Value.string)) : Texts w v l := by
  rcases h.2 with ⟨hv, hn⟩ | ⟨g, cap, cur, hv, _⟩
  · exact ⟨none, 0, by rw [hv, hn], fun i x hx => by have := (List.getElem?_eq_some_iff.1 hx).1; omega⟩
  · refine ⟨some ⟨g, 0, none⟩, cap, hv, fun i x hx => ⟨g, 0, rfl, ?_⟩⟩
    have hc := h.cells (g := g) (by rw [hv]; rfl) i (.string x) (by rw [List.getElem?_map, hx]; rfl)
    have hadd : (⟨g, 0, none⟩ : Addr).add i = ⟨g, 0 + i, none⟩ := by unfold Addr.add; split <;> simp_all
    rw [hadd] at hc
    exact hc
def eqTo (a b : List ByteArray) (k : Nat) : Bool := (List.range k).all fun i => (a[i]?.getD ByteArray.empty).toList == (b[i]?.getD ByteArray.empty).toList
def textsEq (a b : List ByteArray) : Bool := decide (a.length = b.length) && eqTo a b a.length
theorem eqTo_succ {a b : List ByteArray} {k : Nat} {x y : ByteArray} (hx : a[k]? = some x) (hy : b[k]? = some y) : eqTo a b (k + 1) = (eqTo a b k && (x.toList == y.toList)) := by
  unfold eqTo
  rw [List.range_succ, List.all_append]
  simp [hx, hy]
theorem eqTo_mono {a b : List ByteArray} {k n : Nat} (h : k ≤ n) (hf : eqTo a b k = false) : eqTo a b n = false := by
  unfold eqTo at *
  rw [List.all_eq_false] at *
  obtain ⟨j, hj, hp⟩ := hf
  exact ⟨j, List.mem_range.2 (by have := List.mem_range.1 hj; omega), hp⟩

set_option maxHeartbeats 1000000 in
theorem sameTexts_any (va vb : Value) (a b : List ByteArray) (w : World) (ha : Texts w va a) (hb : Texts w vb b) (hla : a.length ≤ 1000000000) :
    Calls Tryd.prog 26 #[va, vb] w fun e w' => e = .returned (.bool (textsEq a b)) ∧ Below w.heap.size w w' := by
  obtain ⟨ada, ca, rfl, ha⟩ := ha
  obtain ⟨adb, cb, rfl, hb⟩ := hb
  have HA : Hid _ := ha
  have HB : Hid _ := hb
  clear ha hb
  by_cases hl : a.length = b.length
  · have hl' : ((a.length : Int) != (b.length : Int)) = false := by simp; omega
    have HE : Hid (textsEq a b = eqTo a b a.length) := show _ = _ by unfold textsEq; rw [decide_eq_true hl]; rfl
    have HLL : Hid _ := hl
    clear hl
    go_enter Tryd.func26, Tryd.ntmps26
    go_wp2_with fail
    clear hl'
    go_loopw [5] (fun i wr => ∃ k m : Nat, k ≤ a.length ∧ i = .int .i64 k ∧ wr = w.drewN m ∧ eqTo a b k = true) (fun i _ => a.length - (intOf i).toNat)
    case atStart => exact ⟨0, 0, Nat.zero_le _, rfl, rfl, rfl⟩
    case round =>
      obtain ⟨k, m, hk, rfl, rfl, hq⟩ := hrel
      have HQ : Hid _ := hq
      clear hq
      by_cases hlt : k < a.length
      · obtain ⟨x, hx⟩ : ∃ x, a[k]? = some x := ⟨a[k], List.getElem?_eq_getElem hlt⟩
        have hltb : k < b.length := by have := HLL.out; omega
        obtain ⟨y, hy⟩ : ∃ y, b[k]? = some y := ⟨b[k], List.getElem?_eq_getElem hltb⟩
        obtain ⟨b1, o1, rfl, c1⟩ := HA.out k x hx
        obtain ⟨b2, o2, rfl, c2⟩ := HB.out k y hy
        have HS : Hid _ := eqTo_succ hx hy
        clear hx hy
        cases hxy : (x.toList == y.toList)
        · have HF : Hid (eqTo a b a.length = false) := eqTo_mono (k := k + 1) (by omega) (by rw [HS.out, hxy]; simp)
          go_wp2_with fail
          go_quiet (fail)
          go_wp2_with fail
          go_ret
          exact ⟨ret_bool (by rw [HE.out, HF.out]), below_drewN (below_drewN (Below.refl _ _) _) _⟩
        · have HT : Hid (eqTo a b (k + 1) = true) := show _ = _ by rw [HS.out, HQ.out, hxy]; rfl
          go_wp2_with fail
          go_quiet (fail)
          go_wp2_with fail
          go_roundw
          case rel => exact ⟨k + 1, _, by omega, by go_num, rfl, HT.out⟩
          case measure => simp [intOf]; omega
      · have HT : Hid (eqTo a b a.length = true) := by
          have e : a.length = k := by omega
          rw [e]; exact HQ.out
        go_wp2_with fail
        go_ret
        exact ⟨ret_bool (by rw [HE.out, HT.out]), below_drewN (Below.refl _ _) _⟩
  · have hl' : ((a.length : Int) != (b.length : Int)) = true := by simp; omega
    have HE : Hid (textsEq a b = false) := show _ = _ by unfold textsEq; rw [decide_eq_false hl]; rfl
    clear hl
    go_enter Tryd.func26, Tryd.ntmps26
    go_wp2_with fail
    go_ret
    exact ⟨ret_bool (by rw [HE.out]), Below.refl _ _⟩

theorem aDir_count : countOf 2 aDir = 2 := by kernel_rfl
theorem aDir_size : sizeOf 2 aDir = 2 := by kernel_rfl
theorem aDir_files : filesOf 2 aDir = [{ data := #[47, 97] }] := by kernel_rfl
theorem aDir_eq : textsEq [{ data := #[47, 97] }] [{ data := #[47, 97] }] = true := by kernel_rfl
theorem aDir_lies (w : World) (b : Nat) (B : Nat) (hb : b < B) (hr : w.heap[b]? = some (.cells #[.string { data := #[97] }, .string { data := #[102, 105, 108, 101] }, .string { data := #[120, 121] }, .bool false, .slice none 0 0] 49 (0, 0))) :
    Lies w B 2 aDir.kids (.slice (some ⟨b, 0, none⟩) 1 1) := by
  have hc : ∀ i, w.cell? ⟨b, i, none⟩ = #[Value.string { data := #[97] }, .string { data := #[102, 105, 108, 101] }, .string { data := #[120, 121] }, .bool false, .slice none 0 0][i]? := fun i => cell_of_row w b i _ _ _ hr
  refine ⟨some ⟨b, 0, none⟩, 1, rfl, by decide, fun i x hx => ?_⟩
  have hi : i = 0 := by have := (List.getElem?_eq_some_iff.1 hx).1; simp [aDir] at this; omega
  subst hi
  have ex : x = ({ data := #[97] }, aFile) := by simpa [aDir] using hx.symm
  subst ex
  refine ⟨b, 0, .slice none 0 0, rfl, hb, by decide, by rw [hc]; rfl, by rw [hc]; rfl, by rw [hc]; rfl, by rw [hc]; rfl, by rw [hc]; rfl, ?_⟩
  exact ⟨none, 0, rfl, by decide, fun i x hx => by simp [aFile] at hx⟩

set_option maxRecDepth 100000 in
set_option maxHeartbeats 2000000 in
theorem treed_any (a : Nat → Addr) (w : World) (S : Sents a w) : Calls Tryd.prog 13 #[] w fun e w' => e = .returned (.bool true) ∧ Below w.heap.size w w' := by
  have hW : Below w.heap.size w ((w.alloc (.cells #[.string { data := #[97] }, .string { data := #[102, 105, 108, 101] }, .string { data := #[120, 121] }, .bool false, .slice none 0 0] 49)).alloc (.cells #[.string { data := #[100, 105, 114] }, .string { data := #[] }, .bool false, .slice (some ⟨w.heap.size, 0, none⟩) 1 1] 37)) := ((Below.refl _ _).alloc (Nat.le_refl _) _).alloc (by simp) _
  have hz : ((w.alloc (.cells #[.string { data := #[97] }, .string { data := #[102, 105, 108, 101] }, .string { data := #[120, 121] }, .bool false, .slice none 0 0] 49)).alloc (.cells #[.string { data := #[100, 105, 114] }, .string { data := #[] }, .bool false, .slice (some ⟨w.heap.size, 0, none⟩) 1 1] 37)).heap.size = w.heap.size + 1 + 1 := by simp
  have hr : ((w.alloc (.cells #[.string { data := #[97] }, .string { data := #[102, 105, 108, 101] }, .string { data := #[120, 121] }, .bool false, .slice none 0 0] 49)).alloc (.cells #[.string { data := #[100, 105, 114] }, .string { data := #[] }, .bool false, .slice (some ⟨w.heap.size, 0, none⟩) 1 1] 37)).heap[w.heap.size]? = some (.cells #[.string { data := #[97] }, .string { data := #[102, 105, 108, 101] }, .string { data := #[120, 121] }, .bool false, .slice none 0 0] 49 (0, 0)) := by
    rw [Below.heap_alloc _ _ _ (by simp)]; exact row_alloc _ _ _
  have hn : ((w.alloc (.cells #[.string { data := #[97] }, .string { data := #[102, 105, 108, 101] }, .string { data := #[120, 121] }, .bool false, .slice none 0 0] 49)).alloc (.cells #[.string { data := #[100, 105, 114] }, .string { data := #[] }, .bool false, .slice (some ⟨w.heap.size, 0, none⟩) 1 1] 37)).heap[w.heap.size + 1]? = some (.cells #[.string { data := #[100, 105, 114] }, .string { data := #[] }, .bool false, .slice (some ⟨w.heap.size, 0, none⟩) 1 1] 37 (0, 0)) := by
    have := row_alloc (w.alloc (.cells #[.string { data := #[97] }, .string { data := #[102, 105, 108, 101] }, .string { data := #[120, 121] }, .bool false, .slice none 0 0] 49)) #[.string { data := #[100, 105, 114] }, .string { data := #[] }, .bool false, .slice (some ⟨w.heap.size, 0, none⟩) 1 1] 37
    simpa using this
  have HW : Hid _ := hW
  have HZ : Hid _ := hz
  have HR : Hid _ := hr
  have HN : Hid _ := hn
  have HS : Hid _ := S
  clear hW hz hr hn S
  go_enter Tryd.func13, Tryd.ntmps13
  go_wp2_with fail
  generalize (w.alloc (.cells #[.string { data := #[97] }, .string { data := #[102, 105, 108, 101] }, .string { data := #[120, 121] }, .bool false, .slice none 0 0] 49)).alloc (.cells #[.string { data := #[100, 105, 114] }, .string { data := #[] }, .bool false, .slice (some ⟨w.heap.size, 0, none⟩) 1 1] 37) = W1 at *
  have hS : ∀ w', Below W1.heap.size W1 w' → SentsB a W1.heap.size w' := fun w' h => ((HS.out.below HW.out).atB).below h (Nat.le_refl _)
  have hL : ∀ w', Below W1.heap.size W1 w' → Lies w' W1.heap.size 2 aDir.kids (.slice (some ⟨w.heap.size, 0, none⟩) 1 1) := fun w' h => (aDir_lies W1 w.heap.size W1.heap.size (by rw [HZ.out]; omega) HR.out).below h (Nat.le_refl _)
  have hcell : ∀ w', Below W1.heap.size W1 w' → ∀ i, w'.cell? ⟨w.heap.size + 1, i, none⟩ = #[Value.string { data := #[100, 105, 114] }, .string { data := #[] }, .bool false, .slice (some ⟨w.heap.size, 0, none⟩) 1 1][i]? := fun w' h i => by
    rw [h.cell (p := ⟨w.heap.size + 1, i, none⟩) (by rw [HZ.out]; exact Nat.lt_succ_self _), cell_of_row W1 _ _ _ _ _ HN.out]
  have hCheck : ∀ w', Below W1.heap.size W1 w' → Calls Tryd.prog 18 #[.agg #[.string { data := #[100, 105, 114] }, .string { data := #[] }, .bool false, .slice (some ⟨w.heap.size, 0, none⟩) 1 1]] w' fun e w'' => e = .returned .nilIface ∧ Below W1.heap.size W1 w'' := fun w' h =>
    (check_any a 2 W1.heap.size aDir (.slice (some ⟨w.heap.size, 0, none⟩) 1 1) w' (hS w' h) h.size (hL w' h) (alive_ck _ 0 (by omega) aDir_ok)).mono fun e w'' ⟨h1, h2⟩ => ⟨by rw [h1, aDir_err]; rfl, h.trans (h2.mono h.size)⟩
  have hCount : ∀ w', Below W1.heap.size W1 w' → Calls Tryd.prog 22 #[.agg #[.string { data := #[100, 105, 114] }, .string { data := #[] }, .bool false, .slice (some ⟨w.heap.size, 0, none⟩) 1 1]] w' fun e w'' => e = .returned (.int .i64 2) ∧ Below W1.heap.size W1 w'' := fun w' h =>
    (count_any a 2 W1.heap.size aDir (.slice (some ⟨w.heap.size, 0, none⟩) 1 1) w' (hS w' h) h.size (hL w' h) (alive_ck _ 0 (by omega) aDir_ok) (fun _ => alive_ct _ 0 (by decide) aDir_ok)).mono fun e w'' ⟨h1, h2⟩ => ⟨by rw [h1, aDir_count]; rfl, h.trans (h2.mono h.size)⟩
  have hSize : ∀ w', Below W1.heap.size W1 w' → Calls Tryd.prog 24 #[.agg #[.string { data := #[100, 105, 114] }, .string { data := #[] }, .bool false, .slice (some ⟨w.heap.size, 0, none⟩) 1 1]] w' fun e w'' => e = .returned (.int .i64 2) ∧ Below W1.heap.size W1 w'' := fun w' h =>
    (size_any a 2 W1.heap.size aDir (.slice (some ⟨w.heap.size, 0, none⟩) 1 1) w' (hS w' h) h.size (hL w' h) (alive_ck _ 0 (by omega) aDir_ok) (fun _ => alive_sz _ 0 (by decide) aDir_ok)).mono fun e w'' ⟨h1, h2⟩ => ⟨by rw [h1, aDir_size]; rfl, h.trans (h2.mono h.size)⟩
  have hFiles : ∀ w', Below W1.heap.size W1 w' → Calls Tryd.prog 27 #[.agg #[.string { data := #[100, 105, 114] }, .string { data := #[] }, .bool false, .slice (some ⟨w.heap.size, 0, none⟩) 1 1]] w' fun e w'' => ∃ v, e = .returned v ∧ w''.ownsRow (w'.heap.size + 1 + 1) 9 1 v 1 [.string { data := #[47, 97] }] ∧ Below W1.heap.size W1 w'' := fun w' h =>
    (files_any a 2 W1.heap.size aDir (.slice (some ⟨w.heap.size, 0, none⟩) 1 1) w' (hS w' h) h.size (hL w' h) (alive_ck _ 0 (by omega) aDir_ok) (fun _ => alive_fl _ [] (by decide) aDir_ok)).mono fun e w'' ⟨v, h1, h2, h3⟩ => ⟨v, h1, by rw [aDir_files] at h2; exact h2, h.trans (h3.mono h.size)⟩
  have HCELL : Hid _ := hcell
  have HCHECK : Hid _ := hCheck
  have HCOUNT : Hid _ := hCount
  have HSIZE : Hid _ := hSize
  have HFILES : Hid _ := hFiles
  clear hS hL hcell hCheck hCount hSize hFiles
  refine Calls.mono (HCHECK.out W1 (Below.refl _ _)) ?_
  rintro e w2 ⟨rfl, h2⟩
  have d0 : w2.cell? ⟨w.heap.size + 1, 0, none⟩ = _ := HCELL.out w2 h2 0
  have d1 : w2.cell? ⟨w.heap.size + 1, 1, none⟩ = _ := HCELL.out w2 h2 1
  have d2 : w2.cell? ⟨w.heap.size + 1, 2, none⟩ = _ := HCELL.out w2 h2 2
  have d3 : w2.cell? ⟨w.heap.size + 1, 3, none⟩ = _ := HCELL.out w2 h2 3
  simp only [List.getElem?_toArray, List.getElem?_cons_zero, List.getElem?_cons_succ] at d0 d1 d2 d3
  go_wp2_with fail
  refine (coded_nil _ _).mono ?_
  rintro e w2' ⟨rfl, rfl⟩
  go_wp2_with fail
  refine Calls.mono (HCOUNT.out _ h2) ?_
  rintro e w3 ⟨rfl, h3⟩
  clear d0 d1 d2 d3
  have d0 : w3.cell? ⟨w.heap.size + 1, 0, none⟩ = _ := HCELL.out w3 h3 0
  have d1 : w3.cell? ⟨w.heap.size + 1, 1, none⟩ = _ := HCELL.out w3 h3 1
  have d2 : w3.cell? ⟨w.heap.size + 1, 2, none⟩ = _ := HCELL.out w3 h3 2
  have d3 : w3.cell? ⟨w.heap.size + 1, 3, none⟩ = _ := HCELL.out w3 h3 3
  simp only [List.getElem?_toArray, List.getElem?_cons_zero, List.getElem?_cons_succ] at d0 d1 d2 d3
  go_wp2_with fail
  refine Calls.mono (HSIZE.out _ h3) ?_
  rintro e w4 ⟨rfl, h4⟩
  clear d0 d1 d2 d3
  have d0 : w4.cell? ⟨w.heap.size + 1, 0, none⟩ = _ := HCELL.out w4 h4 0
  have d1 : w4.cell? ⟨w.heap.size + 1, 1, none⟩ = _ := HCELL.out w4 h4 1
  have d2 : w4.cell? ⟨w.heap.size + 1, 2, none⟩ = _ := HCELL.out w4 h4 2
  have d3 : w4.cell? ⟨w.heap.size + 1, 3, none⟩ = _ := HCELL.out w4 h4 3
  simp only [List.getElem?_toArray, List.getElem?_cons_zero, List.getElem?_cons_succ] at d0 d1 d2 d3
  go_wp2_with fail
  refine Calls.mono (HFILES.out _ h4) ?_
  rintro e w5 ⟨v, rfl, hown, h5⟩
  go_wp2_with fail
  have hTa : ∀ o, Texts (w5.alloc o) v [{ data := #[47, 97] }] := fun o => Texts.of_own (World.ownsRow.alloc hown o)
  have hTb : Texts (w5.alloc (.cells #[.string { data := #[47, 97] }] 9)) (.slice (some ⟨w5.heap.size, 0, none⟩) 1 1) [{ data := #[47, 97] }] :=
    ⟨some ⟨w5.heap.size, 0, none⟩, 1, rfl, fun i x hx => by
      have hi : i = 0 := by have := (List.getElem?_eq_some_iff.1 hx).1; simp at this; omega
      subst hi
      simp only [List.getElem?_cons_zero, Option.some.injEq] at hx
      subst hx
      exact ⟨w5.heap.size, 0, rfl, by rw [World.cell?_alloc_at _ _ _ _ rfl]; rfl⟩⟩
  refine (sameTexts_any _ _ _ _ _ (hTa _) hTb (by decide)).mono ?_
  rintro e w6 ⟨rfl, h6⟩
  rw [aDir_eq]
  go_wp2_with fail
  go_ret
  exact ⟨rfl, HW.out.trans ((h5.trans (((Below.refl _ _).alloc (Nat.le_refl _) _).trans (h6.mono (by simp))|>.mono h5.size)).mono HW.out.size)⟩
end Go.Proofs.YtfchgecbimaonaaDoor
