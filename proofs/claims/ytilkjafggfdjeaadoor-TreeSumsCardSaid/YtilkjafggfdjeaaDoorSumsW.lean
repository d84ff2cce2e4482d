/-
  The walk of the law 'TreeSums': it returns true; nothing that was there has turned.
  Conditions: the sentinels hold what the program's text lays; the node lies in memory.
-/
import Derived.Test.YtilkjafggfdjeaaDoorSame
import Derived.Test.YtilkjafggfdjeaaDoorTreed
import Derived.Test.YtilkjafggfdjeaaDoorOwn
namespace Go.Proofs.YtilkjafggfdjeaaDoor
open Go.RowKit

/-- What kids have together, up to a place. -/
def upTo (g : Tree → Nat) (e : Nat) (t : Tree) (i : Nat) : Nat := ((t.kids.take i).map fun y => S g (pre e ByteArray.empty 0 y.2)).sum
theorem upTo_succ (g : Tree → Nat) (e : Nat) {t : Tree} {i : Nat} {y : ByteArray × Tree} (h : t.kids[i]? = some y) : upTo g e t (i + 1) = upTo g e t i + S g (pre e ByteArray.empty 0 y.2) := by
  have hk : i < t.kids.length := (List.getElem?_eq_some_iff.1 h).1
  have he : t.kids[i] = y := (List.getElem?_eq_some_iff.1 h).2
  unfold upTo
  rw [List.take_succ_eq_append_getElem hk, he]
  simp
theorem upTo_all (g : Tree → Nat) (e : Nat) (t : Tree) : S g (pre (e + 1) ByteArray.empty 0 t) = g t + upTo g e t t.kids.length := by
  rw [S_dir]
  unfold upTo
  rw [List.take_length]
theorem countOf_S {d : Nat} {t : Tree} (h : treeErr d t = none) : countOf d t = S one (pre d ByteArray.empty 0 t) := by
  unfold countOf; rw [h]; simp only; rw [fold_ct]; omega
theorem sizeOf_S {d : Nat} {t : Tree} (h : treeErr d t = none) : sizeOf d t = S bytesIn (pre d ByteArray.empty 0 t) := by
  unfold sizeOf; rw [h]; simp only; rw [fold_sz]; omega
theorem filesOf_S {d : Nat} {t : Tree} (h : treeErr d t = none) : (filesOf d t).length = S isOne (pre d ByteArray.empty 0 t) := by
  unfold filesOf; rw [h]; simp only; rw [fold_fl]; simp
theorem countOf_bad {d : Nat} {t : Tree} {er : Nat} (h : treeErr d t = some er) : countOf d t = 0 := by unfold countOf; rw [h]
/-- A well node that is no dir has no kids. -/
theorem lone {d : Nat} {t : Tree} (h : treeErr (d + 1) t = none) (hd : isDir t = false) : t.kids = [] := by
  have hn := (treeErr_none.1 h).2 (ByteArray.empty, 0, t) (by rw [pre]; exact List.mem_cons_self)
  have he := hn.2
  simp only at he
  unfold nodeErr at he
  rw [hd] at he
  have hk : ¬ 0 < t.kids.length := fun hk => by
    split at he
    · unfold fileErr at he; rw [if_pos hk] at he; cases he
    · rw [if_neg (by simp)] at he
      split at he
      · unfold linkErr at he; rw [if_pos (.inr hk)] at he; cases he
      · cases he
  exact List.eq_nil_of_length_eq_zero (by omega)
theorem lone_count {d : Nat} {t : Tree} (h : treeErr (d + 1) t = none) (hd : isDir t = false) : countOf (d + 1) t = 1 := by
  rw [countOf_S h, upTo_all, lone h hd]
  unfold upTo
  rw [lone h hd]
  rfl
/-- A well dir's names are names. -/
theorem dir_name {d : Nat} {t : Tree} (h : treeErr (d + 1) t = none) (hd : isDir t = true) {y : ByteArray × Tree} (hy : y ∈ t.kids) : nameB y.1 = true := by
  have hn := (treeErr_none.1 h).2 (ByteArray.empty, 0, t) (by rw [pre]; exact List.mem_cons_self)
  have he := hn.2
  simp only at he
  unfold nodeErr at he
  have hf : isFile t = false := by
    unfold isDir at hd
    unfold isFile
    have := eq_of_beq hd
    rw [this]
    rfl
  rw [hf, hd] at he
  rw [if_neg (by simp), if_pos rfl] at he
  unfold dirErr at he
  split at he
  · cases he
  · split at he
    · rename_i hall
      exact List.all_eq_true.1 hall y hy
    · cases he
theorem dir_file {t : Tree} (hd : isDir t = true) : isFile t = false := by
  unfold isDir at hd
  unfold isFile
  have := eq_of_beq hd
  rw [this]
  rfl

theorem S_le {g : Tree → Nat} {M : Nat} : ∀ {l : List (ByteArray × Nat × Tree)}, (∀ x ∈ l, g x.2.2 ≤ M) → S g l ≤ M * l.length
  | [], _ => by simp [S]
  | x :: l, h => by
    rw [S_cons, List.length_cons, Nat.mul_add]
    have h1 := h x List.mem_cons_self
    have h2 := S_le (g := g) (M := M) (l := l) fun y hy => h y (List.mem_cons_of_mem _ hy)
    omega
theorem upTo_le (g : Tree → Nat) (e : Nat) (t : Tree) (j : Nat) : upTo g e t j ≤ S g (pre (e + 1) ByteArray.empty 0 t) := by
  rw [S_dir]
  unfold upTo
  have h : (t.kids.map fun y => S g (pre e ByteArray.empty 0 y.2)).sum = ((t.kids.take j).map fun y => S g (pre e ByteArray.empty 0 y.2)).sum + ((t.kids.drop j).map fun y => S g (pre e ByteArray.empty 0 y.2)).sum := by
    rw [← List.sum_append, ← List.map_append, List.take_append_drop]
  omega
theorem bytesIn_le {l : List (ByteArray × Nat × Tree)} (h : OkItems l) : S bytesIn l ≤ 2001 * l.length := S_le fun x hx => by
  have := (h x hx).2.2
  unfold bytesIn
  split <;> omega
theorem isOne_le (l : List (ByteArray × Nat × Tree)) : S isOne l ≤ 1 * l.length := S_le fun x _ => by
  unfold isOne
  split <;> omega

set_option maxRecDepth 100000 in
set_option maxHeartbeats 4000000 in
theorem treeSums_any (a : Nat → Addr) (d : Nat) (t : Tree) (u : Value) (w : World) (S0 : Sents a w) (hl : Lies w w.heap.size d t.kids u) :
    Calls Tryd.prog 4 #[.agg #[.string t.kind, .string t.data, .bool t.exec, u]] w fun e w' => e = .returned (.bool true) ∧ Below w.heap.size w w' := by
  obtain ⟨ta, tc, rfl⟩ := hl.form
  have hfit := hl.fit
  obtain ⟨e0, rfl⟩ : ∃ e0, d = e0 + 1 := by
    cases d with
    | zero => exact absurd hl (by simp [Lies])
    | succ e0 => exact ⟨e0, rfl⟩
  have hW : ∀ o, Below w.heap.size w (w.alloc o) := fun o => (Below.refl _ _).alloc (Nat.le_refl _) o
  have hT : ∀ o, Calls Tryd.prog 9 #[] (w.alloc o) fun e w' => e = .returned (.bool true) ∧ Below (w.alloc o).heap.size (w.alloc o) w' := fun o => treed_any a (w.alloc o) (S0.below (hW o))
  have HT : Hid _ := hT
  have HW : Hid _ := hW
  have HS0 : Hid _ := S0
  have HL : Hid _ := hl
  have HFIT : Hid (Fit (e0 + 1) t) := hfit
  clear hT hW S0 hl hfit
  go_enter Tryd.func4, Tryd.ntmps4
  go_wp2_with fail
  refine Calls.mono (HT.out _) ?_
  rintro e w2 ⟨rfl, hb2⟩
  have hbw : Below w.heap.size w w2 := (HW.out _).trans (hb2.mono (by simp))
  have hcn : ∀ i, w2.cell? ⟨w.heap.size, i, none⟩ = #[Value.string t.kind, .string t.data, .bool t.exec, .slice ta t.kids.length tc][i]? := fun i => by
    rw [hb2.cell (p := ⟨w.heap.size, i, none⟩) (by simp), World.cell?_alloc_at _ _ _ _ rfl]
  have d0 : w2.cell? ⟨w.heap.size, 0, none⟩ = _ := hcn 0
  have d1 : w2.cell? ⟨w.heap.size, 1, none⟩ = _ := hcn 1
  have d2 : w2.cell? ⟨w.heap.size, 2, none⟩ = _ := hcn 2
  have d3 : w2.cell? ⟨w.heap.size, 3, none⟩ = _ := hcn 3
  simp only [List.getElem?_toArray, List.getElem?_cons_zero, List.getElem?_cons_succ] at d0 d1 d2 d3
  have hLg := large_any w.heap.size (e0 + 1) 100 t (.slice ta t.kids.length tc) w2 hbw.size (Lies.below HL.out hbw (Nat.le_refl _)) (by omega)
  have HLS : Hid (w.heap.size < w2.heap.size) := by have := hb2.size; simp at this; exact this
  have HBW : Hid _ := hbw
  have HCN : Hid _ := hcn
  clear hb2 hcn hbw
  cases hlg : largeB 100 t
  · obtain ⟨hok, hlen⟩ := small_ok HFIT.out hlg
    have HLG : Hid (Calls Tryd.prog 10 #[.agg #[.string t.kind, .string t.data, .bool t.exec, .slice ta t.kids.length tc], .int .i64 100] w2 fun e w' => e = .returned (.int .i64 0) ∧ Below w2.heap.size w2 w') := by
      rw [largeN_no hlg] at hLg
      exact hLg
    have HOK : Hid (OkItems (pre (e0 + 1) ByteArray.empty 0 t)) := hok
    have HLEN : Hid ((pre (e0 + 1) ByteArray.empty 0 t).length ≤ 100) := hlen
    clear hLg hlg hok hlen
    go_wp2_with fail
    refine Calls.mono HLG.out ?_
    rintro e w3 ⟨rfl, hb3⟩
    have hbw3 : Below w.heap.size w w3 := HBW.out.trans (hb3.mono HBW.out.size)
    have hcn3 : ∀ i, w3.cell? ⟨w.heap.size, i, none⟩ = #[Value.string t.kind, .string t.data, .bool t.exec, .slice ta t.kids.length tc][i]? := fun i => by
      rw [hb3.cell (p := ⟨w.heap.size, i, none⟩) HLS.out]; exact HCN.out i
    clear d0 d1 d2 d3
    have d0 : w3.cell? ⟨w.heap.size, 0, none⟩ = _ := hcn3 0
    have d1 : w3.cell? ⟨w.heap.size, 1, none⟩ = _ := hcn3 1
    have d2 : w3.cell? ⟨w.heap.size, 2, none⟩ = _ := hcn3 2
    have d3 : w3.cell? ⟨w.heap.size, 3, none⟩ = _ := hcn3 3
    simp only [List.getElem?_toArray, List.getElem?_cons_zero, List.getElem?_cons_succ] at d0 d1 d2 d3
    have HOWN : Hid _ := own_any w.heap.size (e0 + 1) t (.slice ta t.kids.length tc) w3 hbw3.size (Lies.below HL.out hbw3 (Nat.le_refl _))
    have HBW3 : Hid _ := hbw3
    clear hcn3 hbw3 hb3
    go_wp2_with fail
    refine Calls.mono HOWN.out ?_
    rintro e w4 ⟨u', rfl, hq, hb4⟩
    obtain ⟨xa, xc, rfl⟩ := hq.form
    have hbw4 : Below w.heap.size w w4 := HBW3.out.trans (hb4.mono HBW3.out.size)
    have hlx : Lies w4 w4.heap.size (e0 + 1) t.kids (.slice xa t.kids.length xc) := hq.lies fun k hk => hk.2
    have hW5 : Below w4.heap.size w4 (w4.alloc (.cells #[.string t.kind, .string t.data, .bool t.exec, .slice xa t.kids.length xc] 24)) := (Below.refl _ _).alloc (Nat.le_refl _) _
    have hL5 : Lies (w4.alloc (.cells #[.string t.kind, .string t.data, .bool t.exec, .slice xa t.kids.length xc] 24)) (w4.alloc (.cells #[.string t.kind, .string t.data, .bool t.exec, .slice xa t.kids.length xc] 24)).heap.size (e0 + 1) t.kids (.slice xa t.kids.length xc) := (hlx.below hW5 (Nat.le_refl _)).up hW5.size (Nat.le_refl _)
    have hS5 : SentsB a (w4.alloc (.cells #[.string t.kind, .string t.data, .bool t.exec, .slice xa t.kids.length xc] 24)).heap.size (w4.alloc (.cells #[.string t.kind, .string t.data, .bool t.exec, .slice xa t.kids.length xc] 24)) := ((HS0.out.below hbw4).below hW5).atB
    have hc5 : ∀ i, (w4.alloc (.cells #[.string t.kind, .string t.data, .bool t.exec, .slice xa t.kids.length xc] 24)).cell? ⟨w4.heap.size, i, none⟩ = #[Value.string t.kind, .string t.data, .bool t.exec, .slice xa t.kids.length xc][i]? := fun i => World.cell?_alloc_at _ _ _ _ rfl
    have hz5 : w4.heap.size < (w4.alloc (.cells #[.string t.kind, .string t.data, .bool t.exec, .slice xa t.kids.length xc] 24)).heap.size := by simp
    have hbw5 : Below w.heap.size w (w4.alloc (.cells #[.string t.kind, .string t.data, .bool t.exec, .slice xa t.kids.length xc] 24)) := hbw4.trans (hW5.mono hbw4.size)
    have HL5 : Hid _ := hL5
    have HS5 : Hid _ := hS5
    have HC5 : Hid _ := hc5
    have HZ5 : Hid _ := hz5
    have HBW5 : Hid _ := hbw5
    clear hq hb4 hbw4 hlx hW5 hL5 hS5 hc5 hz5 hbw5 d0 d1 d2 d3
    go_wp2_with fail
    generalize w4.alloc (.cells #[.string t.kind, .string t.data, .bool t.exec, .slice xa t.kids.length xc] 24) = W5 at *
    have hS : ∀ w', Below W5.heap.size W5 w' → SentsB a W5.heap.size w' := fun w' h => HS5.out.below h (Nat.le_refl _)
    have hL : ∀ w', Below W5.heap.size W5 w' → Lies w' W5.heap.size (e0 + 1) t.kids (.slice xa t.kids.length xc) := fun w' h => Lies.below HL5.out h (Nat.le_refl _)
    have hcell : ∀ w', Below W5.heap.size W5 w' → ∀ i, w'.cell? ⟨w4.heap.size, i, none⟩ = #[Value.string t.kind, .string t.data, .bool t.exec, .slice xa t.kids.length xc][i]? := fun w' h i => by
      rw [h.cell (p := ⟨w4.heap.size, i, none⟩) HZ5.out]; exact HC5.out i
    have hSame : ∀ w', Below W5.heap.size W5 w' → Calls Tryd.prog 17 #[.agg #[.string t.kind, .string t.data, .bool t.exec, .slice xa t.kids.length xc], .agg #[.string t.kind, .string t.data, .bool t.exec, .slice xa t.kids.length xc]] w' fun e w'' => e = .returned (.bool true) ∧ Below W5.heap.size W5 w'' := fun w' h =>
      (same_any W5.heap.size (e0 + 1) t t (.slice xa t.kids.length xc) (.slice xa t.kids.length xc) w' h.size (hL w' h) (hL w' h)).mono fun e w'' ⟨h1, h2⟩ => ⟨by rw [h1, sameB_refl HFIT.out], h.trans (h2.mono h.size)⟩
    have hCheck : ∀ w', Below W5.heap.size W5 w' → Calls Tryd.prog 15 #[.agg #[.string t.kind, .string t.data, .bool t.exec, .slice xa t.kids.length xc]] w' fun e w'' => e = .returned (errV a (treeErr (e0 + 1) t)) ∧ Below W5.heap.size W5 w'' := fun w' h =>
      (check_any a (e0 + 1) W5.heap.size t (.slice xa t.kids.length xc) w' (hS w' h) h.size (hL w' h) (alive_ck _ 0 (by omega) HOK.out)).mono fun e w'' ⟨h1, h2⟩ => ⟨h1, h.trans (h2.mono h.size)⟩
    have hCount : ∀ w', Below W5.heap.size W5 w' → Calls Tryd.prog 19 #[.agg #[.string t.kind, .string t.data, .bool t.exec, .slice xa t.kids.length xc]] w' fun e w'' => e = .returned (.int .i64 (countOf (e0 + 1) t : Int)) ∧ Below W5.heap.size W5 w'' := fun w' h =>
      (count_any a (e0 + 1) W5.heap.size t (.slice xa t.kids.length xc) w' (hS w' h) h.size (hL w' h) (alive_ck _ 0 (by omega) HOK.out) (fun _ => alive_ct _ 0 (by have := HLEN.out; omega) HOK.out)).mono fun e w'' ⟨h1, h2⟩ => ⟨h1, h.trans (h2.mono h.size)⟩
    have HSAME : Hid _ := hSame
    have HCHECK : Hid _ := hCheck
    have HCOUNT : Hid _ := hCount
    have HCELL : Hid _ := hcell
    have HS : Hid _ := hS
    have HLI : Hid (∀ w', Below W5.heap.size W5 w' → Lies w' W5.heap.size (e0 + 1) t.kids (.slice xa t.kids.length xc)) := hL
    clear hS hL hcell hSame hCheck hCount
    have r0 := Below.refl W5.heap.size W5
    have d0 : W5.cell? ⟨w4.heap.size, 0, none⟩ = _ := HCELL.out W5 r0 0
    have d1 : W5.cell? ⟨w4.heap.size, 1, none⟩ = _ := HCELL.out W5 r0 1
    have d2 : W5.cell? ⟨w4.heap.size, 2, none⟩ = _ := HCELL.out W5 r0 2
    have d3 : W5.cell? ⟨w4.heap.size, 3, none⟩ = _ := HCELL.out W5 r0 3
    simp only [List.getElem?_toArray, List.getElem?_cons_zero, List.getElem?_cons_succ] at d0 d1 d2 d3
    go_wp2_with fail
    refine Calls.mono (HSAME.out _ r0) ?_
    rintro e w6 ⟨rfl, h6⟩
    clear d0 d1 d2 d3
    have d0 : w6.cell? ⟨w4.heap.size, 0, none⟩ = _ := HCELL.out w6 h6 0
    have d1 : w6.cell? ⟨w4.heap.size, 1, none⟩ = _ := HCELL.out w6 h6 1
    have d2 : w6.cell? ⟨w4.heap.size, 2, none⟩ = _ := HCELL.out w6 h6 2
    have d3 : w6.cell? ⟨w4.heap.size, 3, none⟩ = _ := HCELL.out w6 h6 3
    simp only [List.getElem?_toArray, List.getElem?_cons_zero, List.getElem?_cons_succ] at d0 d1 d2 d3
    cases hE : treeErr (e0 + 1) t with
    | some er =>
      have HCK : Hid (Calls Tryd.prog 15 #[.agg #[.string t.kind, .string t.data, .bool t.exec, .slice xa t.kids.length xc]] w6 fun e w'' => e = .returned (.iface 176 (.pointer (some (a er)))) ∧ Below W5.heap.size W5 w'') := by
        have h := HCHECK.out w6 h6
        rw [hE] at h
        exact h
      have HC0 : Hid (countOf (e0 + 1) t = 0) := countOf_bad hE
      clear hE
      go_wp2_with fail
      refine Calls.mono HCK.out ?_
      rintro e w7 ⟨rfl, h7⟩
      clear d0 d1 d2 d3
      have d0 : w7.cell? ⟨w4.heap.size, 0, none⟩ = _ := HCELL.out w7 h7 0
      have d1 : w7.cell? ⟨w4.heap.size, 1, none⟩ = _ := HCELL.out w7 h7 1
      have d2 : w7.cell? ⟨w4.heap.size, 2, none⟩ = _ := HCELL.out w7 h7 2
      have d3 : w7.cell? ⟨w4.heap.size, 3, none⟩ = _ := HCELL.out w7 h7 3
      simp only [List.getElem?_toArray, List.getElem?_cons_zero, List.getElem?_cons_succ] at d0 d1 d2 d3
      go_wp2_with fail
      refine Calls.mono (HSAME.out _ h7) ?_
      rintro e w8 ⟨rfl, h8⟩
      clear d0 d1 d2 d3
      have d0 : w8.cell? ⟨w4.heap.size, 0, none⟩ = _ := HCELL.out w8 h8 0
      have d1 : w8.cell? ⟨w4.heap.size, 1, none⟩ = _ := HCELL.out w8 h8 1
      have d2 : w8.cell? ⟨w4.heap.size, 2, none⟩ = _ := HCELL.out w8 h8 2
      have d3 : w8.cell? ⟨w4.heap.size, 3, none⟩ = _ := HCELL.out w8 h8 3
      simp only [List.getElem?_toArray, List.getElem?_cons_zero, List.getElem?_cons_succ] at d0 d1 d2 d3
      go_wp2_with fail
      have hct := HCOUNT.out _ h8
      rw [HC0.out] at hct
      refine Calls.mono hct ?_
      rintro e w9 ⟨rfl, h9⟩
      go_wp2_with fail
      go_ret
      exact ⟨rfl, HBW5.out.trans (h9.mono HBW5.out.size)⟩
    | none =>
      have HCK : Hid (Calls Tryd.prog 15 #[.agg #[.string t.kind, .string t.data, .bool t.exec, .slice xa t.kids.length xc]] w6 fun e w'' => e = .returned .nilIface ∧ Below W5.heap.size W5 w'') := by
        have h := HCHECK.out w6 h6
        rw [hE] at h
        exact h
      have HE : Hid _ := hE
      clear hE
      go_wp2_with fail
      refine Calls.mono HCK.out ?_
      rintro e w7 ⟨rfl, h7⟩
      clear d0 d1 d2 d3
      have d0 : w7.cell? ⟨w4.heap.size, 0, none⟩ = _ := HCELL.out w7 h7 0
      have d1 : w7.cell? ⟨w4.heap.size, 1, none⟩ = _ := HCELL.out w7 h7 1
      have d2 : w7.cell? ⟨w4.heap.size, 2, none⟩ = _ := HCELL.out w7 h7 2
      have d3 : w7.cell? ⟨w4.heap.size, 3, none⟩ = _ := HCELL.out w7 h7 3
      simp only [List.getElem?_toArray, List.getElem?_cons_zero, List.getElem?_cons_succ] at d0 d1 d2 d3
      cases hdir : (t.kind.toList == [100, 105, 114])
      · have HC1 : Hid (countOf (e0 + 1) t = 1) := lone_count HE.out hdir
        go_wp2_with fail
        have hct := HCOUNT.out _ h7
        rw [HC1.out] at hct
        refine Calls.mono hct ?_
        rintro e w9 ⟨rfl, h9⟩
        go_wp2_with fail
        go_ret
        exact ⟨rfl, HBW5.out.trans (h9.mono HBW5.out.size)⟩
      · have hc1 := fun j => upTo_le one e0 t j
        have hc2 := fun j => upTo_le bytesIn e0 t j
        have hc3 := fun j => upTo_le isOne e0 t j
        have hb1 : S one (pre (e0 + 1) ByteArray.empty 0 t) ≤ 100 := by rw [S_one]; exact HLEN.out
        have hb2 : S bytesIn (pre (e0 + 1) ByteArray.empty 0 t) ≤ 200100 := by have := bytesIn_le HOK.out; have := HLEN.out; omega
        have hb3 : S isOne (pre (e0 + 1) ByteArray.empty 0 t) ≤ 100 := by have := isOne_le (pre (e0 + 1) ByteArray.empty 0 t); have := HLEN.out; omega
        have HB1 : Hid (∀ j, upTo one e0 t j ≤ 100) := fun j => Nat.le_trans (hc1 j) hb1
        have HB2 : Hid (∀ j, upTo bytesIn e0 t j ≤ 200100) := fun j => Nat.le_trans (hc2 j) hb2
        have HB3 : Hid (∀ j, upTo isOne e0 t j ≤ 100) := fun j => Nat.le_trans (hc3 j) hb3
        have HDIR : Hid (isDir t = true) := hdir
        have hkl : t.kids.length ≤ 1759218604390 := Lies.len (HLI.out w7 h7)
        clear hc1 hc2 hc3 hb1 hb2 hb3
        go_wp2_with fail
        clear hdir d0 d1 d2 d3
        go_loopw [5, 6, 7, 8] (fun c z f i wr => ∃ j : Nat, j ≤ t.kids.length ∧ i = .int .i64 j ∧ c = .int .i64 ((1 + upTo one e0 t j : Nat) : Int) ∧ z = .int .i64 ((upTo bytesIn e0 t j : Nat) : Int) ∧ f = .int .i64 ((upTo isOne e0 t j : Nat) : Int) ∧ Below W5.heap.size W5 wr) (fun _ _ _ i _ => t.kids.length - (intOf i).toNat)
        case atStart => exact ⟨0, Nat.zero_le _, rfl, rfl, rfl, rfl, h7⟩
        case round =>
          obtain ⟨j, hj, rfl, rfl, rfl, rfl, hb⟩ := hrel
          have d3 : wr.cell? ⟨w4.heap.size, 3, none⟩ = _ := HCELL.out wr hb 3
          simp only [List.getElem?_toArray, List.getElem?_cons_zero, List.getElem?_cons_succ] at d3
          by_cases hlt : j < t.kids.length
          · obtain ⟨y, hy⟩ : ∃ y, t.kids[j]? = some y := ⟨t.kids[j], List.getElem?_eq_getElem hlt⟩
            have hym := List.mem_of_getElem? hy
            obtain ⟨b, off, rfl, uy, K⟩ : ∃ b off, xa = some ⟨b, off, none⟩ ∧ ∃ u, KidAt wr W5.heap.size e0 b off j y u := by
              rcases (Lies.open (HLI.out wr hb)).2 with ⟨h0, _⟩ | ⟨b, off, cp, e, _, hk⟩
              · rw [h0] at hlt; exact absurd hlt (by simp)
              · simp only [Value.slice.injEq] at e
                exact ⟨b, off, e.1, hk j y hy⟩
            obtain ⟨ya, yc, rfl⟩ := K.lies.form
            have n0 := K.name
            have n1 := K.kind
            have n2 := K.data
            have n3 := K.exec
            have n4 := K.kids
            have lb : b < wr.heap.size := Nat.lt_of_lt_of_le K.lt hb.size
            have lx : w4.heap.size < wr.heap.size := Nat.lt_of_lt_of_le HZ5.out hb.size
            have hb8 : Below wr.heap.size wr (wr.alloc (.cells #[.string y.2.kind, .string y.2.data, .bool y.2.exec, .slice ya y.2.kids.length yc] 24)) := (Below.refl _ _).alloc (Nat.le_refl _) _
            have hbb : ∀ w', Below (wr.alloc (.cells #[.string y.2.kind, .string y.2.data, .bool y.2.exec, .slice ya y.2.kids.length yc] 24)).heap.size (wr.alloc (.cells #[.string y.2.kind, .string y.2.data, .bool y.2.exec, .slice ya y.2.kids.length yc] 24)) w' → Below W5.heap.size W5 w' := fun w' h => hb.trans ((hb8.trans (h.mono hb8.size)).mono hb.size)
            have hwell : treeErr e0 y.2 = none := kid_well hym HE.out
            have hkok : OkItems (pre e0 ByteArray.empty 0 y.2) := kid_ok hym HOK.out
            have hklen : (pre e0 ByteArray.empty 0 y.2).length ≤ 100 := by have := kid_len (d := e0) hym; have := HLEN.out; omega
            have hLk : ∀ w', Below (wr.alloc (.cells #[.string y.2.kind, .string y.2.data, .bool y.2.exec, .slice ya y.2.kids.length yc] 24)).heap.size (wr.alloc (.cells #[.string y.2.kind, .string y.2.data, .bool y.2.exec, .slice ya y.2.kids.length yc] 24)) w' → Lies w' W5.heap.size e0 y.2.kids (.slice ya y.2.kids.length yc) := fun w' h => (K.lies.below hb8 hb.size).below h (Nat.le_trans hb.size hb8.size)
            have HKC : Hid (∀ w', Below (wr.alloc (.cells #[.string y.2.kind, .string y.2.data, .bool y.2.exec, .slice ya y.2.kids.length yc] 24)).heap.size (wr.alloc (.cells #[.string y.2.kind, .string y.2.data, .bool y.2.exec, .slice ya y.2.kids.length yc] 24)) w' → ∀ i, w'.cell? ⟨wr.heap.size, i, none⟩ = #[Value.string y.2.kind, .string y.2.data, .bool y.2.exec, .slice ya y.2.kids.length yc][i]?) := fun w' h i => by
              rw [h.cell (p := ⟨wr.heap.size, i, none⟩) (by simp), World.cell?_alloc_at _ _ _ _ rfl]
            have HKCheck : Hid (∀ w', Below (wr.alloc (.cells #[.string y.2.kind, .string y.2.data, .bool y.2.exec, .slice ya y.2.kids.length yc] 24)).heap.size (wr.alloc (.cells #[.string y.2.kind, .string y.2.data, .bool y.2.exec, .slice ya y.2.kids.length yc] 24)) w' → Calls Tryd.prog 15 #[.agg #[.string y.2.kind, .string y.2.data, .bool y.2.exec, .slice ya y.2.kids.length yc]] w' fun e w'' => e = .returned .nilIface ∧ Below (wr.alloc (.cells #[.string y.2.kind, .string y.2.data, .bool y.2.exec, .slice ya y.2.kids.length yc] 24)).heap.size (wr.alloc (.cells #[.string y.2.kind, .string y.2.data, .bool y.2.exec, .slice ya y.2.kids.length yc] 24)) w'') := fun w' h =>
              (check_any a e0 W5.heap.size y.2 (.slice ya y.2.kids.length yc) w' (HS.out w' (hbb w' h)) (hbb w' h).size (hLk w' h) (alive_ck _ 0 (by omega) hkok)).mono fun e w'' ⟨h1, h2⟩ => ⟨by rw [h1, hwell]; rfl, h.trans (h2.mono h.size)⟩
            have HKCount : Hid (∀ w', Below (wr.alloc (.cells #[.string y.2.kind, .string y.2.data, .bool y.2.exec, .slice ya y.2.kids.length yc] 24)).heap.size (wr.alloc (.cells #[.string y.2.kind, .string y.2.data, .bool y.2.exec, .slice ya y.2.kids.length yc] 24)) w' → Calls Tryd.prog 19 #[.agg #[.string y.2.kind, .string y.2.data, .bool y.2.exec, .slice ya y.2.kids.length yc]] w' fun e w'' => e = .returned (.int .i64 ((S one (pre e0 ByteArray.empty 0 y.2) : Nat) : Int)) ∧ Below (wr.alloc (.cells #[.string y.2.kind, .string y.2.data, .bool y.2.exec, .slice ya y.2.kids.length yc] 24)).heap.size (wr.alloc (.cells #[.string y.2.kind, .string y.2.data, .bool y.2.exec, .slice ya y.2.kids.length yc] 24)) w'') := fun w' h =>
              (count_any a e0 W5.heap.size y.2 (.slice ya y.2.kids.length yc) w' (HS.out w' (hbb w' h)) (hbb w' h).size (hLk w' h) (alive_ck _ 0 (by omega) hkok) (fun _ => alive_ct _ 0 (by omega) hkok)).mono fun e w'' ⟨h1, h2⟩ => ⟨by rw [h1, countOf_S hwell], h.trans (h2.mono h.size)⟩
            have HKSize : Hid (∀ w', Below (wr.alloc (.cells #[.string y.2.kind, .string y.2.data, .bool y.2.exec, .slice ya y.2.kids.length yc] 24)).heap.size (wr.alloc (.cells #[.string y.2.kind, .string y.2.data, .bool y.2.exec, .slice ya y.2.kids.length yc] 24)) w' → Calls Tryd.prog 21 #[.agg #[.string y.2.kind, .string y.2.data, .bool y.2.exec, .slice ya y.2.kids.length yc]] w' fun e w'' => e = .returned (.int .i64 ((S bytesIn (pre e0 ByteArray.empty 0 y.2) : Nat) : Int)) ∧ Below (wr.alloc (.cells #[.string y.2.kind, .string y.2.data, .bool y.2.exec, .slice ya y.2.kids.length yc] 24)).heap.size (wr.alloc (.cells #[.string y.2.kind, .string y.2.data, .bool y.2.exec, .slice ya y.2.kids.length yc] 24)) w'') := fun w' h =>
              (size_any a e0 W5.heap.size y.2 (.slice ya y.2.kids.length yc) w' (HS.out w' (hbb w' h)) (hbb w' h).size (hLk w' h) (alive_ck _ 0 (by omega) hkok) (fun _ => alive_sz _ 0 (by omega) hkok)).mono fun e w'' ⟨h1, h2⟩ => ⟨by rw [h1, sizeOf_S hwell], h.trans (h2.mono h.size)⟩
            have HKFiles : Hid (∀ w', Below (wr.alloc (.cells #[.string y.2.kind, .string y.2.data, .bool y.2.exec, .slice ya y.2.kids.length yc] 24)).heap.size (wr.alloc (.cells #[.string y.2.kind, .string y.2.data, .bool y.2.exec, .slice ya y.2.kids.length yc] 24)) w' → Calls Tryd.prog 24 #[.agg #[.string y.2.kind, .string y.2.data, .bool y.2.exec, .slice ya y.2.kids.length yc]] w' fun e w'' => ∃ va vc, e = .returned (.slice va (S isOne (pre e0 ByteArray.empty 0 y.2)) vc) ∧ Below (wr.alloc (.cells #[.string y.2.kind, .string y.2.data, .bool y.2.exec, .slice ya y.2.kids.length yc] 24)).heap.size (wr.alloc (.cells #[.string y.2.kind, .string y.2.data, .bool y.2.exec, .slice ya y.2.kids.length yc] 24)) w'') := fun w' h =>
              (files_any a e0 W5.heap.size y.2 (.slice ya y.2.kids.length yc) w' (HS.out w' (hbb w' h)) (hbb w' h).size (hLk w' h) (alive_ck _ 0 (by omega) hkok) (fun _ => alive_fl _ [] (by simp; omega) hkok)).mono fun e w'' ⟨v, h1, h2, h3⟩ => by
                obtain ⟨va, vc, hv, _⟩ := Texts.of_own h2
                refine ⟨va, vc, ?_, h.trans (h3.mono h.size)⟩
                rw [h1, hv, filesOf_S hwell]
            have HNM : Hid (nameB y.1 = true) := dir_name HE.out HDIR.out hym
            have hns : y.1.size ≤ maxLen := by have := K.size; unfold maxLen; omega
            have hu1 : Hid _ := upTo_succ one e0 hy
            have hu2 : Hid _ := upTo_succ bytesIn e0 hy
            have hu3 : Hid _ := upTo_succ isOne e0 hy
            have q1 := HB1.out (j + 1)
            have q2 := HB2.out (j + 1)
            have q3 := HB3.out (j + 1)
            rw [hu1.out] at q1
            rw [hu2.out] at q2
            rw [hu3.out] at q3
            have r8 := Below.refl (wr.alloc (.cells #[.string y.2.kind, .string y.2.data, .bool y.2.exec, .slice ya y.2.kids.length yc] 24)).heap.size (wr.alloc (.cells #[.string y.2.kind, .string y.2.data, .bool y.2.exec, .slice ya y.2.kids.length yc] 24))
            have HBB : Hid _ := hbb
            have HD3 : Hid (∀ w', Below (wr.alloc (.cells #[.string y.2.kind, .string y.2.data, .bool y.2.exec, .slice ya y.2.kids.length yc] 24)).heap.size (wr.alloc (.cells #[.string y.2.kind, .string y.2.data, .bool y.2.exec, .slice ya y.2.kids.length yc] 24)) w' → w'.cell? ⟨w4.heap.size, 3, none⟩ = some (.slice (some ⟨b, off, none⟩) t.kids.length xc) ∧ w'.cell? ⟨b, off + j * 5, none⟩ = some (.string y.1)) := fun w' h => by
              have hh := hb8.trans (h.mono hb8.size)
              exact ⟨by rw [hh.cell (p := ⟨w4.heap.size, 3, none⟩) lx]; exact d3, by rw [hh.cell (p := ⟨b, off + j * 5, none⟩) lb]; exact n0⟩
            clear K hy hym hwell hkok hklen hLk hbb hb8
            go_wp2_with fail
            refine Calls.mono (HKCheck.out _ r8) ?_
            rintro e w9 ⟨rfl, h9⟩
            have e3 := (HD3.out w9 h9).1
            have en := (HD3.out w9 h9).2
            clear n0 n1 n2 n3 n4 d3
            go_wp2_with fail
            refine (name_any y.1 _ hns).mono ?_
            rintro e w9' ⟨rfl, rfl⟩
            rw [HNM.out]
            have k0 : w9'.cell? ⟨wr.heap.size, 0, none⟩ = _ := HKC.out w9' h9 0
            have k1 : w9'.cell? ⟨wr.heap.size, 1, none⟩ = _ := HKC.out w9' h9 1
            have k2 : w9'.cell? ⟨wr.heap.size, 2, none⟩ = _ := HKC.out w9' h9 2
            have k3 : w9'.cell? ⟨wr.heap.size, 3, none⟩ = _ := HKC.out w9' h9 3
            simp only [List.getElem?_toArray, List.getElem?_cons_zero, List.getElem?_cons_succ] at k0 k1 k2 k3
            go_wp2_with fail
            refine Calls.mono (HKFiles.out _ h9) ?_
            rintro e w10 ⟨va, vc, rfl, h10⟩
            clear k0 k1 k2 k3 e3 en
            have k0 : w10.cell? ⟨wr.heap.size, 0, none⟩ = _ := HKC.out w10 h10 0
            have k1 : w10.cell? ⟨wr.heap.size, 1, none⟩ = _ := HKC.out w10 h10 1
            have k2 : w10.cell? ⟨wr.heap.size, 2, none⟩ = _ := HKC.out w10 h10 2
            have k3 : w10.cell? ⟨wr.heap.size, 3, none⟩ = _ := HKC.out w10 h10 3
            simp only [List.getElem?_toArray, List.getElem?_cons_zero, List.getElem?_cons_succ] at k0 k1 k2 k3
            go_wp2_with fail
            refine Calls.mono (HKCount.out _ h10) ?_
            rintro e w11 ⟨rfl, h11⟩
            clear k0 k1 k2 k3
            have k0 : w11.cell? ⟨wr.heap.size, 0, none⟩ = _ := HKC.out w11 h11 0
            have k1 : w11.cell? ⟨wr.heap.size, 1, none⟩ = _ := HKC.out w11 h11 1
            have k2 : w11.cell? ⟨wr.heap.size, 2, none⟩ = _ := HKC.out w11 h11 2
            have k3 : w11.cell? ⟨wr.heap.size, 3, none⟩ = _ := HKC.out w11 h11 3
            simp only [List.getElem?_toArray, List.getElem?_cons_zero, List.getElem?_cons_succ] at k0 k1 k2 k3
            go_wp2_with fail
            refine Calls.mono (HKSize.out _ h11) ?_
            rintro e w12 ⟨rfl, h12⟩
            clear k0 k1 k2 k3
            go_wp2_with fail
            go_roundw
            case rel => exact ⟨j + 1, by omega, by go_num, by rw [hu1.out]; go_num, by rw [hu2.out]; go_num, by rw [hu3.out]; go_num, HBB.out w12 h12⟩
            case measure => simp [intOf]; omega
          · have ej : t.kids.length = j := by omega
            have o1 : S one (pre (e0 + 1) ByteArray.empty 0 t) = 1 + upTo one e0 t j := by rw [upTo_all, ej]; rfl
            have o2 : S bytesIn (pre (e0 + 1) ByteArray.empty 0 t) = upTo bytesIn e0 t j := by
              rw [upTo_all, ej]
              have : bytesIn t = 0 := by unfold bytesIn; rw [dir_file HDIR.out]; rfl
              omega
            have o3 : S isOne (pre (e0 + 1) ByteArray.empty 0 t) = upTo isOne e0 t j := by
              rw [upTo_all, ej]
              have : isOne t = 0 := by unfold isOne; rw [dir_file HDIR.out]; rfl
              omega
            have HXCount : Hid (∀ w', Below W5.heap.size W5 w' → Calls Tryd.prog 19 #[.agg #[.string t.kind, .string t.data, .bool t.exec, .slice xa t.kids.length xc]] w' fun e w'' => e = .returned (.int .i64 ((1 + upTo one e0 t j : Nat) : Int)) ∧ Below W5.heap.size W5 w'') := fun w' h =>
              (HCOUNT.out w' h).mono fun e w'' ⟨h1, h2⟩ => ⟨by rw [h1, countOf_S HE.out, o1], h2⟩
            have HXSize : Hid (∀ w', Below W5.heap.size W5 w' → Calls Tryd.prog 21 #[.agg #[.string t.kind, .string t.data, .bool t.exec, .slice xa t.kids.length xc]] w' fun e w'' => e = .returned (.int .i64 ((upTo bytesIn e0 t j : Nat) : Int)) ∧ Below W5.heap.size W5 w'') := fun w' h =>
              (size_any a (e0 + 1) W5.heap.size t (.slice xa t.kids.length xc) w' (HS.out w' h) h.size (HLI.out w' h) (alive_ck _ 0 (by omega) HOK.out) (fun _ => alive_sz _ 0 (by have := HLEN.out; omega) HOK.out)).mono fun e w'' ⟨h1, h2⟩ => ⟨by rw [h1, sizeOf_S HE.out, o2], h.trans (h2.mono h.size)⟩
            have HXFiles : Hid (∀ w', Below W5.heap.size W5 w' → Calls Tryd.prog 24 #[.agg #[.string t.kind, .string t.data, .bool t.exec, .slice xa t.kids.length xc]] w' fun e w'' => ∃ va vc, e = .returned (.slice va (upTo isOne e0 t j) vc) ∧ Below W5.heap.size W5 w'') := fun w' h =>
              (files_any a (e0 + 1) W5.heap.size t (.slice xa t.kids.length xc) w' (HS.out w' h) h.size (HLI.out w' h) (alive_ck _ 0 (by omega) HOK.out) (fun _ => alive_fl _ [] (by simp; have := HLEN.out; omega) HOK.out)).mono fun e w'' ⟨v, h1, h2, h3⟩ => by
                obtain ⟨va, vc, hv, _⟩ := Texts.of_own h2
                refine ⟨va, vc, ?_, h.trans (h3.mono h.size)⟩
                rw [h1, hv, filesOf_S HE.out, o3]
            clear ej o1 o2 o3 d3
            have d0 : wr.cell? ⟨w4.heap.size, 0, none⟩ = _ := HCELL.out wr hb 0
            have d1 : wr.cell? ⟨w4.heap.size, 1, none⟩ = _ := HCELL.out wr hb 1
            have d2 : wr.cell? ⟨w4.heap.size, 2, none⟩ = _ := HCELL.out wr hb 2
            have d3 : wr.cell? ⟨w4.heap.size, 3, none⟩ = _ := HCELL.out wr hb 3
            simp only [List.getElem?_toArray, List.getElem?_cons_zero, List.getElem?_cons_succ] at d0 d1 d2 d3
            go_wp2_with fail
            refine Calls.mono (HXFiles.out _ hb) ?_
            rintro e w9 ⟨va, vc, rfl, h9⟩
            clear d0 d1 d2 d3
            have d0 : w9.cell? ⟨w4.heap.size, 0, none⟩ = _ := HCELL.out w9 h9 0
            have d1 : w9.cell? ⟨w4.heap.size, 1, none⟩ = _ := HCELL.out w9 h9 1
            have d2 : w9.cell? ⟨w4.heap.size, 2, none⟩ = _ := HCELL.out w9 h9 2
            have d3 : w9.cell? ⟨w4.heap.size, 3, none⟩ = _ := HCELL.out w9 h9 3
            simp only [List.getElem?_toArray, List.getElem?_cons_zero, List.getElem?_cons_succ] at d0 d1 d2 d3
            go_wp2_with fail
            refine Calls.mono (HXCount.out _ h9) ?_
            rintro e w10 ⟨rfl, h10⟩
            clear d0 d1 d2 d3
            have d0 : w10.cell? ⟨w4.heap.size, 0, none⟩ = _ := HCELL.out w10 h10 0
            have d1 : w10.cell? ⟨w4.heap.size, 1, none⟩ = _ := HCELL.out w10 h10 1
            have d2 : w10.cell? ⟨w4.heap.size, 2, none⟩ = _ := HCELL.out w10 h10 2
            have d3 : w10.cell? ⟨w4.heap.size, 3, none⟩ = _ := HCELL.out w10 h10 3
            simp only [List.getElem?_toArray, List.getElem?_cons_zero, List.getElem?_cons_succ] at d0 d1 d2 d3
            go_wp2_with fail
            refine Calls.mono (HXSize.out _ h10) ?_
            rintro e w11 ⟨rfl, h11⟩
            clear d0 d1 d2 d3
            go_wp2_with fail
            go_ret
            exact ⟨rfl, HBW5.out.trans (h11.mono HBW5.out.size)⟩
  · have HLG : Hid (Calls Tryd.prog 10 #[.agg #[.string t.kind, .string t.data, .bool t.exec, .slice ta t.kids.length tc], .int .i64 100] w2 fun e w' => e = .returned (.int .i64 1) ∧ Below w2.heap.size w2 w') := by
      rw [largeN_yes hlg] at hLg
      exact hLg
    clear hLg hlg
    go_wp2_with fail
    refine Calls.mono HLG.out ?_
    rintro e w3 ⟨rfl, hb3⟩
    go_wp2_with fail
    go_ret
    exact ⟨rfl, HBW.out.trans (hb3.mono HBW.out.size)⟩
end Go.Proofs.YtilkjafggfdjeaaDoor
