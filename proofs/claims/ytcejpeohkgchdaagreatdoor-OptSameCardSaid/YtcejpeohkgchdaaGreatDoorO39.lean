/-
  The contract of the law's longTrees.
  Trees that are not too large: their nodes' bounds; a dir of a file; boxes in memory.
  Dirs between acts: puts, drops and shares, one after another.
  Conditions: those that each states.
-/
import Derived.Test.YtcejpeohkgchdaaGreatDoorO38
import Derived.Test.YtcejpeohkgchdaaGreatDoorO32
namespace Go.Proofs.YtcejpeohkgchdaaGreatDoor
open Go.RowKit Go.Maps

/-- Acts that are not too many, or too large. -/
def ShortT (l : List TAct) : Prop := l.length ≤ 25 ∧ ∀ a ∈ l, largeB 40 a.node = false ∧ a.path.size ≤ 100 ∧ a.s.size ≤ 120

set_option maxRecDepth 100000 in
set_option maxHeartbeats 1000000 in
theorem longTrees_any (d : Nat) (l : List TAct) (v : Value) (w : World) (h : TActsIn w d l v) :
    Calls Tryz.prog 19 #[v] w fun e w' => (∃ r, e = .returned (.bool r) ∧ (r = false → ShortT l)) ∧ Below w.heap.size w w' := by
  obtain ⟨ad, cap, rfl, hms, hc⟩ := h
  have HC : Hid (∀ (i : Nat) (a : TAct), l[i]? = some a → ∃ b off ua uc, a.path.size ≤ maxLen ∧ a.s.size ≤ maxLen ∧ ad = some ⟨b, off, none⟩ ∧ ∀ W, Below w.heap.size w W → W.cell? ⟨b, off + i * 10 + 1, none⟩ = some (.string a.path) ∧ W.cell? ⟨b, off + i * 10 + 2, none⟩ = some (.string a.s) ∧ W.cell? ⟨b, off + i * 10 + 3, none⟩ = some (.string a.node.kind) ∧ W.cell? ⟨b, off + i * 10 + 3 + 1, none⟩ = some (.string a.node.data) ∧ W.cell? ⟨b, off + i * 10 + 3 + 2, none⟩ = some (.bool a.node.exec) ∧ W.cell? ⟨b, off + i * 10 + 3 + 3, none⟩ = some (.slice ua a.node.kids.length uc) ∧ Calls Tryz.prog 32 #[.agg #[.string a.node.kind, .string a.node.data, .bool a.node.exec, .slice ua a.node.kids.length uc], .int .i64 40] W fun e w' => ∃ z : Int, e = .returned (.int .i64 z) ∧ ((z = 1 ∨ z = 0) ∧ (z = 0 → largeB 40 a.node = false)) ∧ Below W.heap.size W w') := fun i a ha => by
    obtain ⟨b, off, u, e, hb, A⟩ := hc i a ha
    obtain ⟨_, m1, m2, _⟩ := hms a (List.mem_of_getElem? ha)
    obtain ⟨ua, uc, rfl⟩ := A.lies.form
    refine ⟨b, off, ua, uc, m1, m2, e, fun W hW => ?_⟩
    have hcl : ∀ o, W.cell? ⟨b, o, none⟩ = w.cell? ⟨b, o, none⟩ := fun o => hW.cell (p := ⟨b, o, none⟩) hb
    refine ⟨(hcl _).trans A.path, (hcl _).trans A.s, (hcl _).trans A.nkind, (hcl _).trans A.ndata, (hcl _).trans A.nexec, (hcl _).trans A.nkids, ?_⟩
    refine (large_any w.heap.size d 40 a.node _ W hW.size (A.lies.below hW (Nat.le_refl _)) (by omega)).mono fun e w' ⟨he, hb'⟩ => ⟨largeN 40 a.node, he, ?_, hb'⟩
    cases hL : largeB 40 a.node with
    | true => rw [largeN_yes hL]; exact ⟨.inl rfl, fun h => absurd h (by decide)⟩
    | false => rw [largeN_no hL]; exact ⟨.inr rfl, fun _ => rfl⟩
  clear hc hms
  by_cases h25 : l.length ≤ 25
  · have h25i : ¬ (25 : Int) < (l.length : Int) := by omega
    go_enter Tryz.func19, Tryz.ntmps19
    go_wp2_with fail
    go_loopw [3] (fun i wr => ∃ j : Nat, j ≤ l.length ∧ i = .int .i64 j ∧ Below w.heap.size w wr ∧ ∀ a ∈ l.take j, largeB 40 a.node = false ∧ a.path.size ≤ 100 ∧ a.s.size ≤ 120) (fun i _ => l.length - (intOf i).toNat)
    case atStart => exact ⟨0, Nat.zero_le _, rfl, Below.refl _ _, fun a h => by simp at h⟩
    case round =>
      obtain ⟨j, hj, rfl, hb, ha⟩ := hrel
      have HA : Hid (∀ a ∈ l.take j, largeB 40 a.node = false ∧ a.path.size ≤ 100 ∧ a.s.size ≤ 120) := ha
      have HB : Hid (Below w.heap.size w wr) := hb
      clear ha hb
      by_cases hlt : j < l.length
      · obtain ⟨a, hx⟩ : ∃ a, l[j]? = some a := ⟨_, List.getElem?_eq_getElem hlt⟩
        obtain ⟨b, off, ua, uc, m1, m2, rfl, hW⟩ := HC.out j a hx
        obtain ⟨c1, c2, c3, c4, c5, c6, hL⟩ := hW wr HB.out

        have HW : Hid (∀ W, Below w.heap.size w W → W.cell? ⟨b, off + j * 10 + 1, none⟩ = some (.string a.path) ∧ W.cell? ⟨b, off + j * 10 + 2, none⟩ = some (.string a.s)) := fun W h => ⟨(hW W h).1, (hW W h).2.1⟩
        have HN : Hid ((largeB 40 a.node = false ∧ a.path.size ≤ 100 ∧ a.s.size ≤ 120) → ∀ x ∈ l.take (j + 1), largeB 40 x.node = false ∧ x.path.size ≤ 100 ∧ x.s.size ≤ 120) := fun h x hx2 => by
          obtain ⟨hk, e⟩ := List.getElem?_eq_some_iff.1 hx
          rw [List.take_succ_eq_append_getElem hk, e, List.mem_append, List.mem_singleton] at hx2
          rcases hx2 with h2 | rfl
          · exact HA.out x h2
          · exact h
        clear hx hW c1 c2 HA
        go_wp2_with (go_at_call 32; (refine Calls.mono hL ?_; rintro e w2 ⟨z, rfl, hz, hb2⟩; (have HZ : Hid ((z = 1 ∨ z = 0) ∧ (z = 0 → largeB 40 a.node = false)) := hz); (have HB2 : Hid (Below w.heap.size w w2) := HB.out.trans (hb2.mono HB.out.size)); (obtain ⟨p1, p2⟩ := HW.out w2 HB2.out); clear hz hL HW c3 c4 c5 c6 hb2))
        · go_ret
          exact ⟨⟨true, rfl, fun h => by cases h⟩, HB2.out⟩
        · rename_i h1 h2 h3
          exact ⟨⟨j + 1, by omega, by simp, HB2.out, HN.out ⟨HZ.out.2 (by have := HZ.out.1; omega), by omega, by omega⟩⟩, by simp [intOf]; omega⟩
        · go_ret
          exact ⟨.inr rfl, HB2.out⟩
        · go_ret
          exact ⟨.inr rfl, HB2.out⟩
      · obtain rfl : j = l.length := by omega
        rw [List.take_length] at HA
        go_wp2_with fail
        go_ret
        exact ⟨⟨false, rfl, fun _ => ⟨h25, HA.out⟩⟩, HB.out⟩
  · have h25i : (25 : Int) < (l.length : Int) := by omega
    go_enter Tryz.func19, Tryz.ntmps19
    go_wp2_with fail
    go_ret
    exact ⟨⟨true, rfl, fun h => by cases h⟩, Below.refl _ _⟩
end Go.Proofs.YtcejpeohkgchdaaGreatDoor
namespace Go.Proofs.YtcejpeohkgchdaaGreatDoor
open Go.RowKit

theorem pre_path : ∀ (d : Nat) (p : ByteArray) (k : Nat) (t : Tree), (∀ x ∈ pre d p k t, ∀ y ∈ x.2.2.kids, y.1.size ≤ 30) → ∀ x ∈ pre d p k t, k ≤ x.2.1 ∧ x.1.size + 31 * k ≤ p.size + 31 * x.2.1
  | 0, _, _, _, _, x, hx => by simp [pre] at hx
  | d + 1, p, k, t, h, x, hx => by
    simp only [pre] at hx h
    rcases List.mem_cons.1 hx with rfl | hx
    · exact ⟨Nat.le_refl _, Nat.le_refl _⟩
    · obtain ⟨y, hy, hx⟩ := List.mem_flatMap.1 hx
      have hn := h (p, k, t) List.mem_cons_self y hy
      have ih := pre_path d (p ++ slash ++ y.1) (k + 1) y.2 (fun z hz => h z (List.mem_cons_of_mem _ (List.mem_flatMap.2 ⟨y, hy, hz⟩))) x hx
      simp only [ByteArray.size_append] at ih
      have e : slash.size = 1 := rfl
      exact ⟨by omega, by omega⟩
theorem small_ok {most d : Nat} {t : Tree} (hd : Fit d t) (h : largeB most t = false) : OkItems (pre d ByteArray.empty 0 t) ∧ (pre d ByteArray.empty 0 t).length ≤ most := by
  have e := pre_eq hd h
  unfold largeB at h
  simp only [Bool.or_eq_false_iff, decide_eq_false_iff_not] at h
  have hit : ∀ x ∈ pre d ByteArray.empty 0 t, ¬ (11 < x.2.1 ∨ (100 < x.2.2.data.size ∧ x.2.2.data.size ≠ 2001) ∨ 20 < x.2.2.kind.size) ∧ ∀ y ∈ x.2.2.kids, y.1.size ≤ 30 := fun x hx => by
    rw [e] at hx
    have h1 := List.any_eq_false.1 h.2 x hx
    unfold itemLarge at h1
    simp only [Bool.or_eq_true, decide_eq_true_eq, not_or] at h1
    refine ⟨by omega, fun y hy => ?_⟩
    have h2 : x.2.2.kids.any longName = false := by simpa using h1.2
    have h3 := List.any_eq_false.1 h2 y hy
    unfold longName at h3
    simp only [decide_eq_true_eq] at h3
    omega
  refine ⟨fun x hx => ?_, by rw [e]; omega⟩
  have h1 := (hit x hx).1
  have h2 := (pre_path d ByteArray.empty 0 t (fun z hz => (hit z hz).2) x hx).2
  have e0 : ByteArray.empty.size = 0 := rfl
  exact ⟨by unfold maxLen; omega, by omega, by omega⟩
theorem largeN_bounds (n : Nat) (t : Tree) : 0 ≤ largeN n t ∧ largeN n t ≤ 1 := by
  unfold largeN
  split <;> omega
theorem largeN_zero {n : Nat} {t : Tree} (h : largeN n t = 0) : largeB n t = false := by
  cases hl : largeB n t
  · rfl
  · rw [largeN_yes hl] at h; omega
theorem keeps {W w' : World} (h : Below W.heap.size W w') {b : Nat} (hb : b < W.heap.size) (i : Nat) : w'.cell? ⟨b, i, none⟩ = W.cell? ⟨b, i, none⟩ := h.cell (p := ⟨b, i, none⟩) hb
theorem box_cells (w : World) (k d : ByteArray) (x : Bool) (ad : Option Addr) (n c : Nat) : (w.alloc (.cells #[.string k, .string d, .bool x, .slice ad n c] 57)).cell? ⟨w.heap.size, 0, none⟩ = some (.string k) ∧ (w.alloc (.cells #[.string k, .string d, .bool x, .slice ad n c] 57)).cell? ⟨w.heap.size, 1, none⟩ = some (.string d) ∧ (w.alloc (.cells #[.string k, .string d, .bool x, .slice ad n c] 57)).cell? ⟨w.heap.size, 2, none⟩ = some (.bool x) ∧ (w.alloc (.cells #[.string k, .string d, .bool x, .slice ad n c] 57)).cell? ⟨w.heap.size, 3, none⟩ = some (.slice ad n c) := by
  have h : ∀ i, (w.alloc (.cells #[.string k, .string d, .bool x, .slice ad n c] 57)).cell? ⟨w.heap.size, i, none⟩ = #[Value.string k, .string d, .bool x, .slice ad n c][i]? := fun i => World.cell?_alloc_at _ _ _ _ rfl
  exact ⟨h 0, h 1, h 2, h 3⟩
theorem box_keeps {W w' : World} (h : Below W.heap.size W w') {b : Nat} (hb : b < W.heap.size) {k d : ByteArray} {x : Bool} {v : Value}
    (hc : W.cell? ⟨b, 0, none⟩ = some (.string k) ∧ W.cell? ⟨b, 1, none⟩ = some (.string d) ∧ W.cell? ⟨b, 2, none⟩ = some (.bool x) ∧ W.cell? ⟨b, 3, none⟩ = some v) :
    w'.cell? ⟨b, 0, none⟩ = some (.string k) ∧ w'.cell? ⟨b, 1, none⟩ = some (.string d) ∧ w'.cell? ⟨b, 2, none⟩ = some (.bool x) ∧ w'.cell? ⟨b, 3, none⟩ = some v := by
  simp only [keeps h hb]
  exact hc
/-- A dir of a file. -/
def aFile : Tree := { kind := { data := #[102, 105, 108, 101] }, data := { data := #[120, 121] }, exec := false, kids := [] }
def aDir : Tree := { kind := { data := #[100, 105, 114] }, data := { data := #[] }, exec := false, kids := [({ data := #[97] }, aFile)] }
theorem aDir_err : treeErr 2 aDir = none := by kernel_rfl
theorem aDir_ok : OkItems (pre 2 ByteArray.empty 0 aDir) := fun x hx => by
  have e : pre 2 ByteArray.empty 0 aDir = [(ByteArray.empty, 0, aDir), (ByteArray.empty ++ slash ++ { data := #[97] }, 1, aFile)] := rfl
  rw [e] at hx
  simp only [List.mem_cons, List.not_mem_nil, or_false] at hx
  rcases hx with rfl | rfl
  · exact ⟨by decide, by decide, by decide⟩
  · exact ⟨by decide, by decide, by decide⟩
end Go.Proofs.YtcejpeohkgchdaaGreatDoor
namespace Go.Proofs.YtcejpeohkgchdaaGreatDoor
open Go.RowKit Go.Maps

/-- A tree has as many levels as its nodes tell. -/
theorem fit_levels : ∀ (d f k : Nat) (p : ByteArray) (t : Tree), Fit d t → (∀ x ∈ pre d p k t, x.2.1 < k + f) → Fit f t ∧ pre f p k t = pre d p k t
  | 0, _, _, _, _, h, _ => absurd h (by simp [Fit])
  | d + 1, f, k, p, t, hfit, hx => by
    have h0 := hx (p, k, t) (by simp [pre])
    simp only at h0
    obtain ⟨g, rfl⟩ : ∃ g, f = g + 1 := ⟨f - 1, by omega⟩
    have ih : ∀ y ∈ t.kids, Fit g y.2 ∧ pre g (p ++ slash ++ y.1) (k + 1) y.2 = pre d (p ++ slash ++ y.1) (k + 1) y.2 := fun y hy =>
      fit_levels d g (k + 1) (p ++ slash ++ y.1) y.2 (hfit y hy) fun x hx' => by
        have := hx x (by simp only [pre, List.mem_cons, List.mem_flatMap]; exact .inr ⟨y, hy, hx'⟩)
        omega
    refine ⟨fun y hy => (ih y hy).1, ?_⟩
    simp only [pre]
    congr 1
    rw [List.flatMap_def, List.flatMap_def, List.map_congr_left fun y hy => (ih y hy).2]
theorem flat_le {α β γ : Type} (f : α → List β) (g : α → List γ) : ∀ l : List α, (∀ x ∈ l, (f x).length ≤ (g x).length) → (l.flatMap f).length ≤ (l.flatMap g).length
  | [], _ => Nat.le_refl _
  | x :: l, h => by
    have h1 := h x List.mem_cons_self
    have h2 := flat_le f g l fun y hy => h y (List.mem_cons_of_mem _ hy)
    simp only [List.flatMap_cons, List.length_append]
    omega
theorem filesL_len : ∀ (d : Nat) (p p' : ByteArray) (k : Nat) (t : Tree), (filesL d p t).length ≤ (pre d p' k t).length
  | 0, _, _, _, _ => Nat.le_refl _
  | d + 1, p, p', k, t => by
    rw [filesL, pre]
    split
    · simp
    · rw [List.length_cons]
      exact Nat.le_succ_of_le (flat_le _ _ _ fun x _ => filesL_len d _ _ _ _)
/-- A small tree. -/
structure SmT (d : Nat) (t : Tree) : Prop where
  fit : Fit (d + 1) t
  ok : OkItems (pre (d + 1) ByteArray.empty 0 t)
  few : (pre (d + 1) ByteArray.empty 0 t).length ≤ 40
theorem SmT.of {n most : Nat} {t : Tree} (hf : Fit n t) (h : largeB most t = false) (hm : most ≤ 40) : SmT 11 t := by
  have e := pre_eq hf h
  obtain ⟨h1, h2⟩ := small_ok hf h
  unfold largeB at h
  simp only [Bool.or_eq_false_iff, decide_eq_false_iff_not] at h
  obtain ⟨h3, h4⟩ := fit_levels n 12 0 ByteArray.empty t hf fun x hx => by
    rw [e] at hx
    have h1 := List.any_eq_false.1 h.2 x hx
    unfold itemLarge at h1
    simp only [Bool.or_eq_true, decide_eq_true_eq, not_or] at h1
    omega
  refine ⟨h3, ?_, ?_⟩
  · show OkItems (pre 12 ByteArray.empty 0 t)
    rw [h4]; exact h1
  · show (pre 12 ByteArray.empty 0 t).length ≤ 40
    rw [h4]; omega
theorem SmT.files {d : Nat} {t : Tree} (h : SmT d t) : (filesT (d + 1) t).length ≤ 40 := Nat.le_trans (filesL_len _ _ ByteArray.empty 0 _) h.few
theorem SmT.alive {d : Nat} {t : Tree} (h : SmT d t) : Alive ck ckOk 0 (pre (d + 1) ByteArray.empty 0 t) := alive_ck _ 0 (by omega) h.ok
theorem well_nodes {d : Nat} {t : Tree} (h : treeErr d t = none) : ∀ x ∈ pre d ByteArray.empty 0 t, nodeErr x.2.2 = none := fun y hy => ((treeErr_none.1 h).2 y hy).2
theorem well_good {d : Nat} {t : Tree} (h : treeErr d t = none) : GoodT d t := good_of (p := ByteArray.empty) (k := 0) (well_nodes h)
theorem well_small {d : Nat} {t : Tree} (h : treeErr d t = none) (hd : d ≤ 1000) : ∀ x ∈ filesT d t, x.2.data.size ≤ 2000 ∧ x.1.size ≤ 20000 := fun x hx => by
  have h1 := files_small (p := { data := #[] }) (p' := ByteArray.empty) (k := 0) (well_nodes h) x hx
  refine ⟨h1.1, ?_⟩
  have e : (ByteArray.mk #[]).size = 0 := rfl
  have := h1.2
  rw [e] at this
  omega
theorem needL_le : ∀ {l : List (ByteArray × Tree)}, (∀ x ∈ l, x.2.data.size ≤ 2000) → needL l ≤ 126 * l.length
  | [], _ => Nat.le_refl _
  | x :: l, h => by
    have h1 := h x List.mem_cons_self
    have h2 := needL_le fun y hy => h y (List.mem_cons_of_mem _ hy)
    have e : needL (x :: l) = needN x.2.data.size + needL l := by simp [needL]
    rw [e, List.length_cons]
    unfold needN
    omega
theorem refsO_len (D : Nat) (o : Option NTree) (t : Tree) : (refsO D o t).length ≤ (filesT D t).length := by
  unfold refsO
  cases o with
  | none => exact Nat.zero_le _
  | some x => simp only [refs, List.length_zipWith]; exact Nat.min_le_right _ _
theorem refsA_len {D M : Nat} : ∀ {tr : List (Option NTree)} {pt : List Tree}, (∀ t ∈ pt, (filesT D t).length ≤ M) → (refsA D tr pt).length ≤ M * pt.length
  | [], pt, _ => by simp [refsA]
  | _ :: _, [], _ => by simp [refsA]
  | o :: tr, t :: pt, h => by
    have h1 := h t List.mem_cons_self
    have h2 := refsA_len (tr := tr) fun y hy => h y (List.mem_cons_of_mem _ hy)
    have h3 := refsO_len D o t
    have e : refsA D (o :: tr) (t :: pt) = refsO D o t ++ refsA D tr pt := rfl
    rw [e, List.length_append, List.length_cons, Nat.mul_succ]
    omega
/-- What is there can be read. -/
theorem LInv.crc {N D : Nat} {s : TSt} {tr : List (Option NTree)} {pt : List Tree} (I : LInv N D s tr pt) {q : Nat} {y : Ino} (hy : slotT s.tab q = some y) : crcR (readD s.bl y.blocks y.bytes) = y.sum ∧ y.links ≤ (refsA D tr pt).length := by
  have hl := I.rf.links q y hy
  have h1 := (I.rf.sp.own q y hy).2.2.1
  have hm : q ∈ (refsA D tr pt).map (·.1) := List.count_pos_iff.1 (by omega)
  obtain ⟨r, hr, rfl⟩ := List.mem_map.1 hm
  obtain ⟨y', e1, e2, _, e4⟩ := I.rf.held r hr
  rw [hy] at e1
  cases e1
  refine ⟨by rw [e2, e4], ?_⟩
  rw [hl]
  exact Nat.le_trans List.count_le_length (by rw [List.length_map]; exact Nat.le_refl _)
theorem LInv.there {N D : Nat} {s : TSt} {tr : List (Option NTree)} {pt : List Tree} (I : LInv N D s tr pt) {k : Nat} {x : NTree} {p : ByteArray} {was : Nat} (hx : ntI tr (k : Int) = some x) (hp : findF x.fs p = some was) : ∃ y, slotT s.tab was = some y := by
  obtain ⟨t, ht, _, _, _, hfs⟩ := I.tree k x hx
  obtain ⟨R, hp1, _⟩ := refsA_set (D := D) none hx ht I.len
  have hlen : x.fs.length = (filesT D t).length := by have := congrArg List.length hfs; simpa using this
  have hm : was ∈ (refs x.fs (filesT D t)).map (·.1) := by
    rw [refs_fst hlen]
    exact List.mem_map.2 ⟨_, findF_mem x.fs hp, rfl⟩
  obtain ⟨r, hr, rfl⟩ := List.mem_map.1 hm
  obtain ⟨y, e1, _⟩ := I.rf.held r (hp1.mem_iff.2 (List.mem_append_left _ hr))
  exact ⟨y, e1⟩

/-- The sentinels that dirs hand back. -/
structure DSn (a : Nat → Addr) (w : World) : Prop where
  P : PSen a w
  sum : ∃ es, w.cell? ⟨2, 0, none⟩ = some es
  gB : ∃ cs ty, w.heap[4]? = some (.cells cs ty (0, 0)) ∧ trTy (.cells cs ty (0, 0)) = false
  gS : ∃ cs ty, w.heap[2]? = some (.cells cs ty (0, 0)) ∧ trTy (.cells cs ty (0, 0)) = false
/-- Dirs behind so many acts. -/
structure DSt (w0 : World) (N d dp tb bb sp sb cap mb m1 m2 j : Nat) (s : TSt) (tr : List (Option NTree)) (pt : List Tree) (w : World) : Prop where
  D : ∃ n1 fb, n1 ≤ j ∧ DirAt w w0.heap.size dp tb mb m1 m2 n1 d tr fb
  T : ∃ n, n ≤ 40 * j ∧ TbAt w (fun _ => False) w0.heap.size tb bb sp sb cap mb n s.bl s.u s.tab
  I : LInv N (d + 1) s tr pt
  few : pt.length ≤ j ∧ ∀ t ∈ pt, SmT d t
  low : Below w0.heap.size w0 w
section
variable {a : Nat → Addr} {w0 W : World} {N d dp tb bb sp sb cap mb m1 m2 j : Nat} {s : TSt} {tr : List (Option NTree)} {pt : List Tree}
theorem DSt.below {W' : World} (S : DSt w0 N d dp tb bb sp sb cap mb m1 m2 j s tr pt W) (h : Below W.heap.size W W') : DSt w0 N d dp tb bb sp sb cap mb m1 m2 j s tr pt W' := by
  obtain ⟨⟨n1, fb, h1, D⟩, ⟨n, h2, T⟩, I, f, b⟩ := S
  exact ⟨⟨n1, fb, h1, D.below h⟩, ⟨n, h2, T.below h⟩, I, f, b.trans (h.mono b.size)⟩
theorem DSt.up {j' : Nat} (S : DSt w0 N d dp tb bb sp sb cap mb m1 m2 j s tr pt W) (h : j ≤ j') : DSt w0 N d dp tb bb sp sb cap mb m1 m2 j' s tr pt W := by
  obtain ⟨⟨n1, fb, h1, D⟩, ⟨n, h2, T⟩, I, f, b⟩ := S
  exact ⟨⟨n1, fb, by omega, D⟩, ⟨n, by omega, T⟩, I, ⟨by have := f.1; omega, f.2⟩, b⟩
theorem DSt.refs (S : DSt w0 N d dp tb bb sp sb cap mb m1 m2 j s tr pt W) (hj : j ≤ 1000) : (refsA (d + 1) tr pt).length ≤ 40000 := by
  have h1 := refsA_len (D := d + 1) (M := 40) (tr := tr) (pt := pt) fun t ht => (S.few.2 t ht).files
  have h2 := S.few.1
  have h3 : 40 * pt.length ≤ 40 * 1000 := Nat.mul_le_mul_left _ (by omega)
  omega
theorem DSt.sents (S : DSt w0 N d dp tb bb sp sb cap mb m1 m2 j s tr pt W) (E : DSn a w0) : PSen a W ∧ SentsB a W.heap.size W := by
  have P := E.P.below S.low
  exact ⟨P, P.is.atB⟩
theorem DSt.row (S : DSt w0 N d dp tb bb sp sb cap mb m1 m2 j s tr pt W) {g : Nat} {o : Obj} (h : w0.heap[g]? = some o) : W.heap[g]? = some o := (S.low.block g (Array.getElem?_eq_some_iff.1 h).1).trans h
theorem DSt.cell (S : DSt w0 N d dp tb bb sp sb cap mb m1 m2 j s tr pt W) {g : Nat} {v : Value} (h : w0.cell? ⟨g, 0, none⟩ = some v) : W.cell? ⟨g, 0, none⟩ = some v := (S.low.cell (p := ⟨g, 0, none⟩) (World.block_lt_of_cell? w0 _ h)).trans h

theorem ds_put (E : DSn a w0) (S : DSt w0 N d dp tb bb sp sb cap mb m1 m2 j s tr pt W) (hj : j ≤ 1000) (hd : d ≤ 900) (t : Tree) (ad : Option Addr) (cp : Nat) (Qa : Nat → Prop) (hO : OwnT W Qa (d + 1) t.kids (.slice ad t.kids.length cp)) (hQa : ∀ q, Qa q → q < W.heap.size) (hs : SmT d t) :
    Calls Tryz.prog 21 #[.pointer (some ⟨dp, 0, none⟩), .agg #[.string t.kind, .string t.data, .bool t.exec, .slice ad t.kids.length cp]] W fun e w' => PBut w0.heap.size dp W w' ∧ ((∃ p, e = .returned (.tuple #[.int .i64 0, .iface 316 p]) ∧ DSt w0 N d dp tb bb sp sb cap mb m1 m2 (j + 1) s tr pt w') ∨
      (e = .returned (.tuple #[.int .i64 (pt.length : Int), .nilIface]) ∧ treeErr (d + 1) t = none ∧ DSt w0 N d dp tb bb sp sb cap mb m1 m2 (j + 1) (mkL s (filesT (d + 1) t)) (tr ++ [some ⟨bareT (d + 1) t, inoL s (filesT (d + 1) t)⟩]) (pt ++ [t]) w')) := by
  obtain ⟨PS, SB⟩ := S.sents E
  cases hck : treeErr (d + 1) t with
  | some c =>
    refine (dput_err a t ad cp Qa c hO hQa hs.alive hck SB (.pointer (some ⟨dp, 0, none⟩))).mono fun e w' ⟨he, hb⟩ => ⟨.of_below hb, .inl ⟨_, he, (S.below hb).up (by omega)⟩⟩
  | none =>
    obtain ⟨n1, fb, hn1, D⟩ := S.D
    obtain ⟨n, hn, T⟩ := S.T
    have hG := well_good hck
    have hsz := well_small hck (by omega)
    have hfl := hs.files
    by_cases hroom : needL (filesT (d + 1) t) ≤ (freeR s.u).length
    · refine (dput_ok a t ad cp Qa hO hQa hs.alive hck hG (by omega) (fun x hx => ⟨(hsz x hx).1, Nat.le_trans (hsz x hx).2 (by unfold maxLen; decide)⟩) (by omega) hroom D T S.I.rf.sp SB S.low.size (by omega) (by rw [S.I.len]; have := S.few.1; omega) (S.cell E.P.is.bound) (World.block_lt_of_cell? w0 _ E.P.is.bound) (by obtain ⟨cs, ty, h1, h2⟩ := E.gB; exact ⟨cs, ty, S.row h1, h2⟩)).mono ?_
      rintro e w' ⟨he, ⟨fb', D'⟩, T', _, hP⟩
      refine ⟨hP, .inr ⟨by rw [← S.I.len]; exact he, rfl, ⟨n1 + 1, fb', by omega, D'⟩, ⟨_, by omega, T'⟩, S.I.put hck hs.fit hroom, ⟨by rw [List.length_append, List.length_singleton]; have := S.few.1; omega, fun x hx => ?_⟩, hP.low S.low (Nat.le_refl _) D.low.1⟩⟩
      rcases List.mem_append.1 hx with h | h
      · exact S.few.2 x h
      · rw [List.mem_singleton.1 h]; exact hs
    · have hN := needL_le fun x hx => (hsz x hx).1
      refine (dput_full a t ad cp Qa hO hQa hs.alive hck hG (by omega) (fun x hx => (hsz x hx).1) (by omega) (by omega) D T SB _ PS.is.full).mono ?_
      rintro e w' ⟨he, hb⟩
      exact ⟨.of_below hb, .inl ⟨_, he, (S.below hb).up (by omega)⟩⟩
theorem ds_drop (E : DSn a w0) (S : DSt w0 N d dp tb bb sp sb cap mb m1 m2 j s tr pt W) (hj : j ≤ 1000) (k : Int) (hk : (Lit.int .i64 k).wf = true) :
    Calls Tryz.prog 23 #[.pointer (some ⟨dp, 0, none⟩), .int .i64 k] W fun e w' => ∃ v s' tr', e = .returned v ∧ DSt w0 N d dp tb bb sp sb cap mb m1 m2 j s' tr' pt w' ∧ PBut w0.heap.size dp W w' := by
  obtain ⟨PS, SB⟩ := S.sents E
  obtain ⟨n1, fb, hn1, D⟩ := S.D
  cases hx : ntI tr k with
  | none => exact (ddrop_none k hk D hx PS.no).mono fun e w' ⟨he, hb⟩ => ⟨_, s, tr, he, S.below hb, .of_below hb⟩
  | some x =>
    obtain ⟨k, rfl, hx⟩ := ntI_some hx
    obtain ⟨n, hn, T⟩ := S.T
    obtain ⟨hc, hnd⟩ := S.I.cnt hx (Nat.le_trans (S.refs hj) (by omega))
    refine (ddrop_any k x hk D T S.I.rf.sp hx hnd hc PS.is.bound PS.no ⟨World.block_lt_of_cell? w0 _ E.P.is.bound, World.block_lt_of_cell? w0 _ E.P.no⟩).mono ?_
    rintro e w' ⟨he, l, hl, D', T', _, hP⟩
    exact ⟨_, unlL s l, tr.set k none, he, ⟨⟨n1, fb, hn1, D'⟩, ⟨n, hn, T'⟩, S.I.drop hx hl, S.few, hP.low S.low (Nat.le_refl _) D.low.1⟩, hP⟩
theorem ds_share (E : DSn a w0) (S : DSt w0 N d dp tb bb sp sb cap mb m1 m2 j s tr pt W) (hj : j ≤ 1000) (k q : Int) (p : ByteArray) (hk : (Lit.int .i64 k).wf = true) (hq : (Lit.int .i64 q).wf = true) (hp : p.size ≤ 1000000) :
    Calls Tryz.prog 24 #[.pointer (some ⟨dp, 0, none⟩), .int .i64 k, .string p, .int .i64 q] W fun e w' => ∃ v s' tr', e = .returned v ∧ DSt w0 N d dp tb bb sp sb cap mb m1 m2 j s' tr' pt w' ∧ PBut w0.heap.size dp W w' := by
  obtain ⟨PS, SB⟩ := S.sents E
  obtain ⟨n1, fb, hn1, D⟩ := S.D
  obtain ⟨n, hn, T⟩ := S.T
  have hR := S.refs hj
  cases hi : inoR tr k p with
  | error c => exact (dshare_ino k q p c hk hp PS D hi).mono fun e w' ⟨he, hb⟩ => ⟨_, s, tr, he, S.below hb, .of_below hb⟩
  | ok was =>
    cases hz : slotI s.tab q with
    | none => exact (dshare_none k q p was hk hq hp PS D T hi hz).mono fun e w' ⟨he, hb⟩ => ⟨_, s, tr, he, S.below hb, .of_below hb⟩
    | some z =>
      obtain ⟨i, rfl, hz⟩ := slotI_some hz
      have hi' := hi
      unfold inoR at hi'
      cases hx : ntI tr k with
      | none => rw [hx] at hi'; cases hi'
      | some x =>
        rw [hx] at hi'
        simp only at hi'
        split at hi'
        · cases hi'
        cases hf : findF x.fs p with
        | none => rw [hf] at hi'; cases hi'
        | some was' =>
          rw [hf] at hi'
          simp only [Except.ok.injEq] at hi'
          subst hi'
          obtain ⟨k, rfl, hx⟩ := ntI_some hx
          obtain ⟨y, hy⟩ := S.I.there hx hf
          by_cases he : i = was'
          · subst he
            exact (dshare_same k p i z hk hp PS D T S.I.rf.sp hi hz).mono fun e w' ⟨he, hb⟩ => ⟨_, s, tr, he, S.below hb, .of_below hb⟩
          · obtain ⟨hcy, hly⟩ := S.I.crc hy
            obtain ⟨hcz, hlz⟩ := S.I.crc hz
            obtain ⟨es, hes⟩ := E.sum
            have gT : 4 < w0.heap.size ∧ 1 < w0.heap.size := ⟨World.block_lt_of_cell? w0 _ E.P.is.bound, World.block_lt_of_cell? w0 _ E.P.no⟩
            cases hl : likeI s.bl y z with
            | false => exact (dshare_not k p was' i y z es _ hk hp PS D T S.I.rf.sp hi hy hz he hcy hcz hl (S.cell hes) 316 PS.is.shape).mono fun e w' ⟨he, hb⟩ => ⟨_, s, tr, he, S.below hb, .of_below hb⟩
            | true =>
              refine (dshare_ok k p x was' i y z es _ _ _ hk hp PS D T S.I.rf.sp hx hf hi hy hz he (by omega) (by omega) hcy hcz hl (S.cell hes) PS.is.shape PS.is.bound PS.no gT).mono ?_
              rintro e w' ⟨he', D', T', hP⟩
              exact ⟨_, _, _, he', ⟨⟨n1, fb, hn1, D'⟩, ⟨n, hn, T'⟩, S.I.share hx hf hy hz he hcz hl, S.few, hP.low S.low (Nat.le_refl _) D.low.1⟩, hP⟩
end
end Go.Proofs.YtcejpeohkgchdaaGreatDoor
