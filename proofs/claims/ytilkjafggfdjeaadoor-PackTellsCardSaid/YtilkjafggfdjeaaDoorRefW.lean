/-
  The contracts of the document's answer, a tree's text: textOf.
  Conditions: the tree lies in memory below block B; its kinds are well; its text has at most a million bytes.
-/
import Derived.Test.YtilkjafggfdjeaaDoorRefP
import Derived.Test.YtilkjafggfdjeaaDoorPackT
import Derived.Deep.RegionHeld3
import Derived.Deep.DrawnRows
import Derived.Deep.DeepCutAuto
import Derived.Deep.DeepFit
namespace Go.Proofs.YtilkjafggfdjeaaDoor
open Go.RowKit
attribute [local go_sem ↓] Go.wp_at_zero Go.wp_at_succ

/-- Kinds are well, all the way down. -/
def Kinds : Nat → Tree → Prop
  | 0, _ => False
  | d + 1, t => ((isLink t = true ∧ isDir t = false) ∨ (isLink t = false ∧ isFile t = true ∧ isDir t = false) ∨ (isLink t = false ∧ isFile t = false ∧ isDir t = true)) ∧ ∀ x ∈ t.kids, Kinds d x.2
theorem kinds_of : ∀ {d : Nat} {p : ByteArray} {k : Nat} {t : Tree}, Fit d t → (∀ x ∈ pre d p k t, nodeErr x.2.2 = none) → Kinds d t
  | 0, _, _, _, h, _ => h
  | d + 1, p, k, t, h, ho => by
    simp only [pre] at ho
    refine ⟨?_, fun y hy => kinds_of (p := p ++ slash ++ y.1) (k := k + 1) (h y hy) fun x hx => ho x (List.mem_cons_of_mem _ (List.mem_flatMap.2 ⟨y, hy, hx⟩))⟩
    have h0 := ho (p, k, t) List.mem_cons_self
    simp only at h0
    rcases node_cases h0 with ⟨e, _⟩ | ⟨e, _⟩ | ⟨e, _⟩
    · exact .inr (.inl ⟨by rw [e]; exact kind_is _ _ _ _ _, by rw [e]; exact kind_is _ _ _ _ _, by rw [e]; exact kind_is _ _ _ _ _⟩)
    · exact .inl ⟨by rw [e]; exact kind_is _ _ _ _ _, by rw [e]; exact kind_is _ _ _ _ _⟩
    · exact .inr (.inr ⟨by rw [e]; exact kind_is _ _ _ _ _, by rw [e]; exact kind_is _ _ _ _ _, by rw [e]; exact kind_is _ _ _ _ _⟩)
theorem bs_ofBa (l : List UInt8) (s : ByteArray) : bs l ++ s = bs (l ++ s.data.toList) := by rw [← bs_append, bs_data]
theorem add_ex (a b : ByteArray) (h : a.size + b.size ≤ 9223372036854775807) : ∃ z, Hid (z = a ++ b) ∧ ∀ w', (Op.stringOp .add a b).run Tryd.prog w' = .ok (.string z) w' := ⟨a ++ b, rfl, fun w' => run_string_add_sum w' _ _ h⟩
theorem textT_link {d : Nat} {t : Tree} (h1 : isLink t = true) (h2 : isDir t = false) : textT (d + 1) t = 108 :: bytesT t.data := by
  simp only [textT, letterOf, h1, h2, Bool.false_eq_true, if_false, if_true]
theorem textT_file {d : Nat} {t : Tree} (h1 : isLink t = false) (h2 : isDir t = false) : textT (d + 1) t = (if t.exec = true then 120 else 102) :: bytesT t.data := by
  simp only [textT, letterOf, h1, h2, Bool.false_eq_true, if_false]
theorem textT_dir {d : Nat} {t : Tree} (h2 : isDir t = true) : textT (d + 1) t = 100 :: (numT t.kids.length ++ t.kids.flatMap fun x => bytesT x.1 ++ textT d x.2) := by
  simp only [textT, letterOf, h2, if_true]
theorem leaf_text {c : UInt8} {s z1 z2 z3 : ByteArray} (h1 : z1 = bs [c] ++ bs (Lib.decDigits s.size)) (h2 : z2 = z1 ++ bs [58]) (h3 : z3 = z2 ++ s) : z3 = bs (c :: bytesT s) := by
  rw [h3, h2, h1, bs_append, bs_append, bs_ofBa]
  simp [bytesT, numT]
theorem kid_text {l : List UInt8} {x : ByteArray} {m : List UInt8} {z1 z2 z3 z4 : ByteArray} (h1 : z1 = bs l ++ bs (Lib.decDigits x.size)) (h2 : z2 = z1 ++ bs [58]) (h3 : z3 = z2 ++ x) (h4 : z4 = z3 ++ bs m) : z4 = bs (l ++ (bytesT x ++ m)) := by
  rw [h4, h3, h2, h1, bs_append, bs_append, bs_ofBa, bs_append]
  simp [bytesT, numT]
theorem flat_len {α : Type} {l : List α} {F : α → List UInt8} {j : Nat} {x : α} (hx : l[j]? = some x) : ((l.take j).flatMap F).length + (F x).length ≤ (l.flatMap F).length := by
  have hj : j < l.length := (List.getElem?_eq_some_iff.1 hx).1
  have e : l = l.take j ++ (x :: l.drop (j + 1)) := by
    rw [← (List.getElem?_eq_some_iff.1 hx).2, ← List.drop_eq_getElem_cons hj, List.take_append_drop]
  have : (l.flatMap F).length = ((l.take j ++ (x :: l.drop (j + 1))).flatMap F).length := by rw [← e]
  rw [this, List.flatMap_append, List.length_append, List.flatMap_cons, List.length_append]
  omega
theorem bytesT_len (s : ByteArray) : (bytesT s).length = (numT s.size).length + s.size := by simp [bytesT]
theorem flat_snoc {α : Type} {l : List α} {F : α → List UInt8} {j : Nat} {x : α} (hx : l[j]? = some x) : (l.take (j + 1)).flatMap F = (l.take j).flatMap F ++ F x := by
  have hj : j < l.length := (List.getElem?_eq_some_iff.1 hx).1
  rw [List.take_succ_eq_append_getElem hj, (List.getElem?_eq_some_iff.1 hx).2, List.flatMap_append]
  simp
/-- The box of the argument, and what has stayed. -/
def TxG (w : World) (c : Array Value) (w' : World) : Prop := Below w.heap.size w w' ∧ w'.heap[w.heap.size]? = some (.cells c 24 (0, 0)) ∧ w.heap.size < w'.heap.size
theorem TxG.start (w : World) (c : Array Value) : TxG w c (w.alloc (.cells c 24)) := ⟨(Below.refl _ _).alloc (Nat.le_refl _) _, row_alloc' w c 24, by simp⟩
theorem TxG.on {w w' w'' : World} {c : Array Value} (h : TxG w c w') (hb : Below w'.heap.size w' w'') : TxG w c w'' := ⟨h.1.trans (hb.mono h.1.size), (hb.block _ h.2.2).trans h.2.1, Nat.lt_of_lt_of_le h.2.2 hb.size⟩
theorem TxG.drew {w w' : World} {c : Array Value} (h : TxG w c w') : TxG w c w'.drew := ⟨h.1.drew, h.2⟩

set_option maxRecDepth 100000 in
set_option maxHeartbeats 4000000 in
theorem rText_any (B : Nat) : ∀ (d : Nat) (t : Tree) (u : Value) (w : World), B ≤ w.heap.size → Lies w B d t.kids u → Kinds d t → (textT d t).length ≤ 1000000 →
    Calls Tryd.prog 52 #[.agg #[.string t.kind, .string t.data, .bool t.exec, u]] w fun e w' => e = .returned (.string (bs (textT d t))) ∧ Below w.heap.size w w' := by
  intro d
  induction d with
  | zero => intro t u w _ h; exact absurd h (by simp [Lies])
  | succ d ih =>
    intro t u w hB hl hk hlen
    obtain ⟨ta, tc, rfl⟩ := hl.form
    obtain ⟨hkk, hks⟩ := hk
    have HG0 : Hid (TxG w #[.string t.kind, .string t.data, .bool t.exec, .slice ta t.kids.length tc] (w.alloc (.cells #[.string t.kind, .string t.data, .bool t.exec, .slice ta t.kids.length tc] 24))) := TxG.start w _
    have HC1 : Hid (∀ w', TxG w #[.string t.kind, .string t.data, .bool t.exec, .slice ta t.kids.length tc] w' → w'.cell? ⟨w.heap.size, 1, none⟩ = some (.string t.data)) := fun w' h => by rw [cell_of_row w' _ _ _ _ _ h.2.1]; rfl
    rcases hkk with ⟨h1, h2⟩ | ⟨h1, h3, h2⟩ | ⟨h1, h3, h2⟩
    · have HTX : Hid (textT (d + 1) t = 108 :: bytesT t.data) := textT_link h1 h2
      have hds : t.data.size ≤ 1000000 := by
        have := hlen
        rw [HTX.out] at this
        simp only [List.length_cons, bytesT, List.length_append, Array.length_toList, ByteArray.size_data] at this
        omega
      have HDC : Hid (∀ w', Calls Tryd.prog 67 #[.int .i64 (t.data.size : Int)] w' fun e w'' => e = .returned (.string (bs (Lib.decDigits t.data.size))) ∧ Below w'.heap.size w' w'') := fun w' => decimal_any _ w' (by omega)
      have k1 : (t.kind.toList == [108, 105, 110, 107]) = true := h1
      clear ih hl hks hlen h1 h2
      obtain ⟨z1, HZ1, a1⟩ := add_ex (bs [108]) (bs (Lib.decDigits t.data.size)) (by rw [bs_size, bs_size, Lib.decDigits_length]; have := nd_le t.data.size (by omega); simp only [List.length_cons, List.length_nil]; omega)
      obtain ⟨z2, HZ2, a2⟩ := add_ex z1 (bs [58]) (by rw [HZ1.out, ByteArray.size_append, bs_size, bs_size, bs_size, Lib.decDigits_length]; have := nd_le t.data.size (by omega); simp only [List.length_cons, List.length_nil]; omega)
      obtain ⟨z3, HZ3, a3⟩ := add_ex z2 t.data (by rw [HZ2.out, HZ1.out, ByteArray.size_append, ByteArray.size_append, bs_size, bs_size, bs_size, Lib.decDigits_length]; have := nd_le t.data.size (by omega); simp only [List.length_cons, List.length_nil]; omega)
      have HZ : Hid (z3 = bs (textT (d + 1) t)) := by rw [HTX.out]; exact leaf_text HZ1.out HZ2.out HZ3.out
      clear HZ1 HZ2 HZ3 HTX
      have a1 : ∀ w', (Op.stringOp .add { data := #[108] } (bs (Lib.decDigits t.data.size))).run Tryd.prog w' = .ok (.string z1) w' := a1
      have a2 : ∀ w', (Op.stringOp .add z1 { data := #[58] }).run Tryd.prog w' = .ok (.string z2) w' := a2
      generalize bs (Lib.decDigits t.data.size) = dg at HDC a1
      go_enter Tryd.func52, Tryd.ntmps52
      go_upto_region 2 with fail
      refine wp_region_held_drew (S := fun w' => w'.cell? ⟨w.heap.size, 1, none⟩ = some (.string t.data)) (by kernel_rfl) (HC1.out _ HG0.out.drew) (fun hHeld => ?_)
      refine wpAnyH_take (i := 0) (v := .pointer (some ⟨w.heap.size, 1, none⟩)) rfl (by kernel_rfl) (by kernel_rfl) (by kernel_rfl) (fun _ _ _ h => h) (Or.inl ⟨by rfl, ?_⟩) hHeld ?_
      · intro w hSw; (try dsimp only at hSw); simp only [List.getElem_toArray, List.getElem_cons_zero]; go_simp
      simp only [List.getElem_toArray, List.getElem_cons_zero, Act.put, List.setIfInBounds_toArray, List.set_cons_zero, List.set_cons_succ]
      refine wpAnyH_take (i := 1) (v := .string t.data) rfl (by kernel_rfl) (by kernel_rfl) (by kernel_rfl) (fun _ _ _ h => h) (Or.inl ⟨by rfl, ?_⟩) hHeld ?_
      · intro w hSw; (try dsimp only at hSw); simp only [List.getElem_toArray, List.getElem_cons_zero, List.getElem_cons_succ]; go_simp
      simp only [List.getElem_toArray, List.getElem_cons_zero, List.getElem_cons_succ, Act.put, List.setIfInBounds_toArray, List.set_cons_zero, List.set_cons_succ]
      refine wpAnyH_take (i := 2) (v := .int .i64 (t.data.size : Int)) rfl (by kernel_rfl) (by kernel_rfl) (by kernel_rfl) (fun _ _ _ h => h) (Or.inl ⟨by rfl, ?_⟩) hHeld ?_
      · intro w hSw; (try dsimp only at hSw); simp only [List.getElem_toArray, List.getElem_cons_zero, List.getElem_cons_succ]; go_simp
      simp only [List.getElem_toArray, List.getElem_cons_zero, List.getElem_cons_succ, Act.put, List.setIfInBounds_toArray, List.set_cons_zero, List.set_cons_succ]
      refine wpAnyH_take (i := 6) (v := .pointer (some ⟨w.heap.size, 1, none⟩)) rfl (by kernel_rfl) (by kernel_rfl) (by kernel_rfl) (fun _ _ _ h => h) (Or.inl ⟨by rfl, ?_⟩) hHeld ?_
      · intro w hSw; (try dsimp only at hSw); simp only [List.getElem_toArray, List.getElem_cons_zero, List.getElem_cons_succ]; go_simp
      simp only [List.getElem_toArray, List.getElem_cons_zero, List.getElem_cons_succ, Act.put, List.setIfInBounds_toArray, List.set_cons_zero, List.set_cons_succ]
      refine wpAnyH_take (i := 7) (v := .string t.data) rfl (by kernel_rfl) (by kernel_rfl) (by kernel_rfl) (fun _ _ _ h => h) (Or.inl ⟨by rfl, ?_⟩) hHeld ?_
      · intro w hSw; (try dsimp only at hSw); simp only [List.getElem_toArray, List.getElem_cons_zero, List.getElem_cons_succ]; go_simp
      simp only [List.getElem_toArray, List.getElem_cons_zero, List.getElem_cons_succ, Act.put, List.setIfInBounds_toArray, List.set_cons_zero, List.set_cons_succ]
      refine wpAnyH_ready (rs := [3]) (by kernel_rfl) (by simp) ?_
      refine AllReadyH.cons rfl (fun K' hK => ?_) AllReadyH.nil
      simp only [List.getElem_toArray, List.getElem_cons_zero, List.getElem_cons_succ]
      go_simp
      refine Calls.mono (HDC.out _) ?_
      rintro e wx ⟨rfl, hb⟩
      have hg := HG0.out.drew.on hb
      have HGG : Hid _ := hg
      clear hb hg
      go_wp2_with fail
      refine hK.out _ _ (HC1.out _ HGG.out) (fun hHeld' => ?_)
      clear hK K' hHeld
      have hHeld := hHeld'
      clear hHeld'
      refine wpAnyH_take (i := 4) (v := .string z1) rfl (by kernel_rfl) (by kernel_rfl) (by kernel_rfl) (fun _ _ _ h => h) (Or.inl ⟨by rfl, ?_⟩) hHeld ?_
      · intro w hSw; (try dsimp only at hSw); simp only [List.getElem_toArray, List.getElem_cons_zero, List.getElem_cons_succ]; go_simp
      simp only [List.getElem_toArray, List.getElem_cons_zero, List.getElem_cons_succ, Act.put, List.setIfInBounds_toArray, List.set_cons_zero, List.set_cons_succ]
      refine wpAnyH_take (i := 5) (v := .string z2) rfl (by kernel_rfl) (by kernel_rfl) (by kernel_rfl) (fun _ _ _ h => h) (Or.inl ⟨by rfl, ?_⟩) hHeld ?_
      · intro w hSw; (try dsimp only at hSw); simp only [List.getElem_toArray, List.getElem_cons_zero, List.getElem_cons_succ]; go_simp
      simp only [List.getElem_toArray, List.getElem_cons_zero, List.getElem_cons_succ, Act.put, List.setIfInBounds_toArray, List.set_cons_zero, List.set_cons_succ]
      refine wpAnyH_take (i := 8) (v := .string z3) rfl (by kernel_rfl) (by kernel_rfl) (by kernel_rfl) (fun _ _ _ h => h) (Or.inl ⟨by rfl, ?_⟩) hHeld ?_
      · intro w hSw; (try dsimp only at hSw); simp only [List.getElem_toArray, List.getElem_cons_zero, List.getElem_cons_succ]; go_simp
      simp only [List.getElem_toArray, List.getElem_cons_zero, List.getElem_cons_succ, Act.put, List.setIfInBounds_toArray, List.set_cons_zero, List.set_cons_succ]
      refine wpAnyH_take (i := 9) (v := .string z3) rfl (by kernel_rfl) (by kernel_rfl) (by kernel_rfl) (fun _ _ _ h => h) (Or.inl ⟨by rfl, ?_⟩) hHeld ?_
      · intro w hSw; (try dsimp only at hSw); simp only [List.getElem_toArray, List.getElem_cons_zero, List.getElem_cons_succ]; go_simp
      simp only [List.getElem_toArray, List.getElem_cons_zero, List.getElem_cons_succ, Act.put, List.setIfInBounds_toArray, List.set_cons_zero, List.set_cons_succ]
      refine wpAnyH_done (by kernel_rfl) ?_ _
      go_wp2_with fail
      go_ret
      exact ⟨ret_str HZ.out, HGG.out.1⟩
    · have hds : t.data.size ≤ 1000000 := by
        have := hlen
        rw [textT_file h1 h2] at this
        simp only [List.length_cons, bytesT, List.length_append, Array.length_toList, ByteArray.size_data] at this
        omega
      have HDC : Hid (∀ w', Calls Tryd.prog 67 #[.int .i64 (t.data.size : Int)] w' fun e w'' => e = .returned (.string (bs (Lib.decDigits t.data.size))) ∧ Below w'.heap.size w' w'') := fun w' => decimal_any _ w' (by omega)
      have k1 : (t.kind.toList == [108, 105, 110, 107]) = false := h1
      have k2 : (t.kind.toList == [102, 105, 108, 101]) = true := h3
      cases hx : t.exec with
      | true =>
        have HTX : Hid (textT (d + 1) t = 120 :: bytesT t.data) := show _ = _ by rw [textT_file h1 h2, hx]; rfl
        rw [hx] at HG0 HC1
        clear ih hl hks hlen h1 h2 h3
        obtain ⟨z1, HZ1, a1⟩ := add_ex (bs [120]) (bs (Lib.decDigits t.data.size)) (by rw [bs_size, bs_size, Lib.decDigits_length]; have := nd_le t.data.size (by omega); simp only [List.length_cons, List.length_nil]; omega)
        obtain ⟨z2, HZ2, a2⟩ := add_ex z1 (bs [58]) (by rw [HZ1.out, ByteArray.size_append, bs_size, bs_size, bs_size, Lib.decDigits_length]; have := nd_le t.data.size (by omega); simp only [List.length_cons, List.length_nil]; omega)
        obtain ⟨z3, HZ3, a3⟩ := add_ex z2 t.data (by rw [HZ2.out, HZ1.out, ByteArray.size_append, ByteArray.size_append, bs_size, bs_size, bs_size, Lib.decDigits_length]; have := nd_le t.data.size (by omega); simp only [List.length_cons, List.length_nil]; omega)
        have HZ : Hid (z3 = bs (textT (d + 1) t)) := by rw [HTX.out]; exact leaf_text HZ1.out HZ2.out HZ3.out
        clear HZ1 HZ2 HZ3 HTX
        have a1 : ∀ w', (Op.stringOp .add { data := #[120] } (bs (Lib.decDigits t.data.size))).run Tryd.prog w' = .ok (.string z1) w' := a1
        have a2 : ∀ w', (Op.stringOp .add z1 { data := #[58] }).run Tryd.prog w' = .ok (.string z2) w' := a2
        generalize bs (Lib.decDigits t.data.size) = dg at HDC a1
        go_enter Tryd.func52, Tryd.ntmps52
        go_upto_region 7 with fail
        refine wp_region_held_drew (S := fun w' => w'.cell? ⟨w.heap.size, 1, none⟩ = some (.string t.data)) (by kernel_rfl) (HC1.out _ HG0.out.drew) (fun hHeld => ?_)
        refine wpAnyH_take (i := 0) (v := .string { data := #[120] }) rfl (by kernel_rfl) (by kernel_rfl) (by kernel_rfl) (fun _ _ _ h => h) (Or.inl ⟨by rfl, ?_⟩) hHeld ?_
        · intro w hSw; (try dsimp only at hSw); simp only [List.getElem_toArray, List.getElem_cons_zero]; go_simp
        simp only [List.getElem_toArray, List.getElem_cons_zero, Act.put, List.setIfInBounds_toArray, List.set_cons_zero, List.set_cons_succ]
        refine wpAnyH_take (i := 1) (v := .pointer (some ⟨w.heap.size, 1, none⟩)) rfl (by kernel_rfl) (by kernel_rfl) (by kernel_rfl) (fun _ _ _ h => h) (Or.inl ⟨by rfl, ?_⟩) hHeld ?_
        · intro w hSw; (try dsimp only at hSw); simp only [List.getElem_toArray, List.getElem_cons_zero, List.getElem_cons_succ]; go_simp
        simp only [List.getElem_toArray, List.getElem_cons_zero, List.getElem_cons_succ, Act.put, List.setIfInBounds_toArray, List.set_cons_zero, List.set_cons_succ]
        refine wpAnyH_take (i := 2) (v := .string t.data) rfl (by kernel_rfl) (by kernel_rfl) (by kernel_rfl) (fun _ _ _ h => h) (Or.inl ⟨by rfl, ?_⟩) hHeld ?_
        · intro w hSw; (try dsimp only at hSw); simp only [List.getElem_toArray, List.getElem_cons_zero, List.getElem_cons_succ]; go_simp
        simp only [List.getElem_toArray, List.getElem_cons_zero, List.getElem_cons_succ, Act.put, List.setIfInBounds_toArray, List.set_cons_zero, List.set_cons_succ]
        refine wpAnyH_take (i := 3) (v := .int .i64 (t.data.size : Int)) rfl (by kernel_rfl) (by kernel_rfl) (by kernel_rfl) (fun _ _ _ h => h) (Or.inl ⟨by rfl, ?_⟩) hHeld ?_
        · intro w hSw; (try dsimp only at hSw); simp only [List.getElem_toArray, List.getElem_cons_zero, List.getElem_cons_succ]; go_simp
        simp only [List.getElem_toArray, List.getElem_cons_zero, List.getElem_cons_succ, Act.put, List.setIfInBounds_toArray, List.set_cons_zero, List.set_cons_succ]
        refine wpAnyH_take (i := 7) (v := .pointer (some ⟨w.heap.size, 1, none⟩)) rfl (by kernel_rfl) (by kernel_rfl) (by kernel_rfl) (fun _ _ _ h => h) (Or.inl ⟨by rfl, ?_⟩) hHeld ?_
        · intro w hSw; (try dsimp only at hSw); simp only [List.getElem_toArray, List.getElem_cons_zero, List.getElem_cons_succ]; go_simp
        simp only [List.getElem_toArray, List.getElem_cons_zero, List.getElem_cons_succ, Act.put, List.setIfInBounds_toArray, List.set_cons_zero, List.set_cons_succ]
        refine wpAnyH_take (i := 8) (v := .string t.data) rfl (by kernel_rfl) (by kernel_rfl) (by kernel_rfl) (fun _ _ _ h => h) (Or.inl ⟨by rfl, ?_⟩) hHeld ?_
        · intro w hSw; (try dsimp only at hSw); simp only [List.getElem_toArray, List.getElem_cons_zero, List.getElem_cons_succ]; go_simp
        simp only [List.getElem_toArray, List.getElem_cons_zero, List.getElem_cons_succ, Act.put, List.setIfInBounds_toArray, List.set_cons_zero, List.set_cons_succ]
        refine wpAnyH_ready (rs := [4]) (by kernel_rfl) (by simp) ?_
        refine AllReadyH.cons rfl (fun K' hK => ?_) AllReadyH.nil
        simp only [List.getElem_toArray, List.getElem_cons_zero, List.getElem_cons_succ]
        go_simp
        refine Calls.mono (HDC.out _) ?_
        rintro e wx ⟨rfl, hb⟩
        have hg := HG0.out.drew.on hb
        have HGG : Hid _ := hg
        clear hb hg
        go_wp2_with fail
        refine hK.out _ _ (HC1.out _ HGG.out) (fun hHeld' => ?_)
        clear hK K' hHeld
        have hHeld := hHeld'
        clear hHeld'
        refine wpAnyH_take (i := 5) (v := .string z1) rfl (by kernel_rfl) (by kernel_rfl) (by kernel_rfl) (fun _ _ _ h => h) (Or.inl ⟨by rfl, ?_⟩) hHeld ?_
        · intro w hSw; (try dsimp only at hSw); simp only [List.getElem_toArray, List.getElem_cons_zero, List.getElem_cons_succ]; go_simp
        simp only [List.getElem_toArray, List.getElem_cons_zero, List.getElem_cons_succ, Act.put, List.setIfInBounds_toArray, List.set_cons_zero, List.set_cons_succ]
        refine wpAnyH_take (i := 6) (v := .string z2) rfl (by kernel_rfl) (by kernel_rfl) (by kernel_rfl) (fun _ _ _ h => h) (Or.inl ⟨by rfl, ?_⟩) hHeld ?_
        · intro w hSw; (try dsimp only at hSw); simp only [List.getElem_toArray, List.getElem_cons_zero, List.getElem_cons_succ]; go_simp
        simp only [List.getElem_toArray, List.getElem_cons_zero, List.getElem_cons_succ, Act.put, List.setIfInBounds_toArray, List.set_cons_zero, List.set_cons_succ]
        refine wpAnyH_take (i := 9) (v := .string z3) rfl (by kernel_rfl) (by kernel_rfl) (by kernel_rfl) (fun _ _ _ h => h) (Or.inl ⟨by rfl, ?_⟩) hHeld ?_
        · intro w hSw; (try dsimp only at hSw); simp only [List.getElem_toArray, List.getElem_cons_zero, List.getElem_cons_succ]; go_simp
        simp only [List.getElem_toArray, List.getElem_cons_zero, List.getElem_cons_succ, Act.put, List.setIfInBounds_toArray, List.set_cons_zero, List.set_cons_succ]
        refine wpAnyH_take (i := 10) (v := .string z3) rfl (by kernel_rfl) (by kernel_rfl) (by kernel_rfl) (fun _ _ _ h => h) (Or.inl ⟨by rfl, ?_⟩) hHeld ?_
        · intro w hSw; (try dsimp only at hSw); simp only [List.getElem_toArray, List.getElem_cons_zero, List.getElem_cons_succ]; go_simp
        simp only [List.getElem_toArray, List.getElem_cons_zero, List.getElem_cons_succ, Act.put, List.setIfInBounds_toArray, List.set_cons_zero, List.set_cons_succ]
        refine wpAnyH_done (by kernel_rfl) ?_ _
        go_wp2_with fail
        go_ret
        exact ⟨ret_str HZ.out, HGG.out.1⟩
      | false =>
        have HTX : Hid (textT (d + 1) t = 102 :: bytesT t.data) := show _ = _ by rw [textT_file h1 h2, hx]; rfl
        rw [hx] at HG0 HC1
        clear ih hl hks hlen h1 h2 h3
        obtain ⟨z1, HZ1, a1⟩ := add_ex (bs [102]) (bs (Lib.decDigits t.data.size)) (by rw [bs_size, bs_size, Lib.decDigits_length]; have := nd_le t.data.size (by omega); simp only [List.length_cons, List.length_nil]; omega)
        obtain ⟨z2, HZ2, a2⟩ := add_ex z1 (bs [58]) (by rw [HZ1.out, ByteArray.size_append, bs_size, bs_size, bs_size, Lib.decDigits_length]; have := nd_le t.data.size (by omega); simp only [List.length_cons, List.length_nil]; omega)
        obtain ⟨z3, HZ3, a3⟩ := add_ex z2 t.data (by rw [HZ2.out, HZ1.out, ByteArray.size_append, ByteArray.size_append, bs_size, bs_size, bs_size, Lib.decDigits_length]; have := nd_le t.data.size (by omega); simp only [List.length_cons, List.length_nil]; omega)
        have HZ : Hid (z3 = bs (textT (d + 1) t)) := by rw [HTX.out]; exact leaf_text HZ1.out HZ2.out HZ3.out
        clear HZ1 HZ2 HZ3 HTX
        have a1 : ∀ w', (Op.stringOp .add { data := #[102] } (bs (Lib.decDigits t.data.size))).run Tryd.prog w' = .ok (.string z1) w' := a1
        have a2 : ∀ w', (Op.stringOp .add z1 { data := #[58] }).run Tryd.prog w' = .ok (.string z2) w' := a2
        generalize bs (Lib.decDigits t.data.size) = dg at HDC a1
        go_enter Tryd.func52, Tryd.ntmps52
        go_upto_region 7 with fail
        refine wp_region_held_drew (S := fun w' => w'.cell? ⟨w.heap.size, 1, none⟩ = some (.string t.data)) (by kernel_rfl) (HC1.out _ HG0.out.drew) (fun hHeld => ?_)
        refine wpAnyH_take (i := 0) (v := .string { data := #[102] }) rfl (by kernel_rfl) (by kernel_rfl) (by kernel_rfl) (fun _ _ _ h => h) (Or.inl ⟨by rfl, ?_⟩) hHeld ?_
        · intro w hSw; (try dsimp only at hSw); simp only [List.getElem_toArray, List.getElem_cons_zero]; go_simp
        simp only [List.getElem_toArray, List.getElem_cons_zero, Act.put, List.setIfInBounds_toArray, List.set_cons_zero, List.set_cons_succ]
        refine wpAnyH_take (i := 1) (v := .pointer (some ⟨w.heap.size, 1, none⟩)) rfl (by kernel_rfl) (by kernel_rfl) (by kernel_rfl) (fun _ _ _ h => h) (Or.inl ⟨by rfl, ?_⟩) hHeld ?_
        · intro w hSw; (try dsimp only at hSw); simp only [List.getElem_toArray, List.getElem_cons_zero, List.getElem_cons_succ]; go_simp
        simp only [List.getElem_toArray, List.getElem_cons_zero, List.getElem_cons_succ, Act.put, List.setIfInBounds_toArray, List.set_cons_zero, List.set_cons_succ]
        refine wpAnyH_take (i := 2) (v := .string t.data) rfl (by kernel_rfl) (by kernel_rfl) (by kernel_rfl) (fun _ _ _ h => h) (Or.inl ⟨by rfl, ?_⟩) hHeld ?_
        · intro w hSw; (try dsimp only at hSw); simp only [List.getElem_toArray, List.getElem_cons_zero, List.getElem_cons_succ]; go_simp
        simp only [List.getElem_toArray, List.getElem_cons_zero, List.getElem_cons_succ, Act.put, List.setIfInBounds_toArray, List.set_cons_zero, List.set_cons_succ]
        refine wpAnyH_take (i := 3) (v := .int .i64 (t.data.size : Int)) rfl (by kernel_rfl) (by kernel_rfl) (by kernel_rfl) (fun _ _ _ h => h) (Or.inl ⟨by rfl, ?_⟩) hHeld ?_
        · intro w hSw; (try dsimp only at hSw); simp only [List.getElem_toArray, List.getElem_cons_zero, List.getElem_cons_succ]; go_simp
        simp only [List.getElem_toArray, List.getElem_cons_zero, List.getElem_cons_succ, Act.put, List.setIfInBounds_toArray, List.set_cons_zero, List.set_cons_succ]
        refine wpAnyH_take (i := 7) (v := .pointer (some ⟨w.heap.size, 1, none⟩)) rfl (by kernel_rfl) (by kernel_rfl) (by kernel_rfl) (fun _ _ _ h => h) (Or.inl ⟨by rfl, ?_⟩) hHeld ?_
        · intro w hSw; (try dsimp only at hSw); simp only [List.getElem_toArray, List.getElem_cons_zero, List.getElem_cons_succ]; go_simp
        simp only [List.getElem_toArray, List.getElem_cons_zero, List.getElem_cons_succ, Act.put, List.setIfInBounds_toArray, List.set_cons_zero, List.set_cons_succ]
        refine wpAnyH_take (i := 8) (v := .string t.data) rfl (by kernel_rfl) (by kernel_rfl) (by kernel_rfl) (fun _ _ _ h => h) (Or.inl ⟨by rfl, ?_⟩) hHeld ?_
        · intro w hSw; (try dsimp only at hSw); simp only [List.getElem_toArray, List.getElem_cons_zero, List.getElem_cons_succ]; go_simp
        simp only [List.getElem_toArray, List.getElem_cons_zero, List.getElem_cons_succ, Act.put, List.setIfInBounds_toArray, List.set_cons_zero, List.set_cons_succ]
        refine wpAnyH_ready (rs := [4]) (by kernel_rfl) (by simp) ?_
        refine AllReadyH.cons rfl (fun K' hK => ?_) AllReadyH.nil
        simp only [List.getElem_toArray, List.getElem_cons_zero, List.getElem_cons_succ]
        go_simp
        refine Calls.mono (HDC.out _) ?_
        rintro e wx ⟨rfl, hb⟩
        have hg := HG0.out.drew.on hb
        have HGG : Hid _ := hg
        clear hb hg
        go_wp2_with fail
        refine hK.out _ _ (HC1.out _ HGG.out) (fun hHeld' => ?_)
        clear hK K' hHeld
        have hHeld := hHeld'
        clear hHeld'
        refine wpAnyH_take (i := 5) (v := .string z1) rfl (by kernel_rfl) (by kernel_rfl) (by kernel_rfl) (fun _ _ _ h => h) (Or.inl ⟨by rfl, ?_⟩) hHeld ?_
        · intro w hSw; (try dsimp only at hSw); simp only [List.getElem_toArray, List.getElem_cons_zero, List.getElem_cons_succ]; go_simp
        simp only [List.getElem_toArray, List.getElem_cons_zero, List.getElem_cons_succ, Act.put, List.setIfInBounds_toArray, List.set_cons_zero, List.set_cons_succ]
        refine wpAnyH_take (i := 6) (v := .string z2) rfl (by kernel_rfl) (by kernel_rfl) (by kernel_rfl) (fun _ _ _ h => h) (Or.inl ⟨by rfl, ?_⟩) hHeld ?_
        · intro w hSw; (try dsimp only at hSw); simp only [List.getElem_toArray, List.getElem_cons_zero, List.getElem_cons_succ]; go_simp
        simp only [List.getElem_toArray, List.getElem_cons_zero, List.getElem_cons_succ, Act.put, List.setIfInBounds_toArray, List.set_cons_zero, List.set_cons_succ]
        refine wpAnyH_take (i := 9) (v := .string z3) rfl (by kernel_rfl) (by kernel_rfl) (by kernel_rfl) (fun _ _ _ h => h) (Or.inl ⟨by rfl, ?_⟩) hHeld ?_
        · intro w hSw; (try dsimp only at hSw); simp only [List.getElem_toArray, List.getElem_cons_zero, List.getElem_cons_succ]; go_simp
        simp only [List.getElem_toArray, List.getElem_cons_zero, List.getElem_cons_succ, Act.put, List.setIfInBounds_toArray, List.set_cons_zero, List.set_cons_succ]
        refine wpAnyH_take (i := 10) (v := .string z3) rfl (by kernel_rfl) (by kernel_rfl) (by kernel_rfl) (fun _ _ _ h => h) (Or.inl ⟨by rfl, ?_⟩) hHeld ?_
        · intro w hSw; (try dsimp only at hSw); simp only [List.getElem_toArray, List.getElem_cons_zero, List.getElem_cons_succ]; go_simp
        simp only [List.getElem_toArray, List.getElem_cons_zero, List.getElem_cons_succ, Act.put, List.setIfInBounds_toArray, List.set_cons_zero, List.set_cons_succ]
        refine wpAnyH_done (by kernel_rfl) ?_ _
        go_wp2_with fail
        go_ret
        exact ⟨ret_str HZ.out, HGG.out.1⟩
    · have HTX : Hid (textT (d + 1) t = 100 :: (numT t.kids.length ++ t.kids.flatMap fun x => bytesT x.1 ++ textT d x.2)) := textT_dir h2
      have HLEN : Hid (1 + (numT t.kids.length).length + (t.kids.flatMap fun x => bytesT x.1 ++ textT d x.2).length ≤ 1000000) := by
        have := hlen
        rw [HTX.out] at this
        simp only [List.length_cons, List.length_append] at this
        show _ ≤ _
        omega
      obtain ⟨hlk, hop⟩ := Lies.open hl
      have HC3 : Hid (∀ w', TxG w #[.string t.kind, .string t.data, .bool t.exec, .slice ta t.kids.length tc] w' → w'.cell? ⟨w.heap.size, 3, none⟩ = some (.slice ta t.kids.length tc)) := fun w' h => by rw [cell_of_row w' _ _ _ _ _ h.2.1]; rfl
      have hcnt : t.kids.length ≤ 1000000 := by
        have h5 := HLEN.out
        have h6 : t.kids.length ≤ (t.kids.flatMap fun x => bytesT x.1 ++ textT d x.2).length := by
          clear hop HTX h5 hks hl hlen HC1 HC3 HG0 HLEN hlk ih h1 h2 h3
          induction t.kids with
          | nil => simp
          | cons y l ihl =>
            have : 1 ≤ (bytesT y.1).length := by simp only [bytesT, numT, List.length_append, List.length_cons, List.length_nil]; omega
            simp only [List.flatMap_cons, List.length_append, List.length_cons]
            omega
        omega
      have HDC : Hid (∀ w', Calls Tryd.prog 67 #[.int .i64 (t.kids.length : Int)] w' fun e w'' => e = .returned (.string (bs (Lib.decDigits t.kids.length))) ∧ Below w'.heap.size w' w'') := fun w' => decimal_any _ w' (by omega)
      have k1 : (t.kind.toList == [108, 105, 110, 107]) = false := h1
      have k2 : (t.kind.toList == [102, 105, 108, 101]) = false := h3
      obtain ⟨z1, HZ1, a1⟩ := add_ex (bs [100]) (bs (Lib.decDigits t.kids.length)) (by rw [bs_size, bs_size, Lib.decDigits_length]; have := nd_le t.kids.length (by omega); simp only [List.length_cons, List.length_nil]; omega)
      obtain ⟨z2, HZ2, a2⟩ := add_ex z1 (bs [58]) (by rw [HZ1.out, ByteArray.size_append, bs_size, bs_size, bs_size, Lib.decDigits_length]; have := nd_le t.kids.length (by omega); simp only [List.length_cons, List.length_nil]; omega)
      have HZS : Hid (z2 = bs (100 :: (numT t.kids.length ++ ((t.kids.take 0).flatMap fun x => bytesT x.1 ++ textT d x.2)))) := show _ = _ by
        rw [HZ2.out, HZ1.out, bs_append, bs_append]
        simp [numT]
      have a1 : ∀ w', (Op.stringOp .add { data := #[100] } (bs (Lib.decDigits t.kids.length))).run Tryd.prog w' = .ok (.string z1) w' := a1
      have a2 : ∀ w', (Op.stringOp .add z1 { data := #[58] }).run Tryd.prog w' = .ok (.string z2) w' := a2
      clear HZ1 HZ2
      generalize bs (Lib.decDigits t.kids.length) = dg at HDC a1
      have HIHH : Hid _ := ih
      have HKS : Hid _ := hks
      have HLI : Hid _ := hl
      have HOP : Hid _ := hop
      clear ih hl hks hlen h1 h2 h3 hop HC1
      go_enter Tryd.func52, Tryd.ntmps52
      go_wp2_with fail
      refine Calls.mono (HDC.out _) ?_
      rintro e w1 ⟨rfl, hb1⟩
      have HG1 : Hid (TxG w _ w1) := HG0.out.on hb1
      clear hb1 HG0 HDC
      go_wp2_with fail
      clear a1 a2
      go_loopw [4, 5] (fun o i wr => ∃ j : Nat, j ≤ t.kids.length ∧ i = .int .i64 j ∧ o = .string (bs (100 :: (numT t.kids.length ++ ((t.kids.take j).flatMap fun x => bytesT x.1 ++ textT d x.2)))) ∧ TxG w #[.string t.kind, .string t.data, .bool t.exec, .slice ta t.kids.length tc] wr) (fun _ i _ => t.kids.length - (intOf i).toNat)
      case atStart => exact ⟨0, Nat.zero_le _, rfl, by rw [HZS.out], HG1.out⟩
      case round =>
        obtain ⟨j, hj, rfl, rfl, hgr⟩ := hrel
        have c3 := HC3.out _ hgr
        have HGR : Hid (TxG w _ wr) := hgr
        clear hgr
        by_cases hlt : j < t.kids.length
        · obtain ⟨b, off, cap, e, hbB, hat⟩ : ∃ b off cap, Value.slice ta t.kids.length tc = .slice (some ⟨b, off, none⟩) t.kids.length cap ∧ b < B ∧ ∀ i x, t.kids[i]? = some x → ∃ u, KidAt w B d b off i x u := by
            rcases HOP.out with ⟨h0, _⟩ | ⟨b, off, cap, h⟩
            · rw [h0] at hlt; simp at hlt
            · exact ⟨b, off, cap, h⟩
          simp only [Value.slice.injEq] at e
          obtain ⟨rfl, _, rfl⟩ := e
          obtain ⟨x, hx⟩ : ∃ x, t.kids[j]? = some x := ⟨t.kids[j], List.getElem?_eq_getElem hlt⟩
          obtain ⟨ux, K⟩ := hat j x hx
          obtain ⟨xa, xc, rfl⟩ := K.lies.form
          have hfl : ((t.kids.take j).flatMap fun x => bytesT x.1 ++ textT d x.2).length + (bytesT x.1 ++ textT d x.2).length ≤ (t.kids.flatMap fun x => bytesT x.1 ++ textT d x.2).length := flat_len (F := fun x => bytesT x.1 ++ textT d x.2) hx
          have HSN : Hid _ := flat_snoc (F := fun x => bytesT x.1 ++ textT d x.2) hx
          have hL := HLEN.out
          rw [List.length_append, bytesT_len] at hfl
          have HC12 : Hid (∀ w', TxG w #[.string t.kind, .string t.data, .bool t.exec, .slice (some ⟨b, off, none⟩) t.kids.length tc] w' → ((fun w' => w'.cell? ⟨w.heap.size, 3, none⟩ = some (.slice (some ⟨b, off, none⟩) t.kids.length tc) ∧ w'.cell? ⟨b, off + j * 5, none⟩ = some (.string x.1) ∧ w'.cell? ⟨b, off + j * 5 + 1, none⟩ = some (.string x.2.kind) ∧ w'.cell? ⟨b, off + j * 5 + 2, none⟩ = some (.string x.2.data) ∧ w'.cell? ⟨b, off + j * 5 + 3, none⟩ = some (.bool x.2.exec) ∧ w'.cell? ⟨b, off + j * 5 + 4, none⟩ = some (.slice xa x.2.kids.length xc)) w' : Prop)) := fun w' h => by
            have hcell : ∀ o, w'.cell? ⟨b, o, none⟩ = w.cell? ⟨b, o, none⟩ := fun o => h.1.cell (p := ⟨b, o, none⟩) (show b < w.heap.size by omega)
            refine ⟨HC3.out w' h, ?_, ?_, ?_, ?_, ?_⟩
            · rw [hcell]; exact K.name
            · rw [hcell]; exact K.kind
            · rw [hcell]; exact K.data
            · rw [hcell]; exact K.exec
            · rw [hcell]; exact K.kids
          have HIH : Hid (∀ w', TxG w #[.string t.kind, .string t.data, .bool t.exec, .slice (some ⟨b, off, none⟩) t.kids.length tc] w' → Calls Tryd.prog 52 #[.agg #[.string x.2.kind, .string x.2.data, .bool x.2.exec, .slice xa x.2.kids.length xc]] w' fun e w'' => e = .returned (.string (bs (textT d x.2))) ∧ Below w'.heap.size w' w'') := fun w' h =>
            HIHH.out x.2 _ w' (by have := h.1.size; omega) (K.lies.below h.1 hB) (HKS.out x (List.mem_of_getElem? hx)) (by omega)
          have HDC2 : Hid (∀ w', Calls Tryd.prog 67 #[.int .i64 (x.1.size : Int)] w' fun e w'' => e = .returned (.string (bs (Lib.decDigits x.1.size))) ∧ Below w'.heap.size w' w'') := fun w' => decimal_any _ w' (by omega)
          obtain ⟨lo, hlo⟩ : ∃ lo, lo = 100 :: (numT t.kids.length ++ ((t.kids.take j).flatMap fun x => bytesT x.1 ++ textT d x.2)) := ⟨_, rfl⟩
          have hlol : lo.length ≤ 1000000 := by
            rw [hlo]
            simp only [List.length_cons, List.length_append]
            have : ((t.kids.take j).flatMap fun x => bytesT x.1 ++ textT d x.2).length + 0 ≤ (t.kids.flatMap fun x => bytesT x.1 ++ textT d x.2).length := by omega
            omega
          have hnd := nd_le x.1.size (by omega)
          have hml : (textT d x.2).length ≤ 1000000 := by omega
          obtain ⟨z1, HZ1, a1⟩ := add_ex (bs lo) (bs (Lib.decDigits x.1.size)) (by rw [bs_size, bs_size, Lib.decDigits_length]; omega)
          obtain ⟨z2, HZ2, a2⟩ := add_ex z1 (bs [58]) (by rw [HZ1.out, ByteArray.size_append, bs_size, bs_size, bs_size, Lib.decDigits_length]; simp only [List.length_cons, List.length_nil]; omega)
          obtain ⟨z3, HZ3, a3⟩ := add_ex z2 x.1 (by rw [HZ2.out, HZ1.out, ByteArray.size_append, ByteArray.size_append, bs_size, bs_size, bs_size, Lib.decDigits_length]; simp only [List.length_cons, List.length_nil]; omega)
          obtain ⟨z4, HZ4, a4⟩ := add_ex z3 (bs (textT d x.2)) (by rw [HZ3.out, HZ2.out, HZ1.out, ByteArray.size_append, ByteArray.size_append, ByteArray.size_append, bs_size, bs_size, bs_size, bs_size, Lib.decDigits_length]; simp only [List.length_cons, List.length_nil]; omega)
          have HZ : Hid (z4 = bs (100 :: (numT t.kids.length ++ ((t.kids.take (j + 1)).flatMap fun x => bytesT x.1 ++ textT d x.2)))) := show _ = _ by
            rw [kid_text HZ1.out HZ2.out HZ3.out HZ4.out, HSN.out, hlo]
            simp
          have a2 : ∀ w', (Op.stringOp .add z1 { data := #[58] }).run Tryd.prog w' = .ok (.string z2) w' := a2
          rw [← hlo]
          clear HZ1 HZ2 HZ3 HZ4 hlo hlol hfl hL HSN HLEN HZS HIHH HKS HLI HOP K hat hx hml hnd
          generalize bs (Lib.decDigits x.1.size) = dg at HDC2 a1
          generalize bs (textT d x.2) = tx at HIH a4
          generalize bs lo = o at a1 ⊢
          have hj0 : (0 : Int) ≤ (j : Int) := by omega
          have hj1 : (j : Int) < (t.kids.length : Int) := by omega
          go_upto_region 12 with fail
          refine wp_region_held_drew (S := fun w' => w'.cell? ⟨w.heap.size, 3, none⟩ = some (.slice (some ⟨b, off, none⟩) t.kids.length tc) ∧ w'.cell? ⟨b, off + j * 5, none⟩ = some (.string x.1) ∧ w'.cell? ⟨b, off + j * 5 + 1, none⟩ = some (.string x.2.kind) ∧ w'.cell? ⟨b, off + j * 5 + 2, none⟩ = some (.string x.2.data) ∧ w'.cell? ⟨b, off + j * 5 + 3, none⟩ = some (.bool x.2.exec) ∧ w'.cell? ⟨b, off + j * 5 + 4, none⟩ = some (.slice xa x.2.kids.length xc)) (by kernel_rfl) (HC12.out _ HGR.out.drew) (fun hHeld => ?_)
          refine wpAnyH_take (i := 0) (v := .string o) rfl (by kernel_rfl) (by kernel_rfl) (by kernel_rfl) (fun _ _ _ h => h) (Or.inl ⟨by rfl, ?_⟩) hHeld ?_
          · intro w hSw; (try dsimp only at hSw); simp only [List.getElem_toArray, List.getElem_cons_zero]; go_simp
          simp only [List.getElem_toArray, List.getElem_cons_zero, Act.put, List.setIfInBounds_toArray, List.set_cons_zero, List.set_cons_succ]
          refine wpAnyH_take (i := 1) (v := .pointer (some ⟨w.heap.size, 3, none⟩)) rfl (by kernel_rfl) (by kernel_rfl) (by kernel_rfl) (fun _ _ _ h => h) (Or.inl ⟨by rfl, ?_⟩) hHeld ?_
          · intro w hSw; (try dsimp only at hSw); simp only [List.getElem_toArray, List.getElem_cons_zero, List.getElem_cons_succ]; go_simp
          simp only [List.getElem_toArray, List.getElem_cons_zero, List.getElem_cons_succ, Act.put, List.setIfInBounds_toArray, List.set_cons_zero, List.set_cons_succ]
          refine wpAnyH_take (i := 2) (v := .slice (some ⟨b, off, none⟩) t.kids.length tc) rfl (by kernel_rfl) (by kernel_rfl) (by kernel_rfl) (fun _ _ _ h => h) (Or.inl ⟨by rfl, ?_⟩) hHeld ?_
          · intro w hSw; (try dsimp only at hSw); simp only [List.getElem_toArray, List.getElem_cons_zero, List.getElem_cons_succ]; go_simp
          simp only [List.getElem_toArray, List.getElem_cons_zero, List.getElem_cons_succ, Act.put, List.setIfInBounds_toArray, List.set_cons_zero, List.set_cons_succ]
          refine wpAnyH_take (i := 3) (v := .int .i64 (j : Int)) rfl (by kernel_rfl) (by kernel_rfl) (by kernel_rfl) (fun _ _ _ h => h) (Or.inl ⟨by rfl, ?_⟩) hHeld ?_
          · intro w hSw; (try dsimp only at hSw); simp only [List.getElem_toArray, List.getElem_cons_zero, List.getElem_cons_succ]; go_simp
          simp only [List.getElem_toArray, List.getElem_cons_zero, List.getElem_cons_succ, Act.put, List.setIfInBounds_toArray, List.set_cons_zero, List.set_cons_succ]
          refine wpAnyH_take (i := 4) (v := .pointer (some ⟨b, off + j * 5, none⟩)) rfl (by kernel_rfl) (by kernel_rfl) (by kernel_rfl) (fun _ _ _ h => h) (Or.inl ⟨by rfl, ?_⟩) hHeld ?_
          · intro w hSw; (try dsimp only at hSw); simp only [List.getElem_toArray, List.getElem_cons_zero, List.getElem_cons_succ]; go_simp
          simp only [List.getElem_toArray, List.getElem_cons_zero, List.getElem_cons_succ, Act.put, List.setIfInBounds_toArray, List.set_cons_zero, List.set_cons_succ]
          refine wpAnyH_take (i := 5) (v := .pointer (some ⟨b, off + j * 5, none⟩)) rfl (by kernel_rfl) (by kernel_rfl) (by kernel_rfl) (fun _ _ _ h => h) (Or.inl ⟨by rfl, ?_⟩) hHeld ?_
          · intro w hSw; (try dsimp only at hSw); simp only [List.getElem_toArray, List.getElem_cons_zero, List.getElem_cons_succ]; go_simp
          simp only [List.getElem_toArray, List.getElem_cons_zero, List.getElem_cons_succ, Act.put, List.setIfInBounds_toArray, List.set_cons_zero, List.set_cons_succ]
          refine wpAnyH_take (i := 6) (v := .string x.1) rfl (by kernel_rfl) (by kernel_rfl) (by kernel_rfl) (fun _ _ _ h => h) (Or.inl ⟨by rfl, ?_⟩) hHeld ?_
          · intro w hSw; (try dsimp only at hSw); simp only [List.getElem_toArray, List.getElem_cons_zero, List.getElem_cons_succ]; go_simp
          simp only [List.getElem_toArray, List.getElem_cons_zero, List.getElem_cons_succ, Act.put, List.setIfInBounds_toArray, List.set_cons_zero, List.set_cons_succ]
          refine wpAnyH_take (i := 7) (v := .int .i64 (x.1.size : Int)) rfl (by kernel_rfl) (by kernel_rfl) (by kernel_rfl) (fun _ _ _ h => h) (Or.inl ⟨by rfl, ?_⟩) hHeld ?_
          · intro w hSw; (try dsimp only at hSw); simp only [List.getElem_toArray, List.getElem_cons_zero, List.getElem_cons_succ]; go_simp
          simp only [List.getElem_toArray, List.getElem_cons_zero, List.getElem_cons_succ, Act.put, List.setIfInBounds_toArray, List.set_cons_zero, List.set_cons_succ]
          refine wpAnyH_take (i := 11) (v := .pointer (some ⟨w.heap.size, 3, none⟩)) rfl (by kernel_rfl) (by kernel_rfl) (by kernel_rfl) (fun _ _ _ h => h) (Or.inl ⟨by rfl, ?_⟩) hHeld ?_
          · intro w hSw; (try dsimp only at hSw); simp only [List.getElem_toArray, List.getElem_cons_zero, List.getElem_cons_succ]; go_simp
          simp only [List.getElem_toArray, List.getElem_cons_zero, List.getElem_cons_succ, Act.put, List.setIfInBounds_toArray, List.set_cons_zero, List.set_cons_succ]
          refine wpAnyH_take (i := 12) (v := .slice (some ⟨b, off, none⟩) t.kids.length tc) rfl (by kernel_rfl) (by kernel_rfl) (by kernel_rfl) (fun _ _ _ h => h) (Or.inl ⟨by rfl, ?_⟩) hHeld ?_
          · intro w hSw; (try dsimp only at hSw); simp only [List.getElem_toArray, List.getElem_cons_zero, List.getElem_cons_succ]; go_simp
          simp only [List.getElem_toArray, List.getElem_cons_zero, List.getElem_cons_succ, Act.put, List.setIfInBounds_toArray, List.set_cons_zero, List.set_cons_succ]
          refine wpAnyH_take (i := 13) (v := .int .i64 (j : Int)) rfl (by kernel_rfl) (by kernel_rfl) (by kernel_rfl) (fun _ _ _ h => h) (Or.inl ⟨by rfl, ?_⟩) hHeld ?_
          · intro w hSw; (try dsimp only at hSw); simp only [List.getElem_toArray, List.getElem_cons_zero, List.getElem_cons_succ]; go_simp
          simp only [List.getElem_toArray, List.getElem_cons_zero, List.getElem_cons_succ, Act.put, List.setIfInBounds_toArray, List.set_cons_zero, List.set_cons_succ]
          refine wpAnyH_take (i := 14) (v := .pointer (some ⟨b, off + j * 5, none⟩)) rfl (by kernel_rfl) (by kernel_rfl) (by kernel_rfl) (fun _ _ _ h => h) (Or.inl ⟨by rfl, ?_⟩) hHeld ?_
          · intro w hSw; (try dsimp only at hSw); simp only [List.getElem_toArray, List.getElem_cons_zero, List.getElem_cons_succ]; go_simp
          simp only [List.getElem_toArray, List.getElem_cons_zero, List.getElem_cons_succ, Act.put, List.setIfInBounds_toArray, List.set_cons_zero, List.set_cons_succ]
          refine wpAnyH_take (i := 15) (v := .pointer (some ⟨b, off + j * 5, none⟩)) rfl (by kernel_rfl) (by kernel_rfl) (by kernel_rfl) (fun _ _ _ h => h) (Or.inl ⟨by rfl, ?_⟩) hHeld ?_
          · intro w hSw; (try dsimp only at hSw); simp only [List.getElem_toArray, List.getElem_cons_zero, List.getElem_cons_succ]; go_simp
          simp only [List.getElem_toArray, List.getElem_cons_zero, List.getElem_cons_succ, Act.put, List.setIfInBounds_toArray, List.set_cons_zero, List.set_cons_succ]
          refine wpAnyH_take (i := 16) (v := .string x.1) rfl (by kernel_rfl) (by kernel_rfl) (by kernel_rfl) (fun _ _ _ h => h) (Or.inl ⟨by rfl, ?_⟩) hHeld ?_
          · intro w hSw; (try dsimp only at hSw); simp only [List.getElem_toArray, List.getElem_cons_zero, List.getElem_cons_succ]; go_simp
          simp only [List.getElem_toArray, List.getElem_cons_zero, List.getElem_cons_succ, Act.put, List.setIfInBounds_toArray, List.set_cons_zero, List.set_cons_succ]
          refine wpAnyH_take (i := 18) (v := .pointer (some ⟨w.heap.size, 3, none⟩)) rfl (by kernel_rfl) (by kernel_rfl) (by kernel_rfl) (fun _ _ _ h => h) (Or.inl ⟨by rfl, ?_⟩) hHeld ?_
          · intro w hSw; (try dsimp only at hSw); simp only [List.getElem_toArray, List.getElem_cons_zero, List.getElem_cons_succ]; go_simp
          simp only [List.getElem_toArray, List.getElem_cons_zero, List.getElem_cons_succ, Act.put, List.setIfInBounds_toArray, List.set_cons_zero, List.set_cons_succ]
          refine wpAnyH_take (i := 19) (v := .slice (some ⟨b, off, none⟩) t.kids.length tc) rfl (by kernel_rfl) (by kernel_rfl) (by kernel_rfl) (fun _ _ _ h => h) (Or.inl ⟨by rfl, ?_⟩) hHeld ?_
          · intro w hSw; (try dsimp only at hSw); simp only [List.getElem_toArray, List.getElem_cons_zero, List.getElem_cons_succ]; go_simp
          simp only [List.getElem_toArray, List.getElem_cons_zero, List.getElem_cons_succ, Act.put, List.setIfInBounds_toArray, List.set_cons_zero, List.set_cons_succ]
          refine wpAnyH_take (i := 20) (v := .int .i64 (j : Int)) rfl (by kernel_rfl) (by kernel_rfl) (by kernel_rfl) (fun _ _ _ h => h) (Or.inl ⟨by rfl, ?_⟩) hHeld ?_
          · intro w hSw; (try dsimp only at hSw); simp only [List.getElem_toArray, List.getElem_cons_zero, List.getElem_cons_succ]; go_simp
          simp only [List.getElem_toArray, List.getElem_cons_zero, List.getElem_cons_succ, Act.put, List.setIfInBounds_toArray, List.set_cons_zero, List.set_cons_succ]
          refine wpAnyH_take (i := 21) (v := .pointer (some ⟨b, off + j * 5, none⟩)) rfl (by kernel_rfl) (by kernel_rfl) (by kernel_rfl) (fun _ _ _ h => h) (Or.inl ⟨by rfl, ?_⟩) hHeld ?_
          · intro w hSw; (try dsimp only at hSw); simp only [List.getElem_toArray, List.getElem_cons_zero, List.getElem_cons_succ]; go_simp
          simp only [List.getElem_toArray, List.getElem_cons_zero, List.getElem_cons_succ, Act.put, List.setIfInBounds_toArray, List.set_cons_zero, List.set_cons_succ]
          refine wpAnyH_take (i := 22) (v := .pointer (some ⟨b, off + j * 5 + 1, none⟩)) rfl (by kernel_rfl) (by kernel_rfl) (by kernel_rfl) (fun _ _ _ h => h) (Or.inl ⟨by rfl, ?_⟩) hHeld ?_
          · intro w hSw; (try dsimp only at hSw); simp only [List.getElem_toArray, List.getElem_cons_zero, List.getElem_cons_succ]; go_simp
          simp only [List.getElem_toArray, List.getElem_cons_zero, List.getElem_cons_succ, Act.put, List.setIfInBounds_toArray, List.set_cons_zero, List.set_cons_succ]
          refine wpAnyH_take (i := 23) (v := .agg #[.string x.2.kind, .string x.2.data, .bool x.2.exec, .slice xa x.2.kids.length xc]) rfl (by kernel_rfl) (by kernel_rfl) (by kernel_rfl) (fun _ _ _ h => h) (Or.inl ⟨by rfl, ?_⟩) hHeld ?_
          · intro w hSw; (try dsimp only at hSw); simp only [List.getElem_toArray, List.getElem_cons_zero, List.getElem_cons_succ]; go_simp
          simp only [List.getElem_toArray, List.getElem_cons_zero, List.getElem_cons_succ, Act.put, List.setIfInBounds_toArray, List.set_cons_zero, List.set_cons_succ]
          refine wpAnyH_ready (rs := [8]) (by kernel_rfl) (by simp) ?_
          refine AllReadyH.cons rfl (fun K' hK => ?_) AllReadyH.nil
          simp only [List.getElem_toArray, List.getElem_cons_zero, List.getElem_cons_succ]
          go_simp
          refine Calls.mono (HDC2.out _) ?_
          rintro e wx ⟨rfl, hb⟩
          have HGA : Hid (TxG w _ wx) := HGR.out.drew.on hb
          clear hb
          go_wp2_with fail
          refine hK.out _ _ (HC12.out _ HGA.out) (fun hHeld' => ?_)
          clear hK K' hHeld
          have hHeld := hHeld'
          clear hHeld'
          refine wpAnyH_take (i := 9) (v := .string z1) rfl (by kernel_rfl) (by kernel_rfl) (by kernel_rfl) (fun _ _ _ h => h) (Or.inl ⟨by rfl, ?_⟩) hHeld ?_
          · intro w hSw; (try dsimp only at hSw); simp only [List.getElem_toArray, List.getElem_cons_zero, List.getElem_cons_succ]; go_simp
          simp only [List.getElem_toArray, List.getElem_cons_zero, List.getElem_cons_succ, Act.put, List.setIfInBounds_toArray, List.set_cons_zero, List.set_cons_succ]
          refine wpAnyH_take (i := 10) (v := .string z2) rfl (by kernel_rfl) (by kernel_rfl) (by kernel_rfl) (fun _ _ _ h => h) (Or.inl ⟨by rfl, ?_⟩) hHeld ?_
          · intro w hSw; (try dsimp only at hSw); simp only [List.getElem_toArray, List.getElem_cons_zero, List.getElem_cons_succ]; go_simp
          simp only [List.getElem_toArray, List.getElem_cons_zero, List.getElem_cons_succ, Act.put, List.setIfInBounds_toArray, List.set_cons_zero, List.set_cons_succ]
          refine wpAnyH_take (i := 17) (v := .string z3) rfl (by kernel_rfl) (by kernel_rfl) (by kernel_rfl) (fun _ _ _ h => h) (Or.inl ⟨by rfl, ?_⟩) hHeld ?_
          · intro w hSw; (try dsimp only at hSw); simp only [List.getElem_toArray, List.getElem_cons_zero, List.getElem_cons_succ]; go_simp
          simp only [List.getElem_toArray, List.getElem_cons_zero, List.getElem_cons_succ, Act.put, List.setIfInBounds_toArray, List.set_cons_zero, List.set_cons_succ]
          refine wpAnyH_ready (rs := [24]) (by kernel_rfl) (by simp) ?_
          refine AllReadyH.cons rfl (fun K' hK => ?_) AllReadyH.nil
          simp only [List.getElem_toArray, List.getElem_cons_zero, List.getElem_cons_succ]
          go_simp
          refine Calls.mono (HIH.out _ HGA.out) ?_
          rintro e wx ⟨rfl, hb⟩
          have HGG : Hid (TxG w _ wx) := HGA.out.on hb
          clear hb
          go_wp2_with fail
          refine hK.out _ _ (HC12.out _ HGG.out) (fun hHeld' => ?_)
          clear hK K' hHeld
          have hHeld := hHeld'
          clear hHeld'
          refine wpAnyH_take (i := 25) (v := .string z4) rfl (by kernel_rfl) (by kernel_rfl) (by kernel_rfl) (fun _ _ _ h => h) (Or.inl ⟨by rfl, ?_⟩) hHeld ?_
          · intro w hSw; (try dsimp only at hSw); simp only [List.getElem_toArray, List.getElem_cons_zero, List.getElem_cons_succ]; go_simp
          simp only [List.getElem_toArray, List.getElem_cons_zero, List.getElem_cons_succ, Act.put, List.setIfInBounds_toArray, List.set_cons_zero, List.set_cons_succ]
          refine wpAnyH_take (i := 26) (v := .string z4) rfl (by kernel_rfl) (by kernel_rfl) (by kernel_rfl) (fun _ _ _ h => h) (Or.inl ⟨by rfl, ?_⟩) hHeld ?_
          · intro w hSw; (try dsimp only at hSw); simp only [List.getElem_toArray, List.getElem_cons_zero, List.getElem_cons_succ]; go_simp
          simp only [List.getElem_toArray, List.getElem_cons_zero, List.getElem_cons_succ, Act.put, List.setIfInBounds_toArray, List.set_cons_zero, List.set_cons_succ]
          refine wpAnyH_done (by kernel_rfl) ?_ _
          go_wp2_with fail
          go_roundw
          case rel => exact ⟨j + 1, by omega, by go_num, by rw [HZ.out], HGG.out⟩
          case measure => simp [intOf]; omega
        · have ej : j = t.kids.length := by omega
          subst ej
          go_wp2_with fail
          go_ret
          exact ⟨ret_str (by rw [HTX.out, List.take_length]), HGR.out.1⟩
end Go.Proofs.YtilkjafggfdjeaaDoor
