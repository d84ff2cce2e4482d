/-
  The contracts of the document's answer for a tree's size and its files: stillroomref1's SizeOf and FilesOf.
  Conditions: the tree lies in memory below block B; its nodes' data is no longer than a statement allows.
-/
import Derived.Test.YtilkjafggfdjeaaDoorRefI
namespace Go.Proofs.YtilkjafggfdjeaaDoor
open Go.RowKit
attribute [local go_sem ↓] Go.wp_at_zero Go.wp_at_succ

theorem ToldAt.below {l : List (ByteArray × Nat × Tree)} {g : Nat} {w w' : World} (h : ToldAt l g w) (hg : g < w.heap.size) (hb : Below w.heap.size w w') : ToldAt l g w' := fun i x hx => by
  obtain ⟨h1, h2, h3⟩ := h i x hx
  have hc : ∀ o, w'.cell? ⟨g, o, none⟩ = w.cell? ⟨g, o, none⟩ := fun o => hb.cell (p := ⟨g, o, none⟩) hg
  exact ⟨by rw [hc]; exact h1, by rw [hc]; exact h2, by rw [hc]; exact h3⟩
theorem flStep_yes {q : List ByteArray} {x : ByteArray × Nat × Tree} (h : (x.2.2.kind.toList == [102, 105, 108, 101]) = true) : flStep q x = q ++ [fixP x.1] := by
  unfold flStep isFile
  rw [if_pos h]
  rfl
theorem flStep_no {q : List ByteArray} {x : ByteArray × Nat × Tree} (h : (x.2.2.kind.toList == [102, 105, 108, 101]) = false) : flStep q x = q := by
  unfold flStep isFile
  rw [if_neg (by simp [h])]
theorem szStep_yes {q : Nat} {x : ByteArray × Nat × Tree} (h : (x.2.2.kind.toList == [102, 105, 108, 101]) = true) : szStep q x = q + x.2.2.data.size := by
  unfold szStep isFile
  rw [if_pos h]
theorem szStep_no {q : Nat} {x : ByteArray × Nat × Tree} (h : (x.2.2.kind.toList == [102, 105, 108, 101]) = false) : szStep q x = q := by
  unfold szStep isFile
  rw [if_neg (by simp [h])]
theorem files_le (l : List (ByteArray × Nat × Tree)) : (filesR l).length ≤ l.length := by
  unfold filesR
  cases errOf l with
  | none =>
    have := fl_len (l := l) l.length
    rw [List.take_length] at this
    exact this
  | some e => simp

set_option maxRecDepth 100000 in
set_option maxHeartbeats 1000000 in
theorem sizeOf_any (B d d' : Nat) (t : Tree) (u : Value) (w : World) (l : List (ByteArray × Nat × Tree)) (hll : l = listOf 200 8 t) (hB : B ≤ w.heap.size) (hl : Lies w B d t.kids u) (hdat : Dat d' t) (hlen : l.length ≤ 1000000) (hds : ∀ x ∈ l, x.2.2.data.size ≤ 2001) :
    Calls Tryd.prog 22 #[.agg #[.string t.kind, .string t.data, .bool t.exec, u]] w fun e w' => e = .returned (.int .i64 (sizeR l : Int)) ∧ Below w.heap.size w w' := by
  obtain ⟨ta, tc, rfl⟩ := hl.form
  have hW : ∀ o, Below w.heap.size w (w.alloc o) := fun o => (Below.refl _ _).alloc (Nat.le_refl _) o
  have hE : ∀ o, Calls Tryd.prog 16 #[.agg #[.string t.kind, .string t.data, .bool t.exec, .slice ta t.kids.length tc]] (w.alloc o) fun e w' => e = .returned (.int .i64 (num (errOf l))) ∧ Below (w.alloc o).heap.size (w.alloc o) w' := fun o => by
    rw [hll]
    exact treeError_any B d d' t _ (w.alloc o) (by simp; omega) (hl.below (hW o) hB) hdat
  have hI : ∀ w', Below w.heap.size w w' → Calls Tryd.prog 44 #[.agg #[.string t.kind, .string t.data, .bool t.exec, .slice ta t.kids.length tc]] w' fun e w'' => ∃ g cap, e = .returned (.slice (some ⟨g, 0, none⟩) l.length cap) ∧ g < w''.heap.size ∧ ToldAt l g w'' ∧ Below w'.heap.size w' w'' := fun w' h =>
    itemsOf_any B d t _ w' l hll (by have := h.size; omega) (hl.below h hB)
  have HW : Hid _ := hW
  have HE : Hid _ := hE
  have HI : Hid _ := hI
  have HDS : Hid _ := hds
  clear hW hE hI hl hll hdat hds
  cases he : errOf l with
  | some er =>
    have HC : Hid (sizeR l = 0) := show _ = _ by unfold sizeR; rw [he]
    have HN : Hid (num (errOf l) = (er : Int) + 1) := show _ = _ by rw [he]; rfl
    clear he
    go_enter Tryd.func22, Tryd.ntmps22
    go_wp2_with fail
    refine Calls.mono (HE.out _) ?_
    rintro e w2 ⟨rfl, h2⟩
    rw [HN.out]
    go_wp2_with fail
    go_ret
    exact ⟨ret_int (by rw [HC.out]; rfl), (HW.out _).trans (h2.mono (by simp))⟩
  | none =>
    have HC : Hid (sizeR l = l.foldl szStep 0) := show _ = _ by unfold sizeR; rw [he]
    have HN : Hid (num (errOf l) = 0) := show _ = _ by rw [he]; rfl
    clear he
    go_enter Tryd.func22, Tryd.ntmps22
    go_wp2_with fail
    refine Calls.mono (HE.out _) ?_
    rintro e w2 ⟨rfl, h2⟩
    rw [HN.out]
    have hb2 : Below w.heap.size w w2 := (HW.out _).trans (h2.mono (by simp))
    have hcn : ∀ i, w2.cell? ⟨w.heap.size, i, none⟩ = #[Value.string t.kind, .string t.data, .bool t.exec, .slice ta t.kids.length tc][i]? := fun i => by
      rw [h2.cell (p := ⟨w.heap.size, i, none⟩) (by simp), World.cell?_alloc_at _ _ _ _ rfl]
    have d0 : w2.cell? ⟨w.heap.size, 0, none⟩ = _ := hcn 0
    have d1 : w2.cell? ⟨w.heap.size, 1, none⟩ = _ := hcn 1
    have d2 : w2.cell? ⟨w.heap.size, 2, none⟩ = _ := hcn 2
    have d3 : w2.cell? ⟨w.heap.size, 3, none⟩ = _ := hcn 3
    simp only [List.getElem?_toArray, List.getElem?_cons_zero, List.getElem?_cons_succ] at d0 d1 d2 d3
    clear hcn h2
    go_wp2_with fail
    refine Calls.mono (HI.out _ hb2) ?_
    rintro e w3 ⟨g, cap, rfl, hg, hT, h3⟩
    have HT : Hid (ToldAt l g w3) := hT
    have hb3 : Below w.heap.size w w3 := hb2.trans (h3.mono hb2.size)
    clear hT d0 d1 d2 d3
    go_wp2_with fail
    go_loop [3, 5] (fun k i => ∃ j n : Nat, j ≤ l.length ∧ i = .int .i64 j ∧ k = .int .i64 (n : Int) ∧ n = (l.take j).foldl szStep 0) (fun _ i => l.length - (intOf i).toNat)
    case atStart => exact ⟨0, 0, Nat.zero_le _, rfl, rfl, rfl⟩
    case round =>
      obtain ⟨j, n, hj, rfl, rfl, hn⟩ := hrel
      have hnb : n ≤ 2001000000 := by
        have := sz_bound HDS.out j
        omega
      have HQ : Hid (n = (l.take j).foldl szStep 0) := hn
      clear hn
      by_cases hlt : j < l.length
      · obtain ⟨x, hx⟩ : ∃ x, l[j]? = some x := ⟨l[j], List.getElem?_eq_getElem hlt⟩
        obtain ⟨c0, c2, c3⟩ := HT.out j x hx
        have hxd := HDS.out x (List.mem_of_getElem? hx)
        have HS : Hid _ := sz_take hx
        clear hx
        cases hf : (x.2.2.kind.toList == [102, 105, 108, 101])
        · have HR : Hid (n = (l.take (j + 1)).foldl szStep 0) := show _ = _ by rw [HS.out, ← HQ.out, szStep_no hf]
          go_wp2_with fail
          go_round
          case rel => exact ⟨j + 1, n, by omega, by go_num, rfl, HR.out⟩
          case measure => simp [intOf]; omega
        · have HR : Hid (n + x.2.2.data.size = (l.take (j + 1)).foldl szStep 0) := show _ = _ by rw [HS.out, ← HQ.out, szStep_yes hf]
          go_wp2_with fail
          go_round
          case rel => exact ⟨j + 1, n + x.2.2.data.size, by omega, by go_num, by go_num, HR.out⟩
          case measure => simp [intOf]; omega
      · have HR : Hid (n = l.foldl szStep 0) := by
          have := HQ.out
          rw [List.take_of_length_le (by omega)] at this
          exact this
        go_wp2_with fail
        go_ret
        exact ⟨ret_int (by rw [HC.out, ← HR.out]), hb3⟩

set_option maxRecDepth 100000 in
set_option maxHeartbeats 2000000 in
theorem filesOf_any (B d d' : Nat) (t : Tree) (u : Value) (w : World) (l : List (ByteArray × Nat × Tree)) (hll : l = listOf 200 8 t) (hB : B ≤ w.heap.size) (hl : Lies w B d t.kids u) (hdat : Dat d' t) (hlen : l.length ≤ 1000000) :
    Calls Tryd.prog 25 #[.agg #[.string t.kind, .string t.data, .bool t.exec, u]] w fun e w' => ∃ v, e = .returned v ∧ w'.ownsRow w.heap.size 9 1 v (filesR l).length ((filesR l).map Value.string) ∧ Below w.heap.size w w' := by
  obtain ⟨ta, tc, rfl⟩ := hl.form
  obtain ⟨i0, hi0, hz0, hz1, hz2⟩ := info_parts infoStr
  have hW : ∀ o, Below w.heap.size w (w.alloc o) := fun o => (Below.refl _ _).alloc (Nat.le_refl _) o
  have hE : ∀ o, Calls Tryd.prog 16 #[.agg #[.string t.kind, .string t.data, .bool t.exec, .slice ta t.kids.length tc]] (w.alloc o) fun e w' => e = .returned (.int .i64 (num (errOf l))) ∧ Below (w.alloc o).heap.size (w.alloc o) w' := fun o => by
    rw [hll]
    exact treeError_any B d d' t _ (w.alloc o) (by simp; omega) (hl.below (hW o) hB) hdat
  have hI : ∀ w', Below w.heap.size w w' → Calls Tryd.prog 44 #[.agg #[.string t.kind, .string t.data, .bool t.exec, .slice ta t.kids.length tc]] w' fun e w'' => ∃ g cap, e = .returned (.slice (some ⟨g, 0, none⟩) l.length cap) ∧ g < w''.heap.size ∧ ToldAt l g w'' ∧ Below w'.heap.size w' w'' := fun w' h =>
    itemsOf_any B d t _ w' l hll (by have := h.size; omega) (hl.below h hB)
  have HW : Hid _ := hW
  have HE : Hid _ := hE
  have HI : Hid _ := hI
  clear hW hE hI hl hll hdat
  cases he : errOf l with
  | some er =>
    have HC : Hid (filesR l = []) := show _ = _ by unfold filesR; rw [he]
    have HN : Hid (num (errOf l) = (er : Int) + 1) := show _ = _ by rw [he]; rfl
    clear he
    go_enter Tryd.func25, Tryd.ntmps25
    go_wp2_with fail
    refine Calls.mono (HE.out _) ?_
    rintro e w2 ⟨rfl, h2⟩
    rw [HN.out]
    go_wp2_with fail
    go_ret
    refine ⟨_, rfl, ?_, (HW.out _).trans (h2.mono (by simp))⟩
    rw [HC.out]
    exact ⟨rfl, .inl ⟨rfl, rfl⟩⟩
  | none =>
    have HC : Hid (filesR l = l.foldl flStep []) := show _ = _ by unfold filesR; rw [he]
    have HN : Hid (num (errOf l) = 0) := show _ = _ by rw [he]; rfl
    clear he
    go_enter Tryd.func25, Tryd.ntmps25
    go_wp2_with fail
    refine Calls.mono (HE.out _) ?_
    rintro e w2 ⟨rfl, h2⟩
    rw [HN.out]
    have hb2 : Below w.heap.size w w2 := (HW.out _).trans (h2.mono (by simp))
    have hcn : ∀ i, w2.cell? ⟨w.heap.size, i, none⟩ = #[Value.string t.kind, .string t.data, .bool t.exec, .slice ta t.kids.length tc][i]? := fun i => by
      rw [h2.cell (p := ⟨w.heap.size, i, none⟩) (by simp), World.cell?_alloc_at _ _ _ _ rfl]
    have d0 : w2.cell? ⟨w.heap.size, 0, none⟩ = _ := hcn 0
    have d1 : w2.cell? ⟨w.heap.size, 1, none⟩ = _ := hcn 1
    have d2 : w2.cell? ⟨w.heap.size, 2, none⟩ = _ := hcn 2
    have d3 : w2.cell? ⟨w.heap.size, 3, none⟩ = _ := hcn 3
    simp only [List.getElem?_toArray, List.getElem?_cons_zero, List.getElem?_cons_succ] at d0 d1 d2 d3
    clear hcn h2
    go_wp2_with fail
    refine Calls.mono (HI.out _ hb2) ?_
    rintro e w3 ⟨g, cap, rfl, hg, hT, h3⟩
    have HT : Hid (ToldAt l g w3) := hT
    have hb3 : Below w.heap.size w w3 := hb2.trans (h3.mono hb2.size)
    have HB3 : Hid _ := hb3
    clear hT d0 d1 d2 d3 h3 hb2 hb3
    go_wp2_with fail
    go_loopw [3, 5] (fun k i wr => ∃ (j : Nat) (q : List ByteArray), j ≤ l.length ∧ i = .int .i64 j ∧ q = (l.take j).foldl flStep [] ∧ wr.ownsRow w3.heap.size 9 1 k q.length (q.map Value.string) ∧ Below w3.heap.size w3 wr) (fun _ i _ => l.length - (intOf i).toNat)
    case atStart => exact ⟨0, [], Nat.zero_le _, rfl, rfl, ⟨rfl, .inl ⟨rfl, rfl⟩⟩, Below.refl _ _⟩
    case round =>
      obtain ⟨j, q, hj, rfl, hq, hown, hb⟩ := hrel
      have hql : q.length ≤ 1000000 := by
        have := fl_len (l := l) j
        rw [hq]
        omega
      have HQ : Hid (q = (l.take j).foldl flStep []) := hq
      have HOWN : Hid _ := hown
      have HB : Hid _ := hb
      have hws : w3.heap.size ≤ wr.heap.size := hb.size
      clear hq hown hb
      by_cases hlt : j < l.length
      · obtain ⟨x, hx⟩ : ∃ x, l[j]? = some x := ⟨l[j], List.getElem?_eq_getElem hlt⟩
        obtain ⟨c0, c2, c3⟩ := (HT.out.below hg HB.out) j x hx
        have HS : Hid _ := fl_take hx
        clear hx
        cases hf : (x.2.2.kind.toList == [102, 105, 108, 101])
        · have HR : Hid (q = (l.take (j + 1)).foldl flStep []) := show _ = _ by rw [HS.out, ← HQ.out, flStep_no hf]
          go_wp2_with fail
          go_roundw
          case rel => exact ⟨j + 1, q, by omega, by go_num, HR.out, HOWN.out, HB.out⟩
          case measure => simp [intOf]; omega
        · have HR : Hid (q ++ [fixP x.1] = (l.take (j + 1)).foldl flStep []) := show _ = _ by rw [HS.out, ← HQ.out, flStep_yes hf]
          generalize fixP x.1 = fp at *
          have HN : Hid ((wr.alloc (.cells #[.string fp] 9)).heap[wr.heap.size]? = some (.cells #[.string fp] 9 (0, 0))) := row_alloc wr #[.string fp] 9
          go_wp2_with (at_builtin; go_must (refine wpList_append_lies _ (by rfl) _ _ 36 (by rfl) w3.heap.size 9 i0 (.string { data := #[] }) 1 16 Tryd.underlying36 hi0 hz0 hz1 hz2 rfl (by omega) _ q.length (q.map Value.string) (by rfl) (World.ownsRow.alloc HOWN.out _) ⟨wr.heap.size, 0, none⟩ 1 1 [.string fp] (by rfl) (by rfl) (World.news_of_block (cs := #[.string fp]) (t := 9) (fr := (0, 0)) HN.out) (by simp [Value.oneCell']) (by omega) (by unfold maxLen; omega) (by omega) (by simp; omega) (wr.heap.size + 1) (by simp) ?_; intro g1 cap' w4 hown1 hgrow hat hlt4; have HG : Hid _ := hgrow; have HO1 : Hid _ := hown1; clear hgrow hown1 hat))
          go_roundw
          case rel =>
            refine ⟨j + 1, q ++ [fp], by omega, by go_num, HR.out, ?_, ?_⟩
            · rw [List.length_append, List.map_append]
              exact HO1.out
            · exact (HB.out.alloc hws _).grown HG.out (by simp; omega) fun k hk => (World.ownsRow.lt HOWN.out k hk).1
          case measure => simp [intOf]; omega
      · have HR : Hid (q = filesR l) := by
          have := HQ.out
          rw [List.take_of_length_le (by omega)] at this
          exact this.trans HC.out.symm
        go_wp2_with fail
        go_ret
        refine ⟨_, rfl, ?_, HB3.out.trans (HB.out.mono HB3.out.size)⟩
        rw [← HR.out]
        exact ownsRow_lower HOWN.out HB3.out.size
end Go.Proofs.YtilkjafggfdjeaaDoor
