/-
  The contract of the document's own ListOf: a tree's nodes with their paths, so many at most, so deep at most.
  Conditions: the node lies in memory below block B; the two bounds are small.
-/
import Derived.Test.YtpjjpmikhjlgnaaGreatDoorLists
import Derived.Test.YtpjjpmikhjlgnaaGreatDoorOwn
import Derived.Deep.DeepMust
namespace Go.Proofs.YtpjjpmikhjlgnaaGreatDoor
open Go.RowKit
attribute [local go_sem ↓] Go.wp_at_zero Go.wp_at_succ

theorem infoItem : (Tryz.prog.info? 69).map (fun i => (i.zero, i.size, i.bytes)) = some (some (.agg #[.string { data := #[] }, .int .i64 0, .string { data := #[] }, .string { data := #[] }, .bool false, .slice none 0 0]), 6, 88) := by kernel_rfl

theorem own_cap {w : World} {base : Nat} {e : TypeId} {size g n cap : Nat} {xs : List Value} (h : w.ownsRow base e size (.slice (some ⟨g, 0, none⟩) n cap) n xs) : n ≤ cap := by
  rcases h.2 with ⟨h, _⟩ | ⟨g', cap', cur, h, _, _, h2, _⟩
  · cases h
  · simp only [Value.slice.injEq] at h; omega

/-- The state of the outer loop. -/
structure ListAt (w : World) (most deep B : Nat) (t : Tree) (j : Nat) (L : List ((ByteArray × Nat × Tree) × Value)) (v : Value) (wr : World) : Prop where
  strip : L.map (·.1) = listTo most deep [(ByteArray.empty, 0, t)] j
  own : wr.ownsRow w.heap.size 69 6 v L.length (itCells L)
  lies : ∀ x ∈ L, ∃ d, Lies wr B d x.1.2.2.kids x.2
  path : ∀ x ∈ L, x.1.1.size ≤ x.1.2.1 * 140737488355329 ∧ x.1.2.1 ≤ deep + 1
  below : Below w.heap.size w wr

/-- The state of the inner loop: so many kids stand behind what was there. -/
structure InAt (B : Nat) (W1 : World) (M0 : List ((ByteArray × Nat × Tree) × Value)) (p : ByteArray) (k : Nat) (tx : Tree) (kk : Nat) (K : List ((ByteArray × Nat × Tree) × Value)) (v : Value) (w2 : World) : Prop where
  strip : K.map (·.1) = (tx.kids.take kk).map fun y => (p ++ slash ++ y.1, k + 1, y.2)
  own : w2.ownsRow W1.heap.size 69 6 v (M0.length + kk) (itCells (M0 ++ K))
  lies : ∀ x ∈ K, ∃ d, Lies w2 B d x.1.2.2.kids x.2
  path : ∀ x ∈ K, x.1.1.size ≤ x.1.2.1 * 140737488355329 ∧ x.1.2.1 = k + 1
  below : Below W1.heap.size W1 w2

theorem in_next {B : Nat} {W1 w2 wa w5 : World} {M0 K : List ((ByteArray × Nat × Tree) × Value)} {p : ByteArray} {k : Nat} {tx : Tree} {kk dy g cap : Nat} {v u : Value} {y : ByteArray × Tree} (I : InAt B W1 M0 p k tx kk K v w2) (hy : tx.kids[kk]? = some y) (hB : B ≤ W1.heap.size)
    (hp : p.size ≤ k * 140737488355329) (hn : y.1.size ≤ 140737488355328) (hl : Lies w2 B dy y.2.kids u) (hba : Below w2.heap.size w2 wa)
    (hown5 : w5.ownsRow W1.heap.size 69 6 (.slice (some ⟨g, 0, none⟩) (M0.length + kk + 1) cap) (M0.length + kk + 1) (itCells (M0 ++ K) ++ [.string (p ++ { data := #[47] } ++ y.1), .int .i64 ((k : Int) + 1), .string y.2.kind, .string y.2.data, .bool y.2.exec, u]))
    (hgrow : wa.grownBy w5 v.ownBlock) : InAt B W1 M0 p k tx (kk + 1) (K ++ [((p ++ slash ++ y.1, k + 1, y.2), u)]) (.slice (some ⟨g, 0, none⟩) (M0.length + kk + 1) cap) w5 := by
  have hlt := fun m hm => I.own.lt m hm
  have h5 : Below W1.heap.size w2 w5 := ⟨hgrow.os.trans hba.os, hgrow.tape.trans hba.tape, hgrow.output.trans hba.output, Nat.le_trans hba.size hgrow.size, fun m hm => by
    have hm2 : m < w2.heap.size := Nat.lt_of_lt_of_le hm I.below.size
    rw [hgrow.block m (Nat.lt_of_lt_of_le hm2 hba.size) (fun e => by have := (hlt m e.symm).1; omega), hba.block m hm2]⟩
  have hkk : kk < tx.kids.length := (List.getElem?_eq_some_iff.1 hy).1
  refine ⟨?_, ?_, ?_, ?_, I.below.trans h5⟩
  · have e : tx.kids.take (kk + 1) = tx.kids.take kk ++ [y] := by rw [List.take_succ_eq_append_getElem hkk, (List.getElem?_eq_some_iff.1 hy).2]
    rw [e, List.map_append, List.map_append, I.strip]
    rfl
  · have e : itCells (M0 ++ (K ++ [((p ++ slash ++ y.1, k + 1, y.2), u)])) = itCells (M0 ++ K) ++ [.string (p ++ { data := #[47] } ++ y.1), .int .i64 ((k : Int) + 1), .string y.2.kind, .string y.2.data, .bool y.2.exec, u] := by
      rw [← List.append_assoc, itCells_append]
      have ek : (((k + 1 : Nat)) : Int) = (k : Int) + 1 := by omega
      simp only [itCells, ek]
      rfl
    rw [e]
    exact hown5
  · intro x hx
    rcases List.mem_append.1 hx with h | h
    · obtain ⟨d', h'⟩ := I.lies x h
      exact ⟨d', h'.below h5 hB⟩
    · simp only [List.mem_singleton] at h
      subst h
      exact ⟨dy, hl.below h5 hB⟩
  · intro x hx
    rcases List.mem_append.1 hx with h | h
    · exact I.path x h
    · simp only [List.mem_singleton] at h
      subst h
      refine ⟨?_, rfl⟩
      simp only [ByteArray.size_append]
      have e : slash.size = 1 := rfl
      rw [Nat.add_mul]
      omega

/-- One node's kids stand behind it. -/
theorem list_next {B most deep : Nat} {w wo W1 w2 w6 : World} {t tx : Tree} {j k kk : Nat} {p : ByteArray} {L K : List ((ByteArray × Nat × Tree) × Value)} {v v2 v6 : Value} (A : ListAt w most deep B t j L v wo) (hW1 : Below wo.heap.size wo W1) (I : InAt B W1 (L.take (j + 1)) p k tx kk K v2 w2)
    (hkl : kk ≤ tx.kids.length) (hkk : tx.kids.take kk = tx.kids.take (most + 1)) (hj : j < L.length) (hB : B ≤ w.heap.size) (hkd : k ≤ deep)
    (hG : listTo most deep [(ByteArray.empty, 0, t)] (j + 1) = (listTo most deep [(ByteArray.empty, 0, t)] j).take (j + 1) ++ kidsOf most (p, k, tx) ++ (listTo most deep [(ByteArray.empty, 0, t)] j).drop (j + 1))
    (hown : w6.ownsRow W1.heap.size 69 6 v6 (j + 1 + kk + (L.length - (j + 1))) (itCells (L.take (j + 1) ++ K) ++ itCells (L.drop (j + 1)))) (hgrow : w2.grownBy w6 v2.ownBlock) :
    (L.take (j + 1) ++ K ++ L.drop (j + 1)).length = j + 1 + kk + (L.length - (j + 1)) ∧ ListAt w most deep B t (j + 1) (L.take (j + 1) ++ K ++ L.drop (j + 1)) v6 w6 := by
  have hKl : K.length = kk := by
    have := congrArg List.length I.strip
    simp only [List.length_map, List.length_take] at this
    omega
  have hlen : (L.take (j + 1) ++ K ++ L.drop (j + 1)).length = j + 1 + kk + (L.length - (j + 1)) := by
    simp only [List.length_append, List.length_take, List.length_drop, hKl]; omega
  have hBo : B ≤ wo.heap.size := Nat.le_trans hB A.below.size
  have h6 : Below W1.heap.size w2 w6 := ⟨hgrow.os, hgrow.tape, hgrow.output, hgrow.size, fun m hm => hgrow.block m (Nat.lt_of_lt_of_le hm I.below.size) (fun e => by have := (I.own.lt m e.symm).1; omega)⟩
  have hB1 : B ≤ W1.heap.size := Nat.le_trans hBo hW1.size
  refine ⟨hlen, ⟨?_, ?_, ?_, ?_, ?_⟩⟩
  · rw [hG, List.map_append, List.map_append, List.map_take, List.map_drop, A.strip, I.strip, hkk]
    rfl
  · rw [hlen, itCells_append]
    exact ownsRow_lower hown (Nat.le_trans A.below.size hW1.size)
  · intro x hx
    have hL : x ∈ L → ∃ d, Lies w6 B d x.1.2.2.kids x.2 := fun h => by
      obtain ⟨d', h'⟩ := A.lies x h
      exact ⟨d', ((h'.below hW1 hBo).below I.below hB1).below h6 hB1⟩
    rcases List.mem_append.1 hx with h | h
    · rcases List.mem_append.1 h with h | h
      · exact hL (List.mem_of_mem_take h)
      · obtain ⟨d', h'⟩ := I.lies x h
        exact ⟨d', h'.below h6 hB1⟩
    · exact hL (List.mem_of_mem_drop h)
  · intro x hx
    rcases List.mem_append.1 hx with h | h
    · rcases List.mem_append.1 h with h | h
      · exact A.path x (List.mem_of_mem_take h)
      · have := I.path x h
        exact ⟨this.1, by omega⟩
    · exact A.path x (List.mem_of_mem_drop h)
  · have hw1 : w.heap.size ≤ wo.heap.size := A.below.size
    have hw2 := hW1.size
    exact A.below.trans ((hW1.mono hw1).trans ((I.below.mono (by omega)).trans (h6.mono (by omega))))

set_option maxRecDepth 100000 in
set_option maxHeartbeats 4000000 in
theorem listOf_any (B d most deep : Nat) (t : Tree) (u : Value) (w : World) (hB : B ≤ w.heap.size) (hl : Lies w B d t.kids u) (hm : most ≤ 1000) (hdp : deep ≤ 100) :
    Calls Tryz.prog 30 #[.agg #[.string t.kind, .string t.data, .bool t.exec, u], .int .i64 (most : Int), .int .i64 (deep : Int)] w fun e w' => ∃ L v, e = .returned v ∧ ListAt w most deep B t (most + 1) L v w' := by
  obtain ⟨ta, tc, rfl⟩ := hl.form
  obtain ⟨i0, hi0, hz0, hz1, hz2⟩ := info_parts infoItem
  have HL : Hid _ := hl
  clear hl
  go_enter Tryz.func30, Tryz.ntmps30
  go_wp2_with fail
  go_loopw [7, 8] (fun v i wr => ∃ (j : Nat) (L : List ((ByteArray × Nat × Tree) × Value)) (g cap : Nat), v = .slice (some ⟨g, 0, none⟩) L.length cap ∧ i = .int .i64 j ∧ j ≤ most + 1 ∧ ListAt w most deep B t j L (.slice (some ⟨g, 0, none⟩) L.length cap) wr) (fun _ i _ => most + 1 - (intOf i).toNat)
  case atStart =>
    have hb : Below w.heap.size w ((w.alloc (.cells #[.string t.kind, .string t.data, .bool t.exec, .slice ta t.kids.length tc] 24)).alloc (.cells #[.string { data := #[] }, .int .i64 0, .string t.kind, .string t.data, .bool t.exec, .slice ta t.kids.length tc] 69)) := ((Below.refl _ _).alloc (Nat.le_refl _) _).alloc (by simp) _
    refine ⟨0, [((ByteArray.empty, 0, t), .slice ta t.kids.length tc)], w.heap.size + 1, 1, rfl, rfl, by omega, ⟨rfl, ?_, ?_, ?_, hb⟩⟩
    · have := ownsRow_single (w.alloc (.cells #[.string t.kind, .string t.data, .bool t.exec, .slice ta t.kids.length tc] 24)) w.heap.size 69 6 #[.string { data := #[] }, .int .i64 0, .string t.kind, .string t.data, .bool t.exec, .slice ta t.kids.length tc] (by simp) rfl
      rw [World.size_alloc] at this
      exact this
    · intro x hx
      simp only [List.mem_singleton] at hx
      subst hx
      exact ⟨d, Lies.below HL.out hb hB⟩
    · intro x hx
      simp only [List.mem_singleton] at hx
      subst hx
      exact ⟨Nat.zero_le _, Nat.zero_le _⟩
  case round =>
    obtain ⟨j, L, g, cap, rfl, rfl, hj, A⟩ := hrel
    obtain ⟨wo, rfl⟩ : ∃ wo, wo = wr := ⟨wr, rfl⟩
    have hLl : L.length ≤ 1 + j * (most + 1) := by
      have h1 := listTo_len (most := most) (deep := deep) (l := [(ByteArray.empty, 0, t)]) j
      rw [← A.strip] at h1
      simpa using h1
    have hLb : L.length ≤ 1100000 := by
      have : j * (most + 1) ≤ 1001 * 1001 := Nat.mul_le_mul (by omega) (by omega)
      omega
    by_cases hlt : j < L.length
    · by_cases hjm : j ≤ most
      · obtain ⟨x, hx⟩ : ∃ x, L[j]? = some x := ⟨L[j], List.getElem?_eq_getElem hlt⟩
        obtain ⟨⟨p, k, tx⟩, ux⟩ := x
        have hmem := List.mem_of_getElem? hx
        obtain ⟨dx, hlx⟩ := A.lies _ hmem
        have hpx := A.path _ hmem
        simp only at hlx hpx
        obtain ⟨xa, xc, rfl⟩ := hlx.form
        have hcs := A.own.cells (g := g) rfl
        have hadd : ∀ o, (⟨g, 0, none⟩ : Addr).add o = ⟨g, o, none⟩ := fun o => by unfold Addr.add; split <;> simp_all
        obtain ⟨y0, y1, y2, y3, y4, y5⟩ := itCells_at hx
        have c0 := hcs _ _ y0
        have c1 := hcs _ _ y1
        have c2 := hcs _ _ y2
        have c3 := hcs _ _ y3
        have c4 := hcs _ _ y4
        have c5 := hcs _ _ y5
        rw [hadd] at c0 c1 c2 c3 c4 c5
        simp only at c0 c1 c2 c3 c4 c5
        have hgb := A.own.lt g rfl
        have hcap : L.length ≤ cap := own_cap A.own
        have hj0 : (0 : Int) ≤ (j : Int) := by omega
        have hj1 : (j : Int) < (L.length : Int) := by omega
        have HA : Hid _ := A
        have HX : Hid _ := hx
        have HLX : Hid _ := hlx
        have HCS : Hid _ := hcs
        have hstrip : (listTo most deep [(ByteArray.empty, 0, t)] j)[j]? = some (p, k, tx) := by rw [← A.strip, List.getElem?_map, hx]; rfl
        by_cases hdk : deep < k
        · have HG : Hid (listTo most deep [(ByteArray.empty, 0, t)] (j + 1) = listTo most deep [(ByteArray.empty, 0, t)] j) := by
            show grow most deep _ j = _
            unfold grow
            rw [hstrip]
            exact if_pos hdk
          clear hcs hadd y0 y1 y2 y3 y4 y5 A hx hlx hmem hLl hstrip
          go_wp2_with fail
          go_roundw
          case rel => exact ⟨j + 1, L, g, cap, rfl, by go_num, by omega, ⟨by rw [HG.out]; exact HA.out.strip, ownsRow_ext' HA.out.own (fun m hm => Below.heap_alloc _ _ _ (HA.out.own.lt m hm).2), fun y hy => by
            obtain ⟨d', h'⟩ := HA.out.lies y hy
            exact ⟨d', h'.below ((Below.refl _ _).alloc (Nat.le_refl _) _) (Nat.le_trans hB HA.out.below.size)⟩, HA.out.path, HA.out.below.alloc HA.out.below.size _⟩⟩
          case measure => simp [intOf]; omega
        · have HG : Hid (listTo most deep [(ByteArray.empty, 0, t)] (j + 1) = (listTo most deep [(ByteArray.empty, 0, t)] j).take (j + 1) ++ kidsOf most (p, k, tx) ++ (listTo most deep [(ByteArray.empty, 0, t)] j).drop (j + 1)) := by
            show grow most deep _ j = _
            unfold grow
            rw [hstrip]
            exact if_neg hdk
          have hone : ∀ v ∈ itCells (L.take (j + 1)), v.oneCell' = true := itCells_oneCell fun y hy => by
            obtain ⟨d', h'⟩ := A.lies y (List.mem_of_mem_take hy)
            obtain ⟨ya, yc, e⟩ := h'.form
            exact ⟨ya, _, yc, e⟩
          have hnews : ∀ (ob : Obj) (o : Nat) (v : Value), (itCells (L.take (j + 1)))[o]? = some v → (wo.alloc ob).cell? ((⟨g, 0, none⟩ : Addr).add o) = some v := fun ob o v h => by
            rw [itCells_take] at h
            have h2 := hcs o v (by rw [List.getElem?_take] at h; split at h; exact h; cases h)
            rw [hadd] at h2 ⊢
            rw [World.cell?_alloc_lt _ _ _ hgb.2]
            exact h2
          have HONE : Hid _ := hone
          have HNEWS : Hid _ := hnews
          have hlen1 : (itCells (L.take (j + 1))).length = (j + 1) * 6 := by rw [itCells_length, List.length_take]; congr 1; omega
          have HLEN1 : Hid _ := hlen1
          clear hcs hadd y0 y1 y2 y3 y4 y5 A hx hlx hmem hLl hstrip hone hnews hlen1
          go_wp2_with (at_builtin; go_must (refine wpList_append_lies _ (by rfl) (.tmp 34) (.tmp 38) 66 (by rfl) (wo.heap.size + 1) 69 i0 _ 6 88 Tryz.underlying66 hi0 hz0 hz1 hz2 rfl (by omega) (.slice none 0 0) 0 [] (by rfl) (World.ownsRow_nil _ _ _ _) ⟨g, 0, none⟩ (j + 1) cap (itCells (L.take (j + 1))) (by rfl) HLEN1.out (HNEWS.out _) HONE.out (by omega) (by unfold maxLen; omega) (by omega) (by simp) (wo.heap.size + 1) (by simp) ?_; intro g1 cap1 w1 hown1 hgrow1 hat1 hlt1))
          have hbx : Below (wo.heap.size + 1) (wo.alloc (.cells #[.string p, .int .i64 (k : Int), .string tx.kind, .string tx.data, .bool tx.exec, .slice xa tx.kids.length xc] 69)) w1 := ⟨hgrow1.os, hgrow1.tape, hgrow1.output, hgrow1.size, fun m hm => hgrow1.block m (by simp; omega) (by simp [Value.ownBlock])⟩
          have hI0 : InAt B (wo.alloc (.cells #[.string p, .int .i64 (k : Int), .string tx.kind, .string tx.data, .bool tx.exec, .slice xa tx.kids.length xc] 69)) (L.take (j + 1)) p k tx 0 [] (.slice (some ⟨g1, 0, none⟩) (j + 1) cap1) w1 := by
            have el : (L.take (j + 1)).length = j + 1 := by rw [List.length_take]; omega
            refine ⟨rfl, ?_, fun x hx => (by simp at hx), fun x hx => (by simp at hx), ?_⟩
            · rw [World.size_alloc, List.append_nil, el]
              have h := hown1
              rw [Nat.zero_add, List.nil_append] at h
              exact h
            · rw [World.size_alloc]; exact hbx
          have hbox : ∀ o, (wo.alloc (.cells #[.string p, .int .i64 (k : Int), .string tx.kind, .string tx.data, .bool tx.exec, .slice xa tx.kids.length xc] 69)).cell? ⟨wo.heap.size, o, none⟩ = #[Value.string p, .int .i64 (k : Int), .string tx.kind, .string tx.data, .bool tx.exec, .slice xa tx.kids.length xc][o]? := fun o => World.cell?_alloc_at _ _ _ _ rfl
          have hzz : (wo.alloc (.cells #[.string p, .int .i64 (k : Int), .string tx.kind, .string tx.data, .bool tx.exec, .slice xa tx.kids.length xc] 69)).heap.size = wo.heap.size + 1 := World.size_alloc _ _
          have hWb : Below wo.heap.size wo (wo.alloc (.cells #[.string p, .int .i64 (k : Int), .string tx.kind, .string tx.data, .bool tx.exec, .slice xa tx.kids.length xc] 69)) := (Below.refl _ _).alloc (Nat.le_refl _) _
          have HI0 : Hid _ := hI0
          have HBOX : Hid _ := hbox
          have HWB : Hid _ := hWb
          have HZZ : Hid _ := hzz
          clear hown1 hgrow1 hat1 hlt1 hbx hI0 hbox hWb hzz c0 c1 c2 c3 c4 c5
          generalize wo.alloc (.cells #[.string p, .int .i64 (k : Int), .string tx.kind, .string tx.data, .bool tx.exec, .slice xa tx.kids.length xc] 69) = W1 at *
          have hML : (L.take (j + 1)).length = j + 1 := by rw [List.length_take]; omega
          have HML : Hid _ := hML
          clear hML
          go_loopw [10, 11] (fun v i w2 => ∃ (kk : Nat) (K : List ((ByteArray × Nat × Tree) × Value)) (g2 cap2 : Nat), v = .slice (some ⟨g2, 0, none⟩) (j + 1 + kk) cap2 ∧ i = .int .i64 kk ∧ kk ≤ tx.kids.length ∧ kk ≤ most + 1 ∧ InAt B W1 (L.take (j + 1)) p k tx kk K (.slice (some ⟨g2, 0, none⟩) (j + 1 + kk) cap2) w2) (fun _ i _ => most + 1 - (intOf i).toNat)
          case atStart => exact ⟨0, [], g1, cap1, rfl, rfl, Nat.zero_le _, Nat.zero_le _, HI0.out⟩
          case round =>
            obtain ⟨kk, K, g2, cap2, rfl, rfl, hkl, hkm, I⟩ := hrel
            have b0 : wr.cell? ⟨wo.heap.size, 0, none⟩ = some (.string p) := by rw [I.below.cell (p := ⟨wo.heap.size, 0, none⟩) (by rw [HZZ.out]; exact Nat.lt_succ_self _), HBOX.out]; rfl
            have b1 : wr.cell? ⟨wo.heap.size, 1, none⟩ = some (.int .i64 (k : Int)) := by rw [I.below.cell (p := ⟨wo.heap.size, 1, none⟩) (by rw [HZZ.out]; exact Nat.lt_succ_self _), HBOX.out]; rfl
            have b5 : wr.cell? ⟨wo.heap.size, 5, none⟩ = some (.slice xa tx.kids.length xc) := by rw [I.below.cell (p := ⟨wo.heap.size, 5, none⟩) (by rw [HZZ.out]; exact Nat.lt_succ_self _), HBOX.out]; rfl
            have hb0 : Below wo.heap.size wo wr := HWB.out.trans (I.below.mono (by rw [HZZ.out]; omega))
            have lbx : wo.heap.size < wr.heap.size := by have := I.below.size; have := HZZ.out; omega
            by_cases hin : kk < tx.kids.length
            · by_cases hkm' : kk ≤ most
              · obtain ⟨y, hy⟩ : ∃ y, tx.kids[kk]? = some y := ⟨tx.kids[kk], List.getElem?_eq_getElem hin⟩
                obtain ⟨b, off, rfl, uy, dy, Y0⟩ : ∃ b off, xa = some ⟨b, off, none⟩ ∧ ∃ u dy, KidAt wo B dy b off kk y u := by
                  have h := HLX.out
                  cases dx with
                  | zero => exact absurd h (by simp [Lies])
                  | succ dx =>
                    rcases (Lies.open h).2 with ⟨h0, _⟩ | ⟨b, off, cp, e, _, hk⟩
                    · rw [h0] at hin; exact absurd hin (by simp)
                    · simp only [Value.slice.injEq] at e
                      obtain ⟨u, hu⟩ := hk kk y hy
                      exact ⟨b, off, e.1, u, dx, hu⟩
                have hBo : B ≤ wo.heap.size := Nat.le_trans hB HA.out.below.size
                have Y := Y0.below hb0 hBo
                obtain ⟨ya, yc, rfl⟩ := Y.lies.form
                have n0 := Y.name
                have n1 := Y.kind
                have n2 := Y.data
                have n3 := Y.exec
                have n4 := Y.kids
                have HYL : Hid _ := Y.lies
                have HYS : Hid _ := Y.size
                have lb : b < wr.heap.size := by have := Y.lt; omega
                have a1 : (Value.slice (some ⟨g2, 0, none⟩) (j + 1 + kk) cap2).ownBlock ≠ some wo.heap.size := fun e => by have := (I.own.lt _ e).1; have := HZZ.out; omega
                have a2 : (Value.slice (some ⟨g2, 0, none⟩) (j + 1 + kk) cap2).ownBlock ≠ some b := fun e => by have := (I.own.lt _ e).1; have := HZZ.out; have := Y.lt; omega
                have hk0 : (0 : Int) ≤ (kk : Int) := by omega
                have hk1 : (kk : Int) < (tx.kids.length : Int) := by omega
                have hps : p.size + 1 + y.1.size ≤ 9223372036854775807 := by
                  have h1 := hpx.1
                  have h2 : k * 140737488355329 ≤ 101 * 140737488355329 := Nat.mul_le_mul_right _ (by have := hpx.2; omega)
                  have h3 := Y.size
                  omega
                have sa1 : ∀ w', (Op.stringOp .add p { data := #[47] }).run Tryz.prog w' = .ok (.string (p ++ { data := #[47] })) w' := fun w' => run_string_add_sum w' _ _ (by show p.size + 1 ≤ _; omega)
                have sa2 : ∀ w', (Op.stringOp .add (p ++ { data := #[47] }) y.1).run Tryz.prog w' = .ok (.string (p ++ { data := #[47] } ++ y.1)) w' := fun w' => run_string_add_sum w' _ _ (by rw [ByteArray.size_append]; show p.size + 1 + y.1.size ≤ _; omega)
                have hkb : k ≤ 101 := by have := hpx.2; omega
                have wk : IntKind.i64.wrap ((k : Int) + 1) = (k : Int) + 1 := by simp (disch := omega) only [IntWalk.i64_in]
                have HPX : Hid _ := hpx
                have HI : Hid _ := I
                have HY : Hid _ := hy
                have HOW' : Hid (wr.ownsRow W1.heap.size 69 6 (.slice (some ⟨g2, 0, none⟩) (j + 1 + kk) cap2) (j + 1 + kk) (itCells (L.take (j + 1) ++ K))) := by
                  have h := I.own
                  rw [HML.out] at h
                  exact h
                have HW1s : Hid (W1.heap.size ≤ wr.heap.size) := I.below.size
                clear I Y Y0 hy hpx
                go_wp2_with fail
                go_region_held3 (fun w' => w'.cell? ⟨wo.heap.size, 0, none⟩ = some (.string p) ∧ w'.cell? ⟨wo.heap.size, 1, none⟩ = some (.int .i64 (k : Int)) ∧ w'.cell? ⟨wo.heap.size, 5, none⟩ = some (.slice (some ⟨b, off, none⟩) tx.kids.length xc) ∧ w'.cell? ⟨b, off + kk * 5, none⟩ = some (.string y.1) ∧ w'.cell? ⟨b, off + kk * 5 + 1, none⟩ = some (.string y.2.kind) ∧ w'.cell? ⟨b, off + kk * 5 + 2, none⟩ = some (.string y.2.data) ∧ w'.cell? ⟨b, off + kk * 5 + 3, none⟩ = some (.bool y.2.exec) ∧ w'.cell? ⟨b, off + kk * 5 + 4, none⟩ = some (.slice ya y.2.kids.length yc))
                  (first
                    | go_keep
                    | (go_split_ands
                       refine ⟨?_, ?_, ?_, ?_, ?_, ?_, ?_, ?_⟩
                       · (rw [hgrow.cell_far _ (by first | (simp; done) | (simp; omega)) (Ne.symm a1)]; assumption)
                       · (rw [hgrow.cell_far _ (by first | (simp; done) | (simp; omega)) (Ne.symm a1)]; assumption)
                       · (rw [hgrow.cell_far _ (by first | (simp; done) | (simp; omega)) (Ne.symm a1)]; assumption)
                       · (rw [hgrow.cell_far _ (by first | (simp; done) | (simp; omega)) (Ne.symm a2)]; assumption)
                       · (rw [hgrow.cell_far _ (by first | (simp; done) | (simp; omega)) (Ne.symm a2)]; assumption)
                       · (rw [hgrow.cell_far _ (by first | (simp; done) | (simp; omega)) (Ne.symm a2)]; assumption)
                       · (rw [hgrow.cell_far _ (by first | (simp; done) | (simp; omega)) (Ne.symm a2)]; assumption)
                       · (rw [hgrow.cell_far _ (by first | (simp; done) | (simp; omega)) (Ne.symm a2)]; assumption)))
                  ((refine step_append_lies _ (by rfl) _ _ _ (by rfl) W1.heap.size 69 i0 _ 6 88 Tryz.underlying66 hi0 hz0 hz1 hz2 rfl (by omega) (.slice (some ⟨g2, 0, none⟩) (j + 1 + kk) cap2) (j + 1 + kk) (itCells (L.take (j + 1) ++ K)) (by rfl) ((World.ownsRow.alloc HOW'.out _).drew) ⟨wr.heap.size, 0, none⟩ 1 1 [.string (p ++ { data := #[47] } ++ y.1), .int .i64 ((k : Int) + 1), .string y.2.kind, .string y.2.data, .bool y.2.exec, .slice ya y.2.kids.length yc] (by rfl) (by rfl) (World.news_of_block (cs := #[.string (p ++ { data := #[47] } ++ y.1), .int .i64 ((k : Int) + 1), .string y.2.kind, .string y.2.data, .bool y.2.exec, .slice ya y.2.kids.length yc]) (t := 69) (fr := (0, 0)) (heap_alloc_new wr _)) (by simp [Value.oneCell']) (by omega) (by unfold maxLen; omega) (by omega) (by have := HW1s.out; simp; omega) (wr.heap.size + 1) (by simp) ?_; intro g5 cap5 w5 hown5 hgrow hat5 hlt5))
                go_wp2_with fail
                have hI := in_next HI.out HY.out (by have := HWB.out.size; have := HA.out.below.size; omega) HPX.out.1 HYS.out HYL.out (wa := (wr.alloc (.cells #[.string (p ++ { data := #[47] } ++ y.1), .int .i64 ((k : Int) + 1), .string y.2.kind, .string y.2.data, .bool y.2.exec, .slice ya y.2.kids.length yc] 69)).drew) (by go_grown) (by rw [HML.out]; exact hown5) hgrow
                rw [HML.out] at hI
                go_roundw
                case rel => exact ⟨kk + 1, _, g5, cap5, rfl, by go_num, by omega, by omega, hI⟩
                case measure => simp [intOf]; omega
              · have htk : tx.kids.take kk = tx.kids.take (most + 1) := by congr 1; omega
                have HTK : Hid _ := htk
                have hone2 : ∀ v ∈ itCells (L.drop (j + 1)), v.oneCell' = true := itCells_oneCell fun y hy => by
                  obtain ⟨d', h'⟩ := HA.out.lies y (List.mem_of_mem_drop hy)
                  obtain ⟨ya, yc, e⟩ := h'.form
                  exact ⟨ya, _, yc, e⟩
                have HONE2 : Hid _ := hone2
                have hlen2 : (itCells (L.drop (j + 1))).length = (L.length - (j + 1)) * 6 := by rw [itCells_length, List.length_drop]
                have HLEN2 : Hid _ := hlen2
                have hnews2 : ∀ (o : Nat) (v : Value), (itCells (L.drop (j + 1)))[o]? = some v → wr.cell? ((⟨g, (j + 1) * 6, none⟩ : Addr).add o) = some v := fun o v h => by
                  rw [itCells_drop, List.getElem?_drop] at h
                  have h2 := HCS.out _ v h
                  have hadd : ∀ (q o : Nat), (⟨g, q, none⟩ : Addr).add o = ⟨g, q + o, none⟩ := fun q o => by unfold Addr.add; split <;> simp_all
                  rw [hadd, Nat.zero_add] at h2
                  rw [hadd, hb0.cell (p := ⟨g, (j + 1) * 6 + o, none⟩) hgb.2]
                  exact h2
                have HNEWS2 : Hid _ := hnews2
                have HOW' : Hid (wr.ownsRow W1.heap.size 69 6 (.slice (some ⟨g2, 0, none⟩) (j + 1 + kk) cap2) (j + 1 + kk) (itCells (L.take (j + 1) ++ K))) := by
                  have h := I.own
                  rw [HML.out] at h
                  exact h
                have HW1s : Hid (W1.heap.size ≤ wr.heap.size) := I.below.size
                have HI : Hid _ := I
                clear I htk hone2 hlen2 hnews2
                by_cases hc : cap = j + 1
                · have hL1 : L.length = j + 1 := by omega
                  have hnil : Hid (∀ o v, (itCells (L.drop (j + 1)))[o]? = some v → wr.cell? ((⟨g, 0, none⟩ : Addr).add o) = some v) := fun o v h => by
                    rw [List.drop_eq_nil_of_le (by omega)] at h; simp [itCells] at h
                  have HL1 : Hid _ := hL1
                  clear hL1
                  go_wp2_with (at_builtin; go_must (refine wpList_append_own _ (by rfl) (.tmp 78) (.tmp 82) 66 (by rfl) W1.heap.size 69 i0 _ 6 88 Tryz.underlying66 hi0 hz0 hz1 hz2 rfl (by omega) (.slice (some ⟨g2, 0, none⟩) (j + 1 + kk) cap2) (j + 1 + kk) (itCells (L.take (j + 1) ++ K)) (by rfl) HOW'.out ⟨g, 0, none⟩ (L.length - (j + 1)) 0 (itCells (L.drop (j + 1))) (by rfl) HLEN2.out hnil.out HONE2.out (by unfold maxLen; omega) (by omega) HW1s.out ?_; intro v6 w6 hown6 hgrow6 hv6; obtain ⟨g6, cap6, rfl, _, _⟩ := hown6.form (by omega)))
                  have hN := list_next HA.out HWB.out HI.out hkl HTK.out hlt hB (by omega) HG.out hown6 hgrow6
                  go_roundw
                  case rel => exact ⟨j + 1, _, g6, cap6, by rw [hN.1], by go_num, by omega, by rw [hN.1]; exact hN.2⟩
                  case measure => simp [intOf]; omega
                · go_wp2_with (at_builtin; go_must (refine wpList_append_own _ (by rfl) (.tmp 78) (.tmp 82) 66 (by rfl) W1.heap.size 69 i0 _ 6 88 Tryz.underlying66 hi0 hz0 hz1 hz2 rfl (by omega) (.slice (some ⟨g2, 0, none⟩) (j + 1 + kk) cap2) (j + 1 + kk) (itCells (L.take (j + 1) ++ K)) (by rfl) HOW'.out ⟨g, (j + 1) * 6, none⟩ (L.length - (j + 1)) (cap - (j + 1)) (itCells (L.drop (j + 1))) (by rfl) HLEN2.out HNEWS2.out HONE2.out (by unfold maxLen; omega) (by omega) HW1s.out ?_; intro v6 w6 hown6 hgrow6 hv6; obtain ⟨g6, cap6, rfl, _, _⟩ := hown6.form (by omega)))
                  have hN := list_next HA.out HWB.out HI.out hkl HTK.out hlt hB (by omega) HG.out hown6 hgrow6
                  go_roundw
                  case rel => exact ⟨j + 1, _, g6, cap6, by rw [hN.1], by go_num, by omega, by rw [hN.1]; exact hN.2⟩
                  case measure => simp [intOf]; omega
            · have htk : tx.kids.take kk = tx.kids.take (most + 1) := by rw [List.take_of_length_le (by omega), List.take_of_length_le (by omega)]
              have HTK : Hid _ := htk
              have hone2 : ∀ v ∈ itCells (L.drop (j + 1)), v.oneCell' = true := itCells_oneCell fun y hy => by
                obtain ⟨d', h'⟩ := HA.out.lies y (List.mem_of_mem_drop hy)
                obtain ⟨ya, yc, e⟩ := h'.form
                exact ⟨ya, _, yc, e⟩
              have HONE2 : Hid _ := hone2
              have hlen2 : (itCells (L.drop (j + 1))).length = (L.length - (j + 1)) * 6 := by rw [itCells_length, List.length_drop]
              have HLEN2 : Hid _ := hlen2
              have hnews2 : ∀ (o : Nat) (v : Value), (itCells (L.drop (j + 1)))[o]? = some v → wr.cell? ((⟨g, (j + 1) * 6, none⟩ : Addr).add o) = some v := fun o v h => by
                rw [itCells_drop, List.getElem?_drop] at h
                have h2 := HCS.out _ v h
                have hadd : ∀ (q o : Nat), (⟨g, q, none⟩ : Addr).add o = ⟨g, q + o, none⟩ := fun q o => by unfold Addr.add; split <;> simp_all
                rw [hadd, Nat.zero_add] at h2
                rw [hadd, hb0.cell (p := ⟨g, (j + 1) * 6 + o, none⟩) hgb.2]
                exact h2
              have HNEWS2 : Hid _ := hnews2
              have HOW' : Hid (wr.ownsRow W1.heap.size 69 6 (.slice (some ⟨g2, 0, none⟩) (j + 1 + kk) cap2) (j + 1 + kk) (itCells (L.take (j + 1) ++ K))) := by
                have h := I.own
                rw [HML.out] at h
                exact h
              have HW1s : Hid (W1.heap.size ≤ wr.heap.size) := I.below.size
              have HI : Hid _ := I
              clear I htk hone2 hlen2 hnews2
              by_cases hc : cap = j + 1
              · have hL1 : L.length = j + 1 := by omega
                have hnil : Hid (∀ o v, (itCells (L.drop (j + 1)))[o]? = some v → wr.cell? ((⟨g, 0, none⟩ : Addr).add o) = some v) := fun o v h => by
                  rw [List.drop_eq_nil_of_le (by omega)] at h; simp [itCells] at h
                have HL1 : Hid _ := hL1
                clear hL1
                go_wp2_with (at_builtin; go_must (refine wpList_append_own _ (by rfl) (.tmp 78) (.tmp 82) 66 (by rfl) W1.heap.size 69 i0 _ 6 88 Tryz.underlying66 hi0 hz0 hz1 hz2 rfl (by omega) (.slice (some ⟨g2, 0, none⟩) (j + 1 + kk) cap2) (j + 1 + kk) (itCells (L.take (j + 1) ++ K)) (by rfl) HOW'.out ⟨g, 0, none⟩ (L.length - (j + 1)) 0 (itCells (L.drop (j + 1))) (by rfl) HLEN2.out hnil.out HONE2.out (by unfold maxLen; omega) (by omega) HW1s.out ?_; intro v6 w6 hown6 hgrow6 hv6; obtain ⟨g6, cap6, rfl, _, _⟩ := hown6.form (by omega)))
                have hN := list_next HA.out HWB.out HI.out hkl HTK.out hlt hB (by omega) HG.out hown6 hgrow6
                go_roundw
                case rel => exact ⟨j + 1, _, g6, cap6, by rw [hN.1], by go_num, by omega, by rw [hN.1]; exact hN.2⟩
                case measure => simp [intOf]; omega
              · go_wp2_with (at_builtin; go_must (refine wpList_append_own _ (by rfl) (.tmp 78) (.tmp 82) 66 (by rfl) W1.heap.size 69 i0 _ 6 88 Tryz.underlying66 hi0 hz0 hz1 hz2 rfl (by omega) (.slice (some ⟨g2, 0, none⟩) (j + 1 + kk) cap2) (j + 1 + kk) (itCells (L.take (j + 1) ++ K)) (by rfl) HOW'.out ⟨g, (j + 1) * 6, none⟩ (L.length - (j + 1)) (cap - (j + 1)) (itCells (L.drop (j + 1))) (by rfl) HLEN2.out HNEWS2.out HONE2.out (by unfold maxLen; omega) (by omega) HW1s.out ?_; intro v6 w6 hown6 hgrow6 hv6; obtain ⟨g6, cap6, rfl, _, _⟩ := hown6.form (by omega)))
                have hN := list_next HA.out HWB.out HI.out hkl HTK.out hlt hB (by omega) HG.out hown6 hgrow6
                go_roundw
                case rel => exact ⟨j + 1, _, g6, cap6, by rw [hN.1], by go_num, by omega, by rw [hN.1]; exact hN.2⟩
                case measure => simp [intOf]; omega
      · have HE : Hid (j = most + 1) := show _ = _ by omega
        have HA : Hid _ := A
        clear A hLl
        go_wp2_with fail
        go_ret
        exact ⟨L, _, rfl, by rw [← HE.out]; exact HA.out⟩
    · have HE : Hid (listTo most deep [(ByteArray.empty, 0, t)] (most + 1) = listTo most deep [(ByteArray.empty, 0, t)] j) := listTo_done (by rw [← A.strip]; simp; omega) _ hj
      have HA : Hid _ := A
      clear A hLl
      go_wp2_with fail
      go_ret
      exact ⟨L, _, rfl, ⟨by rw [HE.out]; exact HA.out.strip, HA.out.own, HA.out.lies, HA.out.path, HA.out.below⟩⟩
end Go.Proofs.YtpjjpmikhjlgnaaGreatDoor
