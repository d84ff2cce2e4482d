/-
  The contract of diff.Apply.
  Conditions: the sentinels hold what the program's text lays; the library's MaxLen holds a number; tree and changes lie in memory below block B; the changes' nodes are bounded; their paths are shorter than four thousand million bytes.
-/
import Derived.Test.YtilkjafggfdjeabDoorDApp
import Derived.Test.YtilkjafggfdjeabDoorDDiff
namespace Go.Proofs.YtilkjafggfdjeabDoor
open Go.RowKit
attribute [local go_sem ↓] Go.wp_at_zero Go.wp_at_succ

/-- What a change leaves is well. -/
theorem apply_well {dc : Nat} {t Y : Tree} {c : Chg} (hf : Fit 9 t) (ht : treeErr 9 t = none) (hY : Fit (9 + 1 + dc) Y) (h : applyR dc t c = .ok Y) : treeErr 9 Y = none ∧ Fit 9 Y := by
  have put : putR 9 (9 + 1 + dc) t c.path c.node = .ok Y → WN 9 Y ∧ cnt 9 Y ≤ 200 := fun h => by
    unfold putR at h
    rw [ht] at h
    cases hs : splitR c.path with
    | none => simp only [hs] at h; cases h
    | some l =>
      simp only [hs] at h
      split at h
      · cases hy : treeErr (9 + 1 + dc) (setAt c.node l t) with
        | some er => rw [hy] at h; cases h
        | none =>
          rw [hy] at h
          injection h with h
          subst h
          exact (well_iff hY).1 hy
      · cases h
  have key : WN 9 Y ∧ cnt 9 Y ≤ 200 := by
    unfold applyR at h
    split at h
    · cases hg : getR 9 t c.path with
      | ok k => rw [hg] at h; cases h
      | error e => rw [hg] at h; exact put h
    · split at h
      · cases hg : getR 9 t c.path with
        | ok k => rw [hg] at h; exact put h
        | error e => rw [hg] at h; cases h
      · split at h
        · split at h
          · unfold dropR at h
            rw [ht] at h
            cases hs : splitR c.path with
            | none => simp only [hs] at h; cases h
            | some l =>
              simp only [hs] at h
              split at h
              · cases h
              · cases hk : atR l t with
                | none => rw [hk] at h; cases h
                | some k =>
                  rw [hk] at h
                  injection h with h
                  subst h
                  obtain ⟨h1, h2⟩ := drop_tree hf ht hk
                  exact (well_iff (rises_fit h2)).1 h1
          · cases h
        · cases h
  exact ⟨(well_iff key.1.fit).2 key, key.1.fit⟩
/-- Kids that lie somewhere between two blocks. -/
def Lain (lo hi d : Nat) (l : List (ByteArray × Tree)) (v : Value) (w : World) : Prop := ∀ w9 : World, (∀ k, lo ≤ k → k < hi → w9.heap[k]? = w.heap[k]?) → hi ≤ w9.heap.size → Lies w9 hi d l v
theorem Lain.on {lo hi d : Nat} {l : List (ByteArray × Tree)} {v : Value} {w w' : World} (h : Lain lo hi d l v w) (hw : ∀ k, lo ≤ k → k < hi → w'.heap[k]? = w.heap[k]?) : Lain lo hi d l v w' := fun w9 h9 hs => h w9 (fun k h1 h2 => (h9 k h1 h2).trans (hw k h1 h2)) hs
/-- The state of the loop: nb: the block of the tree. -/
structure AllAt (dc r0 nb : Nat) (t : Tree) (l : List Chg) (w2 : World) (j : Nat) (T : Tree) (na : Option Addr) (nc : Nat) (wr : World) : Prop where
  made : appliesR dc 0 t (l.take j) = .ok T
  well : treeErr 9 T = none
  box : wr.heap[nb]? = some (.cells #[.string T.kind, .string T.data, .bool T.exec, .slice na T.kids.length nc] 24 (0, 0))
  lain : ∃ lo hi, Lain lo hi 9 T.kids (.slice na T.kids.length nc) wr ∧ hi ≤ wr.heap.size ∧ (nb < lo ∨ hi ≤ nb) ∧ r0 < lo
  below : Below nb w2 wr
theorem AllAt.lies {dc r0 nb : Nat} {t T : Tree} {l : List Chg} {w2 wr : World} {j nc : Nat} {na : Option Addr} (h : AllAt dc r0 nb t l w2 j T na nc wr) : Lies wr wr.heap.size 9 T.kids (.slice na T.kids.length nc) := by
  obtain ⟨lo, hi, h1, h2, _⟩ := h.lain
  exact (h1 wr (fun _ _ _ => rfl) h2).up h2 (Nat.le_refl _)
theorem applies_take {dc : Nat} : ∀ {l : List Chg} {i j : Nat} {t T : Tree} {c : Chg}, appliesR dc i t (l.take j) = .ok T → l[j]? = some c → appliesR dc i t (l.take (j + 1)) = (match applyR dc T c with
  | .error e => .error (i + j, e)
  | .ok Y => .ok Y) ∧ (∀ e, applyR dc T c = .error e → appliesR dc i t l = .error (i + j, e)) := by
  intro l i j t T c h hc
  have hj := (List.getElem?_eq_some_iff.1 hc).1
  have e1 : l.take (j + 1) = l.take j ++ [c] := by rw [List.take_succ_eq_append_getElem hj, (List.getElem?_eq_some_iff.1 hc).2]
  have hl : (l.take j).length = j := by rw [List.length_take]; omega
  refine ⟨?_, fun e he => ?_⟩
  · rw [e1, applies_append h, hl]
    simp only [appliesR]
    cases applyR dc T c <;> rfl
  · have e2 : l = l.take j ++ (c :: l.drop (j + 1)) := by
      rw [← (List.getElem?_eq_some_iff.1 hc).2, ← List.drop_eq_getElem_cons hj, List.take_append_drop]
    rw [e2, applies_append h, hl]
    simp only [appliesR, he]
/-- What Apply hands back. -/
def AllPost (a : Nat → Addr) (d dc : Nat) (t : Tree) (l : List Chg) (w : World) (e : Ending) (w' : World) : Prop := Below w.heap.size w w' ∧
  ((∃ er, treeErr d t = some er ∧ e = .returned (.tuple #[.agg #[.string { data := #[] }, .string { data := #[] }, .bool false, .slice none 0 0], .iface 153 (.pointer (some (a er)))])) ∨
   (treeErr d t = none ∧ ∃ i er fb, appliesR dc 0 t l = .error (i, er) ∧ e = .returned (.tuple #[.agg #[.string { data := #[] }, .string { data := #[] }, .bool false, .slice none 0 0], .iface 79 (.pointer (some ⟨fb, 0, none⟩))]) ∧ w'.heap[fb]? = some (.cells #[.int .i64 (i : Int), .iface 153 (.pointer (some (a er)))] 81 (0, 0))) ∨
   (treeErr d t = none ∧ ∃ Y u, appliesR dc 0 t l = .ok Y ∧ treeErr 9 Y = none ∧ e = .returned (.tuple #[.agg #[.string Y.kind, .string Y.data, .bool Y.exec, u], .nilIface]) ∧ Lies w' w'.heap.size 9 Y.kids u))

set_option maxRecDepth 100000 in
set_option maxHeartbeats 8000000 in
theorem all_any (a : Nat → Addr) (d dc B : Nat) (t : Tree) (l : List Chg) (u v : Value) (w : World) (S : DSen a w) (hB : B ≤ w.heap.size) (hl : Lies w B d t.kids u) (hal : Alive ck ckOk 0 (pre d ByteArray.empty 0 t)) (hch : ChgsAt w B dc l v) (hok : ∀ c ∈ l, OkT 12 c.node ∧ c.path.size < 4294967281) :
    Calls Tryd.prog 22 #[.agg #[.string t.kind, .string t.data, .bool t.exec, u], v] w (AllPost a d dc t l w) := by
  obtain ⟨ta, tc, rfl⟩ := hl.form
  obtain ⟨va, vc, rfl, hln, hcs⟩ := hch
  have hA : Below w.heap.size w ((w.alloc (.cells #[.string t.kind, .string t.data, .bool t.exec, .slice ta t.kids.length tc] 24)).alloc (.cells #[.string { data := #[] }, .string { data := #[] }, .bool false, .slice none 0 0] 24)) := ((Below.refl _ _).alloc (Nat.le_refl _) _).alloc (by simp) _
  have hz : ((w.alloc (.cells #[.string t.kind, .string t.data, .bool t.exec, .slice ta t.kids.length tc] 24)).alloc (.cells #[.string { data := #[] }, .string { data := #[] }, .bool false, .slice none 0 0] 24)).heap.size = w.heap.size + 2 := by simp
  have hbox : ((w.alloc (.cells #[.string t.kind, .string t.data, .bool t.exec, .slice ta t.kids.length tc] 24)).alloc (.cells #[.string { data := #[] }, .string { data := #[] }, .bool false, .slice none 0 0] 24)).heap[w.heap.size]? = some (.cells #[.string t.kind, .string t.data, .bool t.exec, .slice ta t.kids.length tc] 24 (0, 0)) := by rw [Below.heap_alloc _ _ _ (by simp)]; exact row_alloc' _ _ _
  have hres : ((w.alloc (.cells #[.string t.kind, .string t.data, .bool t.exec, .slice ta t.kids.length tc] 24)).alloc (.cells #[.string { data := #[] }, .string { data := #[] }, .bool false, .slice none 0 0] 24)).heap[w.heap.size + 1]? = some (.cells #[.string { data := #[] }, .string { data := #[] }, .bool false, .slice none 0 0] 24 (0, 0)) := by
    have := row_alloc' (w.alloc (.cells #[.string t.kind, .string t.data, .bool t.exec, .slice ta t.kids.length tc] 24)) #[.string { data := #[] }, .string { data := #[] }, .bool false, .slice none 0 0] 24
    simpa using this
  have HCK : Hid _ := check_any a d _ t (.slice ta t.kids.length tc) _ (S.below hA).is.is.atB (Nat.le_refl _) ((hl.below hA hB).up (by omega) (Nat.le_refl _)) hal
  obtain ⟨⟨x0, x1, x2, x3⟩, _⟩ := row4b hbox
  have HSE : Hid (DSen a w) := S
  have HA : Hid _ := hA
  have HLI : Hid (Lies w B d t.kids (.slice ta t.kids.length tc)) := hl
  have HBOX : Hid _ := hbox
  have HRES : Hid _ := hres
  have HCS : Hid (∀ i c, l[i]? = some c → ∃ b off u, va = some ⟨b, off, none⟩ ∧ b < B ∧ w.cell? ⟨b, off + i * 6, none⟩ = some (.string c.kind) ∧ w.cell? ⟨b, off + i * 6 + 1, none⟩ = some (.string c.path) ∧ w.cell? ⟨b, off + i * 6 + 2, none⟩ = some (.string c.node.kind) ∧ w.cell? ⟨b, off + i * 6 + 3, none⟩ = some (.string c.node.data) ∧ w.cell? ⟨b, off + i * 6 + 4, none⟩ = some (.bool c.node.exec) ∧ w.cell? ⟨b, off + i * 6 + 5, none⟩ = some u ∧ Lies w B dc c.node.kids u) := hcs
  have HOK : Hid _ := hok
  clear hA S hl hal hbox hres hcs hok
  go_enter Tryd.func22, Tryd.ntmps22
  go_wp2_with fail
  refine Calls.mono HCK.out ?_
  clear HCK x0 x1 x2 x3
  rintro e w1 ⟨rfl, hb1⟩
  have HB1 : Hid (Below w.heap.size w w1) := HA.out.trans (hb1.mono (by omega))
  have hz1 := hb1.size
  rw [hz] at hz1
  have hres1 := (hb1.block (w.heap.size + 1) (by omega)).trans HRES.out
  have hbox1 := (hb1.block w.heap.size (by omega)).trans HBOX.out
  have HR1 : Hid _ := hres1
  cases ht : treeErr d t with
  | some er =>
    have HT : Hid _ := ht
    obtain ⟨⟨q0, q1, q2, q3⟩, g0, g1, g2, g3⟩ := row4b hres1
    unfold errV
    clear ht hb1 hres1 hbox1
    go_wp2_with fail
    refine bodyPost_ret (v := .tuple #[.agg #[.string { data := #[] }, .string { data := #[] }, .bool false, .slice none 0 0], .iface 153 (.pointer (some (a er)))]) (by simp [results, Tryd.results22, go_sem, q0, q1, q2, q3]) rfl ?_
    have hS := ((((But1.refl (w.heap.size + 1) w1).set 0 (.string { data := #[] })).set 1 (.string { data := #[] })).set 2 (.bool false)).set 3 (.slice none 0 0)
    exact ⟨hS.below HB1.out (by omega), .inl ⟨er, HT.out, rfl⟩⟩
  | none =>
    have HT : Hid _ := ht
    obtain ⟨⟨y0, y1, y2, y3⟩, _⟩ := row4b hbox1
    have HCP : Hid _ := copy_any w.heap.size d t (.slice ta t.kids.length tc) w1 (by omega) ((HLI.out.below HB1.out hB).up hB (Nat.le_refl _))
    unfold errV
    clear ht hb1 hres1 hbox1
    go_wp2_with fail
    refine Calls.mono HCP.out ?_
    clear HCP y0 y1 y2 y3
    rintro e w2 ⟨u2, rfl, hq2, hb2⟩
    obtain ⟨ra, rc, rfl⟩ := hq2.form
    have hz2 := hb2.size
    have HB2 : Hid (Below w.heap.size w w2) := HB1.out.trans (hb2.mono HB1.out.size)
    have HR2 : Hid _ := (hb2.block (w.heap.size + 1) (by omega)).trans HR1.out
    have hws := (well_iff HLI.out.fit).1 HT.out
    have HST : Hid (AllAt dc (w.heap.size + 1) w2.heap.size t l w2 0 t ra rc (w2.alloc (.cells #[.string t.kind, .string t.data, .bool t.exec, .slice ra t.kids.length rc] 24))) := ⟨rfl, (well_iff hws.1.fit).2 hws, row_alloc' _ _ _, ⟨w1.heap.size, w2.heap.size, fun w9 h9 hs9 => Lies.levels hws.1.fit ((hq2.kept (w' := w9) (Q' := fun b => w1.heap.size ≤ b ∧ b < w2.heap.size) (fun k hk => (h9 k hk.1 hk.2).trans (Below.heap_alloc _ _ _ hk.2)) (fun _ h => h)).lies fun k hk => hk.2), by simp, .inr (Nat.le_refl _), by omega⟩, (Below.refl _ _).alloc (Nat.le_refl _) _⟩
    clear hq2 hb2 hws
    go_wp2_with fail
    go_loopw [22] (fun i wr => ∃ (j : Nat) (T : Tree) (na : Option Addr) (nc : Nat), j ≤ l.length ∧ i = .int .i64 j ∧ Hid (AllAt dc (w.heap.size + 1) w2.heap.size t l w2 j T na nc wr)) (fun i _ => l.length - (intOf i).toNat)
    case atStart => exact ⟨0, t, ra, rc, Nat.zero_le _, rfl, HST.out⟩
    case round =>
      obtain ⟨j, T, na, nc, hj, rfl, HAT⟩ := hrel
      have hzr := HAT.out.below.size
      have HBR : Hid (Below w.heap.size w wr) := HB2.out.trans (HAT.out.below.mono HB2.out.size)
      have hlr : w2.heap.size < wr.heap.size := lt_of_row HAT.out.box
      obtain ⟨⟨n0, n1, n2, n3⟩, m0, m1, m2, m3⟩ := row4b HAT.out.box
      have HRR : Hid _ := (HAT.out.below.block (w.heap.size + 1) (by omega)).trans HR2.out
      clear HST
      by_cases hlt : j < l.length
      · obtain ⟨c, hc⟩ : ∃ c, l[j]? = some c := ⟨l[j], List.getElem?_eq_getElem hlt⟩
        obtain ⟨b, off, uc, rfl, hbB, c0, c1, c2, c3, c4, c5, hlc⟩ := HCS.out j c hc
        obtain ⟨ca, cc, rfl⟩ := hlc.form
        have hk : ∀ o, wr.cell? ⟨b, o, none⟩ = w.cell? ⟨b, o, none⟩ := fun o => HBR.out.cell (p := ⟨b, o, none⟩) (show b < w.heap.size by omega)
        rw [← hk] at c0 c1 c2 c3 c4 c5
        have hbl : b < wr.heap.size := lt_of_cell c0
        have hA3 : Below wr.heap.size wr (wr.alloc (.cells #[.string c.kind, .string c.path, .string c.node.kind, .string c.node.data, .bool c.node.exec, .slice ca c.node.kids.length cc] 51)) := (Below.refl _ _).alloc (Nat.le_refl _) _
        have hokc := HOK.out c (List.mem_of_getElem? hc)
        have HAP : Hid _ := apply_any a dc (wr.alloc (.cells #[.string c.kind, .string c.path, .string c.node.kind, .string c.node.data, .bool c.node.exec, .slice ca c.node.kids.length cc] 51)).heap.size T c _ _ _ (HSE.out.below (HBR.out.trans (hA3.mono HBR.out.size))) (Nat.le_refl _) ((HAT.out.lies.below hA3 (Nat.le_refl _)).up hA3.size (Nat.le_refl _)) ((hlc.below (HBR.out.trans (hA3.mono HBR.out.size)) hB).up (by have := hA3.size; have := HBR.out.size; omega) (Nat.le_refl _)) HAT.out.well hokc.1 hokc.2
        have HA3 : Hid _ := hA3
        have hz3 : (wr.alloc (.cells #[.string c.kind, .string c.path, .string c.node.kind, .string c.node.data, .bool c.node.exec, .slice ca c.node.kids.length cc] 51)).heap.size = wr.heap.size + 1 := by simp
        have HTK : Hid _ := applies_take HAT.out.made hc
        have hj0 : (0 : Int) ≤ (j : Int) := by omega
        have hj1 : (j : Int) < (l.length : Int) := by omega
        clear hk hlc hA3 hokc hc
        go_wp2_with fail
        refine Calls.mono HAP.out ?_
        clear HAP c0 c1 c2 c3 c4 c5 n0 n1 n2 n3 m0 m1 m2 m3
        rintro e w3 ⟨hb3, ⟨er, h1, rfl⟩ | ⟨Y, uy, h1, rfl, hfr⟩⟩
        · have HB3 : Hid (Below wr.heap.size wr w3) := HA3.out.trans (hb3.mono (by omega))
          have hz4 := hb3.size
          rw [hz3] at hz4
          have HE : Hid (appliesR dc 0 t l = .error (j, er)) := show _ = _ by have h := HTK.out.2 er h1; rw [Nat.zero_add] at h; exact h
          have hr5 : ((w3.alloc (.cells #[.string { data := #[] }, .string { data := #[] }, .bool false, .slice none 0 0] 24)).alloc (.cells #[.int .i64 (j : Int), .iface 153 (.pointer (some (a er)))] 81)).heap[w.heap.size + 1]? = _ := (Below.heap_alloc _ _ _ (by simp; omega)).trans ((Below.heap_alloc _ _ _ (by omega)).trans ((HB3.out.block _ (by omega)).trans HRR.out))
          have hf5 : ((w3.alloc (.cells #[.string { data := #[] }, .string { data := #[] }, .bool false, .slice none 0 0] 24)).alloc (.cells #[.int .i64 (j : Int), .iface 153 (.pointer (some (a er)))] 81)).heap[w3.heap.size + 1]? = some (.cells #[.int .i64 (j : Int), .iface 153 (.pointer (some (a er)))] 81 (0, 0)) := by
            have := row_alloc' (w3.alloc (.cells #[.string { data := #[] }, .string { data := #[] }, .bool false, .slice none 0 0] 24)) #[.int .i64 (j : Int), .iface 153 (.pointer (some (a er)))] 81
            simpa using this
          have hB5 : Below w.heap.size w ((w3.alloc (.cells #[.string { data := #[] }, .string { data := #[] }, .bool false, .slice none 0 0] 24)).alloc (.cells #[.int .i64 (j : Int), .iface 153 (.pointer (some (a er)))] 81)) := ((HBR.out.trans (HB3.out.mono HBR.out.size)).alloc (by omega) _).alloc (by simp; omega) _
          obtain ⟨⟨q0, q1, q2, q3⟩, g0, g1, g2, g3⟩ := row4b hr5
          have HF5 : Hid _ := hf5
          have HB5 : Hid _ := hB5
          clear hb3 h1 hr5 hf5 hB5 HTK
          go_wp2_with fail
          refine bodyPost_ret (v := .tuple #[.agg #[.string { data := #[] }, .string { data := #[] }, .bool false, .slice none 0 0], .iface 79 (.pointer (some ⟨w3.heap.size + 1, 0, none⟩))]) (by simp [results, Tryd.results22, go_sem, q0, q1, q2, q3]) rfl ?_
          have hS := ((((But1.refl (w.heap.size + 1) ((w3.alloc (.cells #[.string { data := #[] }, .string { data := #[] }, .bool false, .slice none 0 0] 24)).alloc (.cells #[.int .i64 (j : Int), .iface 153 (.pointer (some (a er)))] 81))).set 0 (.string { data := #[] })).set 1 (.string { data := #[] })).set 2 (.bool false)).set 3 (.slice none 0 0)
          exact ⟨hS.below HB5.out (by omega), .inr (.inl ⟨HT.out, j, er, w3.heap.size + 1, HE.out, rfl, (hS.block _ (by omega)).trans HF5.out⟩)⟩
        · obtain ⟨ya, yc, rfl⟩ := hfr.lies.form
          have HB3 : Hid (Below wr.heap.size wr w3) := HA3.out.trans (hb3.mono (by omega))
          have hz4 := hb3.size
          rw [hz3] at hz4
          have hmade : appliesR dc 0 t (l.take (j + 1)) = .ok Y := by rw [HTK.out.1, h1]
          have hwl := apply_well HAT.out.lies.fit HAT.out.well hfr.lies.fit h1
          have hbx : (w3.alloc (.cells #[.string Y.kind, .string Y.data, .bool Y.exec, .slice ya Y.kids.length yc] 24)).heap[w2.heap.size]? = _ := (Below.heap_alloc _ _ _ (by omega)).trans ((HB3.out.block _ hlr).trans HAT.out.box)
          obtain ⟨⟨q0, q1, q2, q3⟩, g0, g1, g2, g3⟩ := row4b hbx
          have hrw := set4b_row hbx (.string Y.kind) (.string Y.data) (.bool Y.exec) (.slice ya Y.kids.length yc)
          have hS := ((((But1.refl w2.heap.size (w3.alloc (.cells #[.string Y.kind, .string Y.data, .bool Y.exec, .slice ya Y.kids.length yc] 24))).set 0 (.string Y.kind)).set 1 (.string Y.data)).set 2 (.bool Y.exec)).set 3 (.slice ya Y.kids.length yc)
          have HNX : Hid (AllAt dc (w.heap.size + 1) w2.heap.size t l w2 (j + 1) Y ya yc ((((( w3.alloc (.cells #[.string Y.kind, .string Y.data, .bool Y.exec, .slice ya Y.kids.length yc] 24)).setCell ⟨w2.heap.size, 0, none⟩ (.string Y.kind)).setCell ⟨w2.heap.size, 1, none⟩ (.string Y.data)).setCell ⟨w2.heap.size, 2, none⟩ (.bool Y.exec)).setCell ⟨w2.heap.size, 3, none⟩ (.slice ya Y.kids.length yc))) := by
            refine ⟨hmade, hwl.1, hrw, ⟨wr.heap.size + 1, w3.heap.size, fun w9 h9 hs9 => Lies.levels hwl.2 (hfr w9 (fun k hk1 hk2 => ?_) hs9), by rw [hS.size]; simp, .inl (by omega), by omega⟩, ?_⟩
            · rw [hz3] at hk1
              rw [h9 k hk1 hk2, hS.block k (by omega), Below.heap_alloc _ _ _ hk2]
            · exact hS.below (HAT.out.below.trans ((HB3.out.mono (by omega)).alloc (by omega) _)) (Nat.le_refl _)
          clear hb3 h1 hfr HTK hmade hwl hbx hrw hS
          go_wp2_with fail
          go_roundw
          case rel => exact ⟨j + 1, Y, ya, yc, by omega, by go_num, HNX.out⟩
          case measure => simp [intOf]; omega
      · obtain rfl : j = l.length := by omega
        have HOKY : Hid (appliesR dc 0 t l = .ok T) := show _ = _ by have h := HAT.out.made; rw [List.take_length] at h; exact h
        obtain ⟨⟨q0, q1, q2, q3⟩, g0, g1, g2, g3⟩ := row4b HRR.out
        clear hlt
        go_wp2_with fail
        refine bodyPost_ret (v := .tuple #[.agg #[.string T.kind, .string T.data, .bool T.exec, .slice na T.kids.length nc], .nilIface]) (by simp [results, Tryd.results22, go_sem, q0, q1, q2, q3]) rfl ?_
        have hS := ((((But1.refl (w.heap.size + 1) wr).set 0 (.string T.kind)).set 1 (.string T.data)).set 2 (.bool T.exec)).set 3 (.slice na T.kids.length nc)
        obtain ⟨lo, hi, k1, k2, k3, k4⟩ := HAT.out.lain
        exact ⟨hS.below HBR.out (by omega), .inr (.inr ⟨HT.out, T, _, HOKY.out, HAT.out.well, rfl, (k1 _ (fun k hk1 _ => hS.block k (by omega)) (by rw [hS.size]; exact k2)).up (by rw [hS.size]; exact k2) (Nat.le_refl _)⟩)⟩
end Go.Proofs.YtilkjafggfdjeabDoor
