/-
  The law 'PackFirsts' returns true: trees that stand one behind the other are read one by one.
  Conditions: the sentinels and the table of powers of ten hold what their texts lay; the nodes lie in memory.
-/
import Derived.Test.YtilkjafggfdjeaaDoorSame
import Derived.Test.YtilkjafggfdjeaaDoorPacked
import Derived.Test.YtilkjafggfdjeaaDoorReads
import Derived.Deep.RegionHeld3
import Derived.Deep.DrawnRows
import Derived.Deep.DeepCutAuto
import Derived.Deep.DeepFit
namespace Go.Proofs.YtilkjafggfdjeaaDoor
open Go.RowKit
attribute [local go_sem ↓] Go.wp_at_zero Go.wp_at_succ

/-- Nodes in memory, one behind the other. -/
def NodesAt (w : World) (B d : Nat) (ts : List Tree) (v : Value) : Prop := ∃ ad cap, v = .slice ad ts.length cap ∧ ∀ i t, ts[i]? = some t → ∃ b off u, ad = some ⟨b, off, none⟩ ∧ b < B ∧
  (w.cell? ⟨b, off + i * 4, none⟩ = some (.string t.kind) ∧ w.cell? ⟨b, off + i * 4 + 1, none⟩ = some (.string t.data) ∧ w.cell? ⟨b, off + i * 4 + 2, none⟩ = some (.bool t.exec) ∧ w.cell? ⟨b, off + i * 4 + 3, none⟩ = some u) ∧ Lies w B d t.kids u
def textsT (d : Nat) (l : List Tree) : List UInt8 := l.flatMap (textT d)
theorem textsT_next {d j : Nat} {l : List Tree} {t : Tree} (h : l[j]? = some t) : textsT d (l.take (j + 1)) = textsT d (l.take j) ++ textT d t := flat_take h _
theorem textsT_drop {d j : Nat} {l : List Tree} {t : Tree} (h : l[j]? = some t) : textsT d (l.drop j) = textT d t ++ textsT d (l.drop (j + 1)) := by
  have hlt := (List.getElem?_eq_some_iff.1 h).1
  rw [List.drop_eq_getElem_cons hlt, (List.getElem?_eq_some_iff.1 h).2]
  rfl
theorem textsT_len {d : Nat} : ∀ {l : List Tree}, (∀ t ∈ l, (textT d t).length ≤ 420000) → (textsT d l).length ≤ 420000 * l.length
  | [], _ => by simp [textsT]
  | t :: l, h => by
    have h1 := h t (by simp)
    have h2 := textsT_len (l := l) fun y hy => h y (by simp [hy])
    simp only [textsT, List.flatMap_cons, List.length_append, List.length_cons] at h2 ⊢
    omega
/-- A tree that is well, and not too large. -/
def Good (d : Nat) (t : Tree) : Prop := treeErr d t = none ∧ OkItems (pre d ByteArray.empty 0 t) ∧ Fit d t
theorem Good.len {d : Nat} {t : Tree} (h : Good d t) : (textT d t).length ≤ 420000 := by
  have h0 := treeErr_none.1 h.1
  have h1 := text_len d ByteArray.empty 0 t h.2.2 (fun x hx => (h0.2 x hx).2) h0.1
  have h2 : 2100 * (pre d ByteArray.empty 0 t).length ≤ 2100 * 200 := Nat.mul_le_mul_left _ h0.1
  omega

set_option maxRecDepth 100000 in
set_option maxHeartbeats 4000000 in
theorem firsts_any (a : Nat → Addr) (d : Nat) (ts : List Tree) (v : Value) (w : World) (S : Sen a w) (hT : Tab w.heap.size w) (hl : NodesAt w w.heap.size d ts v) (hts : ts.length ≤ 10000000000000) :
    Calls Tryd.prog 8 #[v] w fun e w' => e = .returned (.bool true) ∧ Below w.heap.size w w' := by
  obtain ⟨va, vc, rfl, hn⟩ := hl
  have HN : Hid _ := hn
  have HS : Hid _ := S
  have HT : Hid (Tab w.heap.size w) := hT
  have HP : Hid _ := packed_any a w S hT
  have go : ∀ {w1 w2 : World}, Below w.heap.size w w1 → Below w1.heap.size w1 w2 → Below w.heap.size w w2 := fun h h2 => h.trans (h2.mono h.size)
  have GO : Hid _ := @go
  clear hn S hT go
  go_enter Tryd.func8, Tryd.ntmps8
  go_wp2_with fail
  refine Calls.mono HP.out ?_
  rintro e w0 ⟨rfl, hb0⟩
  have HB0 : Hid _ := hb0
  clear hb0 HP
  by_cases h8 : 8 < ts.length
  · have h8' : (8 : Int) < (ts.length : Int) := by omega
    go_wp2_with fail
    go_ret
    exact ⟨rfl, HB0.out⟩
  have h8' : (ts.length : Int) ≤ 8 := by omega
  go_wp2_with fail
  go_loopw [4, 5] (fun sv i wr => ∃ j : Nat, j ≤ ts.length ∧ i = .int .i64 j ∧ sv = .string (bs (textsT d (ts.take j))) ∧ Below w.heap.size w wr ∧ ∀ t ∈ ts.take j, Good d t) (fun _ i _ => ts.length - (intOf i).toNat)
  case atStart => exact ⟨0, Nat.zero_le _, rfl, rfl, HB0.out, fun t h => by simp at h⟩
  case round =>
    obtain ⟨j, hj, rfl, rfl, hbr, hgood⟩ := hrel
    have HG : Hid _ := hgood
    have HBR : Hid _ := hbr
    by_cases hlt : j < ts.length
    · obtain ⟨t, ht⟩ : ∃ t, ts[j]? = some t := ⟨ts[j], List.getElem?_eq_getElem hlt⟩
      obtain ⟨b, off, u, rfl, hbw, ⟨n0, n1, n2, n3⟩, hlies⟩ := HN.out j t ht
      obtain ⟨xa, xc, rfl⟩ := hlies.form
      have HL : Hid _ := hlies
      have HTJ : Hid _ := ht
      have hkeep : ∀ w', Below w.heap.size w w' → w'.cell? ⟨b, off + j * 4, none⟩ = some (.string t.kind) ∧ w'.cell? ⟨b, off + j * 4 + 1, none⟩ = some (.string t.data) ∧ w'.cell? ⟨b, off + j * 4 + 2, none⟩ = some (.bool t.exec) ∧ w'.cell? ⟨b, off + j * 4 + 3, none⟩ = some (.slice xa t.kids.length xc) := fun w' h => by
        have hc : ∀ o, w'.cell? ⟨b, o, none⟩ = w.cell? ⟨b, o, none⟩ := fun o => h.cell (p := ⟨b, o, none⟩) hbw
        rw [hc, hc, hc, hc]
        exact ⟨n0, n1, n2, n3⟩
      have HKP : Hid _ := hkeep
      have hj0 : (0 : Int) ≤ (j : Int) := by omega
      have hj1 : (j : Int) < (ts.length : Int) := by omega
      have HLG : Hid _ := large_any w.heap.size d 40 t _ wr hbr.size (hlies.below hbr (Nat.le_refl _)) (by omega)
      obtain ⟨m0, m1, m2, m3⟩ := hkeep wr hbr
      clear n0 n1 n2 n3 hkeep hlies ht hgood hbr
      cases hlg : largeB 40 t
      · rw [largeN_no hlg] at HLG
        obtain ⟨hok, _⟩ := small_ok (Lies.fit HL.out) hlg
        have HOK : Hid _ := hok
        clear hok hlg
        go_wp2_with fail
        refine Calls.mono HLG.out ?_
        clear m0 m1 m2 m3
        rintro e w1 ⟨rfl, hb1⟩
        have hB1 := GO.out HBR.out hb1
        have HOW : Hid _ := own_any w.heap.size d t _ w1 hB1.size (Lies.below HL.out hB1 (Nat.le_refl _))
        have HB1 : Hid _ := hB1
        obtain ⟨m0, m1, m2, m3⟩ := HKP.out w1 hB1
        clear hb1 hB1 HLG
        go_wp2_with fail
        refine Calls.mono HOW.out ?_
        clear m0 m1 m2 m3
        rintro e w2 ⟨u', rfl, hq, hb2⟩
        obtain ⟨ya, yc, rfl⟩ := hq.form
        have hB2 := GO.out HB1.out hb2
        have ly : Lies w2 w2.heap.size d t.kids (.slice ya t.kids.length yc) := hq.lies fun k hk => hk.2
        have hA : ∀ o, Below w2.heap.size w2 (w2.alloc o) := fun o => (Below.refl _ _).alloc (Nat.le_refl _) o
        have cs : Alive ck ckOk 0 (pre d ByteArray.empty 0 t) := alive_ck _ 0 (by omega) HOK.out
        have HCK : Hid (∀ o, Calls Tryd.prog 15 #[.agg #[.string t.kind, .string t.data, .bool t.exec, .slice ya t.kids.length yc]] (w2.alloc o) fun e w' => e = .returned (errV a (treeErr d t)) ∧ Below (w2.alloc o).heap.size (w2.alloc o) w') := fun o =>
          check_any a d w2.heap.size t _ (w2.alloc o) ((HS.out.below hB2).atB.below (hA o) (Nat.le_refl _)) (by simp) (ly.below (hA o) (Nat.le_refl _)) cs
        have HLY : Hid _ := ly
        have HA : Hid _ := hA
        have HB2 : Hid _ := hB2
        have HCS : Hid _ := cs
        have HROW : Hid (∀ (c : Array Value) (T : TypeId), (w2.alloc (.cells c T)).heap[w2.heap.size]? = some (.cells c T (0, 0))) := row_alloc' w2
        clear hq hb2 hB2 ly hA cs HOW
        go_wp2_with fail
        refine Calls.mono (HCK.out _) ?_
        rintro e w3 ⟨rfl, hb3⟩
        have hz3 := hb3.size
        simp only [World.size_alloc] at hz3
        have hrow3 := (hb3.block w2.heap.size (by simp)).trans (HROW.out #[.string t.kind, .string t.data, .bool t.exec, .slice ya t.kids.length yc] 24)
        obtain ⟨q0, q1, q2, q3⟩ := row4w hrow3
        have h23 : Below w2.heap.size w2 w3 := (HA.out _).trans (hb3.mono (by simp))
        have hB3 := GO.out HB2.out h23
        have HTX : Hid _ := text_any a d w2.heap.size t _ w3 ((HS.out.below HB2.out).atB.below h23 (Nat.le_refl _)) h23.size (Lies.below HLY.out h23 (Nat.le_refl _)) HCS.out (Tab.up (Tab.on HT.out hB3) HB2.out.size) (fun hw => by have := Good.len ⟨hw, HOK.out, Lies.fit HL.out⟩; omega)
        have HB3 : Hid _ := hB3
        clear hb3 hrow3 h23 hB3 HCK HROW
        cases hte : treeErr d t with
        | some er =>
          have HE : Hid (textOf d t = []) := textOf_not hte
          rw [HE.out] at HTX
          unfold errV
          go_wp2_with fail
          refine Calls.mono HTX.out ?_
          rintro e w4 ⟨rfl, hb4⟩
          have HB4 : Hid _ := GO.out HB3.out hb4
          have hem : bs [] = { data := #[] } := rfl
          rw [hem]
          clear hb4
          go_wp2_with fail
          go_ret
          exact ⟨rfl, HB4.out⟩
        | none =>
          have HE : Hid (textOf d t = textT d t) := textOf_well hte
          rw [HE.out] at HTX
          have hgt : Good d t := ⟨hte, HOK.out, Lies.fit HL.out⟩
          have hl1 := hgt.len
          have hl2 := textsT_len (l := ts.take j) fun y hy => (HG.out y hy).len
          have hl3 : (ts.take j).length ≤ 8 := by rw [List.length_take]; omega
          have hl4 : 420000 * (ts.take j).length ≤ 420000 * 8 := Nat.mul_le_mul_left _ hl3
          have hadd : ∀ w', (Op.stringOp .add (bs (textsT d (ts.take j))) (bs (textT d t))).run Tryd.prog w' = .ok (.string (bs (textsT d (ts.take j)) ++ bs (textT d t))) w' := fun w' => run_string_add_sum w' _ _ (by rw [bs_size, bs_size]; omega)
          have HNX : Hid (bs (textsT d (ts.take j)) ++ bs (textT d t) = bs (textsT d (ts.take (j + 1)))) := by
            rw [textsT_next HTJ.out]
            exact bs_append _ _
          have HGN : Hid (∀ y ∈ ts.take (j + 1), Good d y) := fun y hy => by
            rw [List.take_succ_eq_append_getElem hlt, (List.getElem?_eq_some_iff.1 HTJ.out).2] at hy
            rcases List.mem_append.1 hy with h | h
            · exact HG.out y h
            · rw [List.mem_singleton.1 h]; exact hgt
          unfold errV
          clear hgt hl1 hl2 hl3 hl4
          go_wp2_with fail
          refine Calls.mono HTX.out ?_
          rintro e w4 ⟨rfl, hb4⟩
          have HB4 : Hid _ := GO.out HB3.out hb4
          clear hb4
          go_wp2_with fail
          go_roundw
          case rel => exact ⟨j + 1, by omega, by go_num, by rw [HNX.out], HB4.out, HGN.out⟩
          case measure => simp [intOf]; omega
      · rw [largeN_yes hlg] at HLG
        go_wp2_with fail
        refine Calls.mono HLG.out ?_
        rintro e w1 ⟨rfl, hb1⟩
        have HB1 : Hid _ := GO.out HBR.out hb1
        clear hb1
        go_wp2_with fail
        go_ret
        exact ⟨rfl, HB1.out⟩
    · have hall : ts.take j = ts := List.take_of_length_le (by omega)
      have HGA : Hid (∀ t ∈ ts, Good d t) := fun t h => HG.out t (by rw [hall]; exact h)
      rw [hall]
      clear hgood hall HG
      by_cases hlong : 20000 < (textsT d ts).length
      · have hlong' : (20000 : Int) < ((bs (textsT d ts)).size : Int) := by rw [bs_size]; omega
        go_wp2_with fail
        go_ret
        exact ⟨rfl, HBR.out⟩
      have hlong' : ((bs (textsT d ts)).size : Int) ≤ 20000 := by rw [bs_size]; omega
      clear hbr
      go_wp2_with fail
      clear hlong'
      go_loopw [4, 7] (fun sv i wr2 => ∃ k : Nat, k ≤ ts.length ∧ i = .int .i64 k ∧ sv = .string (bs (textsT d (ts.drop k))) ∧ (textsT d (ts.drop k)).length ≤ 20000 ∧ Below w.heap.size w wr2) (fun _ i _ => ts.length - (intOf i).toNat)
      case atStart => exact ⟨0, Nat.zero_le _, rfl, by rw [List.drop_zero], by rw [List.drop_zero]; omega, HBR.out⟩
      case round =>
        obtain ⟨k, hk, rfl, rfl, hshort, hbk⟩ := hrel
        have HBK : Hid _ := hbk
        by_cases hkl : k < ts.length
        · obtain ⟨t, ht⟩ : ∃ t, ts[k]? = some t := ⟨ts[k], List.getElem?_eq_getElem hkl⟩
          obtain ⟨b, off, u, rfl, hbw, ⟨n0, n1, n2, n3⟩, hlies⟩ := HN.out k t ht
          obtain ⟨xa, xc, rfl⟩ := hlies.form
          have hgt := HGA.out t (List.mem_of_getElem? ht)
          have Rd := reads_of hgt.2.2 hgt.1 hgt.2.1
          have hdr := textsT_drop (d := d) ht
          have ex : (bs (textsT d (ts.drop k))).data.toList = textT d t ++ textsT d (ts.drop (k + 1)) := by rw [bs_list, hdr]
          have hfr := Rd.first _ _ ex (by rw [bs_size]; omega)
          have HFI : Hid _ := first_any a (bs (textsT d (ts.drop k))) wr (HS.out.below hbk) (Rd.alive _ _ ex)
          have hle := congrArg List.length hdr
          rw [List.length_append] at hle
          have HFR : Hid _ := hfr
          have HL : Hid (Lies w w.heap.size d t.kids (.slice xa t.kids.length xc)) := hlies
          have HRD : Hid _ := Rd
          have hkeep : ∀ w', Below w.heap.size w w' → w'.cell? ⟨b, off + k * 4, none⟩ = some (.string t.kind) ∧ w'.cell? ⟨b, off + k * 4 + 1, none⟩ = some (.string t.data) ∧ w'.cell? ⟨b, off + k * 4 + 2, none⟩ = some (.bool t.exec) ∧ w'.cell? ⟨b, off + k * 4 + 3, none⟩ = some (.slice xa t.kids.length xc) := fun w' h => by
            have hc : ∀ o, w'.cell? ⟨b, o, none⟩ = w.cell? ⟨b, o, none⟩ := fun o => h.cell (p := ⟨b, o, none⟩) hbw
            rw [hc, hc, hc, hc]
            exact ⟨n0, n1, n2, n3⟩
          have HKP : Hid _ := hkeep
          have hj0 : (0 : Int) ≤ (k : Int) := by omega
          have hj1 : (k : Int) < (ts.length : Int) := by omega
          clear n0 n1 n2 n3 hkeep hlies ht hdr ex hfr Rd hgt hbk
          go_wp2_with fail
          refine Calls.mono HFI.out ?_
          rintro e w1 ⟨hb1, ⟨er, h1, _⟩ | ⟨t', r, uu, h1, rfl, hlk⟩⟩
          · rw [HFR.out] at h1; cases h1
          rw [HFR.out] at h1
          injection h1 with h1
          have e1 := congrArg Prod.fst h1
          have e2 := congrArg Prod.snd h1
          simp only at e1 e2
          subst e1; subst e2
          obtain ⟨za, zc, rfl⟩ := hlk.form
          have hB1 := GO.out HBK.out hb1
          have hA : ∀ o, Below w1.heap.size w1 (w1.alloc o) := fun o => (Below.refl _ _).alloc (Nat.le_refl _) o
          have l1 : Lies w1 w1.heap.size 9 t.kids (.slice za t.kids.length zc) := hlk.lies fun k hk => hk.2
          have hBA : ∀ o, Below w.heap.size w (w1.alloc o).drew := fun o => (GO.out hB1 (hA o)).drew
          have HSM : Hid (∀ o, Calls Tryd.prog 17 #[.agg #[.string t.kind, .string t.data, .bool t.exec, .slice za t.kids.length zc], .agg #[.string t.kind, .string t.data, .bool t.exec, .slice xa t.kids.length xc]] (w1.alloc o).drew fun e w4 => e = .returned (.bool true) ∧ Below (w1.alloc o).heap.size (w1.alloc o) w4) := fun o => by
            have h1 : Lies (w1.alloc o).drew (w1.alloc o).drew.heap.size (max d 9) t.kids (.slice za t.kids.length zc) := (l1.below (C := w1.heap.size) (hA o).drew (Nat.le_refl _)).up (by show w1.heap.size ≤ (w1.alloc o).heap.size; simp) (Nat.le_max_right _ _)
            have h2 : Lies (w1.alloc o).drew (w1.alloc o).drew.heap.size (max d 9) t.kids (.slice xa t.kids.length xc) := (Lies.below HL.out (hBA o) (Nat.le_refl _)).up (hBA o).size (Nat.le_max_left _ _)
            exact (same_any _ (max d 9) t t _ _ _ (Nat.le_refl _) h1 h2).mono fun e w4 ⟨h3, h4⟩ => ⟨by rw [h3, sameB_refl h1.fit], ((Below.refl _ (w1.alloc o)).drew).trans h4⟩
          have HBA : Hid _ := hBA
          have HROW : Hid (∀ (c : Array Value) (T : TypeId), (w1.alloc (.cells c T)).heap[w1.heap.size]? = some (.cells c T (0, 0))) := row_alloc' w1
          have hcell : ∀ w', Below (w1.alloc (.cells #[.string t.kind, .string t.data, .bool t.exec, .slice za t.kids.length zc] 24)).heap.size (w1.alloc (.cells #[.string t.kind, .string t.data, .bool t.exec, .slice za t.kids.length zc] 24)) w' → (w'.cell? ⟨w1.heap.size, 0, none⟩ = some (.string t.kind) ∧ w'.cell? ⟨w1.heap.size, 1, none⟩ = some (.string t.data) ∧ w'.cell? ⟨w1.heap.size, 2, none⟩ = some (.bool t.exec) ∧ w'.cell? ⟨w1.heap.size, 3, none⟩ = some (.slice za t.kids.length zc)) ∧
              w'.cell? ⟨b, off + k * 4, none⟩ = some (.string t.kind) ∧ w'.cell? ⟨b, off + k * 4 + 1, none⟩ = some (.string t.data) ∧ w'.cell? ⟨b, off + k * 4 + 2, none⟩ = some (.bool t.exec) ∧ w'.cell? ⟨b, off + k * 4 + 3, none⟩ = some (.slice xa t.kids.length xc) := fun w' h => by
            refine ⟨row4w ((h.block w1.heap.size (by simp)).trans (HROW.out _ _)), HKP.out w' (GO.out (GO.out hB1 (hA _)) h)⟩
          have HCL : Hid _ := hcell
          have HGB : Hid (∀ w', Below (w1.alloc (.cells #[.string t.kind, .string t.data, .bool t.exec, .slice za t.kids.length zc] 24)).heap.size (w1.alloc (.cells #[.string t.kind, .string t.data, .bool t.exec, .slice za t.kids.length zc] 24)) w' → Below w.heap.size w w') := fun w' h => GO.out (GO.out hB1 (hA _)) h
          clear hb1 hB1 hA l1 hBA hcell hlk h1
          go_upto_region 20 with fail
          refine wp_region_held_drew (S := fun w' => (w'.cell? ⟨w1.heap.size, 0, none⟩ = some (.string t.kind) ∧ w'.cell? ⟨w1.heap.size, 1, none⟩ = some (.string t.data) ∧ w'.cell? ⟨w1.heap.size, 2, none⟩ = some (.bool t.exec) ∧ w'.cell? ⟨w1.heap.size, 3, none⟩ = some (.slice za t.kids.length zc)) ∧ w'.cell? ⟨b, off + k * 4, none⟩ = some (.string t.kind) ∧ w'.cell? ⟨b, off + k * 4 + 1, none⟩ = some (.string t.data) ∧ w'.cell? ⟨b, off + k * 4 + 2, none⟩ = some (.bool t.exec) ∧ w'.cell? ⟨b, off + k * 4 + 3, none⟩ = some (.slice xa t.kids.length xc)) (by kernel_rfl) (HCL.out _ ((Below.refl _ _).drew)) (fun hHeld => ?_)
          refine wpAnyH_take (i := 0) (v := .nilIface) rfl (by kernel_rfl) (by kernel_rfl) (by kernel_rfl) (fun _ _ _ h => h) (Or.inl ⟨by rfl, ?_⟩) hHeld ?_
          · intro w hSw; (try dsimp only at hSw); simp only [List.getElem_toArray, List.getElem_cons_zero]; go_simp
          simp only [List.getElem_toArray, List.getElem_cons_zero, Act.put, List.setIfInBounds_toArray, List.set_cons_zero, List.set_cons_succ]
          refine wpAnyH_take (i := 1) (v := .bool false) rfl (by kernel_rfl) (by kernel_rfl) (by kernel_rfl) (fun _ _ _ h => h) (Or.inl ⟨by rfl, ?_⟩) hHeld ?_
          · intro w hSw; (try dsimp only at hSw); simp only [List.getElem_toArray, List.getElem_cons_zero, List.getElem_cons_succ]; go_simp
          simp only [List.getElem_toArray, List.getElem_cons_zero, List.getElem_cons_succ, Act.put, List.setIfInBounds_toArray, List.set_cons_zero, List.set_cons_succ]
          refine wpAnyH_take (i := 2) (v := .bool false) rfl (by kernel_rfl) (by kernel_rfl) (by kernel_rfl) (fun _ _ _ h => h) (Or.inl ⟨by rfl, ?_⟩) hHeld ?_
          · intro w hSw; (try dsimp only at hSw); simp only [List.getElem_toArray, List.getElem_cons_zero, List.getElem_cons_succ]; go_simp
          simp only [List.getElem_toArray, List.getElem_cons_zero, List.getElem_cons_succ, Act.put, List.setIfInBounds_toArray, List.set_cons_zero, List.set_cons_succ]
          refine wpAnyH_take (i := 3) (v := .agg #[.string t.kind, .string t.data, .bool t.exec, .slice za t.kids.length zc]) rfl (by kernel_rfl) (by kernel_rfl) (by kernel_rfl) (fun _ _ _ h => h) (Or.inl ⟨by rfl, ?_⟩) hHeld ?_
          · intro w hSw; (try dsimp only at hSw); simp only [List.getElem_toArray, List.getElem_cons_zero, List.getElem_cons_succ]; go_simp
          simp only [List.getElem_toArray, List.getElem_cons_zero, List.getElem_cons_succ, Act.put, List.setIfInBounds_toArray, List.set_cons_zero, List.set_cons_succ]
          refine wpAnyH_take (i := 4) (v := .slice (some ⟨b, off, none⟩) ts.length vc) rfl (by kernel_rfl) (by kernel_rfl) (by kernel_rfl) (fun _ _ _ h => h) (Or.inl ⟨by rfl, ?_⟩) hHeld ?_
          · intro w hSw; (try dsimp only at hSw); simp only [List.getElem_toArray, List.getElem_cons_zero, List.getElem_cons_succ]; go_simp
          simp only [List.getElem_toArray, List.getElem_cons_zero, List.getElem_cons_succ, Act.put, List.setIfInBounds_toArray, List.set_cons_zero, List.set_cons_succ]
          refine wpAnyH_take (i := 5) (v := .int .i64 (k : Int)) rfl (by kernel_rfl) (by kernel_rfl) (by kernel_rfl) (fun _ _ _ h => h) (Or.inl ⟨by rfl, ?_⟩) hHeld ?_
          · intro w hSw; (try dsimp only at hSw); simp only [List.getElem_toArray, List.getElem_cons_zero, List.getElem_cons_succ]; go_simp
          simp only [List.getElem_toArray, List.getElem_cons_zero, List.getElem_cons_succ, Act.put, List.setIfInBounds_toArray, List.set_cons_zero, List.set_cons_succ]
          refine wpAnyH_take (i := 6) (v := .pointer (some ⟨b, off + k * 4, none⟩)) rfl (by kernel_rfl) (by kernel_rfl) (by kernel_rfl) (fun _ _ _ h => h) (Or.inl ⟨by rfl, ?_⟩) hHeld ?_
          · intro w hSw; (try dsimp only at hSw); simp only [List.getElem_toArray, List.getElem_cons_zero, List.getElem_cons_succ]; go_simp
          simp only [List.getElem_toArray, List.getElem_cons_zero, List.getElem_cons_succ, Act.put, List.setIfInBounds_toArray, List.set_cons_zero, List.set_cons_succ]
          refine wpAnyH_take (i := 7) (v := .agg #[.string t.kind, .string t.data, .bool t.exec, .slice xa t.kids.length xc]) rfl (by kernel_rfl) (by kernel_rfl) (by kernel_rfl) (fun _ _ _ h => h) (Or.inl ⟨by rfl, ?_⟩) hHeld ?_
          · intro w hSw; (try dsimp only at hSw); simp only [List.getElem_toArray, List.getElem_cons_zero, List.getElem_cons_succ]; go_simp
          simp only [List.getElem_toArray, List.getElem_cons_zero, List.getElem_cons_succ, Act.put, List.setIfInBounds_toArray, List.set_cons_zero, List.set_cons_succ]
          refine wpAnyH_ready (rs := [8]) (by kernel_rfl) (by simp) ?_
          refine AllReadyH.cons rfl (fun K' hK => ?_) AllReadyH.nil
          simp only [List.getElem_toArray, List.getElem_cons_zero, List.getElem_cons_succ]
          go_simp
          refine Calls.mono (HSM.out _) ?_
          rintro e wx ⟨rfl, hg⟩
          go_wp2_with fail
          refine hK.out _ _ (HCL.out _ hg) (fun hHeld' => ?_)
          clear hK K' hHeld
          have hHeld := hHeld'
          clear hHeld'
          refine wpAnyH_take (i := 9) (v := .bool false) rfl (by kernel_rfl) (by kernel_rfl) (by kernel_rfl) (fun _ _ _ h => h) (Or.inl ⟨by rfl, ?_⟩) hHeld ?_
          · intro w hSw; (try dsimp only at hSw); simp only [List.getElem_toArray, List.getElem_cons_zero, List.getElem_cons_succ]; go_simp
          simp only [List.getElem_toArray, List.getElem_cons_zero, List.getElem_cons_succ, Act.put, List.setIfInBounds_toArray, List.set_cons_zero, List.set_cons_succ]
          refine wpAnyH_take (i := 10) (v := .bool false) rfl (by kernel_rfl) (by kernel_rfl) (by kernel_rfl) (fun _ _ _ h => h) (Or.inl ⟨by rfl, ?_⟩) hHeld ?_
          · intro w hSw; (try dsimp only at hSw); simp only [List.getElem_toArray, List.getElem_cons_zero, List.getElem_cons_succ]; go_simp
          simp only [List.getElem_toArray, List.getElem_cons_zero, List.getElem_cons_succ, Act.put, List.setIfInBounds_toArray, List.set_cons_zero, List.set_cons_succ]
          refine wpAnyH_done (by kernel_rfl) ?_ _
          have HBG : Hid _ := HGB.out _ hg
          clear hg
          go_wp2_with fail
          go_roundw
          case rel => exact ⟨k + 1, by omega, by go_num, rfl, by omega, HBG.out⟩
          case measure => simp [intOf]; omega
        · have hkk : ts.drop k = [] := List.drop_of_length_le (by omega)
          have hem : bs (textsT d (ts.drop k)) = { data := #[] } := by rw [hkk]; rfl
          rw [hem]
          clear hkk hem hshort hbk
          go_wp2_with fail
          go_ret
          exact ⟨rfl, HBK.out⟩
end Go.Proofs.YtilkjafggfdjeaaDoor
