/-
  The contracts of package scrub's readable, Scan and Mend.
  Conditions: those that each states.
-/
import Derived.Test.YtcejpeohkgchdabGreatDoorM13
import Derived.Test.YtcejpeohkgchdabGreatDoorM10
import Derived.Test.YtcejpeohkgchdabGreatDoorM14
import Derived.Test.YtcejpeohkgchdabGreatDoorM11
namespace Go.Proofs.YtcejpeohkgchdabGreatDoor
open Go.RowKit

/-- Can an inode be read? -/
def okI (bl : List (List UInt8)) (x : Ino) : Bool := decide (crcR (readD bl x.blocks x.bytes) = x.sum)
def badK (bl : List (List UInt8)) (tab : List (Option Ino)) (k : Nat) : Bool := match slotT tab k with
  | some x => !okI bl x
  | none => false
/-- Those that can't. -/
def scanR (bl : List (List UInt8)) (tab : List (Option Ino)) : List Nat := (allT tab).filter (badK bl tab)
section
variable {F : Nat → Prop} {T0 tb bb sp sb cap mb n N : Nat} {bl : List (List UInt8)} {u : List Bool} {tab : List (Option Ino)}
set_option maxRecDepth 100000 in
theorem readable_any (k : Nat) (x : Ino) (pe : Value) (hx : slotT tab k = some x) (w : World) (T : TbAt w F T0 tb bb sp sb cap mb n bl u tab) (S : SInv N bl u tab) (hE : w.cell? ⟨3, 0, none⟩ = some (.iface 330 pe)) :
    Calls Tryz.prog 64 #[.pointer (some ⟨tb, 0, none⟩), .int .i64 (k : Int)] w fun e w' => e = .returned (.bool (okI bl x)) ∧ Below w.heap.size w w' := by
  have hin : ∀ k ∈ x.blocks, k < bl.length := fun b hb => by rw [S.lbl]; exact S.lt hx b hb
  obtain ⟨_, _, _, hby, hbl⟩ := S.own k x hx
  have hbl : x.blocks.length ≤ 1000 := by rw [hbl]; unfold needN; omega
  by_cases hc : crcR (readD bl x.blocks x.bytes) = x.sum
  · have HR := im_read k x _ hx hc w T hin hbl (by omega) hE
    have eo : okI bl x = true := decide_eq_true hc
    rw [eo]
    generalize readD bl x.blocks x.bytes = X at *
    clear T S hx hin hbl hby hE hc eo
    go_enter Tryz.func64, Tryz.ntmps64
    go_wp2_with (go_at_call 24; refine HR.mono ?_; rintro e w1 ⟨rfl, b1⟩)
    go_ret
    exact ⟨rfl, b1⟩
  · have HR := im_read_bad k x _ hx hc w T hin hbl (by omega) hE
    have eo : okI bl x = false := decide_eq_false hc
    rw [eo]
    clear T S hx hin hbl hby hE hc eo
    go_enter Tryz.func64, Tryz.ntmps64
    go_wp2_with (go_at_call 24; refine HR.mono ?_; rintro e w1 ⟨rfl, b1⟩)
    go_ret
    exact ⟨rfl, b1⟩
theorem take_snocH {α : Type} {l : List α} {j : Nat} {x : α} (h : l[j]? = some x) : l.take (j + 1) = l.take j ++ [x] := by
  rw [List.take_add_one, h]; rfl
set_option maxRecDepth 100000 in
set_option maxHeartbeats 1000000 in
theorem scan_any (pe : Value) (w : World) (T : TbAt w F T0 tb bb sp sb cap mb n bl u tab) (S : SInv N bl u tab) (hE : w.cell? ⟨3, 0, none⟩ = some (.iface 330 pe)) :
    Calls Tryz.prog 23 #[.pointer (some ⟨tb, 0, none⟩)] w fun e w' => ∃ v, e = .returned v ∧ OwnI w' w.heap.size v (scanR bl tab) ∧ Below w.heap.size w w' := by
  obtain ⟨i0, hi0, hz0, hz1, hz2⟩ := info_parts infoIn
  have HA := im_all w T
  have hgE : 3 < w.heap.size := World.block_lt_of_cell? w _ hE
  have HRD : Hid (∀ W (k : Nat) x, Below w.heap.size w W → slotT tab k = some x → Calls Tryz.prog 64 #[.pointer (some ⟨tb, 0, none⟩), .int .i64 (k : Int)] W fun e w' => e = .returned (.bool (okI bl x)) ∧ Below W.heap.size W w') := fun W k x hW hx => readable_any k x pe hx W (T.below hW) S (by rw [hW.cell (p := ⟨3, 0, none⟩) hgE]; exact hE)
  obtain ⟨L, HL⟩ : ∃ L, Hid (L = allT tab) := ⟨_, (rfl : _ = _)⟩
  have HSL : Hid (∀ k ∈ L, ∃ x, slotT tab k = some x) := fun k hk => by rw [HL.out] at hk; exact allT_mem.1 hk
  have hLl : L.length ≤ 100000 := by
    rw [HL.out]
    have h1 := allT_len tab
    obtain ⟨_, _, _, _, _, h2, h3⟩ := T.low
    omega
  have HLs : Hid (scanR bl tab = (L.take L.length).filter (badK bl tab)) := by
    show _ = _
    rw [List.take_length, HL.out]; rfl
  rw [← HL.out] at HA
  rw [HLs.out]
  clear HL HLs T S hE
  go_enter Tryz.func23, Tryz.ntmps23
  go_wp2_with fail
  refine Calls.mono HA ?_
  rintro e w1 ⟨v, rfl, ho, b1⟩
  obtain ⟨ad, vc, hv, hcs⟩ := ho.t.at
  rw [ints_len] at hv
  subst hv
  have HCS : Hid (∀ (i k : Nat), L[i]? = some k → ∃ b off, ad = some ⟨b, off, none⟩ ∧ b < w1.heap.size ∧ w1.cell? ⟨b, off + i, none⟩ = some (.int .i64 (k : Int))) := fun i k hk => by
    obtain ⟨b, off, e1, e2⟩ := hcs i (k : Int) (by rw [ints, List.getElem?_map, hk]; rfl)
    exact ⟨b, off, e1, World.block_lt_of_cell? w1 _ e2, e2⟩
  have HB1 : Hid _ := b1
  clear ho hcs b1 HA
  go_wp2_with fail
  go_loopw [3, 9] (fun l i wr => ∃ j : Nat, j ≤ L.length ∧ i = .int .i64 j ∧ OwnI wr w1.heap.size l ((L.take j).filter (badK bl tab)) ∧ Below w1.heap.size w1 wr) (fun _ i _ => L.length - (intOf i).toNat)
  case atStart => exact ⟨0, Nat.zero_le _, rfl, OwnI.nil _ _, Below.refl _ _⟩
  case round =>
    obtain ⟨j, hj, rfl, ho, hb⟩ := hrel
    have HO : Hid (OwnI wr w1.heap.size u3 ((L.take j).filter (badK bl tab))) := ho
    have HB : Hid (Below w1.heap.size w1 wr) := hb
    by_cases hlt : j < L.length
    · obtain ⟨k, hk⟩ : ∃ k, L[j]? = some k := ⟨_, List.getElem?_eq_getElem hlt⟩
      obtain ⟨gb, off, rfl, hgl, c1⟩ := HCS.out j k hk
      have c2 : wr.cell? ⟨gb, off + j, none⟩ = some (.int .i64 (k : Int)) := by rw [hb.cell (p := ⟨gb, off + j, none⟩) hgl]; exact c1
      obtain ⟨x, hx⟩ := HSL.out k (List.mem_of_getElem? hk)
      have HN : Hid ((L.take (j + 1)).filter (badK bl tab) = if okI bl x = true then (L.take j).filter (badK bl tab) else (L.take j).filter (badK bl tab) ++ [k]) := by
        show _ = _
        rw [take_snocH hk, List.filter_append]
        have e : badK bl tab k = !okI bl x := by unfold badK; rw [hx]
        by_cases ho : okI bl x = true
        · rw [if_pos ho, List.filter_cons, e, ho]; simp
        · rw [if_neg ho, List.filter_cons, e]; simp [ho]
      have HC := HRD.out wr k x (HB1.out.trans (hb.mono HB1.out.size)) hx
      have hwl : ((L.take j).filter (badK bl tab)).length ≤ 100000 := Nat.le_trans (List.length_filter_le _ _) (by rw [List.length_take]; omega)
      clear ho hb hk c1
      cases hp : okI bl x with
      | true =>
        rw [hp] at HC HN
        rw [if_pos rfl] at HN
        go_wp2_with (go_at_call 64; refine HC.mono ?_; rintro e w2 ⟨rfl, b2⟩)
        refine ⟨⟨j + 1, by omega, by simp, ?_, HB.out.trans (b2.mono HB.out.size)⟩, by simp [intOf]; omega⟩
        rw [HN.out]
        exact HO.out.keep fun b cur e => b2.block b (Array.getElem?_eq_some_iff.1 e).1
      | false =>
        rw [hp] at HC HN
        rw [if_neg (by simp)] at HN
        have hsz := HB.out.size
        obtain ⟨m, xs, HMm, HO1⟩ : ∃ m xs, Hid (m = ((L.take j).filter (badK bl tab)).length ∧ xs = (ints ((L.take j).filter (badK bl tab))).map (Value.int .i64)) ∧ Hid (∀ w2, Below wr.heap.size wr w2 → ∀ X, (w2.alloc X).ownsRow w1.heap.size 3 1 u3 m xs) := ⟨_, _, ⟨rfl, rfl⟩, fun w2 b2 X => OwnI.alloc (HO.out.keep fun b cur e => b2.block b (Array.getElem?_eq_some_iff.1 e).1) X⟩
        have hm5 : m ≤ 100000 := by rw [HMm.out.1]; exact hwl
        clear hp hwl
        go_wp2_with (first
          | (go_at_call 64; refine HC.mono ?_; rintro e w2 ⟨rfl, b2⟩; (have hs2 := b2.size); (have HO2 := HO1.out w2 b2); (have HB2 : Hid _ := b2); clear b2 HC)
          | (at_builtin; refine wpList_append_own _ (by rfl) (.tmp 17) (.tmp 19) 51 (by rfl) w1.heap.size 3 i0 _ 1 8 Tryz.underlying51 hi0 hz0 hz1 hz2 rfl (by omega) _ m _ (by rfl) (HO2 _) ⟨w2.heap.size, 0, none⟩ 1 1 [.int .i64 (k : Int)] (by rfl) rfl (cell_one_new _ _ _) (fun u hu => by rw [List.mem_singleton.1 hu]; rfl) (by unfold maxLen; omega) (by omega) (by rw [World.size_alloc]; omega) ?_; intro v' w3 hown hgrow _))
        refine ⟨⟨j + 1, by omega, by simp, ?_, ((HB.out.trans (HB2.out.mono HB.out.size)).alloc (by omega) _).grown hgrow (by rw [World.size_alloc]; omega) (fun k hk => (World.ownsRow.lt HO.out k hk).1)⟩, by simp [intOf]; omega⟩
        rw [HN.out]
        obtain ⟨e1, e2⟩ := HMm.out
        rw [e1, e2] at hown
        unfold OwnI
        simpa [ints] using hown
    · obtain rfl : j = L.length := by omega
      clear ho hb
      go_wp2_with fail
      go_ret
      exact ⟨_, rfl, ownsRow_base_a HO.out HB1.out.size, HB1.out.trans (HB.out.mono HB1.out.size)⟩
set_option maxRecDepth 100000 in
theorem scan_nil (w : World) (hA : Calls Tryz.prog 63 #[.pointer none] w fun e w' => e = .returned (.slice none 0 0) ∧ w' = w) : Calls Tryz.prog 23 #[.pointer none] w fun e w' => e = .returned (.slice none 0 0) ∧ w' = w := by
  go_enter Tryz.func23, Tryz.ntmps23
  go_wp2_with (go_at_call 63; refine hA.mono ?_; rintro e w1 ⟨rfl, hw⟩; rw [hw]; clear hw)
  go_loopw [3, 9] (fun l i wr => l = .slice none 0 0 ∧ i = .int .i64 0 ∧ wr = w) (fun _ _ _ => 0)
  case atStart => exact ⟨rfl, rfl, rfl⟩
  case round =>
    obtain ⟨rfl, rfl, rfl⟩ := hrel
    go_wp2_with fail
    go_ret
    exact ⟨rfl, rfl⟩
set_option maxRecDepth 100000 in
theorem mend_nil (k : Int) (data : ByteArray) (er : Value) (w : World) (hE : w.cell? ⟨4, 0, none⟩ = some er) : Calls Tryz.prog 25 #[.pointer none, .int .i64 k, .string data] w fun e w' => e = .returned er ∧ w' = w := by
  go_enter Tryz.func25, Tryz.ntmps25
  go_wp2_with fail
  go_ret
  exact ⟨rfl, rfl⟩
set_option maxRecDepth 100000 in
theorem mend_none (k : Int) (hk : (Lit.int .i64 k).wf = true) (hx : slotI tab k = none) (data : ByteArray) (er : Value) (w : World) (T : TbAt w F T0 tb bb sp sb cap mb n bl u tab) (hE : w.cell? ⟨2, 0, none⟩ = some er) :
    Calls Tryz.prog 25 #[.pointer (some ⟨tb, 0, none⟩), .int .i64 k, .string data] w fun e w' => e = .returned er ∧ Below w.heap.size w w' := by
  have HST := im_stat_none k hk hx w T
  have hgE : 2 < w.heap.size := World.block_lt_of_cell? w _ hE
  clear T hx hk
  go_enter Tryz.func25, Tryz.ntmps25
  go_wp2_with (go_at_call 19; refine HST.mono ?_; rintro e w1 ⟨rfl, b1⟩; (have HB : Hid (Below w.heap.size w (w1.alloc (.cells #[.int .i64 0, .int .i64 0, .bool false, .slice none 0 0, .int .u32 0] 54))) := b1.alloc b1.size _); (have cE : (w1.alloc (.cells #[.int .i64 0, .int .i64 0, .bool false, .slice none 0 0, .int .u32 0] 54)).cell? ⟨2, 0, none⟩ = some er := (by rw [HB.out.cell (p := ⟨2, 0, none⟩) hgE]; exact hE)); clear b1 HST hE)
  go_ret
  exact ⟨rfl, HB.out⟩
/-- What Mend comes to: by the data. -/
def mendR (bl : List (List UInt8)) (x : Ino) (data : ByteArray) : Nat := if data.size = x.bytes ∧ crcR data = x.sum then (if okI bl x = true then 1 else 2) else 0
set_option maxRecDepth 100000 in
set_option maxHeartbeats 2000000 in
theorem mend_any (k : Nat) (x : Ino) (hx : slotT tab k = some x) (data : ByteArray) (hd : data.size ≤ 1000000) (pe ex eb : Value) (w : World) (T : TbAt w F T0 tb bb sp sb cap mb n bl u tab) (S : SInv N bl u tab) (hE : w.cell? ⟨3, 0, none⟩ = some (.iface 330 pe)) (hX : w.cell? ⟨5, 0, none⟩ = some ex) (hB : w.cell? ⟨0, 0, none⟩ = some eb) (hgT : 0 < T0) :
    Calls Tryz.prog 25 #[.pointer (some ⟨tb, 0, none⟩), .int .i64 (k : Int), .string data] w fun e w' =>
      (mendR bl x data = 0 ∧ e = .returned (.iface 330 pe) ∧ Below w.heap.size w w') ∨ (mendR bl x data = 1 ∧ e = .returned ex ∧ Below w.heap.size w w') ∨
      (mendR bl x data = 2 ∧ e = .returned .nilIface ∧ TbAt w' F T0 tb bb sp sb cap mb n (writeR bl x.blocks data) u tab ∧ TbBut T0 mb w w') := by
  have hin : ∀ k ∈ x.blocks, k < bl.length := fun b hb => by rw [S.lbl]; exact S.lt hx b hb
  obtain ⟨_, _, _, hby, hbl0⟩ := S.own k x hx
  have hbl : x.blocks.length ≤ 1000 := by rw [hbl0]; unfold needN; omega
  have HST := im_stat k x hx (by omega) w T
  have hgE : 3 < w.heap.size := World.block_lt_of_cell? w _ hE
  have hgX : 5 < w.heap.size := World.block_lt_of_cell? w _ hX
  have hgB : 0 < w.heap.size := World.block_lt_of_cell? w _ hB
  have HE : Hid (∀ W, Below w.heap.size w W → W.cell? ⟨3, 0, none⟩ = some (.iface 330 pe)) := fun W hW => by rw [hW.cell (p := ⟨3, 0, none⟩) hgE]; exact hE
  have HX : Hid (∀ W, Below w.heap.size w W → W.cell? ⟨5, 0, none⟩ = some ex) := fun W hW => by rw [hW.cell (p := ⟨5, 0, none⟩) hgX]; exact hX
  have HSUM : Hid (∀ W, Calls Tryz.prog 58 #[.string data] W fun e w' => e = .returned (.int .u32 (crcR data : Nat)) ∧ w' = W) := fun W => sum_any _ hd W
  have HRD : Hid (∀ W, Below w.heap.size w W → Calls Tryz.prog 64 #[.pointer (some ⟨tb, 0, none⟩), .int .i64 (k : Int)] W fun e w' => e = .returned (.bool (okI bl x)) ∧ Below W.heap.size W w') := fun W hW => readable_any k x pe hx W (T.below hW) S (HE.out W hW)
  have HDK : Hid (∀ W, Below w.heap.size w W → Calls Tryz.prog 20 #[.pointer (some ⟨tb, 0, none⟩)] W fun e w' => e = .returned (.pointer (some ⟨bb + 1, 0, none⟩)) ∧ w' = W) := fun W hW => im_disk W (T.below hW)
  have HLAY : Hid (∀ W v, Below w.heap.size w W → IntsT W v (ints x.blocks) → data.size = x.bytes → Calls Tryz.prog 56 #[.pointer (some ⟨bb + 1, 0, none⟩), v, .string data] W fun e w' => e = .returned (.tuple #[]) ∧ TbAt w' F T0 tb bb sp sb cap mb n (writeR bl x.blocks data) u tab ∧ TbBut T0 mb W w' ∧ Turn dkTy W w') := fun W v hW iv hsz => im_lay v x.blocks data eb W (T.below hW) iv hin hbl (by rw [hbl0, hsz]; exact need_fits _) (by rw [hW.cell (p := ⟨0, 0, none⟩) hgB]; exact hB) hgT
  have hcl := crcR_lt data
  obtain ⟨c, HC⟩ : ∃ c, Hid (c = crcR data) := ⟨_, (rfl : _ = _)⟩
  obtain ⟨ok, HOK⟩ : ∃ ok, Hid (ok = okI bl x) := ⟨_, (rfl : _ = _)⟩
  have HM : Hid (mendR bl x data = if data.size = x.bytes ∧ c = x.sum then (if ok = true then 1 else 2) else 0) := by show _ = _; rw [HC.out, HOK.out]; rfl
  rw [← HC.out] at HSUM hcl
  rw [← HOK.out] at HRD
  obtain ⟨mr, HMR⟩ : ∃ mr, Hid (mr = mendR bl x data) := ⟨_, (rfl : _ = _)⟩
  rw [← HMR.out] at HM ⊢
  clear HC HOK HMR T S hx hE hX hB hin
  go_enter Tryz.func25, Tryz.ntmps25
  go_wp2_with (go_at_call 19; refine HST.mono ?_; rintro e w1 ⟨v, rfl, iv, b1⟩; (obtain ⟨ad, vc, rfl⟩ : ∃ ad vc, v = .slice ad (ints x.blocks).length vc := (by obtain ⟨ad, vc, e, _⟩ := iv; exact ⟨ad, vc, e⟩)); (have HIV : Hid (IntsT (w1.alloc (.cells #[.int .i64 (x.bytes : Int), .int .i64 (x.links : Int), .bool x.exec, .slice ad (ints x.blocks).length vc, .int .u32 (x.sum : Int)] 54)) (.slice ad (ints x.blocks).length vc) (ints x.blocks)) := iv.below ((Below.refl _ _).alloc (Nat.le_refl _) _)); (have HB2 : Hid (Below w.heap.size w (w1.alloc (.cells #[.int .i64 (x.bytes : Int), .int .i64 (x.links : Int), .bool x.exec, .slice ad (ints x.blocks).length vc, .int .u32 (x.sum : Int)] 54))) := b1.alloc b1.size _); (have HR2 : Hid ((w1.alloc (.cells #[.int .i64 (x.bytes : Int), .int .i64 (x.links : Int), .bool x.exec, .slice ad (ints x.blocks).length vc, .int .u32 (x.sum : Int)] 54)).heap[w1.heap.size]? = some (.cells #[.int .i64 (x.bytes : Int), .int .i64 (x.links : Int), .bool x.exec, .slice ad (ints x.blocks).length vc, .int .u32 (x.sum : Int)] 54 (0, 0))) := heap_alloc_last w1 _); (have Hs1 : Hid (w.heap.size ≤ w1.heap.size) := b1.size); clear iv b1 HST)
  obtain ⟨W2, hW2⟩ : ∃ W2, W2 = w1.alloc (.cells #[.int .i64 (x.bytes : Int), .int .i64 (x.links : Int), .bool x.exec, .slice ad (ints x.blocks).length vc, .int .u32 (x.sum : Int)] 54) := ⟨_, rfl⟩
  rw [← hW2] at HIV HB2 HR2 ⊢
  obtain ⟨s, hs⟩ : ∃ s, s = w1.heap.size := ⟨_, rfl⟩
  rw [← hs] at HR2 Hs1 ⊢
  clear hW2 hs
  have c0 : W2.cell? ⟨s, 0, none⟩ = some (.int .i64 (x.bytes : Int)) := by rw [cell_of_row _ _ _ _ _ _ HR2.out]; rfl
  have c4 : W2.cell? ⟨s, 4, none⟩ = some (.int .u32 (x.sum : Int)) := by rw [cell_of_row _ _ _ _ _ _ HR2.out]; rfl
  by_cases hlen : data.size = x.bytes
  · have hleni : ((data.size : Int)) = (x.bytes : Int) := by omega
    by_cases hsum : c = x.sum
    · have HM2 : Hid (mr = if ok = true then 1 else 2) := by show _ = _; rw [HM.out, if_pos ⟨hlen, hsum⟩]
      have HLY : Hid (∀ W, Below w.heap.size w W → IntsT W (.slice ad (ints x.blocks).length vc) (ints x.blocks) → Calls Tryz.prog 56 #[.pointer (some ⟨bb + 1, 0, none⟩), .slice ad (ints x.blocks).length vc, .string data] W fun e w' => e = .returned (.tuple #[]) ∧ TbAt w' F T0 tb bb sp sb cap mb n (writeR bl x.blocks data) u tab ∧ TbBut T0 mb W w' ∧ Turn dkTy W w') := fun W hW iv => HLAY.out W _ hW iv hlen
      clear HM HLAY
      have Hlen : Hid (data.size = x.bytes) := hlen
      have Hsum : Hid (c = x.sum) := hsum
      clear hlen hsum
      have hlen : ((data.size : Int)) = (x.bytes : Int) := by have := Hlen.out; omega
      have hsum : ((c : Int)) = (x.sum : Int) := by have := Hsum.out; omega
      refine wp_region_held_drew (S := fun w' => w'.cell? ⟨s, 0, none⟩ = some (.int .i64 (x.bytes : Int)) ∧ w'.cell? ⟨s, 4, none⟩ = some (.int .u32 (x.sum : Int))) (by kernel_rfl) (⟨c0, c4⟩) (fun hHeld => ?_)
      refine wpAnyH_take (i := 0) (v := (.string data)) rfl (by kernel_rfl) (by kernel_rfl) (by kernel_rfl) (fun _ _ _ h => h) (Or.inl ⟨by rfl, ?_⟩) hHeld ?_
      · intro w hSw; (try dsimp only at hSw); simp only [List.getElem_toArray, List.getElem_cons_zero]; go_simp
      simp only [List.getElem_toArray, List.getElem_cons_zero, Act.put, List.setIfInBounds_toArray, List.set_cons_zero, List.set_cons_succ]
      refine wpAnyH_take (i := 1) (v := (.int .i64 (data.size : Int))) rfl (by kernel_rfl) (by kernel_rfl) (by kernel_rfl) (fun _ _ _ h => h) (Or.inl ⟨by rfl, ?_⟩) hHeld ?_
      · intro w hSw; (try dsimp only at hSw); simp only [List.getElem_toArray, List.getElem_cons_zero, List.getElem_cons_succ]; go_simp
      simp only [List.getElem_toArray, List.getElem_cons_zero, List.getElem_cons_succ, Act.put, List.setIfInBounds_toArray, List.set_cons_zero, List.set_cons_succ]
      refine wpAnyH_take (i := 2) (v := (.pointer (some ⟨s, 0, none⟩))) rfl (by kernel_rfl) (by kernel_rfl) (by kernel_rfl) (fun _ _ _ h => h) (Or.inl ⟨by rfl, ?_⟩) hHeld ?_
      · intro w hSw; (try dsimp only at hSw); simp only [List.getElem_toArray, List.getElem_cons_zero, List.getElem_cons_succ]; go_simp
      simp only [List.getElem_toArray, List.getElem_cons_zero, List.getElem_cons_succ, Act.put, List.setIfInBounds_toArray, List.set_cons_zero, List.set_cons_succ]
      refine wpAnyH_take (i := 3) (v := (.int .i64 (x.bytes : Int))) rfl (by kernel_rfl) (by kernel_rfl) (by kernel_rfl) (fun _ _ _ h => h) (Or.inl ⟨by rfl, ?_⟩) hHeld ?_
      · intro w hSw; (try dsimp only at hSw); simp only [List.getElem_toArray, List.getElem_cons_zero, List.getElem_cons_succ]; go_simp
      simp only [List.getElem_toArray, List.getElem_cons_zero, List.getElem_cons_succ, Act.put, List.setIfInBounds_toArray, List.set_cons_zero, List.set_cons_succ]
      refine wpAnyH_take (i := 4) (v := (.bool false)) rfl (by kernel_rfl) (by kernel_rfl) (by kernel_rfl) (fun _ _ _ h => h) (Or.inl ⟨by rfl, ?_⟩) hHeld ?_
      · intro w hSw; (try dsimp only at hSw); simp only [List.getElem_toArray, List.getElem_cons_zero, List.getElem_cons_succ]; go_simp; (try exact hlen)
      simp only [List.getElem_toArray, List.getElem_cons_zero, List.getElem_cons_succ, Act.put, List.setIfInBounds_toArray, List.set_cons_zero, List.set_cons_succ]
      refine wpAnyH_take (i := 5) (v := (.bool false)) rfl (by kernel_rfl) (by kernel_rfl) (by kernel_rfl) (fun _ _ _ h => h) (Or.inl ⟨by rfl, ?_⟩) hHeld ?_
      · intro w hSw; (try dsimp only at hSw); simp only [List.getElem_toArray, List.getElem_cons_zero, List.getElem_cons_succ]; go_simp
      simp only [List.getElem_toArray, List.getElem_cons_zero, List.getElem_cons_succ, Act.put, List.setIfInBounds_toArray, List.set_cons_zero, List.set_cons_succ]
      refine wpAnyH_take (i := 6) (v := (.string data)) rfl (by kernel_rfl) (by kernel_rfl) (by kernel_rfl) (fun _ _ _ h => h) (Or.inl ⟨by rfl, ?_⟩) hHeld ?_
      · intro w hSw; (try dsimp only at hSw); simp only [List.getElem_toArray, List.getElem_cons_zero, List.getElem_cons_succ]; go_simp
      simp only [List.getElem_toArray, List.getElem_cons_zero, List.getElem_cons_succ, Act.put, List.setIfInBounds_toArray, List.set_cons_zero, List.set_cons_succ]
      refine wpAnyH_take (i := 8) (v := (.pointer (some ⟨s, 4, none⟩))) rfl (by kernel_rfl) (by kernel_rfl) (by kernel_rfl) (fun _ _ _ h => h) (Or.inl ⟨by rfl, ?_⟩) hHeld ?_
      · intro w hSw; (try dsimp only at hSw); simp only [List.getElem_toArray, List.getElem_cons_zero, List.getElem_cons_succ]; go_simp
      simp only [List.getElem_toArray, List.getElem_cons_zero, List.getElem_cons_succ, Act.put, List.setIfInBounds_toArray, List.set_cons_zero, List.set_cons_succ]
      refine wpAnyH_take (i := 9) (v := (.int .u32 (x.sum : Int))) rfl (by kernel_rfl) (by kernel_rfl) (by kernel_rfl) (fun _ _ _ h => h) (Or.inl ⟨by rfl, ?_⟩) hHeld ?_
      · intro w hSw; (try dsimp only at hSw); simp only [List.getElem_toArray, List.getElem_cons_zero, List.getElem_cons_succ]; go_simp
      simp only [List.getElem_toArray, List.getElem_cons_zero, List.getElem_cons_succ, Act.put, List.setIfInBounds_toArray, List.set_cons_zero, List.set_cons_succ]
      refine wpAnyH_ready (rs := [7]) (by kernel_rfl) (by simp) ?_
      refine AllReadyH.cons rfl (fun K' hK => ?_) AllReadyH.nil
      simp only [List.getElem_toArray, List.getElem_cons_zero, List.getElem_cons_succ]
      go_simp
      refine Calls.mono (HSUM.out _) ?_
      rintro e wx ⟨rfl, hw⟩
      rw [hw]
      clear hw
      go_wp2_with fail
      refine hK.out _ _ ⟨c0, c4⟩ (fun hHeld' => ?_)
      clear hK K' hHeld
      have hHeld := hHeld'
      clear hHeld'
      refine wpAnyH_take (i := 10) (v := (.bool false)) rfl (by kernel_rfl) (by kernel_rfl) (by kernel_rfl) (fun _ _ _ h => h) (Or.inl ⟨by rfl, ?_⟩) hHeld ?_
      · intro w hSw; (try dsimp only at hSw); simp only [List.getElem_toArray, List.getElem_cons_zero, List.getElem_cons_succ]; go_simp; (try exact hsum)
      simp only [List.getElem_toArray, List.getElem_cons_zero, List.getElem_cons_succ, Act.put, List.setIfInBounds_toArray, List.set_cons_zero, List.set_cons_succ]
      refine wpAnyH_take (i := 11) (v := (.bool false)) rfl (by kernel_rfl) (by kernel_rfl) (by kernel_rfl) (fun _ _ _ h => h) (Or.inl ⟨by rfl, ?_⟩) hHeld ?_
      · intro w hSw; (try dsimp only at hSw); simp only [List.getElem_toArray, List.getElem_cons_zero, List.getElem_cons_succ]; go_simp
      simp only [List.getElem_toArray, List.getElem_cons_zero, List.getElem_cons_succ, Act.put, List.setIfInBounds_toArray, List.set_cons_zero, List.set_cons_succ]
      refine wpAnyH_done (by kernel_rfl) ?_ _
      have HRD2 := HRD.out W2.drew HB2.out.drew
      clear c0 c4 hlen hsum hleni
      cases ok with
      | true =>
        go_wp2_with (go_at_call 64; refine HRD2.mono ?_; rintro e w3 ⟨rfl, b3⟩; (have HB3 : Hid (Below w.heap.size w w3) := HB2.out.drew.trans (b3.mono HB2.out.drew.size)); (have cX := HX.out w3 HB3.out))
        go_ret
        exact .inr (.inl ⟨HM2.out, rfl, HB3.out⟩)
      | false =>
        go_wp2_with (go_at_call 64; refine HRD2.mono ?_; rintro e w3 ⟨rfl, b3⟩; (have HB4 : Hid (Below w.heap.size w w3.drew) := (HB2.out.drew.trans (b3.mono HB2.out.drew.size)).drew); (have HI4 : Hid (IntsT w3.drew (.slice ad (ints x.blocks).length vc) (ints x.blocks)) := HIV.out.below ((Below.refl _ W2).drew.trans b3).drew); (have HR3 : Hid (w3.drew.heap[s]? = some (.cells #[.int .i64 (x.bytes : Int), .int .i64 (x.links : Int), .bool x.exec, .slice ad (ints x.blocks).length vc, .int .u32 (x.sum : Int)] 54 (0, 0))) := (b3.block s (Array.getElem?_eq_some_iff.1 HR2.out).1).trans HR2.out); clear b3)
        have d3 : w3.drew.cell? ⟨s, 3, none⟩ = some (.slice ad (ints x.blocks).length vc) := by rw [cell_of_row _ _ _ _ _ _ HR3.out]; rfl
        refine wp_region_held_drew (S := fun w' => w'.cell? ⟨s, 3, none⟩ = some (.slice ad (ints x.blocks).length vc)) (by kernel_rfl) (d3) (fun hHeld => ?_)
        refine wpAnyH_take (i := 0) (v := (.pointer (some ⟨tb, 0, none⟩))) rfl (by kernel_rfl) (by kernel_rfl) (by kernel_rfl) (fun _ _ _ h => h) (Or.inl ⟨by rfl, ?_⟩) hHeld ?_
        · intro w hSw; (try dsimp only at hSw); simp only [List.getElem_toArray, List.getElem_cons_zero]; go_simp
        simp only [List.getElem_toArray, List.getElem_cons_zero, Act.put, List.setIfInBounds_toArray, List.set_cons_zero, List.set_cons_succ]
        refine wpAnyH_take (i := 2) (v := (.pointer (some ⟨s, 3, none⟩))) rfl (by kernel_rfl) (by kernel_rfl) (by kernel_rfl) (fun _ _ _ h => h) (Or.inl ⟨by rfl, ?_⟩) hHeld ?_
        · intro w hSw; (try dsimp only at hSw); simp only [List.getElem_toArray, List.getElem_cons_zero, List.getElem_cons_succ]; go_simp
        simp only [List.getElem_toArray, List.getElem_cons_zero, List.getElem_cons_succ, Act.put, List.setIfInBounds_toArray, List.set_cons_zero, List.set_cons_succ]
        refine wpAnyH_take (i := 3) (v := (.slice ad (ints x.blocks).length vc)) rfl (by kernel_rfl) (by kernel_rfl) (by kernel_rfl) (fun _ _ _ h => h) (Or.inl ⟨by rfl, ?_⟩) hHeld ?_
        · intro w hSw; (try dsimp only at hSw); simp only [List.getElem_toArray, List.getElem_cons_zero, List.getElem_cons_succ]; go_simp
        simp only [List.getElem_toArray, List.getElem_cons_zero, List.getElem_cons_succ, Act.put, List.setIfInBounds_toArray, List.set_cons_zero, List.set_cons_succ]
        refine wpAnyH_take (i := 4) (v := (.string data)) rfl (by kernel_rfl) (by kernel_rfl) (by kernel_rfl) (fun _ _ _ h => h) (Or.inl ⟨by rfl, ?_⟩) hHeld ?_
        · intro w hSw; (try dsimp only at hSw); simp only [List.getElem_toArray, List.getElem_cons_zero, List.getElem_cons_succ]; go_simp
        simp only [List.getElem_toArray, List.getElem_cons_zero, List.getElem_cons_succ, Act.put, List.setIfInBounds_toArray, List.set_cons_zero, List.set_cons_succ]
        refine wpAnyH_ready (rs := [1]) (by kernel_rfl) (by simp) ?_
        refine AllReadyH.cons rfl (fun K' hK => ?_) AllReadyH.nil
        simp only [List.getElem_toArray, List.getElem_cons_zero, List.getElem_cons_succ]
        go_simp
        refine Calls.mono (HDK.out _ HB4.out) ?_
        rintro e wx ⟨rfl, hw⟩
        rw [hw]
        clear hw
        go_wp2_with fail
        refine hK.out _ _ d3 (fun hHeld' => ?_)
        clear hK K' hHeld
        have hHeld := hHeld'
        clear hHeld'
        refine wpAnyH_ready (rs := [5]) (by kernel_rfl) (by simp) ?_
        refine AllReadyH.cons rfl (fun K' hK => ?_) AllReadyH.nil
        simp only [List.getElem_toArray, List.getElem_cons_zero, List.getElem_cons_succ]
        go_simp
        refine Calls.mono (HLY.out _ HB4.out HI4.out) ?_
        rintro e wx ⟨rfl, hT5, hB5, ht5⟩
        have H5 : Hid _ := And.intro hT5 hB5
        have d5 : wx.cell? ⟨s, 3, none⟩ = some (.slice ad (ints x.blocks).length vc) := by rw [cell_of_row _ _ _ _ _ _ (ht5 _ _ HR3.out rfl)]; rfl
        clear hT5 hB5 ht5
        go_wp2_with fail
        refine hK.out _ _ d5 (fun hHeld' => ?_)
        clear hK K' hHeld
        have hHeld := hHeld'
        clear hHeld'
        refine wpAnyH_done (by kernel_rfl) ?_ _
        go_wp2_with fail
        go_ret
        exact .inr (.inr ⟨HM2.out, rfl, H5.out.1, (TbBut.of_below HB4.out).trans H5.out.2⟩)
    · have HM2 : Hid (mr = 0) := by show _ = _; rw [HM.out, if_neg (fun h => hsum h.2)]
      have hlen : ((data.size : Int)) = (x.bytes : Int) := hleni
      have hsum : ¬ ((c : Int)) = (x.sum : Int) := by omega
      clear HM HLAY
      refine wp_region_held_drew (S := fun w' => w'.cell? ⟨s, 0, none⟩ = some (.int .i64 (x.bytes : Int)) ∧ w'.cell? ⟨s, 4, none⟩ = some (.int .u32 (x.sum : Int))) (by kernel_rfl) (⟨c0, c4⟩) (fun hHeld => ?_)
      refine wpAnyH_take (i := 0) (v := (.string data)) rfl (by kernel_rfl) (by kernel_rfl) (by kernel_rfl) (fun _ _ _ h => h) (Or.inl ⟨by rfl, ?_⟩) hHeld ?_
      · intro w hSw; (try dsimp only at hSw); simp only [List.getElem_toArray, List.getElem_cons_zero]; go_simp
      simp only [List.getElem_toArray, List.getElem_cons_zero, Act.put, List.setIfInBounds_toArray, List.set_cons_zero, List.set_cons_succ]
      refine wpAnyH_take (i := 1) (v := (.int .i64 (data.size : Int))) rfl (by kernel_rfl) (by kernel_rfl) (by kernel_rfl) (fun _ _ _ h => h) (Or.inl ⟨by rfl, ?_⟩) hHeld ?_
      · intro w hSw; (try dsimp only at hSw); simp only [List.getElem_toArray, List.getElem_cons_zero, List.getElem_cons_succ]; go_simp
      simp only [List.getElem_toArray, List.getElem_cons_zero, List.getElem_cons_succ, Act.put, List.setIfInBounds_toArray, List.set_cons_zero, List.set_cons_succ]
      refine wpAnyH_take (i := 2) (v := (.pointer (some ⟨s, 0, none⟩))) rfl (by kernel_rfl) (by kernel_rfl) (by kernel_rfl) (fun _ _ _ h => h) (Or.inl ⟨by rfl, ?_⟩) hHeld ?_
      · intro w hSw; (try dsimp only at hSw); simp only [List.getElem_toArray, List.getElem_cons_zero, List.getElem_cons_succ]; go_simp
      simp only [List.getElem_toArray, List.getElem_cons_zero, List.getElem_cons_succ, Act.put, List.setIfInBounds_toArray, List.set_cons_zero, List.set_cons_succ]
      refine wpAnyH_take (i := 3) (v := (.int .i64 (x.bytes : Int))) rfl (by kernel_rfl) (by kernel_rfl) (by kernel_rfl) (fun _ _ _ h => h) (Or.inl ⟨by rfl, ?_⟩) hHeld ?_
      · intro w hSw; (try dsimp only at hSw); simp only [List.getElem_toArray, List.getElem_cons_zero, List.getElem_cons_succ]; go_simp
      simp only [List.getElem_toArray, List.getElem_cons_zero, List.getElem_cons_succ, Act.put, List.setIfInBounds_toArray, List.set_cons_zero, List.set_cons_succ]
      refine wpAnyH_take (i := 4) (v := (.bool false)) rfl (by kernel_rfl) (by kernel_rfl) (by kernel_rfl) (fun _ _ _ h => h) (Or.inl ⟨by rfl, ?_⟩) hHeld ?_
      · intro w hSw; (try dsimp only at hSw); simp only [List.getElem_toArray, List.getElem_cons_zero, List.getElem_cons_succ]; go_simp; (try exact hlen)
      simp only [List.getElem_toArray, List.getElem_cons_zero, List.getElem_cons_succ, Act.put, List.setIfInBounds_toArray, List.set_cons_zero, List.set_cons_succ]
      refine wpAnyH_take (i := 5) (v := (.bool false)) rfl (by kernel_rfl) (by kernel_rfl) (by kernel_rfl) (fun _ _ _ h => h) (Or.inl ⟨by rfl, ?_⟩) hHeld ?_
      · intro w hSw; (try dsimp only at hSw); simp only [List.getElem_toArray, List.getElem_cons_zero, List.getElem_cons_succ]; go_simp
      simp only [List.getElem_toArray, List.getElem_cons_zero, List.getElem_cons_succ, Act.put, List.setIfInBounds_toArray, List.set_cons_zero, List.set_cons_succ]
      refine wpAnyH_take (i := 6) (v := (.string data)) rfl (by kernel_rfl) (by kernel_rfl) (by kernel_rfl) (fun _ _ _ h => h) (Or.inl ⟨by rfl, ?_⟩) hHeld ?_
      · intro w hSw; (try dsimp only at hSw); simp only [List.getElem_toArray, List.getElem_cons_zero, List.getElem_cons_succ]; go_simp
      simp only [List.getElem_toArray, List.getElem_cons_zero, List.getElem_cons_succ, Act.put, List.setIfInBounds_toArray, List.set_cons_zero, List.set_cons_succ]
      refine wpAnyH_take (i := 8) (v := (.pointer (some ⟨s, 4, none⟩))) rfl (by kernel_rfl) (by kernel_rfl) (by kernel_rfl) (fun _ _ _ h => h) (Or.inl ⟨by rfl, ?_⟩) hHeld ?_
      · intro w hSw; (try dsimp only at hSw); simp only [List.getElem_toArray, List.getElem_cons_zero, List.getElem_cons_succ]; go_simp
      simp only [List.getElem_toArray, List.getElem_cons_zero, List.getElem_cons_succ, Act.put, List.setIfInBounds_toArray, List.set_cons_zero, List.set_cons_succ]
      refine wpAnyH_take (i := 9) (v := (.int .u32 (x.sum : Int))) rfl (by kernel_rfl) (by kernel_rfl) (by kernel_rfl) (fun _ _ _ h => h) (Or.inl ⟨by rfl, ?_⟩) hHeld ?_
      · intro w hSw; (try dsimp only at hSw); simp only [List.getElem_toArray, List.getElem_cons_zero, List.getElem_cons_succ]; go_simp
      simp only [List.getElem_toArray, List.getElem_cons_zero, List.getElem_cons_succ, Act.put, List.setIfInBounds_toArray, List.set_cons_zero, List.set_cons_succ]
      refine wpAnyH_ready (rs := [7]) (by kernel_rfl) (by simp) ?_
      refine AllReadyH.cons rfl (fun K' hK => ?_) AllReadyH.nil
      simp only [List.getElem_toArray, List.getElem_cons_zero, List.getElem_cons_succ]
      go_simp
      refine Calls.mono (HSUM.out _) ?_
      rintro e wx ⟨rfl, hw⟩
      rw [hw]
      clear hw
      go_wp2_with fail
      refine hK.out _ _ ⟨c0, c4⟩ (fun hHeld' => ?_)
      clear hK K' hHeld
      have hHeld := hHeld'
      clear hHeld'
      refine wpAnyH_take (i := 10) (v := (.bool true)) rfl (by kernel_rfl) (by kernel_rfl) (by kernel_rfl) (fun _ _ _ h => h) (Or.inl ⟨by rfl, ?_⟩) hHeld ?_
      · intro w hSw; (try dsimp only at hSw); simp only [List.getElem_toArray, List.getElem_cons_zero, List.getElem_cons_succ]; go_simp; (try exact hsum)
      simp only [List.getElem_toArray, List.getElem_cons_zero, List.getElem_cons_succ, Act.put, List.setIfInBounds_toArray, List.set_cons_zero, List.set_cons_succ]
      refine wpAnyH_take (i := 11) (v := (.bool true)) rfl (by kernel_rfl) (by kernel_rfl) (by kernel_rfl) (fun _ _ _ h => h) (Or.inl ⟨by rfl, ?_⟩) hHeld ?_
      · intro w hSw; (try dsimp only at hSw); simp only [List.getElem_toArray, List.getElem_cons_zero, List.getElem_cons_succ]; go_simp
      simp only [List.getElem_toArray, List.getElem_cons_zero, List.getElem_cons_succ, Act.put, List.setIfInBounds_toArray, List.set_cons_zero, List.set_cons_succ]
      refine wpAnyH_done (by kernel_rfl) ?_ _
      have cE := HE.out W2.drew HB2.out.drew
      go_wp2_with fail
      go_ret
      exact .inl ⟨HM2.out, rfl, HB2.out.drew⟩
  · have HM2 : Hid (mr = 0) := by show _ = _; rw [HM.out, if_neg (fun h => hlen h.1)]
    have hlen : ¬ ((data.size : Int)) = (x.bytes : Int) := by omega
    clear HM HLAY
    refine wp_region_held_drew (S := fun w' => w'.cell? ⟨s, 0, none⟩ = some (.int .i64 (x.bytes : Int)) ∧ w'.cell? ⟨s, 4, none⟩ = some (.int .u32 (x.sum : Int))) (by kernel_rfl) (⟨c0, c4⟩) (fun hHeld => ?_)
    refine wpAnyH_take (i := 0) (v := (.string data)) rfl (by kernel_rfl) (by kernel_rfl) (by kernel_rfl) (fun _ _ _ h => h) (Or.inl ⟨by rfl, ?_⟩) hHeld ?_
    · intro w hSw; (try dsimp only at hSw); simp only [List.getElem_toArray, List.getElem_cons_zero]; go_simp
    simp only [List.getElem_toArray, List.getElem_cons_zero, Act.put, List.setIfInBounds_toArray, List.set_cons_zero, List.set_cons_succ]
    refine wpAnyH_take (i := 1) (v := (.int .i64 (data.size : Int))) rfl (by kernel_rfl) (by kernel_rfl) (by kernel_rfl) (fun _ _ _ h => h) (Or.inl ⟨by rfl, ?_⟩) hHeld ?_
    · intro w hSw; (try dsimp only at hSw); simp only [List.getElem_toArray, List.getElem_cons_zero, List.getElem_cons_succ]; go_simp
    simp only [List.getElem_toArray, List.getElem_cons_zero, List.getElem_cons_succ, Act.put, List.setIfInBounds_toArray, List.set_cons_zero, List.set_cons_succ]
    refine wpAnyH_take (i := 2) (v := (.pointer (some ⟨s, 0, none⟩))) rfl (by kernel_rfl) (by kernel_rfl) (by kernel_rfl) (fun _ _ _ h => h) (Or.inl ⟨by rfl, ?_⟩) hHeld ?_
    · intro w hSw; (try dsimp only at hSw); simp only [List.getElem_toArray, List.getElem_cons_zero, List.getElem_cons_succ]; go_simp
    simp only [List.getElem_toArray, List.getElem_cons_zero, List.getElem_cons_succ, Act.put, List.setIfInBounds_toArray, List.set_cons_zero, List.set_cons_succ]
    refine wpAnyH_take (i := 3) (v := (.int .i64 (x.bytes : Int))) rfl (by kernel_rfl) (by kernel_rfl) (by kernel_rfl) (fun _ _ _ h => h) (Or.inl ⟨by rfl, ?_⟩) hHeld ?_
    · intro w hSw; (try dsimp only at hSw); simp only [List.getElem_toArray, List.getElem_cons_zero, List.getElem_cons_succ]; go_simp
    simp only [List.getElem_toArray, List.getElem_cons_zero, List.getElem_cons_succ, Act.put, List.setIfInBounds_toArray, List.set_cons_zero, List.set_cons_succ]
    refine wpAnyH_take (i := 4) (v := (.bool true)) rfl (by kernel_rfl) (by kernel_rfl) (by kernel_rfl) (fun _ _ _ h => h) (Or.inl ⟨by rfl, ?_⟩) hHeld ?_
    · intro w hSw; (try dsimp only at hSw); simp only [List.getElem_toArray, List.getElem_cons_zero, List.getElem_cons_succ]; go_simp; (try exact hlen)
    simp only [List.getElem_toArray, List.getElem_cons_zero, List.getElem_cons_succ, Act.put, List.setIfInBounds_toArray, List.set_cons_zero, List.set_cons_succ]
    refine wpAnyH_take (i := 5) (v := (.bool true)) rfl (by kernel_rfl) (by kernel_rfl) (by kernel_rfl) (fun _ _ _ h => h) (Or.inl ⟨by rfl, ?_⟩) hHeld ?_
    · intro w hSw; (try dsimp only at hSw); simp only [List.getElem_toArray, List.getElem_cons_zero, List.getElem_cons_succ]; go_simp
    simp only [List.getElem_toArray, List.getElem_cons_zero, List.getElem_cons_succ, Act.put, List.setIfInBounds_toArray, List.set_cons_zero, List.set_cons_succ]
    refine wpAnyH_take (i := 6) (v := undef) rfl (by kernel_rfl) (by kernel_rfl) (by kernel_rfl) (fun _ _ _ h => h) (Or.inr ⟨by rfl, rfl⟩) hHeld ?_
    simp only [List.getElem_toArray, List.getElem_cons_zero, List.getElem_cons_succ, Act.put, List.setIfInBounds_toArray, List.set_cons_zero, List.set_cons_succ]
    refine wpAnyH_take (i := 7) (v := undef) rfl (by kernel_rfl) (by kernel_rfl) (by kernel_rfl) (fun _ _ _ h => h) (Or.inr ⟨by rfl, rfl⟩) hHeld ?_
    simp only [List.getElem_toArray, List.getElem_cons_zero, List.getElem_cons_succ, Act.put, List.setIfInBounds_toArray, List.set_cons_zero, List.set_cons_succ]
    refine wpAnyH_take (i := 8) (v := undef) rfl (by kernel_rfl) (by kernel_rfl) (by kernel_rfl) (fun _ _ _ h => h) (Or.inr ⟨by rfl, rfl⟩) hHeld ?_
    simp only [List.getElem_toArray, List.getElem_cons_zero, List.getElem_cons_succ, Act.put, List.setIfInBounds_toArray, List.set_cons_zero, List.set_cons_succ]
    refine wpAnyH_take (i := 9) (v := undef) rfl (by kernel_rfl) (by kernel_rfl) (by kernel_rfl) (fun _ _ _ h => h) (Or.inr ⟨by rfl, rfl⟩) hHeld ?_
    simp only [List.getElem_toArray, List.getElem_cons_zero, List.getElem_cons_succ, Act.put, List.setIfInBounds_toArray, List.set_cons_zero, List.set_cons_succ]
    refine wpAnyH_take (i := 10) (v := undef) rfl (by kernel_rfl) (by kernel_rfl) (by kernel_rfl) (fun _ _ _ h => h) (Or.inr ⟨by rfl, rfl⟩) hHeld ?_
    simp only [List.getElem_toArray, List.getElem_cons_zero, List.getElem_cons_succ, Act.put, List.setIfInBounds_toArray, List.set_cons_zero, List.set_cons_succ]
    refine wpAnyH_take (i := 11) (v := (.bool true)) rfl (by kernel_rfl) (by kernel_rfl) (by kernel_rfl) (fun _ _ _ h => h) (Or.inl ⟨by rfl, ?_⟩) hHeld ?_
    · intro w hSw; (try dsimp only at hSw); simp only [List.getElem_toArray, List.getElem_cons_zero, List.getElem_cons_succ]; go_simp
    simp only [List.getElem_toArray, List.getElem_cons_zero, List.getElem_cons_succ, Act.put, List.setIfInBounds_toArray, List.set_cons_zero, List.set_cons_succ]
    refine wpAnyH_done (by kernel_rfl) ?_ _
    have cE := HE.out W2.drew HB2.out.drew
    go_wp2_with fail
    go_ret
    exact .inl ⟨HM2.out, rfl, HB2.out.drew⟩
end
end Go.Proofs.YtcejpeohkgchdabGreatDoor
