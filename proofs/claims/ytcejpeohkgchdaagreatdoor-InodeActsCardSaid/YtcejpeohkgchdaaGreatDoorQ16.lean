/-
  The contract of the document's write.
  The contract of the document's CRC.
  Conditions: those that each states.
-/
import Derived.Test.YtcejpeohkgchdaaGreatDoorQ15
import Derived.Deep.RegionHeld3
import Derived.Test.YtcejpeohkgchdaaGreatDoorQ13
namespace Go.Proofs.YtcejpeohkgchdaaGreatDoor
open Go.RowKit

def sizeS : Value → Nat
  | .string s => s.size
  | _ => 0
def mkTy : Obj → Bool
  | .cells _ t _ => t == 102 || t == 9 || t == 191
  | _ => false
section
variable {w w' : World} {B T0 mt md : Nat} {la : Option Addr} {lc : Nat} {ia : Option Addr} {ic : Nat} {bl bl' : List (List UInt8)} {tab : List (Option Ino)} {vs : List Value} {wa : Option Addr} {wcp : Nat} {wt : List (Nat × List UInt8)}
theorem Turn.of_mk (M : MkAt w md la lc wa wcp bl wt) (h : MkBut md la wa w w') : Turn mkTy w w' := fun k o hk hp => by
  rw [h.block k (Array.getElem?_eq_some_iff.1 hk).1 (fun e => ?_) (fun a ha e => ?_) (fun a ha e => ?_)]
  · exact hk
  · subst e; rw [M.disk] at hk; cases hk; exact absurd (show true = false from hp) (by simp)
  · subst e
    obtain ⟨_, _, cur, h2', _⟩ := own_row M.lrow ha
    rw [h2'] at hk; cases hk; exact absurd (show true = false from hp) (by simp)
  · subst e
    obtain ⟨_, _, cur, h2', _⟩ := own_row M.wrow ha
    rw [h2'] at hk; cases hk; exact absurd (show true = false from hp) (by simp)
theorem MtBut.of_mk (M : MkAt w md la lc wa wcp bl wt) (hT : T0 ≤ md) (h : MkBut md la wa w w') : MtBut T0 w w' :=
  ⟨h.os, h.tape, h.output, h.size, fun k o hk hp => by
    rcases hp with hp | hp
    · rw [h.block k (Array.getElem?_eq_some_iff.1 hk).1 (by omega) (fun a ha e => ?_) (fun a ha e => ?_)]
      · exact hk
      · obtain ⟨h1, _⟩ := own_row M.lrow ha
        omega
      · obtain ⟨h1, _⟩ := own_row M.wrow ha
        omega
    · exact Turn.of_mk M h k o hk (by unfold mtTy at hp; unfold mkTy; split at hp <;> simp_all)⟩
theorem MtAt.redisk (M : MtAt w B mt md la lc ia ic bl tab vs) (D : MkAt w' md la lc none 0 bl' []) (h : Turn mkTy w w') : MtAt w' B mt md la lc ia ic bl' tab vs :=
  ⟨h _ _ M.box rfl, D, rowKeep M.row fun _ _ hk => h _ _ hk rfl, M.len, fun k x v hk hv => (M.its k x v hk hv).turn h (fun _ _ => rfl)⟩
theorem ext_list (a : ByteArray) (i j : Nat) : (a.extract i j).data.toList = (a.data.toList.drop i).take (j - i) := by
  rw [ByteArray.data_extract, Array.toList_extract, List.extract]
theorem size_list (a : ByteArray) : a.size = a.data.toList.length := Array.length_toList.symm
theorem sB_of (s : ByteArray) (l : List UInt8) (h : s.data.toList = l) : s = sB l := by
  obtain ⟨d⟩ := s
  subst h
  rfl
theorem padded {data : ByteArray} {m j : Nat} (hd : data.size ≤ m * 16) (hj : j < m) {s : List UInt8} (q : Nat) (hs : s = (data.data.toList.drop (16 * j)).take 16 ++ List.replicate q 0) (h16 : s.length = 16) : s = pieceR data m j := by
  have hz := size_list data
  unfold pieceR fillR
  rw [hs] at h16 ⊢
  rw [List.length_append, List.length_replicate, List.length_take, List.length_drop] at h16
  rw [Nat.mul_comm j 16, List.drop_append, List.take_append, List.length_drop]
  congr 1
  rw [List.drop_replicate, List.take_replicate]
  congr 1
  omega
set_option maxRecDepth 100000 in
set_option maxHeartbeats 2000000 in
theorem m_write (v : Value) (blocks : List Nat) (data : ByteArray) (w : World) (M : MtAt w B mt md la lc ia ic bl tab vs) (hv : IntsT w v (ints blocks)) (hin : ∀ k ∈ blocks, k < bl.length) (hbl : blocks.length ≤ 1000) (hd : data.size ≤ blocks.length * 16) (hT : T0 ≤ md) :
    Calls Tryz.prog 94 #[.pointer (some ⟨mt, 0, none⟩), v, .string data] w fun e w' => e = .returned (.tuple #[]) ∧ MtAt w' B mt md la lc ia ic (writeR bl blocks data) tab vs ∧ MtBut T0 w w' := by
  obtain ⟨ad, vc, rfl, hcs⟩ := id hv
  rw [ints_len]
  have HM : Hid _ := M
  have HIN : Hid _ := hin
  obtain ⟨m, Hm⟩ : ∃ m, Hid (m = blocks.length) := ⟨_, (rfl : blocks.length = _)⟩
  rw [← Hm.out] at hbl hd ⊢
  have HD : Hid (data.size ≤ m * 16) := hd
  have HCS : Hid (∀ (i k : Nat), blocks[i]? = some k → ∃ g off, ad = some ⟨g, off, none⟩ ∧ ∀ W, Turn mkTy w W → W.cell? ⟨g, off + i, none⟩ = some (.int .i64 (k : Int))) := fun i k hk => by
    obtain ⟨g, off, cur, e1, e2, e3⟩ := hcs (fun h => by have : blocks = [] := by simpa [ints] using h
                                                         rw [this] at hk; simp at hk)
    exact ⟨g, off, e1, fun W hW => by rw [cell_of_row _ _ _ _ _ _ (hW _ _ e2 rfl)]; exact e3 i k (by simp [ints, hk])⟩
  have HCM : Hid (∀ W, Turn mkTy w W → W.cell? ⟨mt, 0, none⟩ = some (.pointer (some ⟨md, 0, none⟩))) := fun W hW => by rw [cell_of_row _ _ _ _ _ _ (hW _ _ M.box rfl)]; rfl
  have hds : data.size ≤ 16000 := by omega
  clear hv hcs hin M hd
  go_enter Tryz.func94, Tryz.ntmps94
  go_wp2_with fail
  go_loopw [2, 6] (fun dd i wr => ∃ (j : Nat) (dt : ByteArray) (wa : Option Addr) (wcp : Nat), j ≤ m ∧ i = .int .i64 j ∧ dd = .string dt ∧ dt.data.toList = data.data.toList.drop (16 * j) ∧ MkAt wr md la lc wa wcp bl (wtR blocks data j) ∧ Turn mkTy w wr ∧ MtBut T0 w wr) (fun _ i _ => m - (intOf i).toNat)
  case atStart => exact ⟨0, data, none, 0, Nat.zero_le _, rfl, rfl, rfl, (HM.out.disk : MkAt w md la lc none 0 bl []), fun _ _ h _ => h, MtBut.refl _ _⟩
  case round =>
    obtain ⟨j, dt, wa, wcp, hj, rfl, rfl, hdt, MK, ht, hb⟩ := hrel
    have HDT : Hid (dt.data.toList = data.data.toList.drop (16 * j)) := hdt
    have HMK : Hid _ := MK
    have HTN : Hid _ := ht
    have HB : Hid _ := hb
    have hcm := HCM.out wr ht
    by_cases hlt : j < m
    · obtain ⟨k, hk⟩ : ∃ k, blocks[j]? = some k := ⟨_, List.getElem?_eq_getElem (by rw [← Hm.out]; exact hlt)⟩
      obtain ⟨g, off, rfl, hc⟩ := HCS.out j k hk
      have hcc := hc wr ht
      have hdz : dt.size ≤ 16000 := by rw [size_list, hdt, List.length_drop, ← size_list]; omega
      have Hk : Hid (blocks[j]? = some k) := hk
      have HPT : Hid (∀ (s2 : ByteArray), s2.data.toList = pieceR data m j → Calls Tryz.prog 137 #[.pointer (some ⟨md, 0, none⟩), .int .i64 (k : Int), .string s2] wr.drew fun e w' => e = .returned (.tuple #[]) ∧ (∃ wa wcp, MkAt w' md la lc wa wcp bl (wtR blocks data (j + 1)) ∧ Turn mkTy w w' ∧ MtBut T0 w w') ∧ (w'.cell? ⟨mt, 0, none⟩ = some (.pointer (some ⟨md, 0, none⟩)) ∧ w'.cell? ⟨g, off + j, none⟩ = some (.int .i64 (k : Int)))) := fun s2 hs2 => by
        have hbd : Below wr.heap.size wr wr.drew := (Below.refl _ _).drew
        have MD := MkAt.below HMK.out (Nat.le_refl _) hbd
        rw [sB_of s2 _ hs2]
        refine (put_any k (pieceR data m j) wr.drew MD (by simp [wtR]; omega)).mono ?_
        rintro e w' ⟨rfl, wa', wcp', M', hb'⟩
        have ht' : Turn mkTy w w' := fun q o hq hp => Turn.of_mk MD hb' q o (HTN.out q o hq hp) hp
        refine ⟨rfl, ⟨wa', wcp', ?_, ht', (MtBut.trans HB.out (MtBut.of_below hbd)).trans (MtBut.of_mk MD hT hb')⟩, HCM.out w' ht', hc w' ht'⟩
        have e2 : wtR blocks data (j + 1) = wtR blocks data j ++ [(k, pieceR data m j)] := by
          unfold wtR
          rw [List.range_succ, List.map_append, ← Hm.out]
          simp [Hk.out]
        rw [e2]; exact M'
      have HS9 : Hid (∀ W, W = wr.drew → (W.cell? ⟨mt, 0, none⟩ = some (.pointer (some ⟨md, 0, none⟩)) ∧ W.cell? ⟨g, off + j, none⟩ = some (.int .i64 (k : Int)))) := fun W hW => by rw [hW]; exact ⟨hcm, hcc⟩
      clear hdt MK ht hb hk hc hcm hcc
      have hdl : dt.data.toList.length = dt.size := (size_list dt).symm
      have Hdl : Hid _ := hdl
      clear hdl
      by_cases h16 : 16 < dt.size
      · have h16i : (16 : Int) < (dt.size : Int) := by omega
        have Hs0 : Hid ((dt.extract 0 16).data.toList = (data.data.toList.drop (16 * j)).take 16) := by show _ = _; rw [ext_list, HDT.out]; rfl
        have Hd2 : Hid ((dt.extract (min 16 dt.size) dt.size).data.toList = data.data.toList.drop (16 * (j + 1))) := by
          show _ = _
          rw [ext_list, Nat.min_eq_left (by omega), List.take_of_length_le (by rw [List.length_drop, Hdl.out]; omega), HDT.out, List.drop_drop]
          congr 1
        go_wp2_with fail
        generalize dt.extract 0 16 = s0 at *
        generalize dt.extract (min 16 dt.size) dt.size = d2 at *
        have hs0z : s0.size ≤ 16 := by rw [size_list, Hs0.out, List.length_take]; omega
        go_loopw [7] (fun s wq => ∃ (q : Nat) (s2 : ByteArray), s = .string s2 ∧ s2.data.toList = (data.data.toList.drop (16 * j)).take 16 ++ List.replicate q 0 ∧ s2.size ≤ 16 ∧ wq = wr) (fun s _ => 16 - sizeS s)
        case atStart => exact ⟨0, s0, rfl, by rw [Hs0.out]; simp, hs0z, rfl⟩
        case round =>
          obtain ⟨q, s2, rfl, hs2, hsz, rfl⟩ := hrel
          have HS2 : Hid _ := hs2
          clear hs2
          by_cases h : s2.size < 16
          · have hi : (s2.size : Int) < 16 := by omega
            have HN : Hid ((s2 ++ { data := #[0] } : ByteArray).data.toList = (data.data.toList.drop (16 * j)).take 16 ++ List.replicate (q + 1) 0) := by
              show _ = _
              rw [ByteArray.data_append, Array.toList_append, HS2.out, List.append_assoc, List.replicate_succ']
            have HNZ : Hid ((s2 ++ { data := #[0] } : ByteArray).size = s2.size + 1) := by
              show _ = _
              rw [size_list, ByteArray.data_append, Array.toList_append, List.length_append, ← size_list]; rfl
            go_wp2_with fail
            refine ⟨⟨q + 1, _, rfl, HN.out, by rw [HNZ.out]; omega, by first | rfl | trivial⟩, ?_⟩
            show 16 - (s2 ++ { data := #[0] } : ByteArray).size < 16 - s2.size
            rw [HNZ.out]; omega
          · have hi : ¬ (s2.size : Int) < 16 := by omega
            have HP2 := HPT.out s2 (padded HD.out hlt q HS2.out (by rw [← size_list]; omega))
            have HPT2 : Hid (∀ W, W = wr.drew → Calls Tryz.prog 137 #[.pointer (some ⟨md, 0, none⟩), .int .i64 (k : Int), .string s2] W fun e w' => e = .returned (.tuple #[]) ∧ (∃ wa wcp, MkAt w' md la lc wa wcp bl (wtR blocks data (j + 1)) ∧ Turn mkTy w w' ∧ MtBut T0 w w') ∧ (w'.cell? ⟨mt, 0, none⟩ = some (.pointer (some ⟨md, 0, none⟩)) ∧ w'.cell? ⟨g, off + j, none⟩ = some (.int .i64 (k : Int)))) := fun W hW => by rw [hW]; exact HP2
            clear HP2
            go_wp2_with fail
            refine wp_region_held_drew (S := fun w' => w'.cell? ⟨mt, 0, none⟩ = some (.pointer (some ⟨md, 0, none⟩)) ∧ w'.cell? ⟨g, off + j, none⟩ = some (.int .i64 (k : Int))) (by kernel_rfl) (HS9.out _ rfl) (fun hHeld => ?_)
            refine wpAnyH_take (i := 0) (v := (.pointer (some ⟨mt, 0, none⟩))) rfl (by kernel_rfl) (by kernel_rfl) (by kernel_rfl) (fun _ _ _ h => h) (Or.inl ⟨by rfl, ?_⟩) hHeld ?_
            · intro w hSw; (try dsimp only at hSw); simp only [List.getElem_toArray, List.getElem_cons_zero]; go_simp
            simp only [List.getElem_toArray, List.getElem_cons_zero, Act.put, List.setIfInBounds_toArray, List.set_cons_zero, List.set_cons_succ]
            refine wpAnyH_take (i := 1) (v := (.pointer (some ⟨mt, 0, none⟩))) rfl (by kernel_rfl) (by kernel_rfl) (by kernel_rfl) (fun _ _ _ h => h) (Or.inl ⟨by rfl, ?_⟩) hHeld ?_
            · intro w hSw; (try dsimp only at hSw); simp only [List.getElem_toArray, List.getElem_cons_zero, List.getElem_cons_succ]; go_simp
            simp only [List.getElem_toArray, List.getElem_cons_zero, List.getElem_cons_succ, Act.put, List.setIfInBounds_toArray, List.set_cons_zero, List.set_cons_succ]
            refine wpAnyH_take (i := 2) (v := (.pointer (some ⟨mt, 0, none⟩))) rfl (by kernel_rfl) (by kernel_rfl) (by kernel_rfl) (fun _ _ _ h => h) (Or.inl ⟨by rfl, ?_⟩) hHeld ?_
            · intro w hSw; (try dsimp only at hSw); simp only [List.getElem_toArray, List.getElem_cons_zero, List.getElem_cons_succ]; go_simp
            simp only [List.getElem_toArray, List.getElem_cons_zero, List.getElem_cons_succ, Act.put, List.setIfInBounds_toArray, List.set_cons_zero, List.set_cons_succ]
            refine wpAnyH_take (i := 3) (v := (.pointer (some ⟨md, 0, none⟩))) rfl (by kernel_rfl) (by kernel_rfl) (by kernel_rfl) (fun _ _ _ h => h) (Or.inl ⟨by rfl, ?_⟩) hHeld ?_
            · intro w hSw; (try dsimp only at hSw); simp only [List.getElem_toArray, List.getElem_cons_zero, List.getElem_cons_succ]; go_simp
            simp only [List.getElem_toArray, List.getElem_cons_zero, List.getElem_cons_succ, Act.put, List.setIfInBounds_toArray, List.set_cons_zero, List.set_cons_succ]
            refine wpAnyH_take (i := 4) (v := (.slice (some ⟨g, off, none⟩) m vc)) rfl (by kernel_rfl) (by kernel_rfl) (by kernel_rfl) (fun _ _ _ h => h) (Or.inl ⟨by rfl, ?_⟩) hHeld ?_
            · intro w hSw; (try dsimp only at hSw); simp only [List.getElem_toArray, List.getElem_cons_zero, List.getElem_cons_succ]; go_simp
            simp only [List.getElem_toArray, List.getElem_cons_zero, List.getElem_cons_succ, Act.put, List.setIfInBounds_toArray, List.set_cons_zero, List.set_cons_succ]
            refine wpAnyH_take (i := 5) (v := (.int .i64 (j : Int))) rfl (by kernel_rfl) (by kernel_rfl) (by kernel_rfl) (fun _ _ _ h => h) (Or.inl ⟨by rfl, ?_⟩) hHeld ?_
            · intro w hSw; (try dsimp only at hSw); simp only [List.getElem_toArray, List.getElem_cons_zero, List.getElem_cons_succ]; go_simp
            simp only [List.getElem_toArray, List.getElem_cons_zero, List.getElem_cons_succ, Act.put, List.setIfInBounds_toArray, List.set_cons_zero, List.set_cons_succ]
            refine wpAnyH_take (i := 6) (v := (.pointer (some ⟨g, off + j, none⟩))) rfl (by kernel_rfl) (by kernel_rfl) (by kernel_rfl) (fun _ _ _ h => h) (Or.inl ⟨by rfl, ?_⟩) hHeld ?_
            · intro w hSw; (try dsimp only at hSw); simp only [List.getElem_toArray, List.getElem_cons_zero, List.getElem_cons_succ]; go_simp
            simp only [List.getElem_toArray, List.getElem_cons_zero, List.getElem_cons_succ, Act.put, List.setIfInBounds_toArray, List.set_cons_zero, List.set_cons_succ]
            refine wpAnyH_take (i := 7) (v := (.int .i64 (k : Int))) rfl (by kernel_rfl) (by kernel_rfl) (by kernel_rfl) (fun _ _ _ h => h) (Or.inl ⟨by rfl, ?_⟩) hHeld ?_
            · intro w hSw; (try dsimp only at hSw); simp only [List.getElem_toArray, List.getElem_cons_zero, List.getElem_cons_succ]; go_simp
            simp only [List.getElem_toArray, List.getElem_cons_zero, List.getElem_cons_succ, Act.put, List.setIfInBounds_toArray, List.set_cons_zero, List.set_cons_succ]
            refine wpAnyH_take (i := 8) (v := (.string s2)) rfl (by kernel_rfl) (by kernel_rfl) (by kernel_rfl) (fun _ _ _ h => h) (Or.inl ⟨by rfl, ?_⟩) hHeld ?_
            · intro w hSw; (try dsimp only at hSw); simp only [List.getElem_toArray, List.getElem_cons_zero, List.getElem_cons_succ]; go_simp
            simp only [List.getElem_toArray, List.getElem_cons_zero, List.getElem_cons_succ, Act.put, List.setIfInBounds_toArray, List.set_cons_zero, List.set_cons_succ]
            refine wpAnyH_ready (rs := [9]) (by kernel_rfl) (by simp) ?_
            refine AllReadyH.cons rfl (fun K' hK => ?_) AllReadyH.nil
            simp only [List.getElem_toArray, List.getElem_cons_zero, List.getElem_cons_succ]
            go_simp
            refine Calls.mono (HPT2.out _ rfl) ?_
            rintro e wx ⟨rfl, h1, h2⟩
            have H1 : Hid _ := h1
            clear h1
            go_wp2_with fail
            refine hK.out _ _ (h2) (fun hHeld' => ?_)
            clear hK K' hHeld
            have hHeld := hHeld'
            clear hHeld'
            refine wpAnyH_done (by kernel_rfl) ?_ _
            go_wp2_with fail
            obtain ⟨wa2, wcp2, h1, h2', h3⟩ := H1.out
            exact ⟨⟨j + 1, _, wa2, wcp2, by omega, by simp, rfl, Hd2.out, h1, h2', h3⟩, by simp [intOf]; omega⟩
      · have h16i : ¬ (16 : Int) < (dt.size : Int) := by omega
        have Hs0 : Hid (dt.data.toList = (data.data.toList.drop (16 * j)).take 16) := by show _ = _; rw [← HDT.out, List.take_of_length_le (by rw [Hdl.out]; omega)]
        have Hd2 : Hid (ByteArray.empty.data.toList = data.data.toList.drop (16 * (j + 1))) := by
          show [] = _
          have h1 := congrArg List.length HDT.out
          rw [Hdl.out, List.length_drop] at h1
          rw [List.drop_eq_nil_of_le (by omega)]
        go_wp2_with fail
        obtain ⟨s0, Hs00⟩ : ∃ s0, Hid (s0 = dt) := ⟨_, (rfl : dt = _)⟩
        rw [← Hs00.out] at Hs0
        generalize ByteArray.empty = d2 at *
        have hs0z : s0.size ≤ 16 := by rw [size_list, Hs0.out, List.length_take]; omega
        go_loopw [7] (fun s wq => ∃ (q : Nat) (s2 : ByteArray), s = .string s2 ∧ s2.data.toList = (data.data.toList.drop (16 * j)).take 16 ++ List.replicate q 0 ∧ s2.size ≤ 16 ∧ wq = wr) (fun s _ => 16 - sizeS s)
        case atStart => exact ⟨0, dt, rfl, by rw [← Hs00.out, Hs0.out]; simp, by rw [← Hs00.out]; exact hs0z, rfl⟩
        case round =>
          obtain ⟨q, s2, rfl, hs2, hsz, rfl⟩ := hrel
          have HS2 : Hid _ := hs2
          clear hs2
          by_cases h : s2.size < 16
          · have hi : (s2.size : Int) < 16 := by omega
            have HN : Hid ((s2 ++ { data := #[0] } : ByteArray).data.toList = (data.data.toList.drop (16 * j)).take 16 ++ List.replicate (q + 1) 0) := by
              show _ = _
              rw [ByteArray.data_append, Array.toList_append, HS2.out, List.append_assoc, List.replicate_succ']
            have HNZ : Hid ((s2 ++ { data := #[0] } : ByteArray).size = s2.size + 1) := by
              show _ = _
              rw [size_list, ByteArray.data_append, Array.toList_append, List.length_append, ← size_list]; rfl
            go_wp2_with fail
            refine ⟨⟨q + 1, _, rfl, HN.out, by rw [HNZ.out]; omega, by first | rfl | trivial⟩, ?_⟩
            show 16 - (s2 ++ { data := #[0] } : ByteArray).size < 16 - s2.size
            rw [HNZ.out]; omega
          · have hi : ¬ (s2.size : Int) < 16 := by omega
            have HP2 := HPT.out s2 (padded HD.out hlt q HS2.out (by rw [← size_list]; omega))
            have HPT2 : Hid (∀ W, W = wr.drew → Calls Tryz.prog 137 #[.pointer (some ⟨md, 0, none⟩), .int .i64 (k : Int), .string s2] W fun e w' => e = .returned (.tuple #[]) ∧ (∃ wa wcp, MkAt w' md la lc wa wcp bl (wtR blocks data (j + 1)) ∧ Turn mkTy w w' ∧ MtBut T0 w w') ∧ (w'.cell? ⟨mt, 0, none⟩ = some (.pointer (some ⟨md, 0, none⟩)) ∧ w'.cell? ⟨g, off + j, none⟩ = some (.int .i64 (k : Int)))) := fun W hW => by rw [hW]; exact HP2
            clear HP2
            go_wp2_with fail
            refine wp_region_held_drew (S := fun w' => w'.cell? ⟨mt, 0, none⟩ = some (.pointer (some ⟨md, 0, none⟩)) ∧ w'.cell? ⟨g, off + j, none⟩ = some (.int .i64 (k : Int))) (by kernel_rfl) (HS9.out _ rfl) (fun hHeld => ?_)
            refine wpAnyH_take (i := 0) (v := (.pointer (some ⟨mt, 0, none⟩))) rfl (by kernel_rfl) (by kernel_rfl) (by kernel_rfl) (fun _ _ _ h => h) (Or.inl ⟨by rfl, ?_⟩) hHeld ?_
            · intro w hSw; (try dsimp only at hSw); simp only [List.getElem_toArray, List.getElem_cons_zero]; go_simp
            simp only [List.getElem_toArray, List.getElem_cons_zero, Act.put, List.setIfInBounds_toArray, List.set_cons_zero, List.set_cons_succ]
            refine wpAnyH_take (i := 1) (v := (.pointer (some ⟨mt, 0, none⟩))) rfl (by kernel_rfl) (by kernel_rfl) (by kernel_rfl) (fun _ _ _ h => h) (Or.inl ⟨by rfl, ?_⟩) hHeld ?_
            · intro w hSw; (try dsimp only at hSw); simp only [List.getElem_toArray, List.getElem_cons_zero, List.getElem_cons_succ]; go_simp
            simp only [List.getElem_toArray, List.getElem_cons_zero, List.getElem_cons_succ, Act.put, List.setIfInBounds_toArray, List.set_cons_zero, List.set_cons_succ]
            refine wpAnyH_take (i := 2) (v := (.pointer (some ⟨mt, 0, none⟩))) rfl (by kernel_rfl) (by kernel_rfl) (by kernel_rfl) (fun _ _ _ h => h) (Or.inl ⟨by rfl, ?_⟩) hHeld ?_
            · intro w hSw; (try dsimp only at hSw); simp only [List.getElem_toArray, List.getElem_cons_zero, List.getElem_cons_succ]; go_simp
            simp only [List.getElem_toArray, List.getElem_cons_zero, List.getElem_cons_succ, Act.put, List.setIfInBounds_toArray, List.set_cons_zero, List.set_cons_succ]
            refine wpAnyH_take (i := 3) (v := (.pointer (some ⟨md, 0, none⟩))) rfl (by kernel_rfl) (by kernel_rfl) (by kernel_rfl) (fun _ _ _ h => h) (Or.inl ⟨by rfl, ?_⟩) hHeld ?_
            · intro w hSw; (try dsimp only at hSw); simp only [List.getElem_toArray, List.getElem_cons_zero, List.getElem_cons_succ]; go_simp
            simp only [List.getElem_toArray, List.getElem_cons_zero, List.getElem_cons_succ, Act.put, List.setIfInBounds_toArray, List.set_cons_zero, List.set_cons_succ]
            refine wpAnyH_take (i := 4) (v := (.slice (some ⟨g, off, none⟩) m vc)) rfl (by kernel_rfl) (by kernel_rfl) (by kernel_rfl) (fun _ _ _ h => h) (Or.inl ⟨by rfl, ?_⟩) hHeld ?_
            · intro w hSw; (try dsimp only at hSw); simp only [List.getElem_toArray, List.getElem_cons_zero, List.getElem_cons_succ]; go_simp
            simp only [List.getElem_toArray, List.getElem_cons_zero, List.getElem_cons_succ, Act.put, List.setIfInBounds_toArray, List.set_cons_zero, List.set_cons_succ]
            refine wpAnyH_take (i := 5) (v := (.int .i64 (j : Int))) rfl (by kernel_rfl) (by kernel_rfl) (by kernel_rfl) (fun _ _ _ h => h) (Or.inl ⟨by rfl, ?_⟩) hHeld ?_
            · intro w hSw; (try dsimp only at hSw); simp only [List.getElem_toArray, List.getElem_cons_zero, List.getElem_cons_succ]; go_simp
            simp only [List.getElem_toArray, List.getElem_cons_zero, List.getElem_cons_succ, Act.put, List.setIfInBounds_toArray, List.set_cons_zero, List.set_cons_succ]
            refine wpAnyH_take (i := 6) (v := (.pointer (some ⟨g, off + j, none⟩))) rfl (by kernel_rfl) (by kernel_rfl) (by kernel_rfl) (fun _ _ _ h => h) (Or.inl ⟨by rfl, ?_⟩) hHeld ?_
            · intro w hSw; (try dsimp only at hSw); simp only [List.getElem_toArray, List.getElem_cons_zero, List.getElem_cons_succ]; go_simp
            simp only [List.getElem_toArray, List.getElem_cons_zero, List.getElem_cons_succ, Act.put, List.setIfInBounds_toArray, List.set_cons_zero, List.set_cons_succ]
            refine wpAnyH_take (i := 7) (v := (.int .i64 (k : Int))) rfl (by kernel_rfl) (by kernel_rfl) (by kernel_rfl) (fun _ _ _ h => h) (Or.inl ⟨by rfl, ?_⟩) hHeld ?_
            · intro w hSw; (try dsimp only at hSw); simp only [List.getElem_toArray, List.getElem_cons_zero, List.getElem_cons_succ]; go_simp
            simp only [List.getElem_toArray, List.getElem_cons_zero, List.getElem_cons_succ, Act.put, List.setIfInBounds_toArray, List.set_cons_zero, List.set_cons_succ]
            refine wpAnyH_take (i := 8) (v := (.string s2)) rfl (by kernel_rfl) (by kernel_rfl) (by kernel_rfl) (fun _ _ _ h => h) (Or.inl ⟨by rfl, ?_⟩) hHeld ?_
            · intro w hSw; (try dsimp only at hSw); simp only [List.getElem_toArray, List.getElem_cons_zero, List.getElem_cons_succ]; go_simp
            simp only [List.getElem_toArray, List.getElem_cons_zero, List.getElem_cons_succ, Act.put, List.setIfInBounds_toArray, List.set_cons_zero, List.set_cons_succ]
            refine wpAnyH_ready (rs := [9]) (by kernel_rfl) (by simp) ?_
            refine AllReadyH.cons rfl (fun K' hK => ?_) AllReadyH.nil
            simp only [List.getElem_toArray, List.getElem_cons_zero, List.getElem_cons_succ]
            go_simp
            refine Calls.mono (HPT2.out _ rfl) ?_
            rintro e wx ⟨rfl, h1, h2⟩
            have H1 : Hid _ := h1
            clear h1
            go_wp2_with fail
            refine hK.out _ _ (h2) (fun hHeld' => ?_)
            clear hK K' hHeld
            have hHeld := hHeld'
            clear hHeld'
            refine wpAnyH_done (by kernel_rfl) ?_ _
            go_wp2_with fail
            obtain ⟨wa2, wcp2, h1, h2', h3⟩ := H1.out
            exact ⟨⟨j + 1, _, wa2, wcp2, by omega, by simp, rfl, Hd2.out, h1, h2', h3⟩, by simp [intOf]; omega⟩
    · obtain rfl : j = m := by omega
      have HCR : Hid (Calls Tryz.prog 138 #[.pointer (some ⟨md, 0, none⟩), .slice none 0 0, .bool true] wr fun e w' => e = .returned (.tuple #[]) ∧ MtAt w' B mt md la lc ia ic (writeR bl blocks data) tab vs ∧ MtBut T0 w w') := by
        have hwl : (wtR blocks data j).length = j := by simp [wtR]
        refine (crashM_any (.slice none 0 0) [] true wr HMK.out (by omega) (fun x hx => ?_) (fun W _ => IntsAt.nil W) (by simp)).mono ?_
        · unfold wtR at hx
          obtain ⟨i, hi, rfl⟩ := List.mem_map.1 hx
          have hi' : i < blocks.length := by rw [← Hm.out]; simpa using hi
          rw [List.getElem?_eq_getElem hi']
          exact HIN.out _ (List.getElem_mem hi')
        · rintro e w' ⟨rfl, D', hb'⟩
          have e3 : keepAll true [] = fun _ => true := rfl
          rw [e3, hwl] at D'
          refine ⟨rfl, MtAt.redisk HM.out ?_ (fun q o hq hp => Turn.of_mk HMK.out hb' q o (HTN.out q o hq hp) hp), MtBut.trans HB.out (MtBut.of_mk HMK.out hT hb')⟩
          unfold writeR
          rw [← Hm.out]; exact D'
      clear hdt MK ht hb
      go_wp2_with (go_at_call 138; refine HCR.out.mono ?_; rintro e w2 ⟨rfl, h1, h2⟩)
      go_returns
      exact ⟨rfl, h1, h2⟩
end
end Go.Proofs.YtcejpeohkgchdaaGreatDoor
namespace Go.Proofs.YtcejpeohkgchdaaGreatDoor
open Go.RowKit

/-- Bits of a byte x into a sum, one by one. -/
def cR (x c : Nat) : Nat → Nat
  | 0 => c
  | k + 1 => if (cR x c k ^^^ (x / 2 ^ k)) % 2 = 1 then (cR x c k / 2) ^^^ 3988292384 else cR x c k / 2
theorem cR_crc (x c : Nat) : ∀ k, crcN k (c ^^^ x) = cR x c k ^^^ (x / 2 ^ k)
  | 0 => by simp [crcN, cR]
  | k + 1 => by
    have ih := cR_crc x c k
    unfold crcN cR
    rw [ih]
    unfold crcBit
    have hd : (cR x c k ^^^ x / 2 ^ k) / 2 = cR x c k / 2 ^^^ x / 2 ^ (k + 1) := by
      rw [Nat.xor_div_two, Nat.div_div_eq_div_mul, ← Nat.pow_succ]
    rw [Nat.and_one_is_mod, hd]
    by_cases h : (cR x c k ^^^ x / 2 ^ k) % 2 = 1
    · rw [if_pos h, if_pos h, Nat.xor_assoc, Nat.xor_comm (x / 2 ^ (k + 1)), ← Nat.xor_assoc]
    · rw [if_neg h, if_neg h]
theorem cR_eight (x c : Nat) (hx : x < 256) : cR x c 8 = crcN 8 (c ^^^ x) := by
  rw [cR_crc, Nat.div_eq_of_lt (by omega)]; simp
theorem cR_lt {x c : Nat} (hc : c < 4294967296) : ∀ k, cR x c k < 4294967296
  | 0 => hc
  | k + 1 => by
    have := cR_lt (x := x) hc k
    unfold cR
    split
    · exact Nat.xor_lt_two_pow (n := 32) (by omega) (by decide)
    · omega

theorem i64_xor_nat (a b : Nat) (ha : a < 4294967296) (hb : b < 4294967296) : bits .xor .i64 (a : Int) (b : Int) = ((a ^^^ b : Nat) : Int) := by
  have hx : a ^^^ b < 2 ^ 32 := Nat.xor_lt_two_pow (by omega) (by omega)
  show IntKind.i64.wrap ((BitVec.ofInt 64 (a : Int) ^^^ BitVec.ofInt 64 (b : Int)).toNat : Int) = _
  rw [BitVec.toNat_xor, ofInt_u64 a (by omega), ofInt_u64 b (by omega)]
  simp [IntKind.wrap, IntKind.bits, IntKind.signed]
  omega

set_option maxRecDepth 100000 in
set_option maxHeartbeats 1000000 in
theorem crc_any (s : ByteArray) (hs : s.size ≤ 1000000) (w : World) : Calls Tryz.prog 95 #[.string s] w fun e w' => e = .returned (.int .i64 (crcR s : Nat)) ∧ w' = w := by
  go_enter Tryz.func95, Tryz.ntmps95
  go_wp2_with fail
  go_loopw [3, 4] (fun p i wr => ∃ k x : Nat, k ≤ s.size ∧ i = .int .i64 k ∧ p = .int .i64 (x : Int) ∧ Hid (x = crcL s k) ∧ wr = w) (fun _ i _ => s.size - (intOf i).toNat)
  case atStart => exact ⟨0, 4294967295, Nat.zero_le _, rfl, rfl, rfl, rfl⟩
  case round =>
    obtain ⟨k, x, hk, rfl, rfl, HX, rfl⟩ := hrel
    have hlt : x < 4294967296 := by rw [HX.out]; exact crcL_lt s k
    by_cases hks : k < s.size
    · have hc' : Hid (s.data[k]?.getD 0 = s[k]) := by
        show _ = _
        rw [Array.getElem?_eq_getElem (show k < s.data.size from hks)]; rfl
      have hu := s[k].toNat_lt
      have HN : Hid (crcL s (k + 1) = cR s[k].toNat x 8) := by
        show _ = _
        rw [cR_eight _ _ hu, HX.out, ← hc'.out]; rfl
      obtain ⟨W0, hW0⟩ : ∃ W0, W0 = wr := ⟨_, rfl⟩
      subst hW0
      go_wp2_with fail
      go_loopw [3, 5] (fun p i wr => ∃ j y : Nat, j ≤ 8 ∧ i = .int .i64 j ∧ p = .int .i64 (y : Int) ∧ Hid (y = cR s[k].toNat x j) ∧ wr = W0) (fun _ i _ => 8 - (intOf i).toNat)
      case atStart => exact ⟨0, x, Nat.zero_le _, rfl, rfl, rfl, rfl⟩
      case round =>
        obtain ⟨j, y, hj, rfl, rfl, HY, hwr⟩ := hrel
        subst hwr
        have hylt : y < 4294967296 := by rw [HY.out]; exact cR_lt hlt j
        by_cases hj8 : j < 8
        · have hd : (s[k].toNat : Int) / 2 ^ j = ((s[k].toNat / 2 ^ j : Nat) : Int) := by push_cast; rfl
          have hq : s[k].toNat / 2 ^ j < 256 := Nat.lt_of_le_of_lt (Nat.div_le_self _ _) hu
          have e1 : bits BinOp.xor IntKind.i64 (y : Int) ((s[k].toNat : Int) / 2 ^ j) = ((y ^^^ s[k].toNat / 2 ^ j : Nat) : Int) := by rw [hd]; exact i64_xor_nat _ _ hylt (by omega)
          have hx2 : y ^^^ s[k].toNat / 2 ^ j < 2 ^ 32 := Nat.xor_lt_two_pow (by omega) (by omega)
          have HS : Hid (cR s[k].toNat x (j + 1) = if (y ^^^ s[k].toNat / 2 ^ j) % 2 = 1 then (y / 2) ^^^ 3988292384 else y / 2) := by
            show _ = _
            rw [HY.out]; rfl
          by_cases hodd : (y ^^^ s[k].toNat / 2 ^ j) % 2 = 1
          · have hb : ((bits BinOp.xor IntKind.i64 (y : Int) ((s[k].toNat : Int) / 2 ^ j)).tmod 2 == 1) = true := by
              rw [e1]
              have : (((y ^^^ s[k].toNat / 2 ^ j : Nat) : Int)).tmod 2 = 1 := by rw [Int.tmod_eq_emod_of_nonneg (by omega)]; omega
              rw [this]; rfl
            have HE : Hid (bits BinOp.xor IntKind.i64 ((y : Int) / 2) 3988292384 = ((y / 2 ^^^ 3988292384 : Nat) : Int)) := i64_xor_nat (y / 2) 3988292384 (by omega) (by omega)
            clear e1 hd hx2 hq
            go_wp2_with fail
            exact ⟨⟨j + 1, y / 2 ^^^ 3988292384, by omega, by simp, by rw [HE.out], (by show _ = _; rw [HS.out, if_pos hodd]), (by first | rfl | trivial)⟩, by simp [intOf]; omega⟩
          · have hb : ((bits BinOp.xor IntKind.i64 (y : Int) ((s[k].toNat : Int) / 2 ^ j)).tmod 2 == 1) = false := by
              rw [e1]
              refine beq_eq_false_iff_ne.2 fun h => hodd ?_
              rw [Int.tmod_eq_emod_of_nonneg (by omega)] at h; omega
            clear e1 hd hx2 hq
            go_wp2_with fail
            exact ⟨⟨j + 1, y / 2, by omega, by simp, by simp, (by show _ = _; rw [HS.out, if_neg hodd]), (by first | rfl | trivial)⟩, by simp [intOf]; omega⟩
        · obtain rfl : j = 8 := by omega
          go_wp2_with fail
          exact ⟨⟨k + 1, y, by omega, by simp, rfl, (by show _ = _; rw [HN.out, HY.out]), (by first | rfl | trivial)⟩, by simp [intOf]; omega⟩
    · obtain rfl : k = s.size := by omega
      have HE : Hid (bits .xor .i64 (x : Int) 4294967295 = ((x ^^^ 4294967295 : Nat) : Int)) := i64_xor_nat x 4294967295 hlt (by omega)
      go_wp2_with fail
      go_ret
      refine ⟨?_, rfl⟩
      show Ending.returned (Value.int IntKind.i64 (bits BinOp.xor IntKind.i64 (↑x) 4294967295)) = _
      rw [HE.out, crcR, HX.out, Nat.xor_comm]
end Go.Proofs.YtcejpeohkgchdaaGreatDoor
