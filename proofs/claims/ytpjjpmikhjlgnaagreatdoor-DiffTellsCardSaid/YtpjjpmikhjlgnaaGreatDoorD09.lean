/-
  The library's contracts at this program's numbers: strings.CutPrefix, strings.SplitN.
  The contract of path.Split.
  The contract of package path's at: from a node to the one that names lead to.
  Conditions: those that each states.
-/
import Derived.Shelf.Small.Wraps
import Derived.Shelf.Strings.Split
import Derived.Test.YtpjjpmikhjlgnaaGreatDoorProg
import Derived.Test.YtpjjpmikhjlgnaaGreatDoorD08
import Derived.Test.YtpjjpmikhjlgnaaGreatDoorD03
import Derived.Test.YtpjjpmikhjlgnaaGreatDoorD04
import Derived.Deep.DrawnRows
import Derived.Deep.QuietTactic
import Derived.BigQuiet
namespace Go.Proofs
open Go.Shelf
def Tryz.lays103_ren : Go.Shelf.Ren := ⟨fun | 103 => 31 | 210 => 57 | 206 => 82 | n => n, fun | 9 => 9 | 4 => 4 | 24 => 70 | 3 => 3 | n => n, fun | n => n⟩
theorem Tryz.lays103 : Go.Proofs.Lays.n103 Tryz.prog Tryz.lays103_ren := {
  mixed := by kernel_rfl
  f103 := Tryz.func31.trans (congrArg some (by kernel_rfl))
  f206 := Tryz.func82.trans (congrArg some (by kernel_rfl))
  f210 := Tryz.func57.trans (congrArg some (by kernel_rfl))
  t3 := Tryz.underlying3
  a3 := Tryz.isAgg3
  z3 := Tryz.sizeOf3
  v3 := Tryz.zeroValue3
  t4 := Tryz.underlying4
  a4 := Tryz.isAgg4
  z4 := Tryz.sizeOf4
  v4 := Tryz.zeroValue4
  t9 := Tryz.underlying9
  a9 := Tryz.isAgg9
  z9 := Tryz.sizeOf9
  v9 := Tryz.zeroValue9
  t24 := Tryz.underlying70
  a24 := Tryz.isAgg70
  z24 := Tryz.sizeOf70
  v24 := Tryz.zeroValue70 }
open Go.RowKit in
theorem Tryz.strings_CutPrefix (s p : ByteArray) (w : World) :
    Calls Tryz.prog 31 #[.string s, .string p] w fun e w' => e = .returned (.tuple #[.string ⟨(Lib.trimPrefix s.data.toList p.data.toList).toArray⟩, .bool (Lib.hasPrefix s.data.toList p.data.toList)]) ∧ w' = w := Any.strings_CutPrefix Tryz.lays103 s p w
def Tryz.lays147_ren : Go.Shelf.Ren := ⟨fun | 147 => 32 | 221 => 58 | 268 => 83 | 138 => 84 | 143 => 85 | 195 => 102 | 197 => 103 | 218 => 104 | 219 => 105 | 260 => 112 | 217 => 113 | 225 => 114 | 224 => 115 | 267 => 116 | 266 => 118 | 314 => 119 | n => n, fun | 9 => 9 | 3 => 3 | 31 => 28 | 4 => 4 | 0 => 0 | 105 => 153 | 21 => 21 | 5 => 5 | 46 => 149 | 119 => 174 | 139 => 177 | 138 => 176 | 146 => 179 | 51 => 178 | n => n, fun | 1 => 14 | 3 => 15 | 4 => 16 | n => n⟩
theorem Tryz.lays147 : Go.Proofs.Lays.n147 Tryz.prog Tryz.lays147_ren := {
  mixed := by kernel_rfl
  f138 := Tryz.func84.trans (congrArg some (by kernel_rfl))
  f143 := Tryz.func85.trans (congrArg some (by kernel_rfl))
  f147 := Tryz.func32.trans (congrArg some (by kernel_rfl))
  f195 := Tryz.func102.trans (congrArg some (by kernel_rfl))
  f197 := Tryz.func103.trans (congrArg some (by kernel_rfl))
  f217 := Tryz.func113.trans (congrArg some (by kernel_rfl))
  f218 := Tryz.func104.trans (congrArg some (by kernel_rfl))
  f219 := Tryz.func105.trans (congrArg some (by kernel_rfl))
  f221 := Tryz.func58.trans (congrArg some (by kernel_rfl))
  f224 := Tryz.func115.trans (congrArg some (by kernel_rfl))
  f225 := Tryz.func114.trans (congrArg some (by kernel_rfl))
  f260 := Tryz.func112.trans (congrArg some (by kernel_rfl))
  f266 := Tryz.func118.trans (congrArg some (by kernel_rfl))
  f267 := Tryz.func116.trans (congrArg some (by kernel_rfl))
  f268 := Tryz.func83.trans (congrArg some (by kernel_rfl))
  f314 := Tryz.func119.trans (congrArg some (by kernel_rfl))
  t0 := Tryz.underlying0
  a0 := Tryz.isAgg0
  z0 := Tryz.sizeOf0
  v0 := Tryz.zeroValue0
  t3 := Tryz.underlying3
  a3 := Tryz.isAgg3
  z3 := Tryz.sizeOf3
  v3 := Tryz.zeroValue3
  t4 := Tryz.underlying4
  a4 := Tryz.isAgg4
  z4 := Tryz.sizeOf4
  v4 := Tryz.zeroValue4
  t5 := Tryz.underlying5
  a5 := Tryz.isAgg5
  z5 := Tryz.sizeOf5
  v5 := Tryz.zeroValue5
  t9 := Tryz.underlying9
  a9 := Tryz.isAgg9
  z9 := Tryz.sizeOf9
  v9 := Tryz.zeroValue9
  t21 := Tryz.underlying21
  a21 := Tryz.isAgg21
  z21 := Tryz.sizeOf21
  v21 := Tryz.zeroValue21
  t31 := Tryz.underlying28
  a31 := Tryz.isAgg28
  z31 := Tryz.sizeOf28
  v31 := Tryz.zeroValue28
  t46 := Tryz.underlying149
  a46 := Tryz.isAgg149
  z46 := Tryz.sizeOf149
  v46 := Tryz.zeroValue149
  t51 := Tryz.underlying178
  a51 := Tryz.isAgg178
  z51 := Tryz.sizeOf178
  v51 := Tryz.zeroValue178
  t105 := Tryz.underlying153
  a105 := Tryz.isAgg153
  z105 := Tryz.sizeOf153
  v105 := Tryz.zeroValue153
  t119 := Tryz.underlying174
  a119 := Tryz.isAgg174
  z119 := Tryz.sizeOf174
  t138 := Tryz.underlying176
  a138 := Tryz.isAgg176
  z138 := Tryz.sizeOf176
  v138 := Tryz.zeroValue176
  t139 := Tryz.underlying177
  a139 := Tryz.isAgg177
  z139 := Tryz.sizeOf177
  v139 := Tryz.zeroValue177
  t146 := Tryz.underlying179
  a146 := Tryz.isAgg179
  z146 := Tryz.sizeOf179
  v146 := Tryz.zeroValue179
  g1 := by kernel_rfl
  g3 := by kernel_rfl
  g4 := by kernel_rfl }
open Go.RowKit Go.Lib in
theorem Tryz.strings_SplitN (s sep : ByteArray) (n : Nat) (m : Int) (w : World) (hs : s.size < 4294967281) (hm : w.cell? ⟨14, 0, none⟩ = some (.int .i64 m)) (h1 : 1 ≤ sep.size) (hn : 1 ≤ n) (hn63 : n ≤ 9223372036854775807) :
    Calls Tryz.prog 32 #[.string s, .string sep, .int .i64 n] w fun e w' =>
      e = .returned (.slice (some ⟨w.heap.size, 0, none⟩) (Lib.splitB sep 0 (min n (s.size + 1) - 1) s).length (min n (s.size + 1))) ∧ w' = w.alloc (.cells (Lib.cellsOf (Lib.splitB sep 0 (min n (s.size + 1) - 1) s) (min n (s.size + 1))) 9) := Any.strings_SplitN Tryz.lays147 (by kernel_rfl) s sep n m w hs hm h1 hn hn63
end Go.Proofs
namespace Go.Proofs.YtpjjpmikhjlgnaaGreatDoor
open Go.RowKit
attribute [local go_sem ↓] Go.wp_at_zero Go.wp_at_succ

theorem below_drewN {B : Nat} {w w' : World} (h : Below B w w') (n : Nat) : Below B w (w'.drewN n) := ⟨h.os, h.tape, h.output, h.size, h.block⟩
/-- What package path wants of the world: eight sentinels, ErrNone, a number in the library's MaxLen. -/
structure PSen (a : Nat → Addr) (w : World) : Prop where
  is : Sen a w
  no : w.cell? ⟨1, 0, none⟩ = some (.iface 181 (.pointer (some (a 5))))
  max : ∃ m, w.cell? ⟨14, 0, none⟩ = some (.int .i64 m)
theorem PSen.below {a : Nat → Addr} {w w' : World} (S : PSen a w) (hb : Below w.heap.size w w') : PSen a w' where
  is := S.is.below hb
  no := by rw [hb.cell (p := ⟨1, 0, none⟩) (lt_of_cell S.no)]; exact S.no
  max := by
    obtain ⟨m, hm⟩ := S.max
    exact ⟨m, by rw [hb.cell (p := ⟨14, 0, none⟩) (lt_of_cell hm)]; exact hm⟩
/-- Room for so many, and not too much. -/
def RoomR (v : Value) (n : Nat) : Prop := ∃ ad cap, v = .slice ad n cap ∧ n ≤ cap ∧ cap ≤ maxLen
/-- What Split hands back. -/
def SplitPost (a : Nat → Addr) (s : ByteArray) (w : World) (e : Ending) (w' : World) : Prop := Below w.heap.size w w' ∧
  ((splitR s = none ∧ e = .returned (.tuple #[.slice none 0 0, .iface 181 (.pointer (some (a 4)))])) ∨ ∃ l v, splitR s = some l ∧ e = .returned (.tuple #[v, .nilIface]) ∧ Texts w' v l ∧ RoomR v l.length)
theorem splitR_cons {s : ByteArray} {c : UInt8} {l : List UInt8} (h : s ≠ strokeB) (e : s.data.toList = c :: l) : splitR s = if c = 47 ∧ (cutL l).length ≤ 8 ∧ ((cutL l).all fun x => nameB ⟨x.toArray⟩) = true then some ((cutL l).map fun x => ⟨x.toArray⟩) else none := by
  unfold splitR
  rw [if_neg h, e]
theorem splitR_nil {s : ByteArray} (h : s ≠ strokeB) (e : s.data.toList = []) : splitR s = none := by
  unfold splitR
  rw [if_neg h, e]
theorem stroke_ne {s : ByteArray} (h : s ≠ strokeB) : (s.toList == [47]) = false := by
  rw [beq_eq_false_iff_ne]
  intro e
  apply h
  rw [ByteArray.toList_eq] at e
  obtain ⟨⟨l⟩⟩ := s
  simp only at e
  subst e; rfl
theorem all_to {l : List ByteArray} {k : Nat} {x : ByteArray} (hx : l[k]? = some x) : (l.take (k + 1)).all nameB = ((l.take k).all nameB && nameB x) := by
  have hk : k < l.length := (List.getElem?_eq_some_iff.1 hx).1
  rw [List.take_succ_eq_append_getElem hk, (List.getElem?_eq_some_iff.1 hx).2]
  simp
theorem not_all {l : List ByteArray} {k : Nat} {x : ByteArray} (hx : l[k]? = some x) (h : nameB x = false) : l.all nameB = false := by
  rw [List.all_eq_false]
  exact ⟨x, List.mem_of_getElem? hx, by simp [h]⟩
theorem all_map {l : List (List UInt8)} : (l.all fun x => nameB ⟨x.toArray⟩) = (l.map fun x => (⟨x.toArray⟩ : ByteArray)).all nameB := by
  rw [List.all_map]; rfl
theorem piece_le : ∀ {l : List UInt8}, ∀ x ∈ cutL l, x.length ≤ l.length
  | [], x, h => by simp [cutL] at h; simp [h]
  | c :: l, x, h => by
    by_cases hc : c = 47
    · subst hc
      rw [cutL_stroke] at h
      rcases List.mem_cons.1 h with rfl | h
      · simp
      · have := piece_le x h; simp; omega
    · obtain ⟨h1, t, e⟩ : ∃ h t, cutL l = h :: t := by
        cases h : cutL l with
        | nil => exact absurd h (cutL_ne l)
        | cons a b => exact ⟨a, b, rfl⟩
      rw [cutL_byte hc e] at h
      rcases List.mem_cons.1 h with rfl | h
      · have := piece_le h1 (by rw [e]; simp); simp; omega
      · have := piece_le x (by rw [e]; simp [h]); simp; omega

set_option maxRecDepth 100000 in
set_option maxHeartbeats 4000000 in
theorem split_any (a : Nat → Addr) (s : ByteArray) (w : World) (S : PSen a w) (hs : s.size < 4294967281) : Calls Tryz.prog 8 #[.string s] w (SplitPost a s w) := by
  by_cases hst : s = strokeB
  · subst hst
    have HP : Hid (SplitPost a strokeB w (.returned (.tuple #[.slice none 0 0, .nilIface])) w) := ⟨Below.refl _ _, .inr ⟨[], _, splitR_one, rfl, ⟨none, 0, rfl, fun i x hx => by simp at hx⟩, ⟨none, 0, rfl, Nat.le_refl _, by unfold maxLen; omega⟩⟩⟩
    unfold strokeB at HP ⊢
    clear S hs
    go_enter Tryz.func8, Tryz.ntmps8
    go_wp2_with fail
    go_ret2
    exact HP.out
  · have hne := stroke_ne hst
    have c4 := S.is.name
    have z4 := lt_of_cell c4
    obtain ⟨m, hm⟩ := S.max
    have HNO : Hid (splitR s = none → ∀ w', Below w.heap.size w w' → SplitPost a s w (.returned (.tuple #[.slice none 0 0, .iface 181 (.pointer (some (a 4)))])) w') := fun h w' hb => ⟨hb, .inl ⟨h, rfl⟩⟩
    have HCP : Hid _ := Tryz.strings_CutPrefix s { data := #[47] } w
    cases hl : s.data.toList with
    | nil =>
      have HN := HNO.out (splitR_nil hst hl)
      have HB : Hid _ := HN
      have hp : Lib.hasPrefix s.data.toList ({ data := #[47] } : ByteArray).data.toList = false := by rw [hl]; rfl
      rw [hp] at HCP
      generalize Lib.trimPrefix s.data.toList ({ data := #[47] } : ByteArray).data.toList = r at HCP
      clear HN HNO hp hl hs S hm
      go_enter Tryz.func8, Tryz.ntmps8
      go_wp2_with fail
      refine Calls.mono HCP.out ?_
      rintro e w1 ⟨rfl, rfl⟩
      go_wp2_with fail
      go_quiet (fail)
      go_wp2_with fail
      go_ret2
      exact HB.out _ (below_drewN (Below.refl _ _) _)
    | cons c l =>
      by_cases hc : c = 47
      rotate_left
      · have HN := HNO.out (by rw [splitR_cons hst hl, if_neg (fun h => hc h.1)])
        have HB : Hid _ := HN
        have hp : Lib.hasPrefix s.data.toList ({ data := #[47] } : ByteArray).data.toList = false := by
          rw [hl]
          show List.isPrefixOf [47] (c :: l) = false
          simp [List.isPrefixOf, Ne.symm hc]
        rw [hp] at HCP
        generalize Lib.trimPrefix s.data.toList ({ data := #[47] } : ByteArray).data.toList = r at HCP
        clear HN HNO hp hl hs S hm
        go_enter Tryz.func8, Tryz.ntmps8
        go_wp2_with fail
        refine Calls.mono HCP.out ?_
        rintro e w1 ⟨rfl, rfl⟩
        go_wp2_with fail
        go_quiet (fail)
        go_wp2_with fail
        go_ret2
        exact HB.out _ (below_drewN (Below.refl _ _) _)
      · subst hc
        have hp : Lib.hasPrefix s.data.toList ({ data := #[47] } : ByteArray).data.toList = true := by
          rw [hl]
          show List.isPrefixOf [47] (47 :: l) = true
          simp [List.isPrefixOf]
        have ht : Lib.trimPrefix s.data.toList ({ data := #[47] } : ByteArray).data.toList = l := by
          unfold Lib.trimPrefix
          rw [if_pos hp, hl]
          rfl
        rw [hp, ht] at HCP
        have hll : s.size = l.length + 1 := by
          have := congrArg List.length hl
          simpa using this
        have HR : Hid _ := splitR_cons hst hl
        obtain ⟨r, hr⟩ : ∃ r : ByteArray, r = ⟨l.toArray⟩ := ⟨_, rfl⟩
        have hrl : r.data.toList = l := by rw [hr]
        have hrs : r.size = l.length := by rw [hr]; rfl
        rw [← hr] at HCP
        have HSP := Tryz.strings_SplitN r { data := #[47] } 9 m w (by omega) hm (by decide) (by omega) (by omega)
        have HPC := split_pieces (r := r)
        rw [hrl] at HPC
        obtain ⟨L, hL⟩ : ∃ L, L = Lib.splitB { data := #[47] } 0 (min 9 (r.size + 1) - 1) r := ⟨_, rfl⟩
        have HPC2 : Hid (((cutL l).length ≤ 8 → L = (cutL l).map fun x => (⟨x.toArray⟩ : ByteArray)) ∧ (8 < (cutL l).length → 8 < L.length)) := by rw [hL]; exact HPC
        rw [← hL] at HSP
        obtain ⟨N, hN⟩ : ∃ N, N = min 9 (r.size + 1) := ⟨_, rfl⟩
        rw [← hN] at HSP
        have hLN : L.length ≤ N := by
          rw [hL, hN]
          have := Lib.splitB_length_le { data := #[47] } 0 (min 9 (r.size + 1) - 1) r
          omega
        have hN9 : N ≤ 9 := by omega
        have HCL : Hid (∀ (i : Nat) (x : ByteArray), L[i]? = some x → (Lib.cellsOf L N)[i]? = some (Value.string x)) := fun i x hx => by
          have hi : i < L.length := (List.getElem?_eq_some_iff.1 hx).1
          unfold Lib.cellsOf
          rw [List.getElem?_toArray, List.getElem?_append_left (by simpa using hi), List.getElem?_map, hx]
          rfl
        have hsl : ∀ x ∈ (cutL l).map (fun x => (⟨x.toArray⟩ : ByteArray)), x.size ≤ maxLen := fun x hx => by
          obtain ⟨y, hy, rfl⟩ := List.mem_map.1 hx
          have := piece_le y hy
          show y.toArray.size ≤ maxLen
          unfold maxLen
          simp only [List.size_toArray]
          omega
        have HSL : Hid _ := hsl
        generalize Lib.cellsOf L N = ca at HSP HCL
        have HSP2 : Hid (Calls Tryz.prog 32 #[.string r, .string { data := #[47] }, .int .i64 9] w fun e w' => e = .returned (.slice (some ⟨w.heap.size, 0, none⟩) L.length N) ∧ w' = w.alloc (.cells ca 9)) := HSP
        have hA : Below w.heap.size w (w.alloc (.cells ca 9)) := (Below.refl _ _).alloc (Nat.le_refl _) _
        have HA : Hid _ := hA
        have hrow := row_alloc' w ca 9
        have hcell : ∀ (i : Nat) (x : ByteArray), L[i]? = some x → (w.alloc (.cells ca 9)).cell? ⟨w.heap.size, i, none⟩ = some (.string x) := fun i x hx => by
          rw [cell_of_row (w.alloc (.cells ca 9)) _ _ _ _ _ hrow]
          exact HCL.out i x hx
        have HCE : Hid _ := hcell
        have c4' : (w.alloc (.cells ca 9)).cell? ⟨0, 0, none⟩ = some (.iface 181 (.pointer (some (a 4)))) := by rw [hA.cell (p := ⟨0, 0, none⟩) z4]; exact c4
        have z4' : 0 < (w.alloc (.cells ca 9)).heap.size := lt_of_cell c4'
        clear hrow hcell HSP HPC hL hN hp ht hl hrl S hm hA hsl hr
        generalize w.alloc (.cells ca 9) = W at *
        clear HCL
        by_cases h8 : (cutL l).length ≤ 8
        rotate_left
        · have HN := HNO.out (by rw [HR.out, if_neg (fun h => h8 h.2.1)])
          have HB : Hid _ := HN
          have h9 : (8 : Int) < (L.length : Int) := by have := HPC2.out.2 (by omega); omega
          clear HN HNO HPC2 HR h8
          go_enter Tryz.func8, Tryz.ntmps8
          go_wp2_with fail
          refine Calls.mono HCP.out ?_
          rintro e w1 ⟨rfl, rfl⟩
          go_wp2_with fail
          refine Calls.mono HSP2.out ?_
          rintro e w1 ⟨rfl, rfl⟩
          go_wp2_with fail
          go_quiet (fail)
          go_wp2_with fail
          go_ret2
          exact HB.out _ (below_drewN HA.out _)
        · have hLe := HPC2.out.1 h8
          have h9 : (L.length : Int) ≤ 8 := by
            have : L.length = (cutL l).length := by rw [hLe, List.length_map]
            omega
          have HYES : Hid (L.all nameB = true → SplitPost a s w (.returned (.tuple #[.slice (some ⟨w.heap.size, 0, none⟩) L.length N, .nilIface])) W) := fun h => by
            refine ⟨HA.out, .inr ⟨L, _, ?_, rfl, ⟨_, _, rfl, fun i x hx => ⟨_, _, rfl, by rw [Nat.zero_add]; exact HCE.out i x hx⟩⟩, ⟨_, _, rfl, hLN, by unfold maxLen; omega⟩⟩⟩
            rw [HR.out, if_pos ⟨rfl, h8, by rw [all_map, ← hLe]; exact h⟩, hLe]
          have HBAD : Hid (L.all nameB = false → ∀ w', Below w.heap.size w w' → SplitPost a s w (.returned (.tuple #[.slice none 0 0, .iface 181 (.pointer (some (a 4)))])) w') := fun h =>
            HNO.out (by rw [HR.out, if_neg (fun h2 => by rw [all_map, ← hLe, h] at h2; exact absurd h2.2.2 (by simp))])
          have HSZ : Hid (∀ (i : Nat) (x : ByteArray), L[i]? = some x → x.size ≤ maxLen) := fun i x hx => HSL.out x (by rw [← hLe]; exact List.mem_of_getElem? hx)
          clear hLe HPC2 HR HNO h8 HSL
          go_enter Tryz.func8, Tryz.ntmps8
          go_wp2_with fail
          refine Calls.mono HCP.out ?_
          rintro e w1 ⟨rfl, rfl⟩
          go_wp2_with fail
          refine Calls.mono HSP2.out ?_
          rintro e w1 ⟨rfl, rfl⟩
          go_wp2_with fail
          go_loop [27] (fun i => ∃ j : Nat, j ≤ L.length ∧ i = .int .i64 j ∧ (L.take j).all nameB = true) (fun i => L.length - (intOf i).toNat)
          case atStart => exact ⟨0, Nat.zero_le _, rfl, by simp⟩
          case round =>
            obtain ⟨j, hj, rfl, hall⟩ := hrel
            have HALL : Hid _ := hall
            clear hall
            by_cases hlt : j < L.length
            · obtain ⟨x, hx⟩ : ∃ x, L[j]? = some x := ⟨L[j], List.getElem?_eq_getElem hlt⟩
              have cj := HCE.out j x hx
              have HNM : Hid _ := name_any x w1 (HSZ.out j x hx)
              have HX : Hid _ := hx
              have hj0 : (0 : Int) ≤ (j : Int) := by omega
              have hj1 : (j : Int) < (L.length : Int) := by omega
              clear hx
              cases hn : nameB x with
              | false =>
                have HB : Hid _ := HBAD.out (not_all HX.out hn)
                rw [hn] at HNM
                go_wp2_with fail
                refine Calls.mono HNM.out ?_
                rintro e w2 ⟨rfl, rfl⟩
                go_wp2_with fail
                go_quiet (fail)
                go_wp2_with fail
                go_ret2
                exact HB.out _ (below_drewN HA.out _)
              | true =>
                have HTR : Hid ((L.take (j + 1)).all nameB = true) := show _ = _ by rw [all_to HX.out, HALL.out, hn]; rfl
                rw [hn] at HNM
                go_wp2_with fail
                refine Calls.mono HNM.out ?_
                rintro e w2 ⟨rfl, rfl⟩
                go_wp2_with fail
                go_round
                case rel => exact ⟨j + 1, by omega, by go_num, HTR.out⟩
                case measure => simp [intOf]; omega
            · have HB : Hid _ := HYES.out (by have := HALL.out; rw [List.take_of_length_le (by omega)] at this; exact this)
              go_wp2_with fail
              go_ret2
              exact HB.out
end Go.Proofs.YtpjjpmikhjlgnaaGreatDoor
namespace Go.Proofs.YtpjjpmikhjlgnaaGreatDoor
open Go.RowKit
attribute [local go_sem ↓] Go.wp_at_zero Go.wp_at_succ

/-- The kid of a name. -/
def kidOf (t : Tree) (s : ByteArray) : Option Tree := if thereAt t.kids s = true then (t.kids[placeOf t.kids s]?).map (·.2) else none
/-- The node that names lead to. -/
def atR : List ByteArray → Tree → Option Tree
  | [], t => some t
  | s :: r, t => match kidOf t s with
    | none => none
    | some k => atR r k
theorem atR_snoc : ∀ (l : List ByteArray) (s : ByteArray) (t : Tree), atR (l ++ [s]) t = (atR l t).bind fun k => kidOf k s
  | [], s, t => by
    simp only [List.nil_append, atR, Option.bind_some]
    cases kidOf t s <;> rfl
  | x :: l, s, t => by
    simp only [List.cons_append, atR]
    cases h : kidOf t x with
    | none => rfl
    | some k => simp only; exact atR_snoc l s k
theorem atR_more : ∀ (l m : List ByteArray) (t : Tree), atR l t = none → atR (l ++ m) t = none
  | [], _, _, h => by simp [atR] at h
  | x :: l, m, t, h => by
    simp only [List.cons_append, atR] at h ⊢
    cases hk : kidOf t x with
    | none => rfl
    | some k =>
      rw [hk] at h
      exact atR_more l m k h
/-- Names rise, all the way down. -/
def RisesD : Nat → Tree → Prop
  | 0, _ => False
  | d + 1, t => Rises t.kids ∧ ∀ x ∈ t.kids, RisesD d x.2
/-- A node in memory, at an address. -/
def NodeAt (w : World) (B d b o : Nat) (t : Tree) : Prop := b < B ∧ ∃ u, w.cell? ⟨b, o, none⟩ = some (.string t.kind) ∧ w.cell? ⟨b, o + 1, none⟩ = some (.string t.data) ∧ w.cell? ⟨b, o + 2, none⟩ = some (.bool t.exec) ∧ w.cell? ⟨b, o + 3, none⟩ = some u ∧ Lies w B d t.kids u
theorem NodeAt.below {w w' : World} {B d b o : Nat} {t : Tree} (h : NodeAt w B d b o t) {C : Nat} (hb : Below C w w') (hC : B ≤ C) : NodeAt w' B d b o t := by
  obtain ⟨h1, u, h2, h3, h4, h5, h6⟩ := h
  have hc : ∀ o, w'.cell? ⟨b, o, none⟩ = w.cell? ⟨b, o, none⟩ := fun o => hb.cell (p := ⟨b, o, none⟩) (show b < C by omega)
  exact ⟨h1, u, by rw [hc]; exact h2, by rw [hc]; exact h3, by rw [hc]; exact h4, by rw [hc]; exact h5, h6.below hb hC⟩
/-- Where names lead to from an address. -/
def AddrAt (w : World) : List ByteArray → Tree → Nat → Nat → Nat → Nat → Prop
  | [], _, b0, o0, b, o => b = b0 ∧ o = o0
  | x :: r, t, b0, o0, b, o => ∃ k g go n c, kidOf t x = some k ∧ w.cell? ⟨b0, o0 + 3, none⟩ = some (.slice (some ⟨g, go, none⟩) n c) ∧ AddrAt w r k g (go + placeOf t.kids x * 5 + 1) b o
theorem AddrAt.snoc {w : World} {x : ByteArray} {g go n c : Nat} : ∀ {l : List ByteArray} {t k q : Tree} {b0 o0 b o : Nat}, AddrAt w l t b0 o0 b o → atR l t = some k → kidOf k x = some q → w.cell? ⟨b, o + 3, none⟩ = some (.slice (some ⟨g, go, none⟩) n c) → AddrAt w (l ++ [x]) t b0 o0 g (go + placeOf k.kids x * 5 + 1)
  | [], t, k, q, b0, o0, b, o, ⟨hb, ho⟩, hk, hq, hc => by
    simp only [atR, Option.some.injEq] at hk
    subst hk; subst hb; subst ho
    exact ⟨q, g, go, n, c, hq, hc, rfl, rfl⟩
  | y :: l, t, k, q, b0, o0, b, o, ⟨z, g', go', n', c', h1, h2, h3⟩, hk, hq, hc => by
    simp only [atR, h1] at hk
    exact ⟨z, g', go', n', c', h1, h2, h3.snoc hk hq hc⟩
/-- What at hands back. -/
def AtPost (B d b0 o0 : Nat) (t : Tree) (names : List ByteArray) (w : World) (e : Ending) (w' : World) : Prop := Below w.heap.size w w' ∧
  ((atR names t = none ∧ e = .returned (.pointer none)) ∨ ∃ k d' b o, atR names t = some k ∧ e = .returned (.pointer (some ⟨b, o, none⟩)) ∧ NodeAt w B d' b o k ∧ d' ≤ d ∧ AddrAt w names t b0 o0 b o)

set_option maxRecDepth 100000 in
set_option maxHeartbeats 4000000 in
theorem at_any (B d b0 o0 : Nat) (t : Tree) (names : List ByteArray) (v : Value) (w : World) (hB : B ≤ w.heap.size) (hn : NodeAt w B d b0 o0 t) (hr : RisesD d t) (hv : Texts w v names) (hnl : names.length ≤ 1000000) :
    Calls Tryz.prog 38 #[.pointer (some ⟨b0, o0, none⟩), v] w (AtPost B d b0 o0 t names w) := by
  obtain ⟨ad, cap, rfl, hcs⟩ := hv
  have HCS : Hid (∀ i x, names[i]? = some x → ∃ b off, ad = some ⟨b, off, none⟩ ∧ w.cell? ⟨b, off + i, none⟩ = some (.string x)) := hcs
  have HN0 : Hid (NodeAt w B d b0 o0 t) := hn
  have HR0 : Hid (RisesD d t) := hr
  clear hcs hn hr
  go_enter Tryz.func38, Tryz.ntmps38
  go_wp2_with fail
  go_loopw [0, 11] (fun p i wr => ∃ (j : Nat) (k : Tree) (d' b o : Nat), j ≤ names.length ∧ i = .int .i64 j ∧ p = .pointer (some ⟨b, o, none⟩) ∧ atR (names.take j) t = some k ∧ NodeAt w B d' b o k ∧ RisesD d' k ∧ d' ≤ d ∧ Hid (AddrAt w (names.take j) t b0 o0 b o) ∧ Below w.heap.size w wr) (fun _ i _ => names.length - (intOf i).toNat)
  case atStart => exact ⟨0, t, d, b0, o0, Nat.zero_le _, rfl, rfl, rfl, HN0.out, HR0.out, Nat.le_refl _, ⟨rfl, rfl⟩, Below.refl _ _⟩
  case round =>
    obtain ⟨j, k, d', b, o, hj, rfl, rfl, hat, hn, hr, hd, HADR, hb⟩ := hrel
    have HAT : Hid _ := hat
    have HN : Hid (NodeAt w B d' b o k) := hn
    have HR : Hid (RisesD d' k) := hr
    have HB : Hid (Below w.heap.size w wr) := hb
    clear hat hn hr hb
    by_cases hlt : j < names.length
    · obtain ⟨s, hs⟩ : ∃ s, names[j]? = some s := ⟨names[j], List.getElem?_eq_getElem hlt⟩
      obtain ⟨nb, no, rfl, hnc⟩ := HCS.out j s hs
      have hnc' : wr.cell? ⟨nb, no + j, none⟩ = some (.string s) := by rw [HB.out.cell (p := ⟨nb, no + j, none⟩) (lt_of_cell hnc)]; exact hnc
      obtain ⟨hbB, u, h0, h1, h2, h3, hl⟩ := HN.out
      obtain ⟨ta, tc, rfl⟩ := hl.form
      have hlr := hl.below HB.out hB
      have h3' : wr.cell? ⟨b, o + 3, none⟩ = some (.slice ta k.kids.length tc) := by rw [HB.out.cell (p := ⟨b, o + 3, none⟩) (show b < w.heap.size by omega)]; exact h3
      have HS : Hid (names[j]? = some s) := hs
      have HL : Hid (Lies w B d' k.kids (.slice ta k.kids.length tc)) := hl
      have hr1 : Rises k.kids := by
        cases d' with
        | zero => exact HR.out.elim
        | succ d' => exact HR.out.1
      have HF : Hid _ := find_any B d' k.kids (.slice ta k.kids.length tc) s wr (by have := HB.out.size; omega) hlr hr1
      have hst : names.take (j + 1) = names.take j ++ [s] := by rw [List.take_succ_eq_append_getElem hlt, (List.getElem?_eq_some_iff.1 hs).2]
      have HNX : Hid (atR (names.take (j + 1)) t = kidOf k s) := show _ = _ by rw [hst, atR_snoc, HAT.out]; rfl
      have hj0 : (0 : Int) ≤ (j : Int) := by omega
      have hj1 : (j : Int) < (names.length : Int) := by omega
      have hlen : k.kids.length ≤ 1759218604390 := by
        cases d' with
        | zero => exact absurd hl (by simp [Lies])
        | succ d' => exact (Lies.open hl).1
      have HST : Hid _ := hst
      have HH3 : Hid (w.cell? ⟨b, o + 3, none⟩ = some (.slice ta k.kids.length tc)) := h3
      clear hs hnc h0 h1 h2 h3 hl hlr hr1 hst HCS
      cases hth : thereAt k.kids s with
      | false =>
        have HNO : Hid (atR names t = none) := show _ = _ by
          have h := HNX.out
          unfold kidOf at h
          rw [hth] at h
          have h2 := atR_more _ (names.drop (j + 1)) t h
          rw [List.take_append_drop] at h2
          exact h2
        rw [hth] at HF
        go_wp2_with fail
        refine Calls.mono HF.out ?_
        rintro e w2 ⟨rfl, hb2⟩
        have HB2 : Hid (Below w.heap.size w w2) := HB.out.trans (hb2.mono HB.out.size)
        clear hb2 HF
        go_wp2_with fail
        go_ret
        exact ⟨HB2.out, .inl ⟨HNO.out, rfl⟩⟩
      | true =>
        obtain ⟨x, hx, hxs⟩ := there_some hth
        have hpl : placeOf k.kids s < k.kids.length := (List.getElem?_eq_some_iff.1 hx).1
        have HYES : Hid (atR (names.take (j + 1)) t = some x.2) := show _ = _ by
          rw [HNX.out]
          unfold kidOf
          rw [hth, hx]
          rfl
        cases d' with
        | zero => exact HR.out.elim
        | succ d' =>
        obtain ⟨kb, koff, kc, e, hkb, hat⟩ : ∃ kb koff kc, Value.slice ta k.kids.length tc = .slice (some ⟨kb, koff, none⟩) k.kids.length kc ∧ kb < B ∧ ∀ i x, k.kids[i]? = some x → ∃ u, KidAt w B d' kb koff i x u := by
          rcases (Lies.open HL.out).2 with ⟨h0, _⟩ | ⟨kb, koff, kc, h⟩
          · rw [h0] at hpl; simp at hpl
          · exact ⟨kb, koff, kc, h⟩
        simp only [Value.slice.injEq] at e
        obtain ⟨rfl, _, rfl⟩ := e
        obtain ⟨ux, K⟩ := hat _ x hx
        have HNN : Hid (NodeAt w B d' kb (koff + placeOf k.kids s * 5 + 1) x.2) := ⟨hkb, ux, K.kind, K.data, K.exec, K.kids, K.lies⟩
        have HRR : Hid (RisesD d' x.2) := HR.out.2 x (List.mem_of_getElem? hx)
        have HADN : Hid (AddrAt w (names.take (j + 1)) t b0 o0 kb (koff + placeOf k.kids s * 5 + 1)) := show AddrAt _ _ _ _ _ _ _ by rw [HST.out]; exact HADR.out.snoc HAT.out (HNX.out.symm.trans HYES.out) HH3.out
        rw [hth] at HF
        generalize placeOf k.kids s = pl at *
        have hp0 : (0 : Int) ≤ (pl : Int) := by omega
        have hp1 : (pl : Int) < (k.kids.length : Int) := by omega
        clear hx hxs hat K hth HNX
        go_wp2_with fail
        refine Calls.mono HF.out ?_
        rintro e w2 ⟨rfl, hb2⟩
        have HB2 : Hid (Below w.heap.size w w2) := HB.out.trans (hb2.mono HB.out.size)
        have h32 : w2.cell? ⟨b, o + 3, none⟩ = some (.slice (some ⟨kb, koff, none⟩) k.kids.length tc) := by rw [hb2.cell (p := ⟨b, o + 3, none⟩) (show b < wr.heap.size by have := HB.out.size; omega)]; exact h3'
        clear hb2 HF h3' hnc'
        go_wp2_with fail
        go_roundw
        case rel => exact ⟨j + 1, x.2, d', kb, koff + pl * 5 + 1, by omega, by go_num, rfl, HYES.out, HNN.out, HRR.out, by omega, HADN.out, HB2.out⟩
        case measure => simp [intOf]; omega
    · have HE : Hid (atR names t = some k) := show _ = _ by
        have := HAT.out
        rw [List.take_of_length_le (by omega)] at this
        exact this
      have HAE : Hid (AddrAt w names t b0 o0 b o) := show AddrAt _ _ _ _ _ _ _ by
        have := HADR.out
        rw [List.take_of_length_le (by omega)] at this
        exact this
      go_wp2_with fail
      go_ret
      exact ⟨HB.out, .inr ⟨k, d', b, o, HE.out, rfl, HN.out, hd, HAE.out⟩⟩
end Go.Proofs.YtpjjpmikhjlgnaaGreatDoor
