/-
  The contracts of the document's answer for a path's names: stillroomref1's Cut, SplitOf and FindOf.
  A tree's nodes, each with its names: plain mathematics.
  The contract of the document's answer for a node by its path: stillroomref1's GetOf.
  Conditions: those that each states.
-/
import Derived.Test.YtpjjpmikhjlgnaaGreatDoorD03
import Derived.Test.YtpjjpmikhjlgnaaGreatDoorD22
import Derived.Test.YtpjjpmikhjlgnaaGreatDoorD14
import Derived.Test.YtpjjpmikhjlgnaaGreatDoorD09
import Derived.Test.YtpjjpmikhjlgnaaGreatDoorD08
import Derived.Test.YtpjjpmikhjlgnaaGreatDoorD11
namespace Go.Proofs.YtpjjpmikhjlgnaaGreatDoor
open Go.RowKit
attribute [local go_sem ↓] Go.wp_at_zero Go.wp_at_succ

theorem infoS : (Tryz.prog.info? 9).map (fun i => (i.zero, i.size, i.bytes)) = some (some (.string { data := #[] }), 1, 16) := by kernel_rfl
/-- A piece ahead of others. -/
def glueL (c : List UInt8) : List (List UInt8) → List (List UInt8)
  | [] => [c]
  | h :: t => (c ++ h) :: t
theorem glue_stroke (c l : List UInt8) : glueL c (cutL (47 :: l)) = c :: cutL l := by rw [cutL_stroke]; simp [glueL]
theorem glue_byte {b : UInt8} (hb : b ≠ 47) (c l : List UInt8) : glueL c (cutL (b :: l)) = glueL (c ++ [b]) (cutL l) := by
  obtain ⟨h, t, e⟩ : ∃ h t, cutL l = h :: t := by
    cases h : cutL l with
    | nil => exact absurd h (cutL_ne l)
    | cons a b => exact ⟨a, b, rfl⟩
  rw [cutL_byte hb e, e]
  simp [glueL]
theorem glue_nil (l : List UInt8) : glueL [] (cutL l) = cutL l := by
  cases h : cutL l with
  | nil => exact absurd h (cutL_ne l)
  | cons a b => rfl
theorem part_list (s : ByteArray) (f j : Nat) : (s.extract f j).data.toList = (s.data.toList.take j).drop f := by
  rw [ByteArray.data_extract, Array.toList_extract]
  show (s.data.toList.drop f).take (j - f) = _
  rw [List.drop_take]
theorem part_snoc (s : ByteArray) {f j : Nat} (hf : f ≤ j) (hj : j < s.size) : (s.data.toList.take (j + 1)).drop f = (s.data.toList.take j).drop f ++ [s[j]] := by
  rw [take_snoc s j hj, List.drop_append_of_le_length (by rw [List.length_take]; have : s.data.toList.length = s.size := rfl; omega)]
theorem drop_at (s : ByteArray) {j : Nat} (hj : j < s.size) : s.data.toList.drop j = s[j] :: s.data.toList.drop (j + 1) := by
  rw [List.drop_eq_getElem_cons (by have : s.data.toList.length = s.size := rfl; omega)]
  rfl
theorem cutB_map (s : ByteArray) : (cutB s).map (·.data.toList) = cutL s.data.toList := by
  unfold cutB
  rw [List.map_map]
  exact (List.map_congr_left fun x _ => by simp).trans (List.map_id _)
theorem map_list {a b : List ByteArray} (h : a.map (·.data.toList) = b.map (·.data.toList)) : a = b := by
  induction a generalizing b with
  | nil => cases b with
    | nil => rfl
    | cons y b => simp at h
  | cons x a ih =>
    cases b with
    | nil => simp at h
    | cons y b =>
      simp only [List.map_cons, List.cons.injEq] at h
      rw [ba_ext' h.1, ih h.2]

set_option maxRecDepth 100000 in
set_option maxHeartbeats 2000000 in
theorem cut_any (s : ByteArray) (w : World) (hs : s.size ≤ 1000000) : Calls Tryz.prog 34 #[.string s, .int .u8 47] w fun e w' => ∃ v, e = .returned v ∧ w'.ownsRow w.heap.size 9 1 v (cutB s).length ((cutB s).map Value.string) ∧ Below w.heap.size w w' := by
  obtain ⟨i0, hi0, hz0, hz1, hz2⟩ := info_parts infoS
  have hlc : (cutL s.data.toList).length ≤ s.size + 1 := cutL_le _
  have HCU : Hid (∀ q : List ByteArray, q.map (·.data.toList) = cutL s.data.toList → q = cutB s) := fun q h => map_list (by rw [h, cutB_map])
  go_enter Tryz.func34, Tryz.ntmps34
  go_wp2_with fail
  go_loopw [5, 6, 7] (fun v f i wr => ∃ (j fr : Nat) (q : List ByteArray), j ≤ s.size ∧ fr ≤ j ∧ i = .int .i64 j ∧ f = .int .i64 fr ∧ Hid (cutL s.data.toList = q.map (·.data.toList) ++ glueL ((s.data.toList.take j).drop fr) (cutL (s.data.toList.drop j))) ∧ wr.ownsRow w.heap.size 9 1 v q.length (q.map Value.string) ∧ Below w.heap.size w wr) (fun _ _ i _ => s.size - (intOf i).toNat)
  case atStart => exact ⟨0, 0, [], Nat.zero_le _, Nat.le_refl _, rfl, rfl, (by show _ = _; simp only [List.take_zero, List.drop_zero, List.drop_nil, List.map_nil, List.nil_append, glue_nil]), ⟨rfl, .inl ⟨rfl, rfl⟩⟩, Below.refl _ _⟩
  case round =>
    obtain ⟨j, fr, q, hj, hfr, rfl, rfl, HEQ, hown, hb⟩ := hrel
    have hql : q.length ≤ 1000001 := by
      have h := congrArg List.length HEQ.out
      rw [List.length_append, List.length_map] at h
      omega
    have HOWN : Hid _ := hown
    have HB : Hid (Below w.heap.size w wr) := hb
    have hws : w.heap.size ≤ wr.heap.size := hb.size
    have hj0 : (0 : Int) ≤ (j : Int) := by omega
    have hf0 : (0 : Int) ≤ (fr : Int) := by omega
    have hfj : (fr : Int) ≤ (j : Int) := by omega
    have hjs : (j : Int) ≤ (s.size : Int) := by omega
    have hfs : (fr : Int) ≤ (s.size : Int) := by omega
    clear hown hb
    by_cases hlt : j < s.size
    · have hj1 : (j : Int) < (s.size : Int) := by omega
      cases hc : ((s[j].toNat : Int) == 47) with
      | false =>
        have hne : s[j] ≠ 47 := fun e => by rw [e] at hc; revert hc; decide
        have HE2 : Hid (cutL s.data.toList = q.map (·.data.toList) ++ glueL ((s.data.toList.take (j + 1)).drop fr) (cutL (s.data.toList.drop (j + 1)))) := show _ = _ by rw [part_snoc s hfr hlt, ← glue_byte hne, ← drop_at s hlt]; exact HEQ.out
        go_wp2_with fail
        go_roundw
        case rel => exact ⟨j + 1, fr, q, by omega, by omega, by go_num, rfl, HE2.out, HOWN.out, HB.out⟩
        case measure => simp [intOf]; omega
      | true =>
        have hne : s[j] = 47 := by
          have h : (s[j].toNat : Int) = 47 := by simpa using hc
          exact UInt8.toNat_inj.1 (by rw [show (47 : UInt8).toNat = 47 from rfl]; omega)
        have HE2 : Hid (cutL s.data.toList = (q ++ [s.extract fr j]).map (·.data.toList) ++ glueL ((s.data.toList.take (j + 1)).drop (j + 1)) (cutL (s.data.toList.drop (j + 1)))) := show _ = _ by
          have h := HEQ.out
          rw [drop_at s hlt, hne, glue_stroke] at h
          rw [h, List.map_append, List.append_assoc, List.map_singleton, part_list, (List.drop_eq_nil_of_le (by rw [List.length_take]; omega) : (s.data.toList.take (j + 1)).drop (j + 1) = []), glue_nil]
          rfl
        clear HEQ
        have HN : Hid ((wr.alloc (.cells #[.string (s.extract fr j)] 9)).heap[wr.heap.size]? = some (.cells #[.string (s.extract fr j)] 9 (0, 0))) := row_alloc' wr #[.string (s.extract fr j)] 9
        go_wp2_with (at_builtin; go_must (refine wpList_append_lies _ (by rfl) _ _ 28 (by rfl) w.heap.size 9 i0 (.string { data := #[] }) 1 16 Tryz.underlying28 hi0 hz0 hz1 hz2 rfl (by omega) _ q.length (q.map Value.string) (by rfl) (World.ownsRow.alloc HOWN.out _) ⟨wr.heap.size, 0, none⟩ 1 1 [.string (s.extract fr j)] (by rfl) (by rfl) (World.news_of_block (cs := #[.string (s.extract fr j)]) (t := 9) (fr := (0, 0)) HN.out) (by simp [Value.oneCell']) (by omega) (by unfold maxLen; omega) (by omega) (by simp; omega) (wr.heap.size + 1) (by simp) ?_; intro g1 cap' w4 hown1 hgrow hat hlt4; have HG : Hid _ := hgrow; have HO1 : Hid _ := hown1; clear hgrow hown1 hat))
        go_roundw
        case rel =>
          refine ⟨j + 1, j + 1, q ++ [(s.extract fr j)], by omega, by omega, by go_num, by go_num, HE2.out, ?_, ?_⟩
          · rw [List.length_append, List.map_append]
            exact HO1.out
          · exact (HB.out.alloc hws _).grown HG.out (by simp; omega) fun k hk => (World.ownsRow.lt HOWN.out k hk).1
        case measure => simp [intOf]; omega
    · have hjn : j = s.size := by omega
      subst hjn
      have HE2 : Hid (q ++ [s.extract fr s.size] = cutB s) := HCU.out _ (by
        rw [HEQ.out, (List.drop_eq_nil_of_le (Nat.le_refl _) : s.data.toList.drop s.size = []), List.map_append, List.map_singleton, part_list]
        simp [glueL, cutL])
      clear HEQ HCU
      have hsz : (s.size : Int).toNat = s.size := by omega
      have HN : Hid ((wr.alloc (.cells #[.string (s.extract fr s.size)] 9)).heap[wr.heap.size]? = some (.cells #[.string (s.extract fr s.size)] 9 (0, 0))) := row_alloc' wr #[.string (s.extract fr s.size)] 9
      go_wp2_with (at_builtin; go_must (refine wpList_append_lies _ (by rfl) _ _ 28 (by rfl) w.heap.size 9 i0 (.string { data := #[] }) 1 16 Tryz.underlying28 hi0 hz0 hz1 hz2 rfl (by omega) _ q.length (q.map Value.string) (by rfl) (World.ownsRow.alloc HOWN.out _) ⟨wr.heap.size, 0, none⟩ 1 1 [.string (s.extract fr s.size)] (by rfl) (by rfl) (World.news_of_block (cs := #[.string (s.extract fr s.size)]) (t := 9) (fr := (0, 0)) HN.out) (by simp [Value.oneCell']) (by omega) (by unfold maxLen; omega) (by omega) (by simp; omega) (wr.heap.size + 1) (by simp) ?_; intro g1 cap' w4 hown1 hgrow hat hlt4; have HG : Hid _ := hgrow; have HO1 : Hid _ := hown1; clear hgrow hown1 hat))
      go_ret
      refine ⟨_, rfl, ?_, ?_⟩
      · rw [← HE2.out, List.length_append, List.map_append]
        exact HO1.out
      · exact (HB.out.alloc hws _).grown HG.out (by simp; omega) fun k hk => (World.ownsRow.lt HOWN.out k hk).1

/-- A path's names by its pieces. -/
theorem split_cut {s : ByteArray} (hs : s ≠ strokeB) {h : ByteArray} {t : List ByteArray} (hc : cutB s = h :: t) : splitR s = if h = ByteArray.empty ∧ 1 ≤ t.length ∧ t.length ≤ 8 ∧ t.all nameB = true then some t else none := by
  have hm := cutB_map s
  rw [hc, List.map_cons] at hm
  unfold splitR
  rw [if_neg hs]
  cases hl : s.data.toList with
  | nil =>
    rw [hl, show cutL [] = [[]] from rfl, List.cons.injEq] at hm
    have : t = [] := List.map_eq_nil_iff.1 hm.2
    subst this
    rw [if_neg (by simp)]
  | cons c l =>
    rw [hl] at hm
    by_cases h47 : c = 47
    · subst h47
      rw [cutL_stroke, List.cons.injEq] at hm
      have hh : h = ByteArray.empty := ba_ext' hm.1
      have ht : (cutL l).map (fun x => (⟨x.toArray⟩ : ByteArray)) = t := map_list (by
        rw [← hm.2, List.map_map, List.map_map]
        exact List.map_congr_left fun x _ => by simp)
      have hlen : (cutL l).length = t.length := by rw [← ht, List.length_map]
      have hpos := cutL_pos l
      have hall : ((cutL l).all fun x => nameB ⟨x.toArray⟩) = t.all nameB := by rw [← ht, List.all_map]; rfl
      simp only [hall, hlen, ht, hh, true_and]
      by_cases h8 : t.length ≤ 8 ∧ t.all nameB = true
      · rw [if_pos h8, if_pos ⟨by omega, h8⟩]
      · rw [if_neg h8, if_neg (fun h => h8 h.2)]
    · obtain ⟨h2, t2, e2⟩ : ∃ h t, cutL l = h :: t := by
        cases h : cutL l with
        | nil => exact absurd h (cutL_ne l)
        | cons a b => exact ⟨a, b, rfl⟩
      rw [cutL_byte h47 e2, List.cons.injEq] at hm
      have hh : h ≠ ByteArray.empty := fun e => by rw [e] at hm; simp at hm
      simp only [h47, hh, false_and, if_false]
theorem cut_cons (s : ByteArray) : ∃ h t, cutB s = h :: t := by
  cases h : cutB s with
  | nil => exact absurd (List.map_eq_nil_iff.1 h) (cutL_ne _)
  | cons a b => exact ⟨a, b, rfl⟩

theorem empty_of {x : ByteArray} (h : x.toList.isEmpty = true) : x = ByteArray.empty := by
  rw [List.isEmpty_iff, ByteArray.toList_eq] at h
  exact ba_ext' h
/-- What SplitOf hands back. -/
def SplitOfPost (s : ByteArray) (w : World) (e : Ending) (w' : World) : Prop := Below w.heap.size w w' ∧
  ((splitR s = none ∧ e = .returned (.tuple #[.slice none 0 0, .int .i64 5])) ∨ ∃ l v, splitR s = some l ∧ e = .returned (.tuple #[v, .int .i64 0]) ∧ Texts w' v l ∧ RoomR v l.length)

set_option maxRecDepth 100000 in
set_option maxHeartbeats 2000000 in
theorem splitOf_any (s : ByteArray) (w : World) (hs : s.size ≤ 1000000) : Calls Tryz.prog 9 #[.string s] w (SplitOfPost s w) := by
  by_cases hst : s = strokeB
  · subst hst
    have HP : Hid (SplitOfPost strokeB w (.returned (.tuple #[.slice none 0 0, .int .i64 0])) w) := ⟨Below.refl _ _, .inr ⟨[], _, splitR_one, rfl, ⟨none, 0, rfl, fun i x hx => by simp at hx⟩, ⟨none, 0, rfl, Nat.le_refl _, by unfold maxLen; omega⟩⟩⟩
    unfold strokeB at HP ⊢
    clear hs
    go_enter Tryz.func9, Tryz.ntmps9
    go_wp2_with fail
    go_ret2
    exact HP.out
  · have hne := stroke_ne hst
    obtain ⟨h, t, hc⟩ := cut_cons s
    have HR : Hid _ := split_cut hst hc
    have hcl : (cutB s).length ≤ 1000001 := by unfold cutB; rw [List.length_map]; have := cutL_le s.data.toList; have h2 : s.data.toList.length = s.size := rfl; omega
    have hsz := cutB_sizes s
    have hcut := cut_any s w hs
    rw [hc] at hcl hcut hsz
    rw [List.length_cons] at hcl
    have HSZ : Hid (∀ x ∈ t, x.size ≤ maxLen) := fun x hx => by have := hsz x (List.mem_cons_of_mem _ hx); unfold maxLen; omega
    have HCUT : Hid (Calls Tryz.prog 34 #[.string s, .int .u8 47] w fun e w' => ∃ v, e = .returned v ∧ w'.ownsRow w.heap.size 9 1 v (h :: t).length ((h :: t).map Value.string) ∧ Below w.heap.size w w') := hcut
    have HNO : Hid (splitR s = none → ∀ w', Below w.heap.size w w' → SplitOfPost s w (.returned (.tuple #[.slice none 0 0, .int .i64 5])) w') := fun h w' hb => ⟨hb, .inl ⟨h, rfl⟩⟩
    have HYES : Hid (splitR s = some t → ∀ v w', Below w.heap.size w w' → Texts w' v t → RoomR v t.length → SplitOfPost s w (.returned (.tuple #[v, .int .i64 0])) w') := fun h v w' hb ht hr => ⟨hb, .inr ⟨t, v, h, rfl, ht, hr⟩⟩
    generalize SplitOfPost s w = Q at *
    clear hs hsz hcut hst hc
    go_enter Tryz.func9, Tryz.ntmps9
    go_wp2_with fail
    refine Calls.mono HCUT.out ?_
    rintro e w1 ⟨v, rfl, ho, hb⟩
    clear HCUT
    rcases ho.2 with ⟨hv, hn⟩ | ⟨g, cap, cur, hv, hrow⟩
    · simp at hn
    subst hv
    have hx := Texts.of_own (l := h :: t) (by rw [List.length_cons]; rw [List.length_cons] at ho; exact ho)
    obtain ⟨ad, cp, hea, hx⟩ := hx
    have hcell : ∀ (i : Nat) (x : ByteArray), (h :: t)[i]? = some x → w1.cell? ⟨g, i, none⟩ = some (.string x) := fun i x hi => by
      obtain ⟨b, o, e1, e2⟩ := hx i x hi
      injection hea with e3 _ _
      rw [e1] at e3
      simp only [Option.some.injEq, Addr.mk.injEq] at e3
      obtain ⟨rfl, rfl, _⟩ := e3
      rw [Nat.zero_add] at e2
      exact e2
    have c0 := hcell 0 h rfl
    have HC : Hid (∀ (i : Nat) (x : ByteArray), t[i]? = some x → w1.cell? ⟨g, i + 1, none⟩ = some (.string x)) := fun i x hi => hcell (i + 1) x hi
    have hca : t.length + 1 ≤ cap ∧ cap ≤ maxLen := ⟨by have := hrow.2.2.1; rwa [List.length_cons] at this, hrow.2.2.2.1⟩
    obtain ⟨hca1, hca2⟩ := hca
    have HB : Hid (Below w.heap.size w w1) := hb
    rw [List.length_cons]
    clear hx hea hcell hrow ho hb
    by_cases ht0 : t.length = 0
    · have HN : Hid (splitR s = none) := show _ = _ by rw [HR.out, if_neg (fun hh => by omega)]
      rw [ht0] at *
      go_wp2_with fail
      exact HNO.out HN.out _ HB.out
    cases he : h.toList.isEmpty with
    | false =>
      have HN : Hid (splitR s = none) := show _ = _ by rw [HR.out, if_neg (fun hh => by rw [hh.1] at he; simp at he)]
      go_wp2_with fail
      exact HNO.out HN.out _ HB.out
    | true =>
      have hee : h = ByteArray.empty := empty_of he
      by_cases h8 : t.length ≤ 8
      · have HBAD : Hid (t.all nameB = false → splitR s = none) := fun hh => by rw [HR.out, if_neg (fun h2 => by rw [hh] at h2; exact absurd h2.2.2.2 (by simp))]
        have HGOOD : Hid (t.all nameB = true → splitR s = some t) := fun hh => by rw [HR.out, if_pos ⟨hee, by omega, h8, hh⟩]
        have ht1 : (1 : Int) ≤ (t.length : Int) := by omega
        have h8' : (t.length : Int) ≤ 8 := by omega
        clear HR hee
        go_wp2_with fail
        clear he c0 ht0
        go_loop [5] (fun i => ∃ j : Nat, j ≤ t.length ∧ i = .int .i64 ((j : Int) + 1) ∧ (t.take j).all nameB = true) (fun i => t.length + 1 - (intOf i).toNat)
        case atStart => exact ⟨0, Nat.zero_le _, rfl, by simp⟩
        case round =>
          obtain ⟨j, hj, rfl, hall⟩ := hrel
          have HALL : Hid _ := hall
          clear hall
          by_cases hlt : j < t.length
          · obtain ⟨x, hx⟩ : ∃ x, t[j]? = some x := ⟨t[j], List.getElem?_eq_getElem hlt⟩
            have cj := HC.out j x hx
            have HNM : Hid _ := isName_any x w1 (HSZ.out x (List.mem_of_getElem? hx))
            have HX : Hid _ := hx
            have hj0 : (0 : Int) ≤ (j : Int) := by omega
            have hj1 : (j : Int) < (t.length : Int) := by omega
            clear hx
            cases hn : nameB x with
            | false =>
              have HN : Hid (splitR s = none) := HBAD.out (not_all HX.out hn)
              rw [hn] at HNM
              go_wp2_with fail
              refine Calls.mono HNM.out ?_
              rintro e w2 ⟨rfl, rfl⟩
              go_wp2_with fail
              exact HNO.out HN.out _ HB.out
            | true =>
              have HTR : Hid ((t.take (j + 1)).all nameB = true) := show _ = _ by rw [all_to HX.out, HALL.out, hn]; rfl
              rw [hn] at HNM
              go_wp2_with fail
              refine Calls.mono HNM.out ?_
              rintro e w2 ⟨rfl, rfl⟩
              go_wp2_with fail
              go_round
              case rel => exact ⟨j + 1, by omega, by go_num, HTR.out⟩
              case measure => simp [intOf]; omega
          · have HG : Hid (splitR s = some t) := HGOOD.out (by have := HALL.out; rw [List.take_of_length_le (by omega)] at this; exact this)
            go_wp2_with fail
            refine HYES.out HG.out _ _ HB.out ⟨_, _, rfl, fun i x hx => ⟨_, _, rfl, ?_⟩⟩ ⟨_, _, rfl, ?_, ?_⟩
            · rw [Nat.add_comm]; exact HC.out i x hx
            · omega
            · omega
      · have HN : Hid (splitR s = none) := show _ = _ by rw [HR.out, if_neg (fun hh => h8 hh.2.2.1)]
        go_wp2_with fail
        exact HNO.out HN.out _ HB.out

set_option maxRecDepth 100000 in
set_option maxHeartbeats 2000000 in
theorem findOf_any (l : List (ByteArray × Nat × Tree)) (g cap : Nat) (s : ByteArray) (w : World) (hl : l.length ≤ 1000000) (ht : ToldAt l g w) : Calls Tryz.prog 42 #[.slice (some ⟨g, 0, none⟩) l.length cap, .string s] w fun e w' => Below w.heap.size w w' ∧
    ((e = .returned (.int .i64 (-1)) ∧ ∀ x ∈ l, fixP x.1 ≠ s) ∨ ∃ (k : Nat) (x : ByteArray × Nat × Tree), e = .returned (.int .i64 k) ∧ l[k]? = some x ∧ fixP x.1 = s) := by
  have HC : Hid (∀ (i : Nat) (x : ByteArray × Nat × Tree), l[i]? = some x → w.cell? ⟨g, i * 6, none⟩ = some (.string (fixP x.1))) := fun i x hx => (ht i x hx).1
  clear ht
  go_enter Tryz.func42, Tryz.ntmps42
  go_wp2_with fail
  go_loopw [5] (fun i wr => ∃ k m : Nat, k ≤ l.length ∧ i = .int .i64 k ∧ wr = w.drewN m ∧ ∀ x ∈ l.take k, fixP x.1 ≠ s) (fun i _ => l.length - (intOf i).toNat)
  case atStart => exact ⟨0, 0, Nat.zero_le _, rfl, rfl, fun x hx => by simp at hx⟩
  case round =>
    obtain ⟨k, m, hk, rfl, rfl, hq⟩ := hrel
    have HQ : Hid _ := hq
    clear hq
    by_cases hlt : k < l.length
    · obtain ⟨x, hx⟩ : ∃ x, l[k]? = some x := ⟨l[k], List.getElem?_eq_getElem hlt⟩
      have c1 := HC.out k x hx
      have HX : Hid _ := hx
      clear hx
      cases hxy : ((fixP x.1).toList == s.toList)
      · have HT : Hid (∀ y ∈ l.take (k + 1), fixP y.1 ≠ s) := fun y hy => by
          rw [List.take_succ_eq_append_getElem hlt, List.mem_append, List.mem_singleton] at hy
          rcases hy with hy | rfl
          · exact HQ.out y hy
          · intro e
            have h2 : l[k] = x := by have := HX.out; rw [List.getElem?_eq_getElem hlt] at this; exact Option.some.inj this
            rw [h2] at e
            rw [e] at hxy
            simp at hxy
        go_wp2_with fail
        go_roundw
        case rel => exact ⟨k + 1, _, by omega, by go_num, rfl, HT.out⟩
        case measure => simp [intOf]; omega
      · have HE : Hid (fixP x.1 = s) := show _ = _ by
          have h := beq_iff_eq.1 hxy
          rw [ByteArray.toList_eq, ByteArray.toList_eq] at h
          exact ba_ext' h
        go_wp2_with fail
        go_ret
        exact ⟨below_drewN (Below.refl _ _) _, .inr ⟨k, x, rfl, HX.out, HE.out⟩⟩
    · have HA : Hid (∀ x ∈ l, fixP x.1 ≠ s) := fun x hx => HQ.out x (by rw [List.take_of_length_le (by omega)]; exact hx)
      go_wp2_with fail
      go_ret
      exact ⟨below_drewN (Below.refl _ _) _, .inl ⟨rfl, HA.out⟩⟩
end Go.Proofs.YtpjjpmikhjlgnaaGreatDoor
namespace Go.Proofs.YtpjjpmikhjlgnaaGreatDoor
open Go.RowKit

/-- A tree's nodes, each with its names. -/
def preN : Nat → List ByteArray → Tree → List (List ByteArray × Tree)
  | 0, _, _ => []
  | d + 1, ns, t => (ns, t) :: t.kids.flatMap fun x => preN d (ns ++ [x.1]) x.2
theorem joinB_app (l : List ByteArray) (x : ByteArray) : joinB (l ++ [x]) = joinB l ++ slash ++ x := by
  have h := joinB_snoc (l := l ++ [x]) (j := l.length) (x := x) (by simp)
  rw [List.take_of_length_le (by simp), List.take_left] at h
  exact h
theorem pre_names : ∀ (d : Nat) (ns : List ByteArray) (t : Tree), pre d (joinB ns) ns.length t = (preN d ns t).map fun x => (joinB x.1, x.1.length, x.2)
  | 0, _, _ => rfl
  | d + 1, ns, t => by
    simp only [pre, preN, List.map_cons, List.map_flatMap]
    congr 1
    rw [List.flatMap_def, List.flatMap_def]
    congr 1
    apply List.map_congr_left
    intro x _
    have h := pre_names d (ns ++ [x.1]) x.2
    rw [joinB_app, List.length_append] at h
    exact h
/-- Names are names, all the way down; so deep at most. -/
def NamesD : Nat → Tree → Prop
  | 0, _ => False
  | d + 1, t => ∀ x ∈ t.kids, nameB x.1 = true ∧ NamesD d x.2
theorem names_dir {t : Tree} (h : nodeErr t = none) : ∀ x ∈ t.kids, nameB x.1 = true := by
  obtain ⟨kd, da, ex, ki⟩ := t
  unfold nodeErr at h
  have nil : ki.length = 0 → ∀ x ∈ ki, nameB x.1 = true := fun e x hx => by
    rw [List.eq_nil_of_length_eq_zero e] at hx
    simp at hx
  split at h
  · unfold fileErr at h
    split at h
    · cases h
    · rename_i h1
      exact nil (by simp only at h1; omega)
  · split at h
    · unfold dirErr at h
      split at h
      · cases h
      · split at h
        · rename_i h2
          exact fun x hx => List.all_eq_true.1 h2 x hx
        · cases h
    · split at h
      · unfold linkErr at h
        split at h
        · cases h
        · rename_i h1
          simp only [not_or] at h1
          exact nil (by have := h1.2; omega)
      · cases h
theorem names_tree : ∀ {d : Nat} {p : ByteArray} {k : Nat} {t : Tree}, Fit d t → (∀ x ∈ pre d p k t, nodeErr x.2.2 = none) → NamesD d t
  | 0, _, _, _, h, _ => h
  | d + 1, p, k, t, h, ho => by
    simp only [pre] at ho
    exact fun y hy => ⟨names_dir (ho (p, k, t) List.mem_cons_self) y hy, names_tree (p := p ++ slash ++ y.1) (k := k + 1) (h y hy) fun x hx => ho x (List.mem_cons_of_mem _ (List.mem_flatMap.2 ⟨y, hy, hx⟩))⟩
/-- Each node is where its names lead. -/
theorem preN_at : ∀ {d : Nat} {ns : List ByteArray} {t : Tree}, RisesD d t → NamesD d t → ∀ x ∈ preN d ns t, ∃ m, x.1 = ns ++ m ∧ atR m t = some x.2 ∧ m.all nameB = true
  | 0, _, _, h, _, _, _ => h.elim
  | d + 1, ns, t, hr, hn, x, hx => by
    simp only [preN, List.mem_cons, List.mem_flatMap] at hx
    rcases hx with rfl | ⟨y, hy, hx⟩
    · exact ⟨[], by simp, rfl, rfl⟩
    · obtain ⟨m, e, ha, hall⟩ := preN_at (hr.2 y hy) (hn y hy).2 x hx
      obtain ⟨i, hi, hiy⟩ := List.getElem_of_mem hy
      have hyi : t.kids[i]? = some y := by rw [List.getElem?_eq_getElem hi, hiy]
      refine ⟨y.1 :: m, by rw [e]; simp, ?_, by rw [List.all_cons, (hn y hy).1, hall]; rfl⟩
      have hk : kidOf t y.1 = some y.2 := by
        unfold kidOf
        rw [if_pos (there_at hr.1 hyi), place_at hr.1 hyi, hyi]
        rfl
      simp only [atR, hk]
      exact ha
/-- No two nodes have the same names. -/
theorem preN_nodup : ∀ {d : Nat} {ns : List ByteArray} {t : Tree}, RisesD d t → ((preN d ns t).map (·.1)).Nodup
  | 0, _, _, h => h.elim
  | d + 1, ns, t, hr => by
    have pref : ∀ (y : ByteArray × Tree), RisesD d y.2 → ∀ z ∈ (preN d (ns ++ [y.1]) y.2).map (·.1), ∃ m, z = ns ++ y.1 :: m := fun y _ z hz => by
      have key : ∀ (d : Nat) (ms : List ByteArray) (t : Tree), ∀ z ∈ (preN d ms t).map (·.1), ∃ m, z = ms ++ m := by
        intro d
        induction d with
        | zero => intro ms t z hz; simp [preN] at hz
        | succ d ih =>
          intro ms t z hz
          simp only [preN, List.map_cons, List.map_flatMap, List.mem_cons, List.mem_flatMap] at hz
          rcases hz with rfl | ⟨x, _, hz⟩
          · exact ⟨[], by simp⟩
          · obtain ⟨m, e⟩ := ih _ _ z hz
            exact ⟨x.1 :: m, by rw [e]; simp⟩
      obtain ⟨m, e⟩ := key d _ _ z hz
      exact ⟨m, by rw [e]; simp⟩
    simp only [preN, List.map_cons, List.map_flatMap]
    rw [List.nodup_cons]
    refine ⟨fun h => ?_, ?_⟩
    · obtain ⟨y, hy, hz⟩ := List.mem_flatMap.1 h
      obtain ⟨m, e⟩ := pref y (hr.2 y hy) ns hz
      have := congrArg List.length e
      simp at this
    · have dist : ∀ (l : List (ByteArray × Tree)), Rises l → (∀ x ∈ l, RisesD d x.2) → (l.flatMap fun x => (preN d (ns ++ [x.1]) x.2).map (·.1)).Nodup := by
        intro l
        induction l with
        | nil => intro _ _; simp
        | cons y l ih =>
          intro h1 h2
          rw [List.flatMap_cons, List.nodup_append]
          refine ⟨preN_nodup (h2 y (by simp)), ih (fun i j x z hij hx hz => h1 (i + 1) (j + 1) x z (by omega) (by simpa using hx) (by simpa using hz)) (fun x hx => h2 x (by simp [hx])), fun z hz z' hz' e => ?_⟩
          subst e
          obtain ⟨m, e1⟩ := pref y (h2 y (by simp)) z hz
          obtain ⟨x, hx, hzx⟩ := List.mem_flatMap.1 hz'
          obtain ⟨m', e2⟩ := pref x (h2 x (by simp [hx])) z hzx
          rw [e1] at e2
          have e3 := List.append_cancel_left e2
          injection e3 with e4 _
          obtain ⟨i, hi, hix⟩ := List.getElem_of_mem hx
          have := h1 0 (i + 1) y x (by omega) rfl (by rw [List.getElem?_cons_succ, List.getElem?_eq_getElem hi, hix])
          rw [e4, less_irrefl] at this
          cases this
      exact dist t.kids hr.1 hr.2
end Go.Proofs.YtpjjpmikhjlgnaaGreatDoor
namespace Go.Proofs.YtpjjpmikhjlgnaaGreatDoor
open Go.RowKit
attribute [local go_sem ↓] Go.wp_at_zero Go.wp_at_succ

theorem preN_mem : ∀ {l : List ByteArray} {d : Nat} {ns : List ByteArray} {t k : Tree}, Fit d t → atR l t = some k → (ns ++ l, k) ∈ preN d ns t
  | _, 0, _, _, _, h, _ => h.elim
  | [], d + 1, ns, t, k, _, e => by
    simp only [atR, Option.some.injEq] at e
    subst e
    simp [preN]
  | x :: l, d + 1, ns, t, k, h, e => by
    simp only [atR] at e
    cases hk : kidOf t x with
    | none => rw [hk] at e; cases e
    | some y =>
      rw [hk] at e
      simp only at e
      unfold kidOf at hk
      split at hk
      · rename_i hth
        cases hx : t.kids[placeOf t.kids x]? with
        | none => rw [hx] at hk; cases hk
        | some z =>
          rw [hx] at hk
          simp only [Option.map_some, Option.some.injEq] at hk
          subst hk
          have hm := List.mem_of_getElem? hx
          have hq := preN_mem (d := d) (ns := ns ++ [z.1]) (h z hm) e
          have hzx : z.1 = x := by
            obtain ⟨y, hy, e1⟩ := there_some hth
            rw [hx] at hy
            injection hy with hy
            rw [hy]
            exact e1
          rw [hzx, List.append_assoc] at hq
          simp only [preN]
          exact List.mem_cons_of_mem _ (List.mem_flatMap.2 ⟨z, hm, by rw [hzx]; exact hq⟩)
      · cases hk
theorem tell_of_split {s : ByteArray} {m : List ByteArray} (h : splitR s = some m) : tellP m = s := by
  rcases split_join h with ⟨h1, h2⟩ | ⟨h1, h2⟩
  · rw [h1, h2]; unfold tellP; rw [joinB_isEmpty]; rfl
  · unfold tellP
    rw [joinB_isEmpty]
    cases m with
    | nil =>
      have he : s = ByteArray.empty := by rw [← h2]; rfl
      rw [he] at h
      have : splitR ByteArray.empty = none := by rw [splitR_nil (by decide) rfl]
      rw [this] at h
      cases h
    | cons x m => exact h2
/-- What is found by its path is what stands at its names. -/
theorem found_at {d : Nat} {t : Tree} {s : ByteArray} {m : List ByteArray} (hf : Fit d t) (h : treeErr d t = none) (hm : splitR s = some m) {x : ByteArray × Nat × Tree} (hx : x ∈ pre d ByteArray.empty 0 t) (he : fixP x.1 = s) : atR m t = some x.2.2 := by
  have hp := pre_names d [] t
  rw [show joinB [] = ByteArray.empty from rfl, List.length_nil] at hp
  rw [hp] at hx
  obtain ⟨y, hy, rfl⟩ := List.mem_map.1 hx
  obtain ⟨n, hn, ha, hnm⟩ := preN_at (rises_well hf h) (names_tree (p := ByteArray.empty) (k := 0) hf fun x hx => ((treeErr_none.1 h).2 x hx).2) y hy
  rw [List.nil_append] at hn
  have hs : splitR (tellP n) = some n := tell_split (at_len hf h ha) hnm
  have ht : tellP n = s := by rw [← he, ← hn]; rfl
  rw [ht, hm] at hs
  injection hs with hs
  rw [hs]
  exact ha
theorem at_found {d : Nat} {t k : Tree} {s : ByteArray} {m : List ByteArray} (hf : Fit d t) (hm : splitR s = some m) (hk : atR m t = some k) : ∃ x ∈ pre d ByteArray.empty 0 t, fixP x.1 = s := by
  have hp := pre_names d [] t
  rw [show joinB [] = ByteArray.empty from rfl, List.length_nil] at hp
  rw [hp]
  refine ⟨_, List.mem_map.2 ⟨_, preN_mem (ns := []) hf hk, rfl⟩, ?_⟩
  exact tell_of_split hm

/-- What the document's answers that are a node hand back. -/
def NdPost (r : Except Nat Tree) (w : World) (e : Ending) (w' : World) : Prop := Below w.heap.size w w' ∧
  ((∃ er : Nat, r = .error er ∧ e = .returned (.tuple #[.agg #[.string { data := #[] }, .string { data := #[] }, .bool false, .slice none 0 0], .int .i64 ((er : Int) + 1)])) ∨
   (∃ k u d', r = .ok k ∧ e = .returned (.tuple #[.agg #[.string k.kind, .string k.data, .bool k.exec, u], .int .i64 0]) ∧ Lies w' w'.heap.size d' k.kids u))

set_option maxRecDepth 100000 in
set_option maxHeartbeats 4000000 in
theorem getOf_any {M : Nat} (B d d2 : Nat) (t : Tree) (u : Value) (s : ByteArray) (w : World) (hB : B ≤ w.heap.size) (hl : Lies w B d t.kids u) (hdat : DatM M d2 t) (hM : M ≤ 1000000) (hs : s.size ≤ 1000000) :
    Calls Tryz.prog 13 #[.agg #[.string t.kind, .string t.data, .bool t.exec, u], .string s] w (NdPost (getR d t s) w) := by
  obtain ⟨ta, tc, rfl⟩ := hl.form
  have hfit : Fit d t := hl.fit
  have hA : Below w.heap.size w ((w.alloc (.cells #[.string t.kind, .string t.data, .bool t.exec, .slice ta t.kids.length tc] 24)).alloc (.cells #[.string { data := #[] }, .string { data := #[] }, .bool false, .slice none 0 0] 24)) := ((Below.refl _ _).alloc (Nat.le_refl _) _).alloc (by simp) _
  have hz : ((w.alloc (.cells #[.string t.kind, .string t.data, .bool t.exec, .slice ta t.kids.length tc] 24)).alloc (.cells #[.string { data := #[] }, .string { data := #[] }, .bool false, .slice none 0 0] 24)).heap.size = w.heap.size + 2 := by simp
  have hbox : ((w.alloc (.cells #[.string t.kind, .string t.data, .bool t.exec, .slice ta t.kids.length tc] 24)).alloc (.cells #[.string { data := #[] }, .string { data := #[] }, .bool false, .slice none 0 0] 24)).heap[w.heap.size]? = some (.cells #[.string t.kind, .string t.data, .bool t.exec, .slice ta t.kids.length tc] 24 (0, 0)) := by
    rw [Below.heap_alloc _ _ _ (by simp)]; exact row_alloc' _ _ _
  have hres : ((w.alloc (.cells #[.string t.kind, .string t.data, .bool t.exec, .slice ta t.kids.length tc] 24)).alloc (.cells #[.string { data := #[] }, .string { data := #[] }, .bool false, .slice none 0 0] 24)).heap[w.heap.size + 1]? = some (.cells #[.string { data := #[] }, .string { data := #[] }, .bool false, .slice none 0 0] 24 (0, 0)) := by
    have := row_alloc' (w.alloc (.cells #[.string t.kind, .string t.data, .bool t.exec, .slice ta t.kids.length tc] 24)) #[.string { data := #[] }, .string { data := #[] }, .bool false, .slice none 0 0] 24
    simpa using this
  have hE := treeError_any B d d2 t (.slice ta t.kids.length tc) _ (by rw [hz]; omega) (hl.below hA hB) hdat hM
  rw [list_errs hfit] at hE
  have HE : Hid _ := hE
  have HSO : Hid (∀ w', Calls Tryz.prog 9 #[.string s] w' (SplitOfPost s w')) := fun w' => splitOf_any s w' hs
  have HI : Hid (∀ l, l = listOf 200 8 t → ∀ w', Below w.heap.size w w' → Calls Tryz.prog 41 #[.agg #[.string t.kind, .string t.data, .bool t.exec, .slice ta t.kids.length tc]] w' fun e w'' => ∃ g cap, e = .returned (.slice (some ⟨g, 0, none⟩) l.length cap) ∧ g < w''.heap.size ∧ ToldAt l g w'' ∧ NodesAt l B g w'' ∧ Below w'.heap.size w' w'') := fun l hll w' h =>
    itemsOf_all B d t _ w' l hll (by have := h.size; omega) (hl.below h hB)
  have HA : Hid _ := hA
  have HLI : Hid (Lies w B d t.kids (.slice ta t.kids.length tc)) := hl
  have HBOX : Hid _ := hbox
  have HRES : Hid _ := hres
  have HFIT : Hid (Fit d t) := hfit
  clear hA hl hdat hbox hres hfit hE
  go_enter Tryz.func13, Tryz.ntmps13
  go_wp2_with fail
  refine Calls.mono HE.out ?_
  clear HE
  rintro e w1 ⟨rfl, hb1⟩
  have HB1 : Hid (Below w.heap.size w w1) := HA.out.trans (hb1.mono (by omega))
  have hz1 := hb1.size
  rw [hz] at hz1
  have hres1 := (hb1.block (w.heap.size + 1) (by omega)).trans HRES.out
  have hbox1 := (hb1.block w.heap.size (by omega)).trans HBOX.out
  have HR1 : Hid _ := hres1
  have HX1 : Hid _ := hbox1
  cases ht : treeErr d t with
  | some er =>
    have HF : Hid (getR d t s = .error er) := getR_tree ht
    obtain ⟨⟨q0, q1, q2, q3⟩, g0, g1, g2, g3⟩ := row4b hres1
    simp only [num]
    clear ht hb1 hres1 hbox1
    go_wp2_with fail
    refine bodyPost_ret (v := .tuple #[.agg #[.string { data := #[] }, .string { data := #[] }, .bool false, .slice none 0 0], .int .i64 ((er : Int) + 1)]) (by simp [results, Tryz.results13, go_sem, q0, q1, q2, q3]) rfl ?_
    have hS := ((((But1.refl (w.heap.size + 1) w1).set 0 (.string { data := #[] })).set 1 (.string { data := #[] })).set 2 (.bool false)).set 3 (.slice none 0 0)
    exact ⟨hS.below HB1.out (by omega), .inl ⟨er, HF.out, rfl⟩⟩
  | none =>
    have HT : Hid (treeErr d t = none) := ht
    simp only [num]
    clear ht hb1 hres1 hbox1
    go_wp2_with fail
    refine Calls.mono (HSO.out _) ?_
    rintro e w2 ⟨hb2, ⟨h2, rfl⟩ | ⟨m, v, h2, rfl, _, _⟩⟩
    · have HF : Hid (getR d t s = .error 4) := getR_split HT.out h2
      have HB2 : Hid (Below w.heap.size w w2) := HB1.out.trans (hb2.mono HB1.out.size)
      have hz2 := hb2.size
      have hres2 := (hb2.block (w.heap.size + 1) (by omega)).trans HR1.out
      obtain ⟨⟨q0, q1, q2, q3⟩, g0, g1, g2, g3⟩ := row4b hres2
      clear hb2 h2 hres2
      go_wp2_with fail
      refine bodyPost_ret (v := .tuple #[.agg #[.string { data := #[] }, .string { data := #[] }, .bool false, .slice none 0 0], .int .i64 5]) (by simp [results, Tryz.results13, go_sem, q0, q1, q2, q3]) rfl ?_
      have hS := ((((But1.refl (w.heap.size + 1) w2).set 0 (.string { data := #[] })).set 1 (.string { data := #[] })).set 2 (.bool false)).set 3 (.slice none 0 0)
      exact ⟨hS.below HB2.out (by omega), .inl ⟨4, HF.out, rfl⟩⟩
    · have H2 : Hid (splitR s = some m) := h2
      have HB2 : Hid (Below w.heap.size w w2) := HB1.out.trans (hb2.mono HB1.out.size)
      have hz2 := hb2.size
      have HR2 : Hid _ := (hb2.block (w.heap.size + 1) (by omega)).trans HR1.out
      have hbox2 := (hb2.block w.heap.size (by omega)).trans HX1.out
      obtain ⟨⟨y0, y1, y2, y3⟩, _⟩ := row4b hbox2
      obtain ⟨l, hll⟩ : ∃ l, l = listOf 200 8 t := ⟨_, rfl⟩
      have HIT : Hid _ := HI.out l hll w2 HB2.out
      have hpl : l = pre d ByteArray.empty 0 t := hll.trans (well_list HFIT.out HT.out)
      have HPL : Hid (l = pre d ByteArray.empty 0 t) := hpl
      have hlen : l.length ≤ 1000000 := by
        rw [hpl]
        have := (treeErr_none.1 HT.out).1
        omega
      clear hb2 h2 hbox2 hpl hll HI HSO
      go_wp2_with fail
      refine Calls.mono HIT.out ?_
      clear HIT y0 y1 y2 y3
      rintro e w3 ⟨g, cap, rfl, hg, hT, hN, hb3⟩
      have HB3 : Hid (Below w.heap.size w w3) := HB2.out.trans (hb3.mono HB2.out.size)
      have hz3 := hb3.size
      have HR3 : Hid _ := (hb3.block (w.heap.size + 1) (by omega)).trans HR2.out
      have HFD : Hid _ := findOf_any l g cap s w3 hlen hT
      have HTO : Hid (ToldAt l g w3) := hT
      have HNO : Hid (NodesAt l B g w3) := hN
      clear hb3 hT hN
      go_wp2_with fail
      refine Calls.mono HFD.out ?_
      clear HFD
      rintro e w4 ⟨hb4, ⟨rfl, h3⟩ | ⟨k, x, rfl, hx, h3⟩⟩
      · have HB4 : Hid (Below w.heap.size w w4) := HB3.out.trans (hb4.mono HB3.out.size)
        have hz4 := hb4.size
        have hres4 := (hb4.block (w.heap.size + 1) (by omega)).trans HR3.out
        obtain ⟨⟨q0, q1, q2, q3⟩, g0, g1, g2, g3⟩ := row4b hres4
        have HF : Hid (getR d t s = .error 5) := getR_none HT.out H2.out (by
          cases hat : atR m t with
          | none => rfl
          | some k =>
            obtain ⟨x, hx, he⟩ := at_found HFIT.out H2.out hat
            exact absurd he (h3 x (by rw [HPL.out]; exact hx)))
        clear hb4 h3 hres4
        go_wp2_with fail
        refine bodyPost_ret (v := .tuple #[.agg #[.string { data := #[] }, .string { data := #[] }, .bool false, .slice none 0 0], .int .i64 6]) (by simp [results, Tryz.results13, go_sem, q0, q1, q2, q3]) rfl ?_
        have hS := ((((But1.refl (w.heap.size + 1) w4).set 0 (.string { data := #[] })).set 1 (.string { data := #[] })).set 2 (.bool false)).set 3 (.slice none 0 0)
        exact ⟨hS.below HB4.out (by omega), .inl ⟨5, HF.out, rfl⟩⟩
      · have HB4 : Hid (Below w.heap.size w w4) := HB3.out.trans (hb4.mono HB3.out.size)
        have hz4 := hb4.size
        have hres4 := (hb4.block (w.heap.size + 1) (by omega)).trans HR3.out
        obtain ⟨⟨q0, q1, q2, q3⟩, g0, g1, g2, g3⟩ := row4b hres4
        have HF : Hid (getR d t s = .ok x.2.2) := getR_some HT.out H2.out (found_at HFIT.out HT.out H2.out (by rw [← HPL.out]; exact List.mem_of_getElem? hx) h3)
        obtain ⟨_, p2, p3⟩ := HTO.out k x hx
        obtain ⟨dk, uk, p4, p5, hlk⟩ := HNO.out k x hx
        have hkl := (List.getElem?_eq_some_iff.1 hx).1
        have r2 : w4.cell? ⟨g, k * 6 + 2, none⟩ = _ := (hb4.cell (p := ⟨g, k * 6 + 2, none⟩) hg).trans p2
        have r3 : w4.cell? ⟨g, k * 6 + 3, none⟩ = _ := (hb4.cell (p := ⟨g, k * 6 + 3, none⟩) hg).trans p3
        have r4 : w4.cell? ⟨g, k * 6 + 4, none⟩ = _ := (hb4.cell (p := ⟨g, k * 6 + 4, none⟩) hg).trans p4
        have r5 : w4.cell? ⟨g, k * 6 + 5, none⟩ = _ := (hb4.cell (p := ⟨g, k * 6 + 5, none⟩) hg).trans p5
        have HLK : Hid (Lies w4 B dk x.2.2.kids uk) := hlk.below hb4 (by omega)
        obtain ⟨ka, kc, rfl⟩ := hlk.form
        have hk0 : (0 : Int) ≤ (k : Int) := by omega
        have hk1 : (k : Int) < (l.length : Int) := by omega
        clear hb4 h3 hres4 p2 p3 p4 p5 hlk hx
        go_wp2_with fail
        refine bodyPost_ret (v := .tuple #[.agg #[.string x.2.2.kind, .string x.2.2.data, .bool x.2.2.exec, .slice ka x.2.2.kids.length kc], .int .i64 0]) (by simp [results, Tryz.results13, go_sem, q0, q1, q2, q3]) rfl ?_
        have hS := ((((But1.refl (w.heap.size + 1) w4).set 0 (.string x.2.2.kind)).set 1 (.string x.2.2.data)).set 2 (.bool x.2.2.exec)).set 3 (.slice ka x.2.2.kids.length kc)
        exact ⟨hS.below HB4.out (by omega), .inr ⟨x.2.2, _, dk, HF.out, rfl, (HLK.out.below (hS.below (Below.refl w.heap.size w4) (by omega)) hB).up (by rw [hS.size]; omega) (Nat.le_refl _)⟩⟩
end Go.Proofs.YtpjjpmikhjlgnaaGreatDoor
