/-
  The contracts of the document's answer for a path's names: stillroomref1's Cut, SplitOf and FindOf.
  Conditions: the text has no more than a million bytes.
-/
import Derived.Test.YtpjjpmikhjlgnaaGreatDoorRefA
import Derived.Test.YtpjjpmikhjlgnaaGreatDoorRefIt
import Derived.Test.YtpjjpmikhjlgnaaGreatDoorFollows
import Derived.Test.YtpjjpmikhjlgnaaGreatDoorPathT
import Derived.Test.YtpjjpmikhjlgnaaGreatDoorClear
import Derived.Test.YtpjjpmikhjlgnaaGreatDoorPSplit
import Derived.Test.YtpjjpmikhjlgnaaGreatDoorTexts
namespace Go.Proofs.YtpjjpmikhjlgnaaGreatDoor
open Go.RowKit
attribute [local go_sem ↓] Go.wp_at_zero Go.wp_at_succ

theorem infoS : (Tryz.prog.info? 9).map (fun i => (i.zero, i.size, i.bytes)) = some (some (.string { data := #[] }), 1, 16) := by kernel_rfl
/-- A piece ahead of others. -/
def glueL (c : List UInt8) : List (List UInt8) → List (List UInt8)
  | [] => [c]
  | h :: t => (c ++ h) :: t
theorem glue_stroke (c l : List UInt8) : glueL c (cutL (47 :: l)) = c :: cutL l := by rw [cutL_stroke]; simp [glueL]
theorem glue_byte {b : UInt8} (hb : b ≠ 47) (c l : List UInt8) : glueL c (cutL (b :: l)) = glueL (c ++ [b]) (cutL l) := by
  obtain ⟨h, t, e⟩ : ∃ h t, cutL l = h :: t := by
    cases h : cutL l with
    | nil => exact absurd h (cutL_ne l)
    | cons a b => exact ⟨a, b, rfl⟩
  rw [cutL_byte hb e, e]
  simp [glueL]
theorem glue_nil (l : List UInt8) : glueL [] (cutL l) = cutL l := by
  cases h : cutL l with
  | nil => exact absurd h (cutL_ne l)
  | cons a b => rfl
theorem part_list (s : ByteArray) (f j : Nat) : (s.extract f j).data.toList = (s.data.toList.take j).drop f := by
  rw [ByteArray.data_extract, Array.toList_extract]
  show (s.data.toList.drop f).take (j - f) = _
  rw [List.drop_take]
theorem part_snoc (s : ByteArray) {f j : Nat} (hf : f ≤ j) (hj : j < s.size) : (s.data.toList.take (j + 1)).drop f = (s.data.toList.take j).drop f ++ [s[j]] := by
  rw [take_snoc s j hj, List.drop_append_of_le_length (by rw [List.length_take]; have : s.data.toList.length = s.size := rfl; omega)]
theorem drop_at (s : ByteArray) {j : Nat} (hj : j < s.size) : s.data.toList.drop j = s[j] :: s.data.toList.drop (j + 1) := by
  rw [List.drop_eq_getElem_cons (by have : s.data.toList.length = s.size := rfl; omega)]
  rfl
theorem cutB_map (s : ByteArray) : (cutB s).map (·.data.toList) = cutL s.data.toList := by
  unfold cutB
  rw [List.map_map]
  exact (List.map_congr_left fun x _ => by simp).trans (List.map_id _)
theorem map_list {a b : List ByteArray} (h : a.map (·.data.toList) = b.map (·.data.toList)) : a = b := by
  induction a generalizing b with
  | nil => cases b with
    | nil => rfl
    | cons y b => simp at h
  | cons x a ih =>
    cases b with
    | nil => simp at h
    | cons y b =>
      simp only [List.map_cons, List.cons.injEq] at h
      rw [ba_ext' h.1, ih h.2]

set_option maxRecDepth 100000 in
set_option maxHeartbeats 2000000 in
theorem cut_any (s : ByteArray) (w : World) (hs : s.size ≤ 1000000) : Calls Tryz.prog 34 #[.string s, .int .u8 47] w fun e w' => ∃ v, e = .returned v ∧ w'.ownsRow w.heap.size 9 1 v (cutB s).length ((cutB s).map Value.string) ∧ Below w.heap.size w w' := by
  obtain ⟨i0, hi0, hz0, hz1, hz2⟩ := info_parts infoS
  have hlc : (cutL s.data.toList).length ≤ s.size + 1 := cutL_le _
  have HCU : Hid (∀ q : List ByteArray, q.map (·.data.toList) = cutL s.data.toList → q = cutB s) := fun q h => map_list (by rw [h, cutB_map])
  go_enter Tryz.func34, Tryz.ntmps34
  go_wp2_with fail
  go_loopw [5, 6, 7] (fun v f i wr => ∃ (j fr : Nat) (q : List ByteArray), j ≤ s.size ∧ fr ≤ j ∧ i = .int .i64 j ∧ f = .int .i64 fr ∧ Hid (cutL s.data.toList = q.map (·.data.toList) ++ glueL ((s.data.toList.take j).drop fr) (cutL (s.data.toList.drop j))) ∧ wr.ownsRow w.heap.size 9 1 v q.length (q.map Value.string) ∧ Below w.heap.size w wr) (fun _ _ i _ => s.size - (intOf i).toNat)
  case atStart => exact ⟨0, 0, [], Nat.zero_le _, Nat.le_refl _, rfl, rfl, (by show _ = _; simp only [List.take_zero, List.drop_zero, List.drop_nil, List.map_nil, List.nil_append, glue_nil]), ⟨rfl, .inl ⟨rfl, rfl⟩⟩, Below.refl _ _⟩
  case round =>
    obtain ⟨j, fr, q, hj, hfr, rfl, rfl, HEQ, hown, hb⟩ := hrel
    have hql : q.length ≤ 1000001 := by
      have h := congrArg List.length HEQ.out
      rw [List.length_append, List.length_map] at h
      omega
    have HOWN : Hid _ := hown
    have HB : Hid (Below w.heap.size w wr) := hb
    have hws : w.heap.size ≤ wr.heap.size := hb.size
    have hj0 : (0 : Int) ≤ (j : Int) := by omega
    have hf0 : (0 : Int) ≤ (fr : Int) := by omega
    have hfj : (fr : Int) ≤ (j : Int) := by omega
    have hjs : (j : Int) ≤ (s.size : Int) := by omega
    have hfs : (fr : Int) ≤ (s.size : Int) := by omega
    clear hown hb
    by_cases hlt : j < s.size
    · have hj1 : (j : Int) < (s.size : Int) := by omega
      cases hc : ((s[j].toNat : Int) == 47) with
      | false =>
        have hne : s[j] ≠ 47 := fun e => by rw [e] at hc; revert hc; decide
        have HE2 : Hid (cutL s.data.toList = q.map (·.data.toList) ++ glueL ((s.data.toList.take (j + 1)).drop fr) (cutL (s.data.toList.drop (j + 1)))) := show _ = _ by rw [part_snoc s hfr hlt, ← glue_byte hne, ← drop_at s hlt]; exact HEQ.out
        go_wp2_with fail
        go_roundw
        case rel => exact ⟨j + 1, fr, q, by omega, by omega, by go_num, rfl, HE2.out, HOWN.out, HB.out⟩
        case measure => simp [intOf]; omega
      | true =>
        have hne : s[j] = 47 := by
          have h : (s[j].toNat : Int) = 47 := by simpa using hc
          exact UInt8.toNat_inj.1 (by rw [show (47 : UInt8).toNat = 47 from rfl]; omega)
        have HE2 : Hid (cutL s.data.toList = (q ++ [s.extract fr j]).map (·.data.toList) ++ glueL ((s.data.toList.take (j + 1)).drop (j + 1)) (cutL (s.data.toList.drop (j + 1)))) := show _ = _ by
          have h := HEQ.out
          rw [drop_at s hlt, hne, glue_stroke] at h
          rw [h, List.map_append, List.append_assoc, List.map_singleton, part_list, (List.drop_eq_nil_of_le (by rw [List.length_take]; omega) : (s.data.toList.take (j + 1)).drop (j + 1) = []), glue_nil]
          rfl
        clear HEQ
        have HN : Hid ((wr.alloc (.cells #[.string (s.extract fr j)] 9)).heap[wr.heap.size]? = some (.cells #[.string (s.extract fr j)] 9 (0, 0))) := row_alloc' wr #[.string (s.extract fr j)] 9
        go_wp2_with (at_builtin; go_must (refine wpList_append_lies _ (by rfl) _ _ 28 (by rfl) w.heap.size 9 i0 (.string { data := #[] }) 1 16 Tryz.underlying28 hi0 hz0 hz1 hz2 rfl (by omega) _ q.length (q.map Value.string) (by rfl) (World.ownsRow.alloc HOWN.out _) ⟨wr.heap.size, 0, none⟩ 1 1 [.string (s.extract fr j)] (by rfl) (by rfl) (World.news_of_block (cs := #[.string (s.extract fr j)]) (t := 9) (fr := (0, 0)) HN.out) (by simp [Value.oneCell']) (by omega) (by unfold maxLen; omega) (by omega) (by simp; omega) (wr.heap.size + 1) (by simp) ?_; intro g1 cap' w4 hown1 hgrow hat hlt4; have HG : Hid _ := hgrow; have HO1 : Hid _ := hown1; clear hgrow hown1 hat))
        go_roundw
        case rel =>
          refine ⟨j + 1, j + 1, q ++ [(s.extract fr j)], by omega, by omega, by go_num, by go_num, HE2.out, ?_, ?_⟩
          · rw [List.length_append, List.map_append]
            exact HO1.out
          · exact (HB.out.alloc hws _).grown HG.out (by simp; omega) fun k hk => (World.ownsRow.lt HOWN.out k hk).1
        case measure => simp [intOf]; omega
    · have hjn : j = s.size := by omega
      subst hjn
      have HE2 : Hid (q ++ [s.extract fr s.size] = cutB s) := HCU.out _ (by
        rw [HEQ.out, (List.drop_eq_nil_of_le (Nat.le_refl _) : s.data.toList.drop s.size = []), List.map_append, List.map_singleton, part_list]
        simp [glueL, cutL])
      clear HEQ HCU
      have hsz : (s.size : Int).toNat = s.size := by omega
      have HN : Hid ((wr.alloc (.cells #[.string (s.extract fr s.size)] 9)).heap[wr.heap.size]? = some (.cells #[.string (s.extract fr s.size)] 9 (0, 0))) := row_alloc' wr #[.string (s.extract fr s.size)] 9
      go_wp2_with (at_builtin; go_must (refine wpList_append_lies _ (by rfl) _ _ 28 (by rfl) w.heap.size 9 i0 (.string { data := #[] }) 1 16 Tryz.underlying28 hi0 hz0 hz1 hz2 rfl (by omega) _ q.length (q.map Value.string) (by rfl) (World.ownsRow.alloc HOWN.out _) ⟨wr.heap.size, 0, none⟩ 1 1 [.string (s.extract fr s.size)] (by rfl) (by rfl) (World.news_of_block (cs := #[.string (s.extract fr s.size)]) (t := 9) (fr := (0, 0)) HN.out) (by simp [Value.oneCell']) (by omega) (by unfold maxLen; omega) (by omega) (by simp; omega) (wr.heap.size + 1) (by simp) ?_; intro g1 cap' w4 hown1 hgrow hat hlt4; have HG : Hid _ := hgrow; have HO1 : Hid _ := hown1; clear hgrow hown1 hat))
      go_ret
      refine ⟨_, rfl, ?_, ?_⟩
      · rw [← HE2.out, List.length_append, List.map_append]
        exact HO1.out
      · exact (HB.out.alloc hws _).grown HG.out (by simp; omega) fun k hk => (World.ownsRow.lt HOWN.out k hk).1

/-- A path's names by its pieces. -/
theorem split_cut {s : ByteArray} (hs : s ≠ strokeB) {h : ByteArray} {t : List ByteArray} (hc : cutB s = h :: t) : splitR s = if h = ByteArray.empty ∧ 1 ≤ t.length ∧ t.length ≤ 8 ∧ t.all nameB = true then some t else none := by
  have hm := cutB_map s
  rw [hc, List.map_cons] at hm
  unfold splitR
  rw [if_neg hs]
  cases hl : s.data.toList with
  | nil =>
    rw [hl, show cutL [] = [[]] from rfl, List.cons.injEq] at hm
    have : t = [] := List.map_eq_nil_iff.1 hm.2
    subst this
    rw [if_neg (by simp)]
  | cons c l =>
    rw [hl] at hm
    by_cases h47 : c = 47
    · subst h47
      rw [cutL_stroke, List.cons.injEq] at hm
      have hh : h = ByteArray.empty := ba_ext' hm.1
      have ht : (cutL l).map (fun x => (⟨x.toArray⟩ : ByteArray)) = t := map_list (by
        rw [← hm.2, List.map_map, List.map_map]
        exact List.map_congr_left fun x _ => by simp)
      have hlen : (cutL l).length = t.length := by rw [← ht, List.length_map]
      have hpos := cutL_pos l
      have hall : ((cutL l).all fun x => nameB ⟨x.toArray⟩) = t.all nameB := by rw [← ht, List.all_map]; rfl
      simp only [hall, hlen, ht, hh, true_and]
      by_cases h8 : t.length ≤ 8 ∧ t.all nameB = true
      · rw [if_pos h8, if_pos ⟨by omega, h8⟩]
      · rw [if_neg h8, if_neg (fun h => h8 h.2)]
    · obtain ⟨h2, t2, e2⟩ : ∃ h t, cutL l = h :: t := by
        cases h : cutL l with
        | nil => exact absurd h (cutL_ne l)
        | cons a b => exact ⟨a, b, rfl⟩
      rw [cutL_byte h47 e2, List.cons.injEq] at hm
      have hh : h ≠ ByteArray.empty := fun e => by rw [e] at hm; simp at hm
      simp only [h47, hh, false_and, if_false]
theorem cut_cons (s : ByteArray) : ∃ h t, cutB s = h :: t := by
  cases h : cutB s with
  | nil => exact absurd (List.map_eq_nil_iff.1 h) (cutL_ne _)
  | cons a b => exact ⟨a, b, rfl⟩

theorem empty_of {x : ByteArray} (h : x.toList.isEmpty = true) : x = ByteArray.empty := by
  rw [List.isEmpty_iff, ByteArray.toList_eq] at h
  exact ba_ext' h
/-- What SplitOf hands back. -/
def SplitOfPost (s : ByteArray) (w : World) (e : Ending) (w' : World) : Prop := Below w.heap.size w w' ∧
  ((splitR s = none ∧ e = .returned (.tuple #[.slice none 0 0, .int .i64 5])) ∨ ∃ l v, splitR s = some l ∧ e = .returned (.tuple #[v, .int .i64 0]) ∧ Texts w' v l ∧ RoomR v l.length)

set_option maxRecDepth 100000 in
set_option maxHeartbeats 2000000 in
theorem splitOf_any (s : ByteArray) (w : World) (hs : s.size ≤ 1000000) : Calls Tryz.prog 9 #[.string s] w (SplitOfPost s w) := by
  by_cases hst : s = strokeB
  · subst hst
    have HP : Hid (SplitOfPost strokeB w (.returned (.tuple #[.slice none 0 0, .int .i64 0])) w) := ⟨Below.refl _ _, .inr ⟨[], _, splitR_one, rfl, ⟨none, 0, rfl, fun i x hx => by simp at hx⟩, ⟨none, 0, rfl, Nat.le_refl _, by unfold maxLen; omega⟩⟩⟩
    unfold strokeB at HP ⊢
    clear hs
    go_enter Tryz.func9, Tryz.ntmps9
    go_wp2_with fail
    go_ret2
    exact HP.out
  · have hne := stroke_ne hst
    obtain ⟨h, t, hc⟩ := cut_cons s
    have HR : Hid _ := split_cut hst hc
    have hcl : (cutB s).length ≤ 1000001 := by unfold cutB; rw [List.length_map]; have := cutL_le s.data.toList; have h2 : s.data.toList.length = s.size := rfl; omega
    have hsz := cutB_sizes s
    have hcut := cut_any s w hs
    rw [hc] at hcl hcut hsz
    rw [List.length_cons] at hcl
    have HSZ : Hid (∀ x ∈ t, x.size ≤ maxLen) := fun x hx => by have := hsz x (List.mem_cons_of_mem _ hx); unfold maxLen; omega
    have HCUT : Hid (Calls Tryz.prog 34 #[.string s, .int .u8 47] w fun e w' => ∃ v, e = .returned v ∧ w'.ownsRow w.heap.size 9 1 v (h :: t).length ((h :: t).map Value.string) ∧ Below w.heap.size w w') := hcut
    have HNO : Hid (splitR s = none → ∀ w', Below w.heap.size w w' → SplitOfPost s w (.returned (.tuple #[.slice none 0 0, .int .i64 5])) w') := fun h w' hb => ⟨hb, .inl ⟨h, rfl⟩⟩
    have HYES : Hid (splitR s = some t → ∀ v w', Below w.heap.size w w' → Texts w' v t → RoomR v t.length → SplitOfPost s w (.returned (.tuple #[v, .int .i64 0])) w') := fun h v w' hb ht hr => ⟨hb, .inr ⟨t, v, h, rfl, ht, hr⟩⟩
    generalize SplitOfPost s w = Q at *
    clear hs hsz hcut hst hc
    go_enter Tryz.func9, Tryz.ntmps9
    go_wp2_with fail
    refine Calls.mono HCUT.out ?_
    rintro e w1 ⟨v, rfl, ho, hb⟩
    clear HCUT
    rcases ho.2 with ⟨hv, hn⟩ | ⟨g, cap, cur, hv, hrow⟩
    · simp at hn
    subst hv
    have hx := Texts.of_own (l := h :: t) (by rw [List.length_cons]; rw [List.length_cons] at ho; exact ho)
    obtain ⟨ad, cp, hea, hx⟩ := hx
    have hcell : ∀ (i : Nat) (x : ByteArray), (h :: t)[i]? = some x → w1.cell? ⟨g, i, none⟩ = some (.string x) := fun i x hi => by
      obtain ⟨b, o, e1, e2⟩ := hx i x hi
      injection hea with e3 _ _
      rw [e1] at e3
      simp only [Option.some.injEq, Addr.mk.injEq] at e3
      obtain ⟨rfl, rfl, _⟩ := e3
      rw [Nat.zero_add] at e2
      exact e2
    have c0 := hcell 0 h rfl
    have HC : Hid (∀ (i : Nat) (x : ByteArray), t[i]? = some x → w1.cell? ⟨g, i + 1, none⟩ = some (.string x)) := fun i x hi => hcell (i + 1) x hi
    have hca : t.length + 1 ≤ cap ∧ cap ≤ maxLen := ⟨by have := hrow.2.2.1; rwa [List.length_cons] at this, hrow.2.2.2.1⟩
    obtain ⟨hca1, hca2⟩ := hca
    have HB : Hid (Below w.heap.size w w1) := hb
    rw [List.length_cons]
    clear hx hea hcell hrow ho hb
    by_cases ht0 : t.length = 0
    · have HN : Hid (splitR s = none) := show _ = _ by rw [HR.out, if_neg (fun hh => by omega)]
      rw [ht0] at *
      go_wp2_with fail
      exact HNO.out HN.out _ HB.out
    cases he : h.toList.isEmpty with
    | false =>
      have HN : Hid (splitR s = none) := show _ = _ by rw [HR.out, if_neg (fun hh => by rw [hh.1] at he; simp at he)]
      go_wp2_with fail
      exact HNO.out HN.out _ HB.out
    | true =>
      have hee : h = ByteArray.empty := empty_of he
      by_cases h8 : t.length ≤ 8
      · have HBAD : Hid (t.all nameB = false → splitR s = none) := fun hh => by rw [HR.out, if_neg (fun h2 => by rw [hh] at h2; exact absurd h2.2.2.2 (by simp))]
        have HGOOD : Hid (t.all nameB = true → splitR s = some t) := fun hh => by rw [HR.out, if_pos ⟨hee, by omega, h8, hh⟩]
        have ht1 : (1 : Int) ≤ (t.length : Int) := by omega
        have h8' : (t.length : Int) ≤ 8 := by omega
        clear HR hee
        go_wp2_with fail
        clear he c0 ht0
        go_loop [5] (fun i => ∃ j : Nat, j ≤ t.length ∧ i = .int .i64 ((j : Int) + 1) ∧ (t.take j).all nameB = true) (fun i => t.length + 1 - (intOf i).toNat)
        case atStart => exact ⟨0, Nat.zero_le _, rfl, by simp⟩
        case round =>
          obtain ⟨j, hj, rfl, hall⟩ := hrel
          have HALL : Hid _ := hall
          clear hall
          by_cases hlt : j < t.length
          · obtain ⟨x, hx⟩ : ∃ x, t[j]? = some x := ⟨t[j], List.getElem?_eq_getElem hlt⟩
            have cj := HC.out j x hx
            have HNM : Hid _ := isName_any x w1 (HSZ.out x (List.mem_of_getElem? hx))
            have HX : Hid _ := hx
            have hj0 : (0 : Int) ≤ (j : Int) := by omega
            have hj1 : (j : Int) < (t.length : Int) := by omega
            clear hx
            cases hn : nameB x with
            | false =>
              have HN : Hid (splitR s = none) := HBAD.out (not_all HX.out hn)
              rw [hn] at HNM
              go_wp2_with fail
              refine Calls.mono HNM.out ?_
              rintro e w2 ⟨rfl, rfl⟩
              go_wp2_with fail
              exact HNO.out HN.out _ HB.out
            | true =>
              have HTR : Hid ((t.take (j + 1)).all nameB = true) := show _ = _ by rw [all_to HX.out, HALL.out, hn]; rfl
              rw [hn] at HNM
              go_wp2_with fail
              refine Calls.mono HNM.out ?_
              rintro e w2 ⟨rfl, rfl⟩
              go_wp2_with fail
              go_round
              case rel => exact ⟨j + 1, by omega, by go_num, HTR.out⟩
              case measure => simp [intOf]; omega
          · have HG : Hid (splitR s = some t) := HGOOD.out (by have := HALL.out; rw [List.take_of_length_le (by omega)] at this; exact this)
            go_wp2_with fail
            refine HYES.out HG.out _ _ HB.out ⟨_, _, rfl, fun i x hx => ⟨_, _, rfl, ?_⟩⟩ ⟨_, _, rfl, ?_, ?_⟩
            · rw [Nat.add_comm]; exact HC.out i x hx
            · omega
            · omega
      · have HN : Hid (splitR s = none) := show _ = _ by rw [HR.out, if_neg (fun hh => h8 hh.2.2.1)]
        go_wp2_with fail
        exact HNO.out HN.out _ HB.out

set_option maxRecDepth 100000 in
set_option maxHeartbeats 2000000 in
theorem findOf_any (l : List (ByteArray × Nat × Tree)) (g cap : Nat) (s : ByteArray) (w : World) (hl : l.length ≤ 1000000) (ht : ToldAt l g w) : Calls Tryz.prog 42 #[.slice (some ⟨g, 0, none⟩) l.length cap, .string s] w fun e w' => Below w.heap.size w w' ∧
    ((e = .returned (.int .i64 (-1)) ∧ ∀ x ∈ l, fixP x.1 ≠ s) ∨ ∃ (k : Nat) (x : ByteArray × Nat × Tree), e = .returned (.int .i64 k) ∧ l[k]? = some x ∧ fixP x.1 = s) := by
  have HC : Hid (∀ (i : Nat) (x : ByteArray × Nat × Tree), l[i]? = some x → w.cell? ⟨g, i * 6, none⟩ = some (.string (fixP x.1))) := fun i x hx => (ht i x hx).1
  clear ht
  go_enter Tryz.func42, Tryz.ntmps42
  go_wp2_with fail
  go_loopw [5] (fun i wr => ∃ k m : Nat, k ≤ l.length ∧ i = .int .i64 k ∧ wr = w.drewN m ∧ ∀ x ∈ l.take k, fixP x.1 ≠ s) (fun i _ => l.length - (intOf i).toNat)
  case atStart => exact ⟨0, 0, Nat.zero_le _, rfl, rfl, fun x hx => by simp at hx⟩
  case round =>
    obtain ⟨k, m, hk, rfl, rfl, hq⟩ := hrel
    have HQ : Hid _ := hq
    clear hq
    by_cases hlt : k < l.length
    · obtain ⟨x, hx⟩ : ∃ x, l[k]? = some x := ⟨l[k], List.getElem?_eq_getElem hlt⟩
      have c1 := HC.out k x hx
      have HX : Hid _ := hx
      clear hx
      cases hxy : ((fixP x.1).toList == s.toList)
      · have HT : Hid (∀ y ∈ l.take (k + 1), fixP y.1 ≠ s) := fun y hy => by
          rw [List.take_succ_eq_append_getElem hlt, List.mem_append, List.mem_singleton] at hy
          rcases hy with hy | rfl
          · exact HQ.out y hy
          · intro e
            have h2 : l[k] = x := by have := HX.out; rw [List.getElem?_eq_getElem hlt] at this; exact Option.some.inj this
            rw [h2] at e
            rw [e] at hxy
            simp at hxy
        go_wp2_with fail
        go_roundw
        case rel => exact ⟨k + 1, _, by omega, by go_num, rfl, HT.out⟩
        case measure => simp [intOf]; omega
      · have HE : Hid (fixP x.1 = s) := show _ = _ by
          have h := beq_iff_eq.1 hxy
          rw [ByteArray.toList_eq, ByteArray.toList_eq] at h
          exact ba_ext' h
        go_wp2_with fail
        go_ret
        exact ⟨below_drewN (Below.refl _ _) _, .inr ⟨k, x, rfl, HX.out, HE.out⟩⟩
    · have HA : Hid (∀ x ∈ l, fixP x.1 ≠ s) := fun x hx => HQ.out x (by rw [List.take_of_length_le (by omega)]; exact hx)
      go_wp2_with fail
      go_ret
      exact ⟨below_drewN (Below.refl _ _) _, .inl ⟨rfl, HA.out⟩⟩
end Go.Proofs.YtpjjpmikhjlgnaaGreatDoor
