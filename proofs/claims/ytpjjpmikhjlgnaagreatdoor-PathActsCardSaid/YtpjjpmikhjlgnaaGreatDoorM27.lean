/-
  The contract of the document's answer for a path followed: stillroomref1's FollowOf.
  Conditions: those that each states.
-/
import Derived.Test.YtpjjpmikhjlgnaaGreatDoorM22
import Derived.Test.YtpjjpmikhjlgnaaGreatDoorM24
import Derived.Test.YtpjjpmikhjlgnaaGreatDoorM26
namespace Go.Proofs.YtpjjpmikhjlgnaaGreatDoor
open Go.RowKit
attribute [local go_sem ↓] Go.wp_at_zero Go.wp_at_succ

/-- What FollowOf hands back. -/
def FoPost (r : Except Nat ByteArray) (w : World) (e : Ending) (w' : World) : Prop := Below w.heap.size w w' ∧
  ((∃ er : Nat, r = .error er ∧ e = .returned (.tuple #[.string { data := #[] }, .int .i64 ((er : Int) + 1)])) ∨ (∃ x, r = .ok x ∧ e = .returned (.tuple #[.string x, .int .i64 0])))

theorem tell_inj {m n : List ByteArray} (hm : m.all nameB = true) (hn : n.all nameB = true) (e : tellP m = tellP n) : m = n := by
  have key : ∀ {x : ByteArray} {l : List ByteArray}, (x :: l).all nameB = true → tellP (x :: l) = joinB (x :: l) ∧ joinB (x :: l) ≠ strokeB ∧ cutL (joinB (x :: l)).data.toList = (ByteArray.empty :: x :: l).map (·.data.toList) := fun {x l} h => by
    have hx : ∀ y ∈ x :: l, nameB y = true := fun y hy => List.all_eq_true.1 h y hy
    refine ⟨by unfold tellP; rw [joinB_isEmpty, if_neg (by simp)], joinB_ne fun h => name_ne (hx x (by simp)) h.2, ?_⟩
    rw [joinB_list, ← join_cut ByteArray.empty (x :: l) fun y hy => ?_]
    · rfl
    · rcases List.mem_cons.1 hy with rfl | hy
      · intro c hc; simp at hc
      · exact name_noStroke (hx y hy)
  have h0 : tellP [] = strokeB := by unfold tellP; rw [joinB_isEmpty]; rfl
  cases m with
  | nil =>
    cases n with
    | nil => rfl
    | cons y n => obtain ⟨h1, h2, _⟩ := key hn; rw [h0, h1] at e; exact absurd e.symm h2
  | cons x m =>
    cases n with
    | nil => obtain ⟨h1, h2, _⟩ := key hm; rw [h0, h1] at e; exact absurd e h2
    | cons y n =>
      obtain ⟨h1, _, h3⟩ := key hm
      obtain ⟨k1, _, k3⟩ := key hn
      rw [h1, k1] at e
      rw [e, k3] at h3
      have := map_list h3
      injection this with _ h4
      exact h4.symm
theorem found_tell {d : Nat} {t : Tree} {q : List ByteArray} (hf : Fit d t) (h : treeErr d t = none) (hq : q.all nameB = true) {x : ByteArray × Nat × Tree} (hx : x ∈ pre d ByteArray.empty 0 t) (he : fixP x.1 = tellP q) : atR q t = some x.2.2 := by
  have hp := pre_names d [] t
  rw [show joinB [] = ByteArray.empty from rfl, List.length_nil] at hp
  rw [hp] at hx
  obtain ⟨y, hy, rfl⟩ := List.mem_map.1 hx
  obtain ⟨n, hn, ha, hnm⟩ := preN_at (rises_well hf h) (names_tree (p := ByteArray.empty) (k := 0) hf fun x hx => ((treeErr_none.1 h).2 x hx).2) y hy
  rw [List.nil_append] at hn
  have ht : tellP n = tellP q := by rw [← he, ← hn]; rfl
  rw [← tell_inj hnm hq ht]
  exact ha
theorem tell_found {d : Nat} {t k : Tree} {q : List ByteArray} (hf : Fit d t) (hk : atR q t = some k) : ∃ x ∈ pre d ByteArray.empty 0 t, fixP x.1 = tellP q := by
  have hp := pre_names d [] t
  rw [show joinB [] = ByteArray.empty from rfl, List.length_nil] at hp
  rw [hp]
  exact ⟨_, List.mem_map.2 ⟨_, preN_mem (ns := []) hf hk, rfl⟩, rfl⟩
theorem link_data {t : Tree} (h : nodeErr t = none) (hl : isLink t = true) : 0 < t.data.size := by
  unfold nodeErr at h
  have hnf : isFile t = false := by
    unfold isFile isLink at *
    have := eq_of_beq hl
    rw [this]; rfl
  have hnd : isDir t = false := by
    unfold isDir isLink at *
    have := eq_of_beq hl
    rw [this]; rfl
  rw [if_neg (by rw [hnf]; decide), if_neg (by rw [hnd]; decide), if_pos hl] at h
  unfold linkErr at h
  split at h
  · cases h
  · split at h
    · cases h
    · rename_i h1
      omega
theorem rooted_is {s : ByteArray} (h : 0 < s.size) : rooted s = ((s[0].toNat : Int) == 47) := by
  unfold rooted
  have hd : s.data.toList = s[0] :: s.data.toList.drop 1 := by have := drop_at s h; simpa using this
  rw [hd]
  by_cases e : s[0] = 47
  · rw [e]; simp [Lib.hasPrefix]
  · have h2 : ((s[0].toNat : Int) == 47) = false := by
      simp only [beq_eq_false_iff_ne, ne_eq]
      intro h
      exact e (UInt8.toNat_inj.1 (by rw [show (47 : UInt8).toNat = 47 from rfl]; omega))
    rw [h2]
    have h3 : ((47 : UInt8) == s[0]) = false := by simp only [beq_eq_false_iff_ne, ne_eq]; exact fun h => e h.symm
    simp [Lib.hasPrefix, List.isPrefixOf, h3]
theorem ToldAt.keep {l : List (ByteArray × Nat × Tree)} {g : Nat} {w w' : World} (h : ToldAt l g w) (hg : g < w.heap.size) (hb : Below w.heap.size w w') : ToldAt l g w' := fun i x hx => by
  obtain ⟨h1, h2, h3⟩ := h i x hx
  have hc : ∀ o, w'.cell? ⟨g, o, none⟩ = w.cell? ⟨g, o, none⟩ := fun o => hb.cell (p := ⟨g, o, none⟩) hg
  exact ⟨by rw [hc]; exact h1, by rw [hc]; exact h2, by rw [hc]; exact h3⟩
/-- A row of texts, and texts that lie somewhere behind it: at a step of a plain region. -/
theorem wpList_append_strs {ops : Array Oper} {rest : List Oper} {o : Oper} {a : Act} {Q : Exit → Act → World → Prop} (w : World) (hgd : o.guard = none) (s x : Operand)
    (ho : o.op = .call { callee := .builtin .append, args := #[s, x], argTypes := #[28, 28] }) (base : Nat) (v : Value) (L al R : List ByteArray) (N : Nat) (hR : L ++ al = R) (hN : R.length = N) (hs : a.eval s = v) (hown : w.ownsRow base 9 1 v L.length (L.map Value.string))
    (ad : Option Addr) (c : Nat) (hx : a.eval x = .slice ad al.length c) (htx : Texts w (.slice ad al.length c) al)
    (hle : L.length + al.length ≤ 100000) (hbase : base ≤ w.heap.size)
    (h : ∀ va vc w', N ≤ vc → vc ≤ maxLen → w'.ownsRow base 9 1 (.slice va N vc) R.length (R.map Value.string) → w.grownBy w' v.ownBlock → wpList Tryz.prog ops Q rest (a.put o.dst (.slice va N vc)) w') : wpList Tryz.prog ops Q (o :: rest) a w := by
  refine wpList_plain hgd fun K hK => ?_
  have htx' : ∀ (i : Nat) (x : ByteArray), al[i]? = some x → ∃ b off, ad = some ⟨b, off, none⟩ ∧ w.cell? ⟨b, off + i, none⟩ = some (.string x) := by
    obtain ⟨ad', c', e, h⟩ := htx
    simp only [Value.slice.injEq] at e
    obtain ⟨rfl, _, _⟩ := e
    exact h
  have := step_append_strs (ops := ops) (K := K) (Q := Q) (E := False) w hgd s x ho base v L al hs hown ad c hx htx' hle hbase fun va vn vc w' h2 h3 => by
    rw [hR] at h2
    have hf : vn = N ∧ N ≤ vc ∧ vc ≤ maxLen := by
      rcases h2.2 with ⟨e, e0⟩ | ⟨g, cap, cur, e, _, _, e1, e2, _⟩
      · simp only [Value.slice.injEq] at e
        omega
      · simp only [Value.slice.injEq] at e
        omega
    obtain ⟨rfl, h4, h5⟩ := hf
    exact hK _ _ (h va vc w' h4 h5 h2 h3)
  rwa [if_pos (by simp [Region.wanted, hgd])] at this
def slLen : Value → Nat
  | .slice _ n _ => n
  | _ => 0

set_option maxRecDepth 100000 in
set_option maxHeartbeats 4000000 in
theorem followOf_any {M : Nat} (B d d2 : Nat) (t : Tree) (u : Value) (s : ByteArray) (w : World) (hB : B ≤ w.heap.size) (hl : Lies w B d t.kids u) (hdat : DatM M d2 t) (hM : M ≤ 1000000) (hs : s.size ≤ 1000000) :
    Calls Tryz.prog 20 #[.agg #[.string t.kind, .string t.data, .bool t.exec, u], .string s] w (FoPost (followT d t s) w) := by
  obtain ⟨ta, tc, rfl⟩ := hl.form
  have hfit : Fit d t := hl.fit
  obtain ⟨W0, hW0⟩ : ∃ W0, W0 = w.alloc (.cells #[.string t.kind, .string t.data, .bool t.exec, .slice ta t.kids.length tc] 24) := ⟨_, rfl⟩
  have hz : W0.heap.size = w.heap.size + 1 := by rw [hW0]; simp
  have hA : Below w.heap.size w W0 := by rw [hW0]; exact (Below.refl _ _).alloc (Nat.le_refl _) _
  have hbox : W0.heap[w.heap.size]? = some (.cells #[.string t.kind, .string t.data, .bool t.exec, .slice ta t.kids.length tc] 24 (0, 0)) := by
    rw [hW0]; exact row_alloc' _ _ _
  have hE := treeError_any B d d2 t (.slice ta t.kids.length tc) W0 (by rw [hz]; omega) (hl.below hA hB) hdat hM
  rw [list_errs hfit, hW0] at hE
  have HE : Hid _ := hE
  have HSO : Hid (∀ w', Calls Tryz.prog 9 #[.string s] w' (SplitOfPost s w')) := fun w' => splitOf_any s w' hs
  have HI : Hid (∀ l, l = listOf 200 8 t → ∀ w', Below w.heap.size w w' → Calls Tryz.prog 41 #[.agg #[.string t.kind, .string t.data, .bool t.exec, .slice ta t.kids.length tc]] w' fun e w'' => ∃ g cap, e = .returned (.slice (some ⟨g, 0, none⟩) l.length cap) ∧ g < w''.heap.size ∧ ToldAt l g w'' ∧ NodesAt l B g w'' ∧ Below w'.heap.size w' w'') := fun l hll w' h =>
    itemsOf_all B d t _ w' l hll (by have := h.size; omega) (hl.below h hB)
  have HA : Hid _ := hA
  have HBOX : Hid _ := hbox
  have HFIT : Hid (Fit d t) := hfit
  have HW0 : Hid (W0 = w.alloc (.cells #[.string t.kind, .string t.data, .bool t.exec, .slice ta t.kids.length tc] 24)) := hW0
  clear hA hl hdat hbox hfit hE hW0
  go_enter Tryz.func20, Tryz.ntmps20
  go_wp2_with fail
  refine Calls.mono HE.out ?_
  rw [← HW0.out]
  clear HE HW0
  rintro e w1 ⟨rfl, hb1⟩
  have HB1 : Hid (Below w.heap.size w w1) := HA.out.trans (hb1.mono (by omega))
  have hz1 := hb1.size
  rw [hz] at hz1
  have HX1 : Hid _ := (hb1.block w.heap.size (by omega)).trans HBOX.out
  cases ht : treeErr d t with
  | some er =>
    have HF : Hid (followT d t s = .error er) := followT_tree ht
    simp only [num]
    clear ht hb1
    go_wp2_with fail
    refine bodyPost_ret (v := .tuple #[.string { data := #[] }, .int .i64 ((er : Int) + 1)]) (by simp [results, Tryz.results20, go_sem]) rfl ?_
    exact ⟨HB1.out, .inl ⟨er, HF.out, rfl⟩⟩
  | none =>
    have HT : Hid (treeErr d t = none) := ht
    simp only [num]
    clear ht hb1
    go_wp2_with fail
    refine Calls.mono (HSO.out _) ?_
    rintro e w2 ⟨hb2, ⟨h2, rfl⟩ | ⟨m, v, h2, rfl, htx, hrm⟩⟩
    · have HF : Hid (followT d t s = .error 4) := followT_split HT.out h2
      have HB2 : Hid (Below w.heap.size w w2) := HB1.out.trans (hb2.mono HB1.out.size)
      clear hb2 h2
      go_wp2_with fail
      refine bodyPost_ret (v := .tuple #[.string { data := #[] }, .int .i64 5]) (by simp [results, Tryz.results20, go_sem]) rfl ?_
      exact ⟨HB2.out, .inl ⟨4, HF.out, rfl⟩⟩
    · have H2 : Hid (splitR s = some m) := h2
      have HB2 : Hid (Below w.heap.size w w2) := HB1.out.trans (hb2.mono HB1.out.size)
      have hz2 := hb2.size
      obtain ⟨⟨y0, y1, y2, y3⟩, _⟩ := row4b ((hb2.block w.heap.size (by omega)).trans HX1.out)
      obtain ⟨l, hll⟩ : ∃ l, l = listOf 200 8 t := ⟨_, rfl⟩
      have HIT : Hid _ := HI.out l hll w2 HB2.out
      have hpl : l = pre d ByteArray.empty 0 t := hll.trans (well_list HFIT.out HT.out)
      have HPL : Hid (l = pre d ByteArray.empty 0 t) := hpl
      have hlen : l.length ≤ 1000000 := by
        rw [hpl]
        have := (treeErr_none.1 HT.out).1
        omega
      obtain ⟨va, vc, rfl, hroom⟩ := hrm
      have HTX : Hid (Texts w2 (.slice va m.length vc) m) := htx
      clear hb2 h2 hpl hll HI HSO htx
      go_wp2_with fail
      refine Calls.mono HIT.out ?_
      clear HIT y0 y1 y2 y3
      rintro e w3 ⟨g, cap, rfl, hg, hT, hN, hb3⟩
      have HB3 : Hid (Below w.heap.size w w3) := HB2.out.trans (hb3.mono HB2.out.size)
      have HTO : Hid (ToldAt l g w3) := hT
      have HNO_ : Hid (NodesAt l B g w3) := hN
      have HTX3 : Hid (Texts w3 (.slice va m.length vc) m) := HTX.out.below hb3
      clear hT hN hb3 HTX
      go_wp2_with fail
      have HSH : Hid (ShortD d t) := short_well HFIT.out HT.out
      have hw3 : w.heap.size ≤ w3.heap.size := HB3.out.size
      go_loopw [7, 9, 10] (fun tv cv nv wr => ∃ (h al : List ByteArray) (n N H : Nat) (ha aa : Option Addr) (hc ac : Nat), tv = .slice aa N ac ∧ cv = .slice ha H hc ∧ nv = .int .i64 n ∧ al.length = N ∧ h.length = H ∧ n ≤ 16 ∧ N + 42 * (17 - n) ≤ 722 ∧ (N ≤ ac ∧ ac ≤ maxLen) ∧ (H ≤ hc ∧ hc ≤ maxLen) ∧ Hid (Clear t h) ∧ Hid (∀ y ∈ al, y.size ≤ 40) ∧ Hid (followS t ⟨[], m, 0⟩ = followS t ⟨h, al, n⟩) ∧ Hid (Texts wr (.slice ha h.length hc) h) ∧ Hid (Texts wr (.slice aa al.length ac) al) ∧ Hid (Below w3.heap.size w3 wr)) (fun tv _ nv _ => slLen tv + 42 * (17 - (intOf nv).toNat))
      case atStart => exact ⟨[], m, 0, m.length, 0, none, va, 0, vc, rfl, rfl, rfl, rfl, rfl, by omega, by have := splitR_len H2.out; omega, hroom, ⟨Nat.le_refl _, Nat.zero_le _⟩, clear_nil t, (fun y hy => by have := name_short (List.all_eq_true.1 (splitR_names H2.out) y hy); omega), rfl, (⟨none, 0, rfl, fun i x h => by simp at h⟩ : Texts _ _ _), HTX3.out, (Below.refl _ _ : Below _ _ _)⟩
      case round =>
        obtain ⟨h, al0, n, N, H, ha, aa, hc, ac, rfl, rfl, rfl, hN, hH, hn, hwk, hac, hhc, HCL, HSZ, HFE, HTH, HTA, HB⟩ := hrel
        have hh8 := clear_len HFIT.out HT.out HCL.out
        have hws := HB.out.size
        have HBW : Hid (Below w.heap.size w wr) := HB3.out.trans (HB.out.mono hw3)
        have HHN : Hid (∀ y ∈ h, y.size ≤ 1000) := fun y hy => by have := name_short (HCL.out.1 y hy); omega
        cases al0 with
        | nil =>
          simp only [List.length_nil] at hN
          subst hN
          subst hH
          have HJ : Hid _ := joined_any _ h wr HTH.out (by omega) HHN.out
          have HF : Hid (followT d t s = .ok (tellP h)) := followT_ok HT.out H2.out (HFE.out.trans followS_end)
          go_wp2_with fail
          refine Calls.mono HJ.out ?_
          clear HJ
          rintro e w4 ⟨rfl, hb4⟩
          have HB4 : Hid (Below w.heap.size w w4) := HBW.out.trans (hb4.mono HBW.out.size)
          clear hb4
          go_wp2_with fail
          refine bodyPost_ret (v := .tuple #[.string (tellP h), .int .i64 0]) (by simp [results, Tryz.results20, go_sem]) rfl ?_
          exact ⟨HB4.out, .inr ⟨_, HF.out, rfl⟩⟩
        | cons x al =>
          simp only [List.length_cons] at hN
          subst hN
          subst hH
          obtain ⟨b, off, rfl, hx0, HTT⟩ : ∃ b off, aa = some ⟨b, off, none⟩ ∧ wr.cell? ⟨b, off, none⟩ = some (.string x) ∧ Hid (∀ ad1, (0 < al.length → ad1 = some ⟨b, off + 1, none⟩) → Texts wr (.slice ad1 al.length (ac - 1)) al) := by
            obtain ⟨ad, cap', e, hh⟩ := HTA.out
            simp only [Value.slice.injEq] at e
            obtain ⟨rfl, _, rfl⟩ := e
            obtain ⟨b, off, rfl, h1⟩ := hh 0 x rfl
            refine ⟨b, off, rfl, h1, fun ad1 h1 => ⟨ad1, _, rfl, fun i y hy => ?_⟩⟩
            have hi := (List.getElem?_eq_some_iff.1 hy).1
            obtain ⟨b', off', e2, h2⟩ := hh (i + 1) y (by simpa using hy)
            simp only [Option.some.injEq, Addr.mk.injEq, and_true] at e2
            obtain ⟨rfl, rfl⟩ := e2
            exact ⟨b, off + 1, h1 (by omega), by rw [show off + 1 + i = off + (i + 1) by omega]; exact h2⟩
          have zx := lt_of_cell hx0
          have hxs : x.size ≤ 40 := HSZ.out x (by simp)
          have HERR : Hid (∀ er, stepR t x h al n = .error er → followT d t s = .error er) := fun er e => followT_err HT.out H2.out (HFE.out.trans (followS_err e))
          have HNX : Hid (∀ h' al' n', stepR t x h al n = .ok ⟨h', al', n'⟩ → n' ≤ 16 ∧ al'.length + 42 * (17 - n') < al.length + 1 + 42 * (17 - n) ∧ Clear t h' ∧ (∀ y ∈ al', y.size ≤ 40) ∧ followS t ⟨[], m, 0⟩ = followS t ⟨h', al', n'⟩) := fun h' al' n' e => by
            have h1 := step_less HSH.out hn e
            exact ⟨h1.2, h1.1, clear_step HCL.out e, sizes_step HSH.out e (fun y hy => HSZ.out y (List.mem_cons_of_mem _ hy)), HFE.out.trans (followS_on HSH.out hn e)⟩
          have a0 : (0 : Int) < (al.length : Int) + 1 := by omega
          have a1 : (1 : Int) ≤ (al.length : Int) + 1 := by omega
          have a2 : al.length + 1 ≤ ac := hac.1
          clear HTA HFE HSZ
          go_upto_region 13 with fail
          generalize hgen : (if ac = 1 then some (⟨b, off, none⟩ : Addr) else some ⟨b, off + 1, none⟩) = ad1
          have HTA : Hid (Texts wr (.slice ad1 al.length (ac - 1)) al) := HTT.out ad1 fun h0 => by rw [← hgen, if_neg (by omega)]
          have hac1 : al.length ≤ ac - 1 ∧ ac - 1 ≤ maxLen := by omega
          clear HTT hgen hx0 zx a0 a1 a2 hac
          generalize ac - 1 = ac1 at hac1 HTA ⊢
          by_cases h0 : x = ByteArray.empty
          · have HR : Hid _ := HNX.out h al n (show stepR t x h al n = .ok ⟨h, al, n⟩ by unfold stepR; rw [if_pos (.inl h0)])
            have e0 : (x.toList == []) = true := by rw [txt_is]; exact decide_eq_true h0
            clear h0
            go_wp2_with fail
            go_roundw
            case rel =>
              obtain ⟨r1, r2, r3, r4, r5⟩ := HR.out
              exact ⟨h, al, n, _, _, ha, ad1, hc, ac1, rfl, rfl, rfl, rfl, rfl, r1, by omega, hac1, hhc, r3, r4, r5, HTH.out, HTA.out, HB.out⟩
            case measure => have := HR.out.2.1; simp [intOf, slLen]; try omega
          have e0 : (x.toList == []) = false := by rw [txt_is]; exact decide_eq_false h0
          by_cases h1 : x = dotB
          · have HR : Hid _ := HNX.out h al n (show stepR t x h al n = .ok ⟨h, al, n⟩ by unfold stepR; rw [if_pos (.inr h1)])
            have e1 : (x.toList == [46]) = true := by rw [txt_is]; exact decide_eq_true h1
            clear h0 h1
            go_wp2_with fail
            go_roundw
            case rel =>
              obtain ⟨r1, r2, r3, r4, r5⟩ := HR.out
              exact ⟨h, al, n, _, _, ha, ad1, hc, ac1, rfl, rfl, rfl, rfl, rfl, r1, by omega, hac1, hhc, r3, r4, r5, HTH.out, HTA.out, HB.out⟩
            case measure => have := HR.out.2.1; simp [intOf, slLen]; try omega
          have e1 : (x.toList == [46]) = false := by rw [txt_is]; exact decide_eq_false h1
          have h01 : ¬ (x = ByteArray.empty ∨ x = dotB) := fun h => h.elim h0 h1
          by_cases h2 : x = dotsB
          · have HR : Hid _ := HNX.out h.dropLast al n (show stepR t x h al n = .ok ⟨h.dropLast, al, n⟩ by unfold stepR; rw [if_neg h01, if_pos h2])
            have e2 : (x.toList == [46, 46]) = true := by rw [txt_is]; exact decide_eq_true h2
            have HTD : Hid (∀ k, k = h.length - 1 → Texts wr (.slice ha k hc) h.dropLast) := fun k hk => by
              subst hk
              obtain ⟨ad, cap', e, hh⟩ := HTH.out
              simp only [Value.slice.injEq] at e
              obtain ⟨rfl, _, rfl⟩ := e
              refine ⟨ha, hc, by rw [List.length_dropLast], fun i y hy => hh i y ?_⟩
              rw [List.dropLast_eq_take, List.getElem?_take] at hy
              split at hy
              · exact hy
              · cases hy
            clear h0 h1 h2 h01
            by_cases hz : h.length = 0
            · have hz0 : ¬ ((0 : Int) < (h.length : Int)) := by omega
              go_wp2_with fail
              go_roundw
              case rel =>
                obtain ⟨r1, r2, r3, r4, r5⟩ := HR.out
                exact ⟨h.dropLast, al, n, _, _, ha, ad1, hc, ac1, rfl, rfl, rfl, rfl, by rw [List.length_dropLast]; omega, r1, by omega, hac1, hhc, r3, r4, r5, (by rw [List.length_dropLast]; exact HTD.out _ rfl : Texts _ _ _), HTA.out, HB.out⟩
              case measure => have := HR.out.2.1; simp [intOf, slLen]; try omega
            · have hz0 : ((0 : Int) < (h.length : Int)) := by omega
              have hlw : IntKind.i64.wrap ((h.length : Int) - 1) = (h.length : Int) - 1 := by simp (disch := omega) only [IntWalk.i64_in]
              go_wp2_with fail
              go_roundw
              case rel =>
                obtain ⟨r1, r2, r3, r4, r5⟩ := HR.out
                exact ⟨h.dropLast, al, n, _, h.length - 1, ha, ad1, hc, ac1, rfl, by go_num, rfl, rfl, by rw [List.length_dropLast], r1, by omega, hac1, by omega, r3, r4, r5, (by rw [List.length_dropLast]; exact HTD.out _ rfl : Texts _ _ _), HTA.out, HB.out⟩
              case measure => have := HR.out.2.1; simp [intOf, slLen]; try omega
          have e2 : (x.toList == [46, 46]) = false := by rw [txt_is]; exact decide_eq_false h2
          have HNM : Hid _ := isName_any x wr (by unfold maxLen; omega)
          cases hnm : nameB x with
          | false =>
            have HF : Hid _ := HERR.out 4 (by unfold stepR; rw [if_neg h01, if_neg h2, if_pos hnm])
            rw [hnm] at HNM
            clear h0 h1 h2 h01 hnm
            go_wp2_with fail
            refine Calls.mono HNM.out ?_
            clear HNM
            rintro e w4 ⟨rfl, h4⟩
            rw [h4]
            clear h4 w4
            go_wp2_with fail
            refine bodyPost_ret (v := .tuple #[.string { data := #[] }, .int .i64 5]) (by simp [results, Tryz.results20, go_sem]) rfl ?_
            exact ⟨HBW.out, .inl ⟨4, HF.out, rfl⟩⟩
          | true =>
          rw [hnm] at HNM
          have HNO : Hid (atR (h ++ [x]) t = none → followT d t s = .error 5) := fun he => HERR.out 5 (by unfold stepR; rw [if_neg h01, if_neg h2, if_neg (by rw [hnm]; decide), he])
          have HYES : Hid (∀ k, atR (h ++ [x]) t = some k → stepR t x h al n = if isLink k = true then linkR k.data h al n else .ok ⟨h ++ [x], al, n⟩) := fun k he => by unfold stepR; rw [if_neg h01, if_neg h2, if_neg (by rw [hnm]; decide), he]
          have HAL : Hid ((h ++ [x]).all nameB = true) := show _ = _ by
            rw [List.all_eq_true]
            intro y hy
            rcases List.mem_append.1 hy with hy | hy
            · exact HCL.out.1 y hy
            · rw [List.mem_singleton.1 hy]; exact hnm
          clear h0 h1 h2 h01 hnm
          go_wp2_with fail
          refine Calls.mono HNM.out ?_
          clear HNM
          rintro e w4 ⟨rfl, h4⟩
          rw [h4]
          clear h4 w4
          go_upto_region 22 with (at_builtin; go_must (refine wpList_append_strs _ (by rfl) _ _ (by rfl) wr.heap.size (.slice none 0 0) [] h h h.length rfl rfl (by rfl) (World.ownsRow_nil _ _ _ _) ha hc (by rfl) HTH.out (by simp; omega) (Nat.le_refl _) ?_; intro va5 vc5 w5 h5a h5b hown5 hgrow5; have HO5 : Hid _ := hown5; have HG5 : Hid _ := hgrow5; clear hown5 hgrow5))
          have HB5 : Hid (Below wr.heap.size wr w5) := (Below.refl _ _).grown HG5.out (Nat.le_refl _) fun k hk => by cases hk
          have hz5 := HB5.out.size
          have HN6 : Hid (Texts (w5.alloc (.cells #[.string x] 9)) (.slice (some ⟨w5.heap.size, 0, none⟩) [x].length 1) [x]) := ⟨_, _, rfl, fun i y hy => ⟨_, 0, rfl, by
            cases i with
            | zero =>
              simp only [List.getElem?_cons_zero, Option.some.injEq] at hy
              subst hy
              exact cell_of_row _ _ _ _ _ _ (row_alloc' w5 #[.string x] 9)
            | succ i => simp at hy⟩⟩
          clear HG5
          go_upto_region 23 with (at_builtin; go_must (refine wpList_append_strs _ (by rfl) _ _ (by rfl) wr.heap.size (.slice va5 h.length vc5) h [x] (h ++ [x]) (h.length + 1) rfl (by simp) (by rfl) (World.ownsRow.alloc HO5.out _) (some ⟨w5.heap.size, 0, none⟩) 1 (by rfl) HN6.out (by simp; omega) (by simp; omega) ?_; intro va6 vc6 w6 h6a h6b hown6 hgrow6; have HO6 : Hid _ := hown6; have HG6 : Hid _ := hgrow6; clear hown6 hgrow6))
          have HB6 : Hid (Below wr.heap.size wr w6) := (HB5.out.alloc hz5 _).grown HG6.out (by simp; omega) fun k hk => (World.ownsRow.lt HO5.out k hk).1
          have hz6 := HB6.out.size
          have HTN : Hid (Texts w6 (.slice va6 (h.length + 1) vc6) (h ++ [x])) := Texts.of_own HO6.out
          have HJ : Hid _ := joined_any _ (h ++ [x]) w6 HTN.out (by simp; omega) (fun y hy => by have := name_short (List.all_eq_true.1 HAL.out y hy); omega)
          clear HN6 HG6 HO5 HB5 HO6
          go_wp2_with fail
          refine Calls.mono HJ.out ?_
          clear HJ
          rintro e w7 ⟨rfl, hb7⟩
          have HB7 : Hid (Below wr.heap.size wr w7) := HB6.out.trans (hb7.mono hz6)
          have hz7 := HB7.out.size
          have HB37 : Hid (Below w3.heap.size w3 w7) := HB.out.trans (HB7.out.mono hws)
          have HTN7 : Hid (Texts w7 (.slice va6 (h.length + 1) vc6) (h ++ [x])) := HTN.out.below hb7
          have HFD : Hid _ := findOf_any l g cap (tellP (h ++ [x])) w7 hlen (HTO.out.keep hg HB37.out)
          clear hb7 HTN HB6
          go_wp2_with fail
          refine Calls.mono HFD.out ?_
          clear HFD
          rintro e w8 ⟨hb8, ⟨rfl, h3⟩ | ⟨k, y, rfl, hy, h3⟩⟩
          · have HB8 : Hid (Below w.heap.size w w8) := HBW.out.trans ((HB7.out.trans (hb8.mono hz7)).mono HBW.out.size)
            have HF : Hid _ := HNO.out (by
              cases hat : atR (h ++ [x]) t with
              | none => rfl
              | some k =>
                obtain ⟨y, hy, he⟩ := tell_found HFIT.out hat
                exact absurd he (h3 y (by rw [HPL.out]; exact hy)))
            clear hb8 h3
            go_wp2_with fail
            refine bodyPost_ret (v := .tuple #[.string { data := #[] }, .int .i64 6]) (by simp [results, Tryz.results20, go_sem]) rfl ?_
            exact ⟨HB8.out, .inl ⟨5, HF.out, rfl⟩⟩
          · have hmem : y ∈ pre d ByteArray.empty 0 t := by rw [← HPL.out]; exact List.mem_of_getElem? hy
            have HST := HYES.out y.2.2 (found_tell HFIT.out HT.out HAL.out hmem h3)
            have HNE : Hid (nodeErr y.2.2 = none) := ((treeErr_none.1 HT.out).2 y hmem).2
            have HB8 : Hid (Below wr.heap.size wr w8) := HB7.out.trans (hb8.mono hz7)
            have hz8 := HB8.out.size
            have HB38 : Hid (Below w3.heap.size w3 w8) := HB.out.trans (HB8.out.mono hws)
            have HTN8 : Hid (Texts w8 (.slice va6 (h.length + 1) vc6) (h ++ [x])) := HTN7.out.below hb8
            obtain ⟨_, p2, p3⟩ := HTO.out k y hy
            obtain ⟨dk, uk, p4, p5, hlk⟩ := HNO_.out k y hy
            have hkl := (List.getElem?_eq_some_iff.1 hy).1
            have r2 : w8.cell? ⟨g, k * 6 + 2, none⟩ = _ := (HB38.out.cell (p := ⟨g, k * 6 + 2, none⟩) hg).trans p2
            have r3 : w8.cell? ⟨g, k * 6 + 3, none⟩ = _ := (HB38.out.cell (p := ⟨g, k * 6 + 3, none⟩) hg).trans p3
            have r4 : w8.cell? ⟨g, k * 6 + 4, none⟩ = _ := (HB38.out.cell (p := ⟨g, k * 6 + 4, none⟩) hg).trans p4
            have r5 : w8.cell? ⟨g, k * 6 + 5, none⟩ = _ := (HB38.out.cell (p := ⟨g, k * 6 + 5, none⟩) hg).trans p5
            obtain ⟨ka, kc, rfl⟩ := hlk.form
            have hk0 : (0 : Int) ≤ (k : Int) := by omega
            have hk2 : ¬ ((k : Int) < 0) := by omega
            have hk1 : (k : Int) < (l.length : Int) := by omega
            have hg8 : g < w8.heap.size := by omega
            have hkt : (k : Int).toNat = k := by omega
            clear hb8 h3 p2 p3 p4 p5 hlk hy hmem HNO HYES HTN7 HB7 HB37
            have HA9 : Hid (Below w8.heap.size w8 (w8.alloc (.cells #[.string y.2.2.kind, .string y.2.2.data, .bool y.2.2.exec, .slice ka y.2.2.kids.length kc] 24))) := (Below.refl _ _).alloc (Nat.le_refl _) _
            cases hik : isLink y.2.2 with
            | false =>
              have HR : Hid _ := HNX.out (h ++ [x]) al n (by rw [HST, if_neg (by rw [hik]; decide)])
              have e3 : (y.2.2.kind.toList == [108, 105, 110, 107]) = false := hik
              clear hik HST
              go_wp2_with fail
              go_roundw
              case rel =>
                obtain ⟨q1, q2, q3, q4, q5⟩ := HR.out
                have hb9 := HB8.out.trans (HA9.out.mono hz8)
                exact ⟨h ++ [x], al, n, _, _, va6, ad1, vc6, ac1, rfl, rfl, rfl, rfl, by simp, q1, by omega, hac1, ⟨h6a, h6b⟩, q3, q4, q5, (by rw [List.length_append]; exact HTN8.out.below HA9.out : Texts _ _ _), (HTA.out.below hb9 : Texts _ _ _), (HB38.out.trans (HA9.out.mono (by omega)) : Below _ _ _)⟩
              case measure => have := HR.out.2.1; simp [intOf, slLen]; try omega
            | true =>
              have HLK : Hid (stepR t x h al n = linkR y.2.2.data h al n) := show _ = _ by rw [HST, if_pos hik]
              have e3 : (y.2.2.kind.toList == [108, 105, 110, 107]) = true := hik
              have hd0 : 0 < y.2.2.data.size := link_data HNE.out hik
              have hd4 : y.2.2.data.size ≤ 40 := short_dir HNE.out hik
              clear hik HST
              by_cases h16 : n = 16
              · have HF : Hid _ := HERR.out 8 (by rw [HLK.out]; unfold linkR; rw [if_pos (by omega)])
                have h17 : (16 : Int) < (n : Int) + 1 := by omega
                have HBF : Hid (Below w.heap.size w (w8.alloc (.cells #[.string y.2.2.kind, .string y.2.2.data, .bool y.2.2.exec, .slice ka y.2.2.kids.length kc] 24))) := HBW.out.trans ((HB8.out.trans (HA9.out.mono hz8)).mono HBW.out.size)
                clear h16 HLK
                go_wp2_with fail
                refine bodyPost_ret (v := .tuple #[.string { data := #[] }, .int .i64 9]) (by simp [results, Tryz.results20, go_sem]) rfl ?_
                exact ⟨HBF.out, .inl ⟨8, HF.out, rfl⟩⟩
              · have h17 : ¬ ((16 : Int) < (n : Int) + 1) := by omega
                cases hc0 : ((y.2.2.data[0].toNat : Int) == 47) with
                | false =>
                  have HR : Hid _ := HNX.out h (cutB y.2.2.data ++ al) (n + 1) (by rw [HLK.out]; unfold linkR; rw [if_neg (by omega), rooted_is hd0, hc0]; rfl)
                  have HLEN : Hid ((cutB y.2.2.data).length ≤ 41) := show _ ≤ _ by have := cutB_len y.2.2.data; omega
                  have hcl := HLEN.out
                  have HB9 : Hid (Below wr.heap.size wr (w8.alloc (.cells #[.string y.2.2.kind, .string y.2.2.data, .bool y.2.2.exec, .slice ka y.2.2.kids.length kc] 24))) := HB8.out.trans (HA9.out.mono hz8)
                  clear HLK
                  go_wp2_with fail
                  generalize w8.alloc (.cells #[.string y.2.2.kind, .string y.2.2.data, .bool y.2.2.exec, .slice ka y.2.2.kids.length kc] 24) = w9 at HB9 HA9 ⊢
                  refine Calls.mono (cut_any y.2.2.data w9 (by omega)) ?_
                  rintro e wa ⟨vv, rfl, hown, hba⟩
                  have hz9 := HB9.out.size
                  have hza := hba.size
                  obtain ⟨ca, cc, rfl⟩ : ∃ ca cc, vv = .slice ca (cutB y.2.2.data).length cc := by
                    rcases hown.2 with ⟨e, e0⟩ | ⟨g', cap', cur', e, _⟩
                    · exact ⟨none, 0, by rw [e, e0]⟩
                    · exact ⟨_, _, e⟩
                  have HTC : Hid (Texts wa (.slice ca (cutB y.2.2.data).length cc) (cutB y.2.2.data)) := Texts.of_own hown
                  have HBA : Hid (Below wr.heap.size wr wa) := HB9.out.trans (hba.mono hz9)
                  clear hown hba
                  go_upto_region 36 with (at_builtin; go_must (refine wpList_append_strs _ (by rfl) _ _ (by rfl) wa.heap.size (.slice none 0 0) [] (cutB y.2.2.data) (cutB y.2.2.data) (cutB y.2.2.data).length rfl rfl (by rfl) (World.ownsRow_nil _ _ _ _) ca cc (by rfl) HTC.out (by simp; omega) (Nat.le_refl _) ?_; intro vab vcb wb hba hbb hownb hgrowb; have HOB : Hid _ := hownb; have HGB : Hid _ := hgrowb; clear hownb hgrowb))
                  have HBB : Hid (Below wr.heap.size wr wb) := HBA.out.grown HGB.out (by omega) fun k hk => by cases hk
                  have hzb := HBB.out.size
                  have hzab : wa.heap.size ≤ wb.heap.size := HGB.out.size
                  clear HGB
                  go_wp2_with (at_builtin; go_must (refine wpList_append_strs _ (by rfl) _ _ (by rfl) wa.heap.size (.slice vab (cutB y.2.2.data).length vcb) (cutB y.2.2.data) al (cutB y.2.2.data ++ al) ((cutB y.2.2.data).length + al.length) rfl (by simp) (by rfl) HOB.out ad1 ac1 (by rfl) (HTA.out.below HBB.out) (by omega) (by omega) ?_; intro vac vcc wc hca hcb hownc hgrowc; have HOC : Hid _ := hownc; have HGC : Hid _ := hgrowc; clear hownc hgrowc))
                  have HBC : Hid (Below wr.heap.size wr wc) := HBB.out.grown HGC.out (by omega) fun k hk => by have := (World.ownsRow.lt HOB.out k hk).1; omega
                  go_roundw
                  case rel =>
                    obtain ⟨q1, q2, q3, q4, q5⟩ := HR.out
                    rw [List.length_append] at q2
                    exact ⟨h, cutB y.2.2.data ++ al, n + 1, _, _, ha, vac, hc, vcc, rfl, rfl, by go_num, by simp, rfl, q1, by omega, ⟨hca, hcb⟩, hhc, q3, q4, q5, (HTH.out.below HBC.out : Texts _ _ _), (by rw [List.length_append]; exact Texts.of_own HOC.out : Texts _ _ _), (HB.out.trans (HBC.out.mono hws) : Below _ _ _)⟩
                  case measure => have := HR.out.2.1; rw [List.length_append] at this; simp [intOf, slLen]; try omega
                | true =>
                  have HR : Hid _ := HNX.out [] (cutB y.2.2.data ++ al) (n + 1) (by rw [HLK.out]; unfold linkR; rw [if_neg (by omega), rooted_is hd0, hc0]; rfl)
                  have HLEN : Hid ((cutB y.2.2.data).length ≤ 41) := show _ ≤ _ by have := cutB_len y.2.2.data; omega
                  have hcl := HLEN.out
                  have HB9 : Hid (Below wr.heap.size wr (w8.alloc (.cells #[.string y.2.2.kind, .string y.2.2.data, .bool y.2.2.exec, .slice ka y.2.2.kids.length kc] 24))) := HB8.out.trans (HA9.out.mono hz8)
                  clear HLK
                  go_wp2_with fail
                  generalize w8.alloc (.cells #[.string y.2.2.kind, .string y.2.2.data, .bool y.2.2.exec, .slice ka y.2.2.kids.length kc] 24) = w9 at HB9 HA9 ⊢
                  refine Calls.mono (cut_any y.2.2.data w9 (by omega)) ?_
                  rintro e wa ⟨vv, rfl, hown, hba⟩
                  have hz9 := HB9.out.size
                  have hza := hba.size
                  obtain ⟨ca, cc, rfl⟩ : ∃ ca cc, vv = .slice ca (cutB y.2.2.data).length cc := by
                    rcases hown.2 with ⟨e, e0⟩ | ⟨g', cap', cur', e, _⟩
                    · exact ⟨none, 0, by rw [e, e0]⟩
                    · exact ⟨_, _, e⟩
                  have HTC : Hid (Texts wa (.slice ca (cutB y.2.2.data).length cc) (cutB y.2.2.data)) := Texts.of_own hown
                  have HBA : Hid (Below wr.heap.size wr wa) := HB9.out.trans (hba.mono hz9)
                  clear hown hba
                  go_upto_region 36 with (at_builtin; go_must (refine wpList_append_strs _ (by rfl) _ _ (by rfl) wa.heap.size (.slice none 0 0) [] (cutB y.2.2.data) (cutB y.2.2.data) (cutB y.2.2.data).length rfl rfl (by rfl) (World.ownsRow_nil _ _ _ _) ca cc (by rfl) HTC.out (by simp; omega) (Nat.le_refl _) ?_; intro vab vcb wb hba hbb hownb hgrowb; have HOB : Hid _ := hownb; have HGB : Hid _ := hgrowb; clear hownb hgrowb))
                  have HBB : Hid (Below wr.heap.size wr wb) := HBA.out.grown HGB.out (by omega) fun k hk => by cases hk
                  have hzb := HBB.out.size
                  have hzab : wa.heap.size ≤ wb.heap.size := HGB.out.size
                  clear HGB
                  go_wp2_with (at_builtin; go_must (refine wpList_append_strs _ (by rfl) _ _ (by rfl) wa.heap.size (.slice vab (cutB y.2.2.data).length vcb) (cutB y.2.2.data) al (cutB y.2.2.data ++ al) ((cutB y.2.2.data).length + al.length) rfl (by simp) (by rfl) HOB.out ad1 ac1 (by rfl) (HTA.out.below HBB.out) (by omega) (by omega) ?_; intro vac vcc wc hca hcb hownc hgrowc; have HOC : Hid _ := hownc; have HGC : Hid _ := hgrowc; clear hownc hgrowc))
                  have HBC : Hid (Below wr.heap.size wr wc) := HBB.out.grown HGC.out (by omega) fun k hk => by have := (World.ownsRow.lt HOB.out k hk).1; omega
                  go_roundw
                  case rel =>
                    obtain ⟨q1, q2, q3, q4, q5⟩ := HR.out
                    rw [List.length_append] at q2
                    exact ⟨[], cutB y.2.2.data ++ al, n + 1, _, _, none, vac, 0, vcc, rfl, rfl, by go_num, by simp, rfl, q1, by omega, ⟨hca, hcb⟩, ⟨Nat.le_refl _, Nat.zero_le _⟩, q3, q4, q5, (⟨none, 0, rfl, fun i x h => by simp at h⟩ : Texts _ _ _), (by rw [List.length_append]; exact Texts.of_own HOC.out : Texts _ _ _), (HB.out.trans (HBC.out.mono hws) : Below _ _ _)⟩
                  case measure => have := HR.out.2.1; rw [List.length_append] at this; simp [intOf, slLen]; try omega
end Go.Proofs.YtpjjpmikhjlgnaaGreatDoor
