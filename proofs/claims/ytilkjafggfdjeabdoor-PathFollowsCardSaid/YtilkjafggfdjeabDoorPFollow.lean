/-
  The contract of path.Follow.
  Conditions: the sentinels hold what the program's text lays; the library's MaxLen holds a number; the tree lies in memory below block B and can be checked; the text is shorter than four thousand million bytes.
-/
import Derived.Test.YtilkjafggfdjeabDoorWStep
import Derived.Test.YtilkjafggfdjeabDoorJoinL
import Derived.Test.YtilkjafggfdjeabDoorClear
namespace Go.Proofs.YtilkjafggfdjeabDoor
open Go.RowKit
attribute [local go_sem ↓] Go.wp_at_zero Go.wp_at_succ

/-- What Follow tells: an error's number, or a path. -/
def followT (d : Nat) (t : Tree) (s : ByteArray) : Except Nat ByteArray := match treeErr d t with
  | some e => .error e
  | none => match splitR s with
    | none => .error 4
    | some l => match followS t ⟨[], l, 0⟩ with
      | .error e => .error e
      | .ok h => .ok (tellP h)
theorem followT_tree {d er : Nat} {t : Tree} {s : ByteArray} (h : treeErr d t = some er) : followT d t s = .error er := by unfold followT; rw [h]
theorem followT_split {d : Nat} {t : Tree} {s : ByteArray} (h : treeErr d t = none) (h2 : splitR s = none) : followT d t s = .error 4 := by unfold followT; rw [h]; simp only [h2]
theorem followT_err {d er : Nat} {t : Tree} {s : ByteArray} {l : List ByteArray} (h : treeErr d t = none) (h2 : splitR s = some l) (h3 : followS t ⟨[], l, 0⟩ = .error er) : followT d t s = .error er := by unfold followT; rw [h]; simp only [h2, h3]
theorem followT_ok {d : Nat} {t : Tree} {s : ByteArray} {l r : List ByteArray} (h : treeErr d t = none) (h2 : splitR s = some l) (h3 : followS t ⟨[], l, 0⟩ = .ok r) : followT d t s = .ok (tellP r) := by unfold followT; rw [h]; simp only [h2, h3]
/-- What Follow hands back. -/
def FolPost (a : Nat → Addr) (d : Nat) (t : Tree) (s : ByteArray) (w : World) (e : Ending) (w' : World) : Prop := Below w.heap.size w w' ∧
  ((∃ er, followT d t s = .error er ∧ e = .returned (.tuple #[.string { data := #[] }, .iface 153 (.pointer (some (a er)))])) ∨ ∃ p, followT d t s = .ok p ∧ e = .returned (.tuple #[.string p, .nilIface]))
theorem join_tell (l : List ByteArray) : strokeB ++ ⟨(Lib.join (l.map (·.data.toList)) [47]).toArray⟩ = tellP l := by
  unfold tellP
  rw [joinB_isEmpty]
  apply ba_ext'
  cases l with
  | nil => rfl
  | cons x r =>
    rw [if_neg (by simp), ByteArray.data_append, Array.toList_append, joinB_list, List.map_cons, Lib.join_cons]
    show [47] ++ (x.data.toList ++ Lib.joinTail [47] (r.map (·.data.toList))) = joinL (x :: r)
    have e : Lib.joinTail [47] (r.map (·.data.toList)) = joinL r := by
      unfold Lib.joinTail joinL
      rw [List.map_map, List.flatMap_def]
      rfl
    rw [e]
    rfl
theorem join_short {l : List ByteArray} (h8 : l.length ≤ 8) (hn : l.all nameB = true) : (Lib.join (l.map (·.data.toList)) [47]).length ≤ 1000 := by
  have h := tell_size h8 hn
  rw [← join_tell, ByteArray.size_append] at h
  have e : (ByteArray.mk (Lib.join (l.map (·.data.toList)) [47]).toArray).size = (Lib.join (l.map (·.data.toList)) [47]).length := by
    show (Lib.join (l.map (·.data.toList)) [47]).toArray.size = _
    simp
  omega
/-- The measure, read in memory. -/
def wkMem (b : Nat) (w : World) : Nat := match w.cell? ⟨b, 5, none⟩, w.cell? ⟨b, 6, none⟩ with
  | some (.slice _ n _), some (.int _ k) => n + 42 * (17 - k.toNat)
  | _, _ => 0
theorem wkMem_is {w0 wr : World} {t : Tree} {ta : Option Addr} {tc : Nat} {s : WkS} {hv av : Value} (W : WkAt w0 t ta tc s hv av wr) : wkMem w0.heap.size wr = wkM s := by
  obtain ⟨⟨_, _, _, _, _, q5, q6⟩, _⟩ := row7 W.box
  obtain ⟨ad, cap, e, _⟩ := W.txt
  unfold wkMem wkM
  rw [q5, q6, e]
  simp
/-- The state of the loop. -/
structure FolAt (w0 : World) (t : Tree) (ta : Option Addr) (tc : Nat) (l : List ByteArray) (s : WkS) (hv av : Value) (wr : World) : Prop where
  at_ : WkAt w0 t ta tc s hv av wr
  clear : Clear t s.here
  links : s.links ≤ 16
  sizes : ∀ y ∈ s.ahead, y.size ≤ 40
  less : wkM s ≤ 722
  same : followS t s = followS t ⟨[], l, 0⟩

set_option maxRecDepth 100000 in
set_option maxHeartbeats 4000000 in
theorem follow_any (a : Nat → Addr) (d B : Nat) (t : Tree) (u : Value) (s : ByteArray) (w : World) (S : PSen a w) (hB : B ≤ w.heap.size) (hl : Lies w B d t.kids u) (hal : Alive ck ckOk 0 (pre d ByteArray.empty 0 t)) (hs : s.size < 4294967281) :
    Calls Tryd.prog 16 #[.agg #[.string t.kind, .string t.data, .bool t.exec, u], .string s] w (FolPost a d t s w) := by
  obtain ⟨ta, tc, rfl⟩ := hl.form
  have hfit : Fit d t := hl.fit
  have hA : Below w.heap.size w (w.alloc (.cells #[.string t.kind, .string t.data, .bool t.exec, .slice ta t.kids.length tc] 24)) := (Below.refl _ _).alloc (Nat.le_refl _) _
  have hz : (w.alloc (.cells #[.string t.kind, .string t.data, .bool t.exec, .slice ta t.kids.length tc] 24)).heap.size = w.heap.size + 1 := by simp
  have hbox := row_alloc' w #[.string t.kind, .string t.data, .bool t.exec, .slice ta t.kids.length tc] 24
  have HBG : Hid _ := pbegin_any a d B t (.slice ta t.kids.length tc) s _ (S.below hA) (by rw [hz]; omega) (hl.below hA hB) hal hs
  have HSE : Hid (PSen a w) := S
  have HA : Hid _ := hA
  have HLI : Hid (Lies w B d t.kids (.slice ta t.kids.length tc)) := hl
  have HBOX : Hid _ := hbox
  have HFIT : Hid (Fit d t) := hfit
  clear hA S hl hal hbox hfit
  go_enter Tryd.func16, Tryd.ntmps16
  go_wp2_with fail
  refine Calls.mono HBG.out ?_
  clear HBG
  rintro e w1 ⟨hb1, h1⟩
  have HB1 : Hid (Below w.heap.size w w1) := HA.out.trans (hb1.mono (by omega))
  have hz1 := hb1.size
  rw [hz] at hz1
  have hbox1 := (hb1.block w.heap.size (by omega)).trans HBOX.out
  rcases h1 with ⟨er, ht, rfl⟩ | ⟨ht, h2, rfl⟩ | ⟨l, v, ht, h2, rfl, hv, hrm⟩
  · have HP : Hid (FolPost a d t s w (.returned (.tuple #[.string { data := #[] }, .iface 153 (.pointer (some (a er)))])) w1) := ⟨HB1.out, .inl ⟨er, followT_tree ht, rfl⟩⟩
    clear ht hb1 hbox1
    go_wp2_with fail
    go_ret2
    exact HP.out
  · have HP : Hid (FolPost a d t s w (.returned (.tuple #[.string { data := #[] }, .iface 153 (.pointer (some (a 4)))])) w1) := ⟨HB1.out, .inl ⟨4, followT_split ht h2, rfl⟩⟩
    clear ht h2 hb1 hbox1
    go_wp2_with fail
    go_ret2
    exact HP.out
  obtain ⟨va, vc, rfl, hvc, hvm⟩ := hrm
  obtain ⟨va', vc', e', hcs⟩ := hv
  simp only [Value.slice.injEq] at e'
  obtain ⟨rfl, _, rfl⟩ := e'
  obtain ⟨⟨y0, y1, y2, y3⟩, _⟩ := row4b hbox1
  have hl8 := splitR_len h2
  have HN : Hid (∀ y ∈ l, y.size ≤ 40) := fun y hy => name_short (List.all_eq_true.1 (splitR_names h2) y hy)
  have HT : Hid (treeErr d t = none) := ht
  have H2 : Hid (splitR s = some l) := h2
  have hW0 : WkAt w1 t ta tc ⟨[], l, 0⟩ (.slice none 0 0) (.slice va l.length vc) (w1.alloc (.cells #[.string t.kind, .string t.data, .bool t.exec, .slice ta t.kids.length tc, .slice none 0 0, .slice va l.length vc, .int .i64 0] 69)) := by
    refine ⟨row_alloc' w1 _ _, World.ownsRow_nil _ _ _ _, ⟨va, vc, rfl, hvc, hvm, fun i x hx => ?_⟩, (Below.refl _ _).alloc (Nat.le_refl _) _⟩
    obtain ⟨b, off, e1, e2⟩ := hcs i x hx
    have hlt := lt_of_cell e2
    exact ⟨b, off, e1, by simp only at hlt; omega, by simp [Value.ownBlock], by rw [((Below.refl w1.heap.size w1).alloc (Nat.le_refl _) _).cell (p := ⟨b, off + i, none⟩) hlt]; exact e2⟩
  have HW0 : Hid _ := hW0
  have HSH : Hid (ShortD d t) := short_well HFIT.out ht
  have HRI : Hid (RisesD d t) := rises_well HFIT.out ht
  have HLI1 : Hid (Lies w1 B d t.kids (.slice ta t.kids.length tc)) := HLI.out.below HB1.out hB
  have HS1 : Hid (PSen a w1) := HSE.out.below HB1.out
  clear ht h2 hb1 hbox1 hcs hW0
  go_wp2_with fail
  go_loopw [] (fun wr => ∃ s hv av, FolAt w1 t ta tc l s hv av wr) (fun wr => wkMem w1.heap.size wr)
  case atStart =>
    exact ⟨⟨[], l, 0⟩, _, _, HW0.out, clear_nil t, Nat.zero_le _, HN.out, by unfold wkM; simp only; omega, rfl⟩
  case round =>
    obtain ⟨⟨h, al, n⟩, hv, av, F⟩ := hrel
    have HF : Hid (FolAt w1 t ta tc l ⟨h, al, n⟩ hv av wr) := F
    obtain ⟨⟨q0, q1, q2, q3, q4, q5, q6⟩, _⟩ := row7 F.at_.box
    obtain ⟨ad, acap, rfl, _, _, _⟩ := F.at_.txt
    have zb := lt_of_row F.at_.box
    have h8 : h.length ≤ 8 := clear_len HFIT.out HT.out F.clear
    have hms : wkMem w1.heap.size wr = wkM ⟨h, al, n⟩ := wkMem_is F.at_
    have HM : Hid _ := hms
    have hless := F.less
    unfold wkM at hless
    simp only at hless q5
    obtain ⟨ha, hc, rfl⟩ : ∃ ha hc, hv = .slice ha h.length hc := by
      rcases F.at_.own.2 with ⟨e, e0⟩ | ⟨g, cap, cur, e, _⟩
      · exact ⟨none, 0, by rw [e]; simp only at e0; rw [e0]⟩
      · exact ⟨_, _, e⟩
    cases al with
    | nil =>
      have hJ := join_any h _ _ wr F.at_.own (by omega) (by have := join_short h8 (List.all_eq_true.2 F.clear.1); omega)
      have hsh := join_short h8 (List.all_eq_true.2 F.clear.1)
      have htl := join_tell h
      have hJs : (ByteArray.mk (Lib.join (h.map (·.data.toList)) [47]).toArray).size ≤ 1000 := by
        show (Lib.join (h.map (·.data.toList)) [47]).toArray.size ≤ _
        simpa using hsh
      generalize (ByteArray.mk (Lib.join (h.map (·.data.toList)) [47]).toArray) = J at hJ htl hJs
      have hadd : ∀ w', (Op.stringOp .add { data := #[47] } J).run Tryd.prog w' = .ok (.string (tellP h)) w' := fun w' => by
        have e := run_string_add_sum (P := Tryd.prog) w' strokeB J (by have : strokeB.size = 1 := rfl; omega)
        rw [htl] at e
        exact e
      have HJ : Hid _ := hJ
      have hR : followT d t s = .ok (tellP h) := followT_ok HT.out H2.out (by rw [← F.same]; exact followS_end)
      have HR : Hid _ := hR
      have HB : Hid (Below w.heap.size w wr) := HB1.out.trans (F.at_.below.mono HB1.out.size)
      clear F hms hless hR hJ hsh htl hJs
      generalize tellP h = p at hadd HR
      go_wp2_with fail
      refine Calls.mono HJ.out ?_
      clear HJ q0 q1 q2 q3 q4 q5 q6
      rintro e w3 ⟨rfl, hb3⟩
      have HP : Hid (FolPost a d t s w (.returned (.tuple #[.string p, .nilIface])) w3) := ⟨HB.out.trans (hb3.mono HB.out.size), .inr ⟨p, HR.out, rfl⟩⟩
      clear hb3
      go_wp2_with fail
      go_ret2
      exact HP.out
    | cons x al =>
      have HST : Hid _ := wstep_any a w1 t ta tc B d d (by omega) HLI1.out HRI.out HSH.out x h al n _ _ wr F.at_ HS1.out F.links (by simp only [List.length_cons] at hless; omega) (by omega) (by have := F.sizes x (by simp); unfold maxLen; omega)
      have ha0 : (0 : Int) < (al.length : Int) + 1 := by omega
      clear F hms hless
      go_wp2_with fail
      refine Calls.mono HST.out ?_
      clear HST q0 q1 q2 q3 q4 q5 q6
      rintro e w3 (⟨er, h3, rfl, hb3⟩ | ⟨s3, hv3, av3, h3, rfl, hw3⟩)
      · have hR : followT d t s = .error er := followT_err HT.out H2.out (by rw [← HF.out.same]; exact followS_err h3)
        have HP : Hid (FolPost a d t s w (.returned (.tuple #[.string { data := #[] }, .iface 153 (.pointer (some (a er)))])) w3) := ⟨HB1.out.trans (hb3.mono HB1.out.size), .inl ⟨er, hR, rfl⟩⟩
        clear h3 hb3 hR
        go_wp2_with fail
        go_ret2
        exact HP.out
      · have F := HF.out
        have hln : n ≤ 16 := F.links
        have hsl := step_less HSH.out hln h3
        have hms3 := wkMem_is hw3
        have HNX : Hid (FolAt w1 t ta tc l s3 hv3 av3 w3) := ⟨hw3, clear_step F.clear h3, hsl.2, sizes_step HSH.out h3 fun y hy => F.sizes y (by simp [hy]), by have := F.less; omega, by rw [← F.same]; exact (followS_on HSH.out hln h3).symm⟩
        have hmm : wkMem w1.heap.size w3 < wkMem w1.heap.size wr := by rw [hms3, HM.out]; exact hsl.1
        have HMM : Hid _ := hmm
        clear h3 hw3 F hln hsl hms3 hmm
        go_wp2_with fail
        go_roundw
        case rel => exact ⟨s3, hv3, av3, HNX.out⟩
        case measure => exact HMM.out
end Go.Proofs.YtilkjafggfdjeabDoor
