/-
  The contracts of package refs' Closure, Users and Dead.
  Conditions: the packs and the names lie in memory, the sentinels hold what the program's text lays.
-/
import Derived.Test.YtlaenhohjcjilaaDoorRg
import Derived.Test.YtlaenhohjcjilaaDoorTxS
namespace Go.Proofs.YtlaenhohjcjilaaDoor
open Go.RowKit Go.Maps Go.Shelf Go.Sort
attribute [local go_sem ↓] Go.wp_at_zero Go.wp_at_succ

/-! ### What is asked of a pack -/
section
variable {w : World} {c mb : Nat} {S : List ByteArray}
theorem clo1_any (x : PkV w) (W : World) (hc : W.cell? ⟨c, 0, none⟩ = some (.map (some mb))) (h : SetAt W mb S) :
    Calls Tryd.prog 31 #[.agg #[.string x.pk.name, .slice x.ua x.pk.refs.length x.uc, .string x.kd, .string x.dt, .bool x.ex, .slice x.ka x.kn x.kc], .pointer (some ⟨c, 0, none⟩)] W fun e w' => e = .returned (.bool (inS S x.pk)) ∧ Below W.heap.size W w' := by
  have hbA : Below W.heap.size W (W.alloc (.cells #[.string x.pk.name, .slice x.ua x.pk.refs.length x.uc, .string x.kd, .string x.dt, .bool x.ex, .slice x.ka x.kn x.kc] 49)) := (Below.refl _ _).alloc (Nat.le_refl _) _
  have hcA := (hbA.cell (p := ⟨c, 0, none⟩) (lt_of_cell hc)).trans hc
  have HH : Hid _ := has_any x.pk.name _ (h.below hbA) (by have := x.sn; omega)
  have HB : Hid _ := hbA
  clear h hbA hc
  go_enter Tryd.func31, Tryd.ntmps31
  go_wp2_with fail
  refine Calls.mono HH.out ?_
  rintro e w1 ⟨rfl, hb⟩
  have HB1 : Hid (Below W.heap.size W w1) := HB.out.trans (hb.mono HB.out.size)
  clear hb HH
  go_wp2_with fail
  go_ret
  exact ⟨rfl, HB1.out⟩
theorem dead1_any (x : PkV w) (W : World) (hc : W.cell? ⟨c, 0, none⟩ = some (.map (some mb))) (h : SetAt W mb S) :
    Calls Tryd.prog 38 #[.agg #[.string x.pk.name, .slice x.ua x.pk.refs.length x.uc, .string x.kd, .string x.dt, .bool x.ex, .slice x.ka x.kn x.kc], .pointer (some ⟨c, 0, none⟩)] W fun e w' => e = .returned (.bool (!inS S x.pk)) ∧ Below W.heap.size W w' := by
  have hbA : Below W.heap.size W (W.alloc (.cells #[.string x.pk.name, .slice x.ua x.pk.refs.length x.uc, .string x.kd, .string x.dt, .bool x.ex, .slice x.ka x.kn x.kc] 49)) := (Below.refl _ _).alloc (Nat.le_refl _) _
  have hcA := (hbA.cell (p := ⟨c, 0, none⟩) (lt_of_cell hc)).trans hc
  have HH : Hid _ := has_any x.pk.name _ (h.below hbA) (by have := x.sn; omega)
  have HB : Hid _ := hbA
  clear h hbA hc
  go_enter Tryd.func38, Tryd.ntmps38
  go_wp2_with fail
  refine Calls.mono HH.out ?_
  rintro e w1 ⟨rfl, hb⟩
  have HB1 : Hid (Below W.heap.size W w1) := HB.out.trans (hb.mono HB.out.size)
  clear hb HH
  go_wp2_with fail
  go_ret
  exact ⟨rfl, HB1.out⟩
theorem use1_any (x : PkV w) (name : ByteArray) (W : World) (hW : Below w.heap.size w W) (hc : W.cell? ⟨c, 0, none⟩ = some (.string name)) :
    Calls Tryd.prog 36 #[.agg #[.string x.pk.name, .slice x.ua x.pk.refs.length x.uc, .string x.kd, .string x.dt, .bool x.ex, .slice x.ka x.kn x.kc], .pointer (some ⟨c, 0, none⟩)] W fun e w' => e = .returned (.bool (usesB name x.pk)) ∧ Below W.heap.size W w' := by
  have hbA : Below W.heap.size W (W.alloc (.cells #[.string x.pk.name, .slice x.ua x.pk.refs.length x.uc, .string x.kd, .string x.dt, .bool x.ex, .slice x.ka x.kn x.kc] 49)) := (Below.refl _ _).alloc (Nat.le_refl _) _
  have hcA := (hbA.cell (p := ⟨c, 0, none⟩) (lt_of_cell hc)).trans hc
  have HH : Hid _ := contains_any _ x.pk.refs name _ (x.tx.below (hW.trans (hbA.mono hW.size))) (by have := x.sl; omega)
  have HB : Hid _ := hbA
  clear hbA hc hW
  cases h : (x.pk.name.toList == name.toList) with
  | true =>
    have HE : Hid (usesB name x.pk = false) := show _ = _ by unfold usesB; rw [h]; rfl
    go_enter Tryd.func36, Tryd.ntmps36
    go_wp2_with fail
    go_ret
    exact ⟨ret_bool HE.out.symm, HB.out⟩
  | false =>
    have HE : Hid (usesB name x.pk = memB name x.pk.refs) := show _ = _ by unfold usesB; rw [h]; rfl
    go_enter Tryd.func36, Tryd.ntmps36
    go_wp2_with fail
    refine Calls.mono HH.out ?_
    rintro e w1 ⟨rfl, rfl⟩
    go_wp2_with fail
    go_ret
    exact ⟨ret_bool HE.out.symm, HB.out⟩
end

/-- What they answer: a fault, or a list. -/
def RefPost (a : Nat → Addr) (o : Option (Option Nat × Nat)) (w : World) (P : List ByteArray → Prop) (e : Ending) (w' : World) : Prop := Below w.heap.size w w' ∧
  ((∃ f ev, o = some f ∧ e = .returned (.tuple #[.slice none 0 0, ev]) ∧ FltV a w' (some f) ev) ∨ (o = none ∧ ∃ r va vc, e = .returned (.tuple #[.slice va r.length vc, .nilIface]) ∧ P r ∧ OwnS w' w.heap.size (.slice va r.length vc) r))
theorem flt_form {a : Nat → Addr} {w : World} {f : Option Nat × Nat} {ev : Value} (h : FltV a w (some f) ev) : ∃ t p, ev = .iface t (.pointer p) := by
  obtain ⟨_ | i, e⟩ := f
  · exact ⟨_, _, h⟩
  · obtain ⟨pb, h, _⟩ := h
    exact ⟨_, _, h⟩

section
variable (a : Nat → Addr) (v nv : Value) (l : List Pk) (names : List ByteArray) (w : World)
set_option maxRecDepth 100000 in
theorem closure_any (T : Sents a w) (hv : PksIn w v l) (hl : l.length ≤ 100) (hn : Texts w nv names) (hz : ∀ x ∈ names, x.size ≤ 1000) (hnl : names.length ≤ 10000) :
    Calls Tryd.prog 13 #[v, nv] w (RefPost a (knw l names) w (IsCl l names)) := by
  have HND : Hid _ := need_any a v nv l names w T hv hl hn hz hnl
  obtain ⟨na, nc, rfl, _⟩ := id hn
  obtain ⟨ad, an, cap, rfl⟩ : ∃ ad an cap, v = .slice ad an cap := by obtain ⟨vs, _, ad, cap, e, _⟩ := hv; exact ⟨_, _, _, e⟩
  have HV : Hid (PksIn w (.slice ad an cap) l) := hv
  clear hv hn hz T
  go_enter Tryd.func13, Tryd.ntmps13
  go_wp2_with fail
  refine Calls.mono HND.out ?_
  clear HND
  rintro e w1 ⟨hb1, ⟨f, ev, hk, rfl, hf⟩ | ⟨hk, mb, rfl, hmb, hS⟩⟩
  · obtain ⟨t, p, rfl⟩ := flt_form hf
    have HB1 : Hid (Below w.heap.size w w1) := hb1
    have HK : Hid (knw l names = some f) := hk
    have hbA : Below w1.heap.size w1 (w1.alloc (.cells #[.map none] 55)) := (Below.refl _ _).alloc (Nat.le_refl _) _
    have HF : Hid (FltV a (w1.alloc (.cells #[.map none] 55)) (some f) (.iface t (.pointer p))) := hf.below hbA
    have HB2 : Hid (Below w.heap.size w (w1.alloc (.cells #[.map none] 55))) := HB1.out.trans (hbA.mono HB1.out.size)
    clear hb1 hk hf hbA
    go_wp2_with fail
    go_ret2
    exact ⟨HB2.out, .inl ⟨f, _, HK.out, rfl, HF.out⟩⟩
  · have HK : Hid (knw l names = none) := hk
    obtain ⟨w2, hw2⟩ : ∃ w2, w2 = w1.alloc (.cells #[.map (some mb)] 55) := ⟨_, rfl⟩
    have hbA : Below w1.heap.size w1 w2 := by rw [hw2]; exact (Below.refl _ _).alloc (Nat.le_refl _) _
    have q2 : w2.heap[w1.heap.size]? = some (.cells #[.map (some mb)] 55 (0, 0)) := by rw [hw2]; exact heap_alloc_last _ _
    have hB2 : Below w.heap.size w w2 := hb1.trans (hbA.mono hb1.size)
    have S2 := hS.below hbA
    have HLF : Hid _ := lastFirst_any 31 w1.heap.size (inS (needR l names)) (.slice ad an cap) l w2 (HV.out.below hB2) hl (enters_of Tryd.func31 (by kernel_rfl) rfl) (fun vs _ x W hW => clo1_any x W (by rw [hW.cell (p := ⟨w1.heap.size, 0, none⟩) (lt_of_row q2), cell_of_row _ _ _ _ _ _ q2]; rfl) (S2.below hW))
    have HB2 : Hid (Below w.heap.size w w2) := hB2
    have HW2 : Hid (w2 = w1.alloc (.cells #[.map (some mb)] 55)) := hw2
    clear hk hw2 hbA q2 hB2 S2 hS hb1 hmb
    go_wp2_with fail
    rw [← HW2.out]
    refine Calls.mono HLF.out ?_
    rintro e w3 ⟨va, vc, rfl, hO, hb3⟩
    have hle : (lf l (inS (needR l names))).length ≤ 100000 := by have := lfTo_len l (inS (needR l names)) l.length; rw [lfTo_all] at this; omega
    have HSO : Hid _ := sort_any w2.heap.size (.slice va (lf l (inS (needR l names))).length vc) _ w3 hO hle
    have HO : Hid (OwnS w3 w2.heap.size (.slice va (lf l (inS (needR l names))).length vc) (lf l (inS (needR l names)))) := hO
    have HB3 : Hid (Below w.heap.size w w3) := HB2.out.trans (hb3.mono HB2.out.size)
    clear hO hb3 HLF
    go_wp2_with fail
    refine Calls.mono HSO.out ?_
    clear HSO
    rintro e w4 ⟨rfl, r, hp, hs, hO4, hg4⟩
    have HP : Hid (IsCl l names r) := by
      obtain ⟨W, hn⟩ := knw_none HK.out
      exact isCl_of W hn hp hs
    have HO4 : Hid (OwnS w4 w.heap.size (.slice va r.length vc) r) := by
      have := hO4.base HB2.out.size
      rw [← hp.length_eq] at this
      exact this
    have HB4 : Hid (Below w.heap.size w w4) := HB3.out.grown hg4 HB3.out.size (fun k e => Nat.le_trans HB2.out.size (HO.out.block e).1)
    have HE : Hid (r.length = (lf l (inS (needR l names))).length) := hp.length_eq
    clear hp hs hO4 hg4 HO hle
    go_wp2_with fail
    go_ret2
    exact ⟨HB4.out, .inr ⟨HK.out, r, va, vc, by rw [HE.out]; rfl, HP.out, HO4.out⟩⟩
set_option maxRecDepth 100000 in
theorem dead_any (T : Sents a w) (hv : PksIn w v l) (hl : l.length ≤ 100) (hn : Texts w nv names) (hz : ∀ x ∈ names, x.size ≤ 1000) (hnl : names.length ≤ 10000) :
    Calls Tryd.prog 18 #[v, nv] w (RefPost a (knw l names) w fun r => r = lf l fun p => !inS (needR l names) p) := by
  have HND : Hid _ := need_any a v nv l names w T hv hl hn hz hnl
  obtain ⟨na, nc, rfl, _⟩ := id hn
  obtain ⟨ad, an, cap, rfl⟩ : ∃ ad an cap, v = .slice ad an cap := by obtain ⟨vs, _, ad, cap, e, _⟩ := hv; exact ⟨_, _, _, e⟩
  have HV : Hid (PksIn w (.slice ad an cap) l) := hv
  clear hv hn hz T
  go_enter Tryd.func18, Tryd.ntmps18
  go_wp2_with fail
  refine Calls.mono HND.out ?_
  clear HND
  rintro e w1 ⟨hb1, ⟨f, ev, hk, rfl, hf⟩ | ⟨hk, mb, rfl, hmb, hS⟩⟩
  · obtain ⟨t, p, rfl⟩ := flt_form hf
    have HB1 : Hid (Below w.heap.size w w1) := hb1
    have HK : Hid (knw l names = some f) := hk
    have hbA : Below w1.heap.size w1 (w1.alloc (.cells #[.map none] 55)) := (Below.refl _ _).alloc (Nat.le_refl _) _
    have HF : Hid (FltV a (w1.alloc (.cells #[.map none] 55)) (some f) (.iface t (.pointer p))) := hf.below hbA
    have HB2 : Hid (Below w.heap.size w (w1.alloc (.cells #[.map none] 55))) := HB1.out.trans (hbA.mono HB1.out.size)
    clear hb1 hk hf hbA
    go_wp2_with fail
    go_ret2
    exact ⟨HB2.out, .inl ⟨f, _, HK.out, rfl, HF.out⟩⟩
  · have HK : Hid (knw l names = none) := hk
    obtain ⟨w2, hw2⟩ : ∃ w2, w2 = w1.alloc (.cells #[.map (some mb)] 55) := ⟨_, rfl⟩
    have hbA : Below w1.heap.size w1 w2 := by rw [hw2]; exact (Below.refl _ _).alloc (Nat.le_refl _) _
    have q2 : w2.heap[w1.heap.size]? = some (.cells #[.map (some mb)] 55 (0, 0)) := by rw [hw2]; exact heap_alloc_last _ _
    have hB2 : Below w.heap.size w w2 := hb1.trans (hbA.mono hb1.size)
    have S2 := hS.below hbA
    have HLF : Hid _ := lastFirst_any 38 w1.heap.size (fun p => !inS (needR l names) p) (.slice ad an cap) l w2 (HV.out.below hB2) hl (enters_of Tryd.func38 (by kernel_rfl) rfl) (fun vs _ x W hW => dead1_any x W (by rw [hW.cell (p := ⟨w1.heap.size, 0, none⟩) (lt_of_row q2), cell_of_row _ _ _ _ _ _ q2]; rfl) (S2.below hW))
    have HB2 : Hid (Below w.heap.size w w2) := hB2
    have HW2 : Hid (w2 = w1.alloc (.cells #[.map (some mb)] 55)) := hw2
    clear hk hw2 hbA q2 hB2 S2 hS hb1 hmb
    go_wp2_with fail
    rw [← HW2.out]
    refine Calls.mono HLF.out ?_
    rintro e w3 ⟨va, vc, rfl, hO, hb3⟩
    have HO : Hid (OwnS w3 w.heap.size (.slice va (lf l fun p => !inS (needR l names) p).length vc) (lf l fun p => !inS (needR l names) p)) := hO.base HB2.out.size
    have HB3 : Hid (Below w.heap.size w w3) := HB2.out.trans (hb3.mono HB2.out.size)
    clear hO hb3 HLF
    go_wp2_with fail
    go_ret2
    exact ⟨HB3.out, .inr ⟨HK.out, _, va, vc, rfl, rfl, HO.out⟩⟩
set_option maxRecDepth 100000 in
theorem users_any (name : ByteArray) (T : Sents a w) (hv : PksIn w v l) (hl : l.length ≤ 100) (hz : name.size ≤ 1000) :
    Calls Tryd.prog 16 #[v, .string name] w (RefPost a (knw l [name]) w fun r => r.Perm (lf l (usesB name)) ∧ r.Pairwise fun a b => bl b a = false) := by
  obtain ⟨ad, an, cap, rfl⟩ : ∃ ad an cap, v = .slice ad an cap := by obtain ⟨vs, _, ad, cap, e, _⟩ := hv; exact ⟨_, _, _, e⟩
  obtain ⟨w2, hw2⟩ : ∃ w2, w2 = (w.alloc (.cells #[.string name] 9)).alloc (.cells #[.string name] 9) := ⟨_, rfl⟩
  have hB2 : Below w.heap.size w w2 := by rw [hw2]; exact ((Below.refl _ _).alloc (Nat.le_refl _) _).alloc (by simp) _
  have q0 : w2.heap[w.heap.size]? = some (.cells #[.string name] 9 (0, 0)) := by
    rw [hw2, Below.heap_alloc _ _ _ (by simp)]; exact heap_alloc_last _ _
  have q1 : w2.heap[w.heap.size + 1]? = some (.cells #[.string name] 9 (0, 0)) := by
    have h := heap_alloc_last (w.alloc (.cells #[.string name] 9)) (.cells #[.string name] 9)
    rw [World.size_alloc] at h
    rw [hw2]; exact h
  have HKN : Hid _ := known_any a (.slice ad an cap) (.slice (some ⟨w.heap.size + 1, 0, none⟩) 1 1) l [name] w2 (T.below hB2) (hv.below hB2) hl (one_text q1 1) (fun x hx => by rw [List.mem_singleton.1 hx]; exact hz) (by simp)
  have HV : Hid (PksIn w (.slice ad an cap) l) := hv
  have HB2 : Hid (Below w.heap.size w w2) := hB2
  have HW2 : Hid (w2 = (w.alloc (.cells #[.string name] 9)).alloc (.cells #[.string name] 9)) := hw2
  have HQ0 : Hid (w2.heap[w.heap.size]? = some (.cells #[.string name] 9 (0, 0))) := q0
  clear hv T hw2 hB2 q0 q1
  go_enter Tryd.func16, Tryd.ntmps16
  go_wp2_with fail
  rw [← HW2.out]
  refine Calls.mono HKN.out ?_
  clear HKN
  rintro e w3 ⟨ev, rfl, hf, hb3⟩
  have HB3 : Hid (Below w.heap.size w w3) := HB2.out.trans (hb3.mono HB2.out.size)
  have q3 := (hb3.block _ (lt_of_row HQ0.out)).trans HQ0.out
  have HF : Hid (FltV a w3 (knw l [name]) ev) := hf
  clear hf hb3
  cases hk : knw l [name] with
  | some f =>
    have HK : Hid (knw l [name] = some f) := hk
    rw [hk] at HF
    obtain ⟨t, p, rfl⟩ := flt_form HF.out
    clear hk
    go_wp2_with fail
    go_ret2
    exact ⟨HB3.out, .inl ⟨f, _, HK.out, rfl, HF.out⟩⟩
  | none =>
    have HK : Hid (knw l [name] = none) := hk
    rw [hk] at HF
    obtain rfl : ev = .nilIface := HF.out
    have HLF : Hid _ := lastFirst_any 36 w.heap.size (usesB name) (.slice ad an cap) l w3 (HV.out.below HB3.out) hl (enters_of Tryd.func36 (by kernel_rfl) rfl) (fun vs _ x W hW => use1_any x name W hW (by rw [hW.cell (p := ⟨w.heap.size, 0, none⟩) (lt_of_row q3), cell_of_row _ _ _ _ _ _ q3]; rfl))
    clear hk HF q3
    go_wp2_with fail
    refine Calls.mono HLF.out ?_
    rintro e w4 ⟨va, vc, rfl, hO, hb4⟩
    have hle : (lf l (usesB name)).length ≤ 100000 := by have := lfTo_len l (usesB name) l.length; rw [lfTo_all] at this; omega
    have HSO : Hid _ := sort_any w3.heap.size (.slice va (lf l (usesB name)).length vc) _ w4 hO hle
    have HO : Hid (OwnS w4 w3.heap.size (.slice va (lf l (usesB name)).length vc) (lf l (usesB name))) := hO
    have HB4 : Hid (Below w.heap.size w w4) := HB3.out.trans (hb4.mono HB3.out.size)
    clear hO hb4 HLF
    go_wp2_with fail
    refine Calls.mono HSO.out ?_
    clear HSO
    rintro e w5 ⟨rfl, r, hp, hs, hO5, hg5⟩
    have HP : Hid (r.Perm (lf l (usesB name)) ∧ r.Pairwise fun a b => bl b a = false) := ⟨hp, hs⟩
    have HO5 : Hid (OwnS w5 w.heap.size (.slice va r.length vc) r) := by
      have := hO5.base HB3.out.size
      rw [← hp.length_eq] at this
      exact this
    have HB5 : Hid (Below w.heap.size w w5) := HB4.out.grown hg5 HB4.out.size (fun k e => Nat.le_trans HB3.out.size (HO.out.block e).1)
    have HE : Hid (r.length = (lf l (usesB name)).length) := hp.length_eq
    clear hp hs hO5 hg5 HO hle
    go_wp2_with fail
    go_ret2
    exact ⟨HB5.out, .inr ⟨HK.out, r, va, vc, by rw [HE.out]; rfl, HP.out, HO5.out⟩⟩
end
end Go.Proofs.YtlaenhohjcjilaaDoor
