/-
  The contracts of package refs' checkPack and Check.
  Conditions: the packs lie in memory, the sentinels hold what the program's text lays.
-/
import Derived.Test.YtlaenhohjcjilaaDoorRb
import Derived.Test.YtlaenhohjcjilaaDoorLeafs
import Derived.Test.YtlaenhohjcjilaaDoorCode
namespace Go.Proofs.YtlaenhohjcjilaaDoor
open Go.RowKit Go.Maps
attribute [local go_sem ↓] Go.wp_at_zero Go.wp_at_succ

/-- A pack with what its cells hold, small. -/
structure PkV (w : World) where
  pk : Pk
  ua : Option Addr
  uc : Nat
  kd : ByteArray
  dt : ByteArray
  ex : Bool
  ka : Option Addr
  kn : Nat
  kc : Nat
  tx : Texts w (.slice ua pk.refs.length uc) pk.refs
  sn : pk.name.size ≤ 30
  sl : pk.refs.length ≤ 25
  sr : ∀ r ∈ pk.refs, r.size ≤ 30
def PkV.cells {w : World} (x : PkV w) : Array Value := #[.string x.pk.name, .slice x.ua x.pk.refs.length x.uc, .string x.kd, .string x.dt, .bool x.ex, .slice x.ka x.kn x.kc]
/-- Packs in memory. -/
def PksAt (w : World) (v : Value) (vs : List (PkV w)) : Prop := ∃ ad cap, v = .slice ad vs.length cap ∧ ∀ i (x : PkV w), vs[i]? = some x → ∃ b off, ad = some ⟨b, off, none⟩ ∧
  w.cell? ⟨b, off + i * 6, none⟩ = some (.string x.pk.name) ∧ w.cell? ⟨b, off + i * 6 + 1, none⟩ = some (.slice x.ua x.pk.refs.length x.uc) ∧ w.cell? ⟨b, off + i * 6 + 2, none⟩ = some (.string x.kd) ∧ w.cell? ⟨b, off + i * 6 + 3, none⟩ = some (.string x.dt) ∧ w.cell? ⟨b, off + i * 6 + 4, none⟩ = some (.bool x.ex) ∧ w.cell? ⟨b, off + i * 6 + 5, none⟩ = some (.slice x.ka x.kn x.kc)
def PkV.up {w w' : World} (hb : Below w.heap.size w w') (x : PkV w) : PkV w' := ⟨x.pk, x.ua, x.uc, x.kd, x.dt, x.ex, x.ka, x.kn, x.kc, x.tx.below hb, x.sn, x.sl, x.sr⟩
def PksIn (w : World) (v : Value) (l : List Pk) : Prop := ∃ vs : List (PkV w), vs.map PkV.pk = l ∧ PksAt w v vs
theorem PksIn.below {w w' : World} {v : Value} {l : List Pk} (h : PksIn w v l) (hb : Below w.heap.size w w') : PksIn w' v l := by
  obtain ⟨vs, e, ad, cap, rfl, hc⟩ := h
  refine ⟨vs.map (PkV.up hb), by rw [List.map_map, ← e]; rfl, ad, cap, by rw [List.length_map], fun i x hx => ?_⟩
  rw [List.getElem?_map] at hx
  cases hy : vs[i]? with
  | none => rw [hy] at hx; cases hx
  | some y =>
    rw [hy] at hx
    obtain rfl := Option.some.inj hx
    obtain ⟨b, off, e1, c0, c1, c2, c3, c4, c5⟩ := hc i y hy
    have hl := lt_of_cell c0
    have k : ∀ j, w'.cell? ⟨b, j, none⟩ = w.cell? ⟨b, j, none⟩ := fun j => hb.cell (p := ⟨b, j, none⟩) hl
    exact ⟨b, off, e1, (k _).trans c0, (k _).trans c1, (k _).trans c2, (k _).trans c3, (k _).trans c4, (k _).trans c5⟩

section
variable {mb b2 b3 : Nat} {A : List ByteArray} {p : Pk}
theorem missing_any (r : ByteArray) (w : World) (c2 : w.cell? ⟨b2, 0, none⟩ = some (.string p.name)) (c3 : w.cell? ⟨b3, 0, none⟩ = some (.map (some mb))) (S : SetAt w mb A) (hr : r.size ≤ 1000) :
    Calls Tryd.prog 41 #[.string r, .pointer (some ⟨b2, 0, none⟩), .pointer (some ⟨b3, 0, none⟩)] w fun e w' => e = .returned (.bool (lacks A p r)) ∧ Below w.heap.size w w' := by
  have HH : Hid _ := has_any r w S hr
  clear S
  cases h : (r.toList == p.name.toList) with
  | true =>
    have HE : Hid (lacks A p r = false) := show _ = _ by unfold lacks; rw [h]; rfl
    go_enter Tryd.func41, Tryd.ntmps41
    go_wp2_with fail
    go_ret
    exact ⟨ret_bool HE.out.symm, Below.refl _ _⟩
  | false =>
    have HE : Hid (lacks A p r = !(memB r A)) := show _ = _ by unfold lacks; rw [h]; rfl
    go_enter Tryd.func41, Tryd.ntmps41
    go_wp2_with fail
    refine Calls.mono HH.out ?_
    rintro e w' ⟨rfl, hb⟩
    go_wp2_with fail
    go_ret
    exact ⟨ret_bool HE.out.symm, hb⟩

set_option maxRecDepth 100000 in
theorem indexf_any (v : Value) (l : List ByteArray) (g : ByteArray → Bool) (w : World) (hv : Texts w v l) (hl : l.length ≤ 100000)
    (hf : ∀ r ∈ l, ∀ W, Below w.heap.size w W → Calls Tryd.prog 41 #[.string r, .pointer (some ⟨b2, 0, none⟩), .pointer (some ⟨b3, 0, none⟩)] W fun e w' => e = .returned (.bool (g r)) ∧ Below W.heap.size W w') :
    Calls Tryd.prog 57 #[v, .func (.func 41) #[] #[.pointer (some ⟨b2, 0, none⟩), .pointer (some ⟨b3, 0, none⟩)]] w fun e w' => (∃ z : Int, e = .returned (.int .i64 z) ∧ (decide (0 ≤ z) = l.any g)) ∧ Below w.heap.size w w' := by
  obtain ⟨ad, cap, rfl, hc⟩ := hv
  have HC : Hid (∀ i x, l[i]? = some x → ∃ b off, ad = some ⟨b, off, none⟩ ∧ w.cell? ⟨b, off + i, none⟩ = some (.string x)) := hc
  have HF : Hid (∀ r ∈ l, ∀ W, Below w.heap.size w W → Calls Tryd.prog 41 #[.string r, .pointer (some ⟨b2, 0, none⟩), .pointer (some ⟨b3, 0, none⟩)] W fun e w' => e = .returned (.bool (g r)) ∧ Below W.heap.size W w') := hf
  clear hc hf
  go_enter Tryd.func57, Tryd.ntmps57
  go_wp2_with fail
  go_loopw [8] (fun i wr => ∃ k : Nat, k ≤ l.length ∧ i = .int .i64 k ∧ Hid (Below w.heap.size w wr ∧ (l.take k).any g = false)) (fun i _ => l.length - (intOf i).toNat)
  case atStart => exact ⟨0, Nat.zero_le _, rfl, Below.refl _ _, rfl⟩
  case round =>
    obtain ⟨k, hk, rfl, HI⟩ := hrel
    by_cases hlt : k < l.length
    · obtain ⟨x, hx⟩ : ∃ x, l[k]? = some x := ⟨l[k], List.getElem?_eq_getElem hlt⟩
      obtain ⟨b1, o1, rfl, c1⟩ := HC.out k x hx
      have c1' : wr.cell? ⟨b1, o1 + k, none⟩ = some (.string x) := (HI.out.1.cell (p := ⟨b1, o1 + k, none⟩) (lt_of_cell c1)).trans c1
      have HX : Hid (l[k]? = some x) := hx
      have HCA : Hid _ := HF.out x (List.mem_of_getElem? hx) wr HI.out.1
      clear hx c1
      go_wp2_with fail
      refine Calls.mono HCA.out ?_
      rintro e w1 ⟨rfl, hb⟩
      have HB : Hid (Below w.heap.size w w1) := HI.out.1.trans (hb.mono HI.out.1.size)
      clear hb HCA c1'
      have hkk := List.getElem?_eq_some_iff.1 HX.out
      have HT : Hid ((l.take (k + 1)).any g = g x) := show _ = _ by rw [List.take_succ_eq_append_getElem hkk.1, hkk.2, List.any_append, HI.out.2]; simp
      clear hkk
      cases hg : g x with
      | true =>
        have HA : Hid (l.any g = true) := List.any_eq_true.2 ⟨x, List.mem_of_getElem? HX.out, hg⟩
        clear hg
        go_wp2_with fail
        go_ret
        exact ⟨⟨_, rfl, by rw [HA.out]; exact decide_eq_true (by omega)⟩, HB.out⟩
      | false =>
        rw [hg] at HT
        clear hg
        go_wp2_with fail
        go_roundw
        case rel => exact ⟨k + 1, by omega, by go_num, HB.out, HT.out⟩
        case measure => simp [intOf]; omega
    · have e : k = l.length := by omega
      subst e
      go_wp2_with fail
      go_ret
      exact ⟨⟨_, rfl, by have := HI.out.2; rw [List.take_length] at this; rw [this]; rfl⟩, HI.out.1⟩
theorem containsf_any (v : Value) (l : List ByteArray) (g : ByteArray → Bool) (w : World) (hv : Texts w v l) (hl : l.length ≤ 100000)
    (hf : ∀ r ∈ l, ∀ W, Below w.heap.size w W → Calls Tryd.prog 41 #[.string r, .pointer (some ⟨b2, 0, none⟩), .pointer (some ⟨b3, 0, none⟩)] W fun e w' => e = .returned (.bool (g r)) ∧ Below W.heap.size W w') :
    Calls Tryd.prog 44 #[v, .func (.func 41) #[] #[.pointer (some ⟨b2, 0, none⟩), .pointer (some ⟨b3, 0, none⟩)]] w fun e w' => e = .returned (.bool (l.any g)) ∧ Below w.heap.size w w' := by
  have H := indexf_any v l g w hv hl hf
  obtain ⟨ad, cap, rfl, _⟩ := hv
  clear hf
  go_enter Tryd.func44, Tryd.ntmps44
  go_wp2_with fail
  refine Calls.mono H ?_
  rintro e w1 ⟨⟨z, rfl, hz⟩, hb⟩
  have HZ : Hid (decide (0 ≤ z) = l.any g) := hz
  clear hz H
  go_wp2_with fail
  go_ret
  exact ⟨ret_bool HZ.out, hb⟩
set_option maxRecDepth 100000 in
theorem index_any (v : Value) (l : List ByteArray) (s : ByteArray) (w : World) (hv : Texts w v l) (hl : l.length ≤ 100000) :
    Calls Tryd.prog 49 #[v, .string s] w fun e w' => (∃ z : Int, e = .returned (.int .i64 z) ∧ (decide (0 ≤ z) = memB s l)) ∧ w' = w := by
  obtain ⟨ad, cap, rfl, hc⟩ := hv
  have HC : Hid (∀ i x, l[i]? = some x → ∃ b off, ad = some ⟨b, off, none⟩ ∧ w.cell? ⟨b, off + i, none⟩ = some (.string x)) := hc
  clear hc
  go_enter Tryd.func49, Tryd.ntmps49
  go_wp2_with fail
  go_loop [8] (fun i => ∃ k : Nat, k ≤ l.length ∧ i = .int .i64 k ∧ Hid (memB s (l.take k) = false)) (fun i => l.length - (intOf i).toNat)
  case atStart => exact ⟨0, Nat.zero_le _, rfl, rfl⟩
  case round =>
    obtain ⟨k, hk, rfl, HI⟩ := hrel
    by_cases hlt : k < l.length
    · obtain ⟨x, hx⟩ : ∃ x, l[k]? = some x := ⟨l[k], List.getElem?_eq_getElem hlt⟩
      obtain ⟨b1, o1, rfl, c1⟩ := HC.out k x hx
      have hkk := List.getElem?_eq_some_iff.1 hx
      have HT : Hid (memB s (l.take (k + 1)) = (x.toList == s.toList)) := show _ = _ by rw [List.take_succ_eq_append_getElem hkk.1, hkk.2, memB_snoc, HI.out]; rfl
      have HX : Hid (x ∈ l) := List.mem_of_getElem? hx
      clear hkk hx
      cases hg : (s.toList == x.toList) with
      | true =>
        have HA : Hid (memB s l = true) := memB_iff.2 (by rw [ba_beq.1 hg]; exact HX.out)
        go_wp2_with fail
        go_ret
        exact ⟨⟨_, rfl, by rw [HA.out]; exact decide_eq_true (by omega)⟩, rfl⟩
      | false =>
        have HU : Hid (memB s (l.take (k + 1)) = false) := by show _ = _; rw [HT.out]; exact ba_bne.2 fun e => ba_bne.1 hg e.symm
        go_wp2_with fail
        go_round
        case rel => exact ⟨k + 1, by omega, by go_num, HU⟩
        case measure => simp [intOf]; omega
    · have e : k = l.length := by omega
      subst e
      go_wp2_with fail
      go_ret
      exact ⟨⟨_, rfl, by have := HI.out; rw [List.take_length] at this; rw [this]; rfl⟩, rfl⟩
theorem contains_any (v : Value) (l : List ByteArray) (s : ByteArray) (w : World) (hv : Texts w v l) (hl : l.length ≤ 100000) :
    Calls Tryd.prog 37 #[v, .string s] w fun e w' => e = .returned (.bool (memB s l)) ∧ w' = w := by
  have H := index_any v l s w hv hl
  obtain ⟨ad, cap, rfl, _⟩ := hv
  go_enter Tryd.func37, Tryd.ntmps37
  go_wp2_with fail
  refine Calls.mono H ?_
  rintro e w1 ⟨⟨z, rfl, hz⟩, rfl⟩
  have HZ : Hid (decide (0 ≤ z) = memB s l) := hz
  clear hz H
  go_wp2_with fail
  go_ret
  exact ⟨ret_bool HZ.out, rfl⟩
end
end Go.Proofs.YtlaenhohjcjilaaDoor
