/-
  The contract of package path's at: from a node to the one that names lead to.
  Conditions: the tree lies in memory below block B; its kids' names rise.
-/
import Derived.Test.YtpjjpmikhjlgnaaGreatDoorFind
import Derived.Test.YtpjjpmikhjlgnaaGreatDoorPSplit
namespace Go.Proofs.YtpjjpmikhjlgnaaGreatDoor
open Go.RowKit
attribute [local go_sem ↓] Go.wp_at_zero Go.wp_at_succ

/-- The kid of a name. -/
def kidOf (t : Tree) (s : ByteArray) : Option Tree := if thereAt t.kids s = true then (t.kids[placeOf t.kids s]?).map (·.2) else none
/-- The node that names lead to. -/
def atR : List ByteArray → Tree → Option Tree
  | [], t => some t
  | s :: r, t => match kidOf t s with
    | none => none
    | some k => atR r k
theorem atR_snoc : ∀ (l : List ByteArray) (s : ByteArray) (t : Tree), atR (l ++ [s]) t = (atR l t).bind fun k => kidOf k s
  | [], s, t => by
    simp only [List.nil_append, atR, Option.bind_some]
    cases kidOf t s <;> rfl
  | x :: l, s, t => by
    simp only [List.cons_append, atR]
    cases h : kidOf t x with
    | none => rfl
    | some k => simp only; exact atR_snoc l s k
theorem atR_more : ∀ (l m : List ByteArray) (t : Tree), atR l t = none → atR (l ++ m) t = none
  | [], _, _, h => by simp [atR] at h
  | x :: l, m, t, h => by
    simp only [List.cons_append, atR] at h ⊢
    cases hk : kidOf t x with
    | none => rfl
    | some k =>
      rw [hk] at h
      exact atR_more l m k h
/-- Names rise, all the way down. -/
def RisesD : Nat → Tree → Prop
  | 0, _ => False
  | d + 1, t => Rises t.kids ∧ ∀ x ∈ t.kids, RisesD d x.2
/-- A node in memory, at an address. -/
def NodeAt (w : World) (B d b o : Nat) (t : Tree) : Prop := b < B ∧ ∃ u, w.cell? ⟨b, o, none⟩ = some (.string t.kind) ∧ w.cell? ⟨b, o + 1, none⟩ = some (.string t.data) ∧ w.cell? ⟨b, o + 2, none⟩ = some (.bool t.exec) ∧ w.cell? ⟨b, o + 3, none⟩ = some u ∧ Lies w B d t.kids u
theorem NodeAt.below {w w' : World} {B d b o : Nat} {t : Tree} (h : NodeAt w B d b o t) {C : Nat} (hb : Below C w w') (hC : B ≤ C) : NodeAt w' B d b o t := by
  obtain ⟨h1, u, h2, h3, h4, h5, h6⟩ := h
  have hc : ∀ o, w'.cell? ⟨b, o, none⟩ = w.cell? ⟨b, o, none⟩ := fun o => hb.cell (p := ⟨b, o, none⟩) (show b < C by omega)
  exact ⟨h1, u, by rw [hc]; exact h2, by rw [hc]; exact h3, by rw [hc]; exact h4, by rw [hc]; exact h5, h6.below hb hC⟩
/-- Where names lead to from an address. -/
def AddrAt (w : World) : List ByteArray → Tree → Nat → Nat → Nat → Nat → Prop
  | [], _, b0, o0, b, o => b = b0 ∧ o = o0
  | x :: r, t, b0, o0, b, o => ∃ k g go n c, kidOf t x = some k ∧ w.cell? ⟨b0, o0 + 3, none⟩ = some (.slice (some ⟨g, go, none⟩) n c) ∧ AddrAt w r k g (go + placeOf t.kids x * 5 + 1) b o
theorem AddrAt.snoc {w : World} {x : ByteArray} {g go n c : Nat} : ∀ {l : List ByteArray} {t k q : Tree} {b0 o0 b o : Nat}, AddrAt w l t b0 o0 b o → atR l t = some k → kidOf k x = some q → w.cell? ⟨b, o + 3, none⟩ = some (.slice (some ⟨g, go, none⟩) n c) → AddrAt w (l ++ [x]) t b0 o0 g (go + placeOf k.kids x * 5 + 1)
  | [], t, k, q, b0, o0, b, o, ⟨hb, ho⟩, hk, hq, hc => by
    simp only [atR, Option.some.injEq] at hk
    subst hk; subst hb; subst ho
    exact ⟨q, g, go, n, c, hq, hc, rfl, rfl⟩
  | y :: l, t, k, q, b0, o0, b, o, ⟨z, g', go', n', c', h1, h2, h3⟩, hk, hq, hc => by
    simp only [atR, h1] at hk
    exact ⟨z, g', go', n', c', h1, h2, h3.snoc hk hq hc⟩
/-- What at hands back. -/
def AtPost (B d b0 o0 : Nat) (t : Tree) (names : List ByteArray) (w : World) (e : Ending) (w' : World) : Prop := Below w.heap.size w w' ∧
  ((atR names t = none ∧ e = .returned (.pointer none)) ∨ ∃ k d' b o, atR names t = some k ∧ e = .returned (.pointer (some ⟨b, o, none⟩)) ∧ NodeAt w B d' b o k ∧ d' ≤ d ∧ AddrAt w names t b0 o0 b o)

set_option maxRecDepth 100000 in
set_option maxHeartbeats 4000000 in
theorem at_any (B d b0 o0 : Nat) (t : Tree) (names : List ByteArray) (v : Value) (w : World) (hB : B ≤ w.heap.size) (hn : NodeAt w B d b0 o0 t) (hr : RisesD d t) (hv : Texts w v names) (hnl : names.length ≤ 1000000) :
    Calls Tryz.prog 38 #[.pointer (some ⟨b0, o0, none⟩), v] w (AtPost B d b0 o0 t names w) := by
  obtain ⟨ad, cap, rfl, hcs⟩ := hv
  have HCS : Hid (∀ i x, names[i]? = some x → ∃ b off, ad = some ⟨b, off, none⟩ ∧ w.cell? ⟨b, off + i, none⟩ = some (.string x)) := hcs
  have HN0 : Hid (NodeAt w B d b0 o0 t) := hn
  have HR0 : Hid (RisesD d t) := hr
  clear hcs hn hr
  go_enter Tryz.func38, Tryz.ntmps38
  go_wp2_with fail
  go_loopw [0, 11] (fun p i wr => ∃ (j : Nat) (k : Tree) (d' b o : Nat), j ≤ names.length ∧ i = .int .i64 j ∧ p = .pointer (some ⟨b, o, none⟩) ∧ atR (names.take j) t = some k ∧ NodeAt w B d' b o k ∧ RisesD d' k ∧ d' ≤ d ∧ Hid (AddrAt w (names.take j) t b0 o0 b o) ∧ Below w.heap.size w wr) (fun _ i _ => names.length - (intOf i).toNat)
  case atStart => exact ⟨0, t, d, b0, o0, Nat.zero_le _, rfl, rfl, rfl, HN0.out, HR0.out, Nat.le_refl _, ⟨rfl, rfl⟩, Below.refl _ _⟩
  case round =>
    obtain ⟨j, k, d', b, o, hj, rfl, rfl, hat, hn, hr, hd, HADR, hb⟩ := hrel
    have HAT : Hid _ := hat
    have HN : Hid (NodeAt w B d' b o k) := hn
    have HR : Hid (RisesD d' k) := hr
    have HB : Hid (Below w.heap.size w wr) := hb
    clear hat hn hr hb
    by_cases hlt : j < names.length
    · obtain ⟨s, hs⟩ : ∃ s, names[j]? = some s := ⟨names[j], List.getElem?_eq_getElem hlt⟩
      obtain ⟨nb, no, rfl, hnc⟩ := HCS.out j s hs
      have hnc' : wr.cell? ⟨nb, no + j, none⟩ = some (.string s) := by rw [HB.out.cell (p := ⟨nb, no + j, none⟩) (lt_of_cell hnc)]; exact hnc
      obtain ⟨hbB, u, h0, h1, h2, h3, hl⟩ := HN.out
      obtain ⟨ta, tc, rfl⟩ := hl.form
      have hlr := hl.below HB.out hB
      have h3' : wr.cell? ⟨b, o + 3, none⟩ = some (.slice ta k.kids.length tc) := by rw [HB.out.cell (p := ⟨b, o + 3, none⟩) (show b < w.heap.size by omega)]; exact h3
      have HS : Hid (names[j]? = some s) := hs
      have HL : Hid (Lies w B d' k.kids (.slice ta k.kids.length tc)) := hl
      have hr1 : Rises k.kids := by
        cases d' with
        | zero => exact HR.out.elim
        | succ d' => exact HR.out.1
      have HF : Hid _ := find_any B d' k.kids (.slice ta k.kids.length tc) s wr (by have := HB.out.size; omega) hlr hr1
      have hst : names.take (j + 1) = names.take j ++ [s] := by rw [List.take_succ_eq_append_getElem hlt, (List.getElem?_eq_some_iff.1 hs).2]
      have HNX : Hid (atR (names.take (j + 1)) t = kidOf k s) := show _ = _ by rw [hst, atR_snoc, HAT.out]; rfl
      have hj0 : (0 : Int) ≤ (j : Int) := by omega
      have hj1 : (j : Int) < (names.length : Int) := by omega
      have hlen : k.kids.length ≤ 1759218604390 := by
        cases d' with
        | zero => exact absurd hl (by simp [Lies])
        | succ d' => exact (Lies.open hl).1
      have HST : Hid _ := hst
      have HH3 : Hid (w.cell? ⟨b, o + 3, none⟩ = some (.slice ta k.kids.length tc)) := h3
      clear hs hnc h0 h1 h2 h3 hl hlr hr1 hst HCS
      cases hth : thereAt k.kids s with
      | false =>
        have HNO : Hid (atR names t = none) := show _ = _ by
          have h := HNX.out
          unfold kidOf at h
          rw [hth] at h
          have h2 := atR_more _ (names.drop (j + 1)) t h
          rw [List.take_append_drop] at h2
          exact h2
        rw [hth] at HF
        go_wp2_with fail
        refine Calls.mono HF.out ?_
        rintro e w2 ⟨rfl, hb2⟩
        have HB2 : Hid (Below w.heap.size w w2) := HB.out.trans (hb2.mono HB.out.size)
        clear hb2 HF
        go_wp2_with fail
        go_ret
        exact ⟨HB2.out, .inl ⟨HNO.out, rfl⟩⟩
      | true =>
        obtain ⟨x, hx, hxs⟩ := there_some hth
        have hpl : placeOf k.kids s < k.kids.length := (List.getElem?_eq_some_iff.1 hx).1
        have HYES : Hid (atR (names.take (j + 1)) t = some x.2) := show _ = _ by
          rw [HNX.out]
          unfold kidOf
          rw [hth, hx]
          rfl
        cases d' with
        | zero => exact HR.out.elim
        | succ d' =>
        obtain ⟨kb, koff, kc, e, hkb, hat⟩ : ∃ kb koff kc, Value.slice ta k.kids.length tc = .slice (some ⟨kb, koff, none⟩) k.kids.length kc ∧ kb < B ∧ ∀ i x, k.kids[i]? = some x → ∃ u, KidAt w B d' kb koff i x u := by
          rcases (Lies.open HL.out).2 with ⟨h0, _⟩ | ⟨kb, koff, kc, h⟩
          · rw [h0] at hpl; simp at hpl
          · exact ⟨kb, koff, kc, h⟩
        simp only [Value.slice.injEq] at e
        obtain ⟨rfl, _, rfl⟩ := e
        obtain ⟨ux, K⟩ := hat _ x hx
        have HNN : Hid (NodeAt w B d' kb (koff + placeOf k.kids s * 5 + 1) x.2) := ⟨hkb, ux, K.kind, K.data, K.exec, K.kids, K.lies⟩
        have HRR : Hid (RisesD d' x.2) := HR.out.2 x (List.mem_of_getElem? hx)
        have HADN : Hid (AddrAt w (names.take (j + 1)) t b0 o0 kb (koff + placeOf k.kids s * 5 + 1)) := show AddrAt _ _ _ _ _ _ _ by rw [HST.out]; exact HADR.out.snoc HAT.out (HNX.out.symm.trans HYES.out) HH3.out
        rw [hth] at HF
        generalize placeOf k.kids s = pl at *
        have hp0 : (0 : Int) ≤ (pl : Int) := by omega
        have hp1 : (pl : Int) < (k.kids.length : Int) := by omega
        clear hx hxs hat K hth HNX
        go_wp2_with fail
        refine Calls.mono HF.out ?_
        rintro e w2 ⟨rfl, hb2⟩
        have HB2 : Hid (Below w.heap.size w w2) := HB.out.trans (hb2.mono HB.out.size)
        have h32 : w2.cell? ⟨b, o + 3, none⟩ = some (.slice (some ⟨kb, koff, none⟩) k.kids.length tc) := by rw [hb2.cell (p := ⟨b, o + 3, none⟩) (show b < wr.heap.size by have := HB.out.size; omega)]; exact h3'
        clear hb2 HF h3' hnc'
        go_wp2_with fail
        go_roundw
        case rel => exact ⟨j + 1, x.2, d', kb, koff + pl * 5 + 1, by omega, by go_num, rfl, HYES.out, HNN.out, HRR.out, by omega, HADN.out, HB2.out⟩
        case measure => simp [intOf]; omega
    · have HE : Hid (atR names t = some k) := show _ = _ by
        have := HAT.out
        rw [List.take_of_length_le (by omega)] at this
        exact this
      have HAE : Hid (AddrAt w names t b0 o0 b o) := show AddrAt _ _ _ _ _ _ _ by
        have := HADR.out
        rw [List.take_of_length_le (by omega)] at this
        exact this
      go_wp2_with fail
      go_ret
      exact ⟨HB.out, .inr ⟨k, d', b, o, HE.out, rfl, HN.out, hd, HAE.out⟩⟩
end Go.Proofs.YtpjjpmikhjlgnaaGreatDoor
