/-
  The contracts of package path's find: a name among kids whose names rise (slices.BinarySearchFunc, its closure).
  Conditions: the kids lie in memory below block B; their names rise.
-/
import Derived.Test.YtpjjpmikhjlgnaaGreatDoorOrds
import Derived.Test.YtpjjpmikhjlgnaaGreatDoorShelfC
import Derived.Test.YtpjjpmikhjlgnaaGreatDoorLeafs
import Derived.Deep.DrawnRows
import Derived.Deep.LoopGhost
namespace Go.Proofs.YtpjjpmikhjlgnaaGreatDoor
open Go.RowKit
attribute [local go_sem ↓] Go.wp_at_zero Go.wp_at_succ

/-- A kid's value. -/
abbrev kidV (x : ByteArray × Tree) (u : Value) : Value := .agg #[.string x.1, .string x.2.kind, .string x.2.data, .bool x.2.exec, u]

set_option maxHeartbeats 1000000 in
theorem find1_any (x : ByteArray × Tree) (ad : Option Addr) (n c : Nat) (s : ByteArray) (w : World) : Calls Tryz.prog 69 #[.agg #[.string x.1, .string x.2.kind, .string x.2.data, .bool x.2.exec, .slice ad n c], .string s] w fun e w' => e = .returned (.int .i64 (Lib.compareBytes x.1.data.toList s.data.toList)) ∧ Below w.heap.size w w' := by
  have HC : Hid (∀ w', Calls Tryz.prog 70 #[.string x.1, .string s] w' fun e w'' => e = .returned (.int .i64 (Lib.compareBytes x.1.data.toList s.data.toList)) ∧ w'' = w') := fun w' => Tryz.strings_Compare x.1 s w'
  have HB : Hid (∀ o, Below w.heap.size w (w.alloc o)) := fun o => (Below.refl _ _).alloc (Nat.le_refl _) o
  go_enter Tryz.func69, Tryz.ntmps69
  go_wp2_with fail
  refine Calls.mono (HC.out _) ?_
  rintro e w1 ⟨rfl, rfl⟩
  go_wp2_with fail
  go_ret
  exact ⟨rfl, HB.out _⟩

theorem cmp_lt {x s : ByteArray} : Lib.compareBytes x.data.toList s.data.toList < 0 ↔ Op.bytesLess x.toList s.toList = true := by
  rw [ba_toList, ba_toList]; exact (cmp_less _ _).1
theorem cmp_eq0 {x s : ByteArray} : Lib.compareBytes x.data.toList s.data.toList = 0 ↔ x = s := by
  rw [(cmp_less _ _).2]
  exact ⟨fun h => ba_ext (by rw [ba_toList, ba_toList]; exact h), fun h => by rw [h]⟩
theorem ret_ib {i j : Int} {x y : Bool} (h1 : i = j) (h2 : x = y) : Ending.returned (.tuple #[.int .i64 i, .bool x]) = .returned (.tuple #[.int .i64 j, .bool y]) := by rw [h1, h2]
theorem there_of {l : List (ByteArray × Tree)} {s : ByteArray} {i : Nat} {x : ByteArray × Tree} (hi : placeOf l s = i) (hx : l[i]? = some x) : thereAt l s = decide (x.1 = s) := by
  unfold thereAt; rw [hi, hx]
theorem there_none {l : List (ByteArray × Tree)} {s : ByteArray} (hi : placeOf l s = l.length) : thereAt l s = false := by
  unfold thereAt; rw [hi, List.getElem?_eq_none (Nat.le_refl _)]

set_option maxRecDepth 100000 in
set_option maxHeartbeats 4000000 in
theorem search_any (B d : Nat) (l : List (ByteArray × Tree)) (u : Value) (s : ByteArray) (w : World) (hB : B ≤ w.heap.size) (hl : Lies w B d l u) (hr : Rises l) :
    Calls Tryz.prog 68 #[u, .string s, .func (.func 69) #[] #[]] w fun e w' => e = .returned (.tuple #[.int .i64 (placeOf l s : Int), .bool (thereAt l s)]) ∧ Below w.heap.size w w' := by
  obtain ⟨ta, tc, rfl⟩ := hl.form
  cases d with
  | zero => exact absurd hl (by simp [Lies])
  | succ d =>
  obtain ⟨hlen, hop⟩ := Lies.open hl
  have HOP : Hid _ := hop
  have HRI : Hid (Rises l) := hr
  have HF1 : Hid (∀ (x : ByteArray × Tree) (ad : Option Addr) (n c : Nat) (w' : World), Calls Tryz.prog 69 #[.agg #[.string x.1, .string x.2.kind, .string x.2.data, .bool x.2.exec, .slice ad n c], .string s] w' fun e w'' => e = .returned (.int .i64 (Lib.compareBytes x.1.data.toList s.data.toList)) ∧ Below w'.heap.size w' w'') := fun x ad n c w' => find1_any x ad n c s w'
  -- one kid, wherever
  have HKID : Hid (∀ i, i < l.length → ∃ x b off xa xn xc, l[i]? = some x ∧ ta = some ⟨b, off, none⟩ ∧ ∀ w', Below w.heap.size w w' →
      w'.cell? ⟨b, off + i * 5, none⟩ = some (.string x.1) ∧ w'.cell? ⟨b, off + i * 5 + 1, none⟩ = some (.string x.2.kind) ∧ w'.cell? ⟨b, off + i * 5 + 2, none⟩ = some (.string x.2.data) ∧ w'.cell? ⟨b, off + i * 5 + 3, none⟩ = some (.bool x.2.exec) ∧ w'.cell? ⟨b, off + i * 5 + 4, none⟩ = some (.slice xa xn xc)) := fun i hi => by
    rcases HOP.out with ⟨h0, _⟩ | ⟨b, off, cap, e, hb, hat⟩
    · rw [h0] at hi; simp at hi
    · obtain ⟨x, hx⟩ : ∃ x, l[i]? = some x := ⟨l[i], List.getElem?_eq_getElem hi⟩
      obtain ⟨ux, K⟩ := hat i x hx
      obtain ⟨xa, xc, rfl⟩ := K.lies.form
      simp only [Value.slice.injEq] at e
      refine ⟨x, b, off, xa, x.2.kids.length, xc, hx, e.1, fun w' h => ?_⟩
      have hc : ∀ o, w'.cell? ⟨b, o, none⟩ = w.cell? ⟨b, o, none⟩ := fun o => h.cell (p := ⟨b, o, none⟩) (show b < w.heap.size by omega)
      exact ⟨by rw [hc]; exact K.name, by rw [hc]; exact K.kind, by rw [hc]; exact K.data, by rw [hc]; exact K.exec, by rw [hc]; exact K.kids⟩
  clear hl hop hr HOP
  go_enter Tryz.func68, Tryz.ntmps68
  go_wp2_with fail
  go_loopg [9, 10] l.length (fun kx s9 s10 wr => ∃ lo hi : Nat, s9 = .int .i64 lo ∧ s10 = .int .i64 hi ∧ lo ≤ hi ∧ hi ≤ l.length ∧ hi - lo ≤ kx ∧ Below w.heap.size w wr ∧
    ((∀ t x, t < lo → l[t]? = some x → Op.bytesLess x.1.toList s.toList = true) ∧ (∀ t x, hi ≤ t → l[t]? = some x → Op.bytesLess x.1.toList s.toList = false)))
  case atStart => exact ⟨0, l.length, rfl, rfl, Nat.zero_le _, Nat.le_refl _, by omega, Below.refl _ _, fun t x ht => absurd ht (Nat.not_lt_zero _), fun t x h1 h2 => by have := (List.getElem?_eq_some_iff.1 h2).1; omega⟩
  case round =>
    obtain ⟨lo, hi, rfl, rfl, hlh, hin, hg, hb, I1, I2⟩ := hrel
    have HB : Hid (Below w.heap.size w wr) := hb
    have HI1 : Hid (∀ t x, t < lo → l[t]? = some x → Op.bytesLess x.1.toList s.toList = true) := I1
    have HI2 : Hid (∀ t x, hi ≤ t → l[t]? = some x → Op.bytesLess x.1.toList s.toList = false) := I2
    clear hb I1 I2
    by_cases hlt : lo < hi
    · obtain ⟨x, b, off, xa, xn, xc, hx, rfl, hcs⟩ := HKID.out ((lo + hi) / 2) (by omega)
      obtain ⟨c0, c1, c2, c3, c4⟩ := hcs wr HB.out
      have HX : Hid (l[(lo + hi) / 2]? = some x) := hx
      have hmid : ((lo : Int) + (hi : Int)) / 2 = (((lo + hi) / 2 : Nat) : Int) := by omega
      generalize hm : (lo + hi) / 2 = mid at *
      have hm0 : (0 : Int) ≤ (mid : Int) := by omega
      have hm1 : (mid : Int) < (l.length : Int) := by omega
      have hm2 : lo ≤ mid := by omega
      have hm3 : mid < hi := by omega
      clear hx hcs HKID hm
      by_cases hless : Lib.compareBytes x.1.data.toList s.data.toList < 0
      · go_wp2_with fail
        refine Calls.mono (HF1.out x xa xn xc _) ?_
        rintro e w2 ⟨rfl, hb2⟩
        have HB2 : Hid (Below w.heap.size w w2) := HB.out.trans (hb2.mono HB.out.size)
        clear hb2 c0 c1 c2 c3 c4
        go_wp2_with fail
        go_roundg (hi - (mid + 1))
        case measure => omega
        case rel => exact ⟨mid + 1, hi, by go_num, rfl, by omega, hin, Nat.le_refl _, HB2.out, fun t y ht hy => by
          rcases Nat.lt_or_ge t mid with h | h
          · exact less_trans (HRI.out t mid y x h hy HX.out) (cmp_lt.1 hless)
          · obtain rfl : t = mid := by omega
            rw [HX.out] at hy
            obtain rfl := Option.some.inj hy
            exact cmp_lt.1 hless, HI2.out⟩
      · go_wp2_with fail
        refine Calls.mono (HF1.out x xa xn xc _) ?_
        rintro e w2 ⟨rfl, hb2⟩
        have HB2 : Hid (Below w.heap.size w w2) := HB.out.trans (hb2.mono HB.out.size)
        clear hb2 c0 c1 c2 c3 c4
        go_wp2_with fail
        go_roundg (mid - lo)
        case measure => omega
        case rel => exact ⟨lo, mid, rfl, by go_num, by omega, by omega, Nat.le_refl _, HB2.out, HI1.out, fun t y ht hy => by
          cases hc : Op.bytesLess y.1.toList s.toList with
          | false => rfl
          | true =>
            exfalso
            have hq : Op.bytesLess x.1.toList s.toList = true := by
              rcases Nat.lt_or_ge mid t with h | h
              · exact less_trans (HRI.out mid t x y h HX.out hy) hc
              · obtain rfl : t = mid := by omega
                rw [HX.out] at hy
                obtain rfl := Option.some.inj hy
                exact hc
            have := cmp_lt.2 hq
            omega⟩
    · obtain rfl : hi = lo := by omega
      have HPL : Hid (placeOf l s = hi) := count_at _ l hi hin HI1.out HI2.out
      by_cases hn : hi < l.length
      · obtain ⟨x, b, off, xa, xn, xc, hx, rfl, hcs⟩ := HKID.out hi hn
        obtain ⟨c0, c1, c2, c3, c4⟩ := hcs wr HB.out
        have HTH : Hid (thereAt l s = decide (x.1 = s)) := there_of HPL.out hx
        have hm0 : (0 : Int) ≤ (hi : Int) := by omega
        have hm1 : (hi : Int) < (l.length : Int) := by omega
        have HCE : Hid ((Lib.compareBytes x.1.data.toList s.data.toList == 0) = decide (x.1 = s)) := show _ = _ by
          by_cases h : x.1 = s
          · rw [decide_eq_true h, cmp_eq0.2 h]; rfl
          · rw [decide_eq_false h]
            exact beq_eq_false_iff_ne.2 (fun e => h (cmp_eq0.1 e))
        clear hx hcs HKID
        go_wp2_with fail
        refine Calls.mono (HF1.out x xa xn xc _) ?_
        rintro e w2 ⟨rfl, hb2⟩
        have HB2 : Hid (Below w.heap.size w w2) := HB.out.trans (hb2.mono HB.out.size)
        clear hb2 c0 c1 c2 c3 c4
        go_wp2_with fail
        go_ret2
        exact ⟨ret_ib (by rw [HPL.out]) (by rw [HTH.out, HCE.out]), HB2.out⟩
      · have hm1 : ¬ (hi : Int) < (l.length : Int) := by omega
        have HTH : Hid (thereAt l s = false) := there_none (by rw [HPL.out]; omega)
        go_wp2_with fail
        go_ret2
        exact ⟨ret_ib (by rw [HPL.out]) (by rw [HTH.out]), HB.out⟩

set_option maxHeartbeats 1000000 in
theorem find_any (B d : Nat) (l : List (ByteArray × Tree)) (u : Value) (s : ByteArray) (w : World) (hB : B ≤ w.heap.size) (hl : Lies w B d l u) (hr : Rises l) :
    Calls Tryz.prog 46 #[u, .string s] w fun e w' => e = .returned (.tuple #[.int .i64 (placeOf l s : Int), .bool (thereAt l s)]) ∧ Below w.heap.size w w' := by
  have HS : Hid _ := search_any B d l u s w hB hl hr
  obtain ⟨ta, tc, rfl⟩ := hl.form
  clear hl hr
  go_enter Tryz.func46, Tryz.ntmps46
  go_wp2_with fail
  refine Calls.mono HS.out ?_
  rintro e w1 ⟨rfl, hb⟩
  have HB : Hid _ := hb
  clear hb HS
  go_wp2_with fail
  go_ret2
  exact ⟨rfl, HB.out⟩
end Go.Proofs.YtpjjpmikhjlgnaaGreatDoor
