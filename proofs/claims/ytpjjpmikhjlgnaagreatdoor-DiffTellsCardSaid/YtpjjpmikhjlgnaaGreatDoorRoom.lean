/-
  The contract of package path's room: the place of a path in a tree of one's own memory, made if it isn't there. Conditions: the tree lies in memory of its own, its top in a block of its own; its names rise; no dir has more than a million kids.
-/
import Derived.Test.YtpjjpmikhjlgnaaGreatDoorOwnPut
import Derived.Test.YtpjjpmikhjlgnaaGreatDoorInsK
namespace Go.Proofs.YtpjjpmikhjlgnaaGreatDoor
open Go.RowKit

/-- The node that names lead to, in memory. -/
theorem own_at {w : World} : ∀ {m : List ByteArray} {d : Nat} {Q : Nat → Prop} {t k : Tree} {u : Value} {b0 o0 b o : Nat}, OwnT w Q d t.kids u → CellsAt w b0 o0 t u → (∀ i, w.frozen? ⟨b0, i, none⟩ = false) → (∀ q, Q q → q ≠ b0) → atR m t = some k → AddrAt w m t b0 o0 b o →
    ∃ Qk dk ud, CellsAt w b o k ud ∧ OwnT w Qk dk k.kids ud ∧ dk ≤ d ∧ (∀ q, Qk q → Q q ∧ q ≠ b) ∧ (m = [] ∨ Q b) ∧ ∀ i, w.frozen? ⟨b, i, none⟩ = false
  | [], d, Q, t, k, u, b0, o0, b, o, hO, hC, hf, hQ, hat, ⟨hb, ho⟩ => by
    simp only [atR, Option.some.injEq] at hat
    subst hat; subst hb; subst ho
    exact ⟨Q, d, u, hC, hO, Nat.le_refl _, fun q hq => ⟨hq, hQ q hq⟩, .inl rfl, hf⟩
  | _ :: _, 0, _, _, _, _, _, _, _, _, hO, _, _, _, _, _ => hO.elim
  | x :: r, d + 1, Q, t, k, u, b0, o0, b, o, hO, hC, hf, hQ, hat, ⟨k', g, go, n, c, hk, hc, had⟩ => by
    have hat' : atR r k' = some k := by
      rw [atR, hk] at hat
      exact hat
    rw [hC.kids] at hc
    simp only [Option.some.injEq] at hc
    subst hc
    have hO2 := hO
    obtain ⟨rfl, rfl, _, _, hg, us, Qs, hul, hcell, hq1, _⟩ := own_open hO
    obtain ⟨_, hpx⟩ := set_there k' hk
    have hpl := (List.getElem?_eq_some_iff.1 hpx).1
    obtain ⟨v, hv⟩ : ∃ v, us[placeOf t.kids x]? = some v := ⟨us[placeOf t.kids x]'(by omega), List.getElem?_eq_getElem (by omega)⟩
    obtain ⟨_, c1, c2⟩ := hcell _ _ _ hpx hv
    have hfz : ∀ i, w.frozen? ⟨g, i, none⟩ = false := by
      obtain ⟨_, _, _, _, _, h4, _⟩ := hO2
      rcases h4.2 with ⟨e, _⟩ | ⟨g', cap, cur, e, _, hh, _⟩
      · simp at e
      · simp only [Value.slice.injEq, Option.some.injEq, Addr.mk.injEq] at e
        obtain ⟨⟨rfl, _⟩, _⟩ := e
        exact fun i => free_of_row hh i
    rw [Nat.zero_add] at had
    obtain ⟨Qk, dk, ud, h1, h2, h3, h4, h5, h6⟩ := own_at c2 c1 hfz (fun q hq => (hq1 _ q hq).2) hat' had
    refine ⟨Qk, dk, ud, h1, h2, by omega, fun q hq => ⟨(hq1 _ q (h4 q hq).1).1, (h4 q hq).2⟩, .inr ?_, h6⟩
    rcases h5 with rfl | h5
    · rw [had.1]; exact hg
    · exact (hq1 _ b h5).1
theorem at_set_there {Y : Tree} : ∀ {m : List ByteArray} {t k : Tree}, atR m t = some k → atR m (setAt Y m t) = some Y
  | [], _, _, _ => rfl
  | z :: r, t, k, h => by
    simp only [atR] at h
    cases hq : kidOf t z with
    | none => rw [hq] at h; cases h
    | some q =>
      rw [hq] at h
      simp only at h
      have hs := kid_set_there (setAt Y r q) hq
      simp only [setAt, hq, Option.getD_some, atR, hs.1]
      exact at_set_there h
theorem put_new {l : List (ByteArray × Tree)} {x : ByteArray} (A : Tree) (ht : thereAt l x = false) : placeOf (setKid l x A) x = placeOf l x ∧ (setKid l x A)[placeOf l x]? = some (x, A) ∧ thereAt (setKid l x A) x = true := by
  have e1 : setKid l x A = l.take (placeOf l x) ++ (x, A) :: l.drop (placeOf l x) := by unfold setKid; rw [if_neg (by rw [ht]; decide)]
  have hle := place_le l x
  have hl : (l.take (placeOf l x)).length = placeOf l x := by rw [List.length_take]; omega
  have hp : placeOf (setKid l x A) x = placeOf l x := by
    have e2 : placeOf l x = (l.take (placeOf l x)).countP (fun y => Op.bytesLess y.1.toList x.toList) + (l.drop (placeOf l x)).countP (fun y => Op.bytesLess y.1.toList x.toList) := by
      rw [← List.countP_append, List.take_append_drop]
      rfl
    rw [e1]
    conv => rhs; rw [e2]
    show List.countP _ _ = _
    rw [List.countP_append, List.countP_cons_of_neg (by simp [less_irrefl])]
  have hg : (setKid l x A)[placeOf l x]? = some (x, A) := by
    rw [e1, List.getElem?_append_right (by omega), hl, Nat.sub_self]
    rfl
  exact ⟨hp, hg, there_get (k := A) (by rw [hp]; exact hg)⟩
theorem set_head {Y k : Tree} {m : List ByteArray} {t : Tree} (h : atR m t = some k) (h1 : Y.kind = k.kind) (h2 : Y.data = k.data) (h3 : Y.exec = k.exec) : (setAt Y m t).kind = t.kind ∧ (setAt Y m t).data = t.data ∧ (setAt Y m t).exec = t.exec := by
  cases m with
  | nil =>
    simp only [atR, Option.some.injEq] at h
    subst h
    exact ⟨h1, h2, h3⟩
  | cons x r => exact ⟨rfl, rfl, rfl⟩
theorem setCell_block {w w1 : World} {b i : Nat} {v : Value} (h : w1.heap[b]? = w.heap[b]?) : (w1.setCell ⟨b, i, none⟩ v).heap[b]? = (w.setCell ⟨b, i, none⟩ v).heap[b]? := by
  simp only [World.setCell, Array.getElem?_modify, if_true, h]
/-- A place made. -/
theorem room_new {w w1 : World} {Q : Nat → Prop} {d b0 b o g cap : Nat} {t k : Tree} {m : List ByteArray} {x : ByteArray} {u ud : Value} {xs : List Value}
    (hQ : ∀ q, Q q → q < w.heap.size ∧ q ≠ b0) (hbox : w.heap[b0]? = some (.cells #[.string t.kind, .string t.data, .bool t.exec, u] 24 (0, 0)))
    (hO : OwnT w Q d t.kids u) (hat : atR m t = some k) (had : AddrAt w m t b0 0 b o) (hud : w.cell? ⟨b, o + 3, none⟩ = some ud) (hnot : thereAt k.kids x = false) (hx : x.size ≤ 140737488355328) (hlen : k.kids.length + 1 ≤ 1759218604390) (hxs : w.ownsRow 0 65 5 ud k.kids.length xs)
    (hins : w1.ownsRow 0 65 5 (.slice (some ⟨g, 0, none⟩) (k.kids.length + 1) cap) (k.kids.length + 1) (xs.take (placeOf k.kids x * 5) ++ zeroK x ++ xs.drop (placeOf k.kids x * 5))) (hg : w.grownBy w1 ud.ownBlock) (hgat : ud.ownBlock = some g ∨ w.heap.size ≤ g) :
    ∃ u', (w1.setCell ⟨b, o + 3, none⟩ (.slice (some ⟨g, 0, none⟩) (k.kids.length + 1) cap)).heap[b0]? = some (.cells #[.string t.kind, .string t.data, .bool t.exec, u'] 24 (0, 0)) ∧
      OwnT (w1.setCell ⟨b, o + 3, none⟩ (.slice (some ⟨g, 0, none⟩) (k.kids.length + 1) cap)) (fun q => Q q ∨ (w.heap.size ≤ q ∧ q < w1.heap.size)) (d + 1) (setAt { k with kids := setKid k.kids x zeroT } m t).kids u' ∧
      AddrAt (w1.setCell ⟨b, o + 3, none⟩ (.slice (some ⟨g, 0, none⟩) (k.kids.length + 1) cap)) (m ++ [x]) (setAt { k with kids := setKid k.kids x zeroT } m t) b0 0 g (placeOf k.kids x * 5 + 1) ∧
      Kept (fun q => q = b0 ∨ Q q) w (w1.setCell ⟨b, o + 3, none⟩ (.slice (some ⟨g, 0, none⟩) (k.kids.length + 1) cap)) := by
  obtain ⟨⟨y0, y1, y2, y3⟩, _⟩ := row4b hbox
  have hb0 : b0 < w.heap.size := lt_of_cell y0
  obtain ⟨Qk, dk, ud', hC, hOk, _, hQk, hmb, _⟩ := own_at hO (o0 := 0) ⟨y0, y1, y2, y3⟩ (fun i => free_of_row hbox i) (fun q hq => (hQ q hq).2) hat had
  obtain rfl : ud' = ud := Option.some.inj (hC.kids.symm.trans hud)
  have hown : ∀ q, ud'.ownBlock = some q → Qk q := by
    cases dk with
    | zero => exact hOk.elim
    | succ dk =>
      obtain ⟨_, _, _, _, _, _, z5, _⟩ := hOk
      exact z5
  have hbl : b < w.heap.size := lt_of_cell hud
  have hbo : ud'.ownBlock ≠ some b := fun e => (hQk b (hown b e)).2 rfl
  have hb0o : ud'.ownBlock ≠ some b0 := fun e => (hQ b0 (hQk b0 (hown b0 e)).1).2 rfl
  have hw1b : w1.heap[b]? = w.heap[b]? := hg.block b hbl fun e => hbo e.symm
  have hw1b0 : w1.heap[b0]? = w.heap[b0]? := hg.block b0 hb0 fun e => hb0o e.symm
  generalize hW2 : w1.setCell ⟨b, o + 3, none⟩ (.slice (some ⟨g, 0, none⟩) (k.kids.length + 1) cap) = w2
  have hz2 : w2.heap.size = w1.heap.size := by rw [← hW2]; simp [World.setCell]
  have hoth : ∀ q, q ≠ b → w2.heap[q]? = w1.heap[q]? := fun q hq => by rw [← hW2]; exact Below.heap_setCell _ _ _ _ hq
  have hsame : ∀ q, q ≠ b → ud'.ownBlock ≠ some q → q < w.heap.size → w2.heap[q]? = w.heap[q]? := fun q h1 h2 h3 => by
    rw [hoth q h1]
    exact hg.block q h3 fun e => h2 e.symm
  have hcell2 : w2.cell? ⟨b, o + 3, none⟩ = some (.slice (some ⟨g, 0, none⟩) (k.kids.length + 1) cap) := by
    rw [← hW2]
    refine World.cell?_setCell_same' _ _ _ ?_
    rw [World.cell?_of_block (w := w) hw1b, hud]
    rfl
  have hK : ∀ Qk dk, OwnT w Qk dk k.kids ud' → (∀ q, Qk q → q < w.heap.size ∧ q ≠ b) → OwnT w2 (fun q => Qk q ∨ (w.heap.size ≤ q ∧ q < w2.heap.size)) (dk + 1) (setKid k.kids x zeroT) (.slice (some ⟨g, 0, none⟩) (k.kids.length + 1) cap) := fun Qk dk h hq => by
    refine (own_insert h (fun q h1 => (hq q h1).1) hnot hx hlen hxs hins hg hgat).kept (fun q h1 => hoth q ?_) (fun q h1 => by rw [hz2]; exact h1)
    rcases h1 with h1 | h1
    · exact (hq q h1).2
    · omega
  have hkept : Kept (fun q => q = b0 ∨ Q q) w w2 := by
    refine ⟨?_, ?_, ?_, by rw [hz2]; exact hg.size, fun q hq hc => ?_⟩
    · rw [← hW2]; exact hg.os
    · rw [← hW2]; exact hg.tape
    · rw [← hW2]; exact hg.output
    · refine hsame q (fun e => ?_) (fun e => hc (.inr (hQk q (hown q e)).1)) hq
      rcases hmb with rfl | hb
      · exact hc (.inl (by rw [e]; exact had.1))
      · exact hc (.inr (by rw [e]; exact hb))
  obtain ⟨hpn, hgn, htn⟩ := put_new zeroT hnot
  have hkn : kidOf { k with kids := setKid k.kids x zeroT } x = some zeroT := by
    unfold kidOf
    simp only
    rw [if_pos htn, hpn, hgn]
    rfl
  have snoc : AddrAt w2 m (setAt { k with kids := setKid k.kids x zeroT } m t) b0 0 b o → AddrAt w2 (m ++ [x]) (setAt { k with kids := setKid k.kids x zeroT } m t) b0 0 g (placeOf k.kids x * 5 + 1) := fun h => by
    have h2 := h.snoc (at_set_there hat) hkn hcell2
    simp only [hpn, Nat.zero_add] at h2
    exact h2
  cases m with
  | nil =>
    simp only [atR, Option.some.injEq] at hat
    subst hat
    obtain ⟨rfl, rfl⟩ := had
    have hu : u = ud' := by
      rw [Nat.zero_add, y3] at hud
      exact Option.some.inj hud
    subst hu
    refine ⟨.slice (some ⟨g, 0, none⟩) (t.kids.length + 1) cap, ?_, ?_, snoc ⟨rfl, rfl⟩, hkept⟩
    · rw [← hW2, setCell_block hw1b]
      simp [World.setCell, Array.getElem?_modify, hbox]
    · have := hK Q d hO fun q hq => ⟨(hQ q hq).1, (hQ q hq).2⟩
      rw [hz2] at this
      exact this
  | cons z r =>
    have hQb : Q b := by
      rcases hmb with h | h
      · cases h
      · exact h
    have hne : b0 ≠ b := fun e => (hQ b hQb).2 e.symm
    have hb2 : w2.heap[b0]? = w.heap[b0]? := hsame b0 hne hb0o hb0
    have hblk : w2.heap[b]? = (w.setCell ⟨b, o + 3, none⟩ (.slice (some ⟨g, 0, none⟩) (k.kids.length + 1) cap)).heap[b]? := by
      rw [← hW2]; exact setCell_block hw1b
    obtain ⟨_, _, hnew⟩ := own_kids (k := k) (K := setKid k.kids x zeroT) hud hblk hsame hK (l := z :: r) (by simp) (fun q hq => (hQ q hq).1) hO (by rw [Nat.zero_add]; exact y3) hat had
    have hadr := own_addr (k := k) (K := setKid k.kids x zeroT) hud hblk hsame hK (l := z :: r) (by simp) (fun q hq => (hQ q hq).1) hO (by rw [Nat.zero_add]; exact y3) (by rw [World.cell?_of_block (w := w) hb2, Nat.zero_add]; exact y3) hat had
    refine ⟨u, by rw [hb2]; exact hbox, ?_, snoc hadr, hkept⟩
    rw [hz2] at hnew
    exact hnew
end Go.Proofs.YtpjjpmikhjlgnaaGreatDoor
namespace Go.Proofs.YtpjjpmikhjlgnaaGreatDoor
open Go.RowKit
attribute [local go_sem ↓] Go.wp_at_zero Go.wp_at_succ

/-- Is there a place at names? -/
def roomB (l : List ByteArray) (t : Tree) : Bool := l.isEmpty || (match atR l.dropLast t with
  | none => false
  | some k => isDir k)
theorem roomB_snoc (m : List ByteArray) (x : ByteArray) (t : Tree) : roomB (m ++ [x]) t = (match atR m t with
  | none => false
  | some k => isDir k) := by
  unfold roomB
  rw [List.dropLast_concat]
  simp
theorem AddrAt.below {w w' : World} {B : Nat} (hb : Below B w w') (hB : ∀ b i v, w.cell? ⟨b, i, none⟩ = some v → b < B) : ∀ {l : List ByteArray} {t : Tree} {b0 o0 b o : Nat}, AddrAt w l t b0 o0 b o → AddrAt w' l t b0 o0 b o
  | [], _, _, _, _, _, h => h
  | _ :: _, _, _, _, _, _, ⟨k, g, go, n, c, h1, h2, h3⟩ => ⟨k, g, go, n, c, h1, by rw [hb.cell (p := ⟨_, _, none⟩) (hB _ _ _ h2)]; exact h2, h3.below hb hB⟩
theorem rises_at : ∀ {m : List ByteArray} {d : Nat} {t k : Tree}, RisesD d t → atR m t = some k → ∃ e, RisesD e k
  | [], d, t, k, h, hk => by
    simp only [atR, Option.some.injEq] at hk
    subst hk
    exact ⟨d, h⟩
  | x :: m, d, t, k, h, hk => by
    simp only [atR] at hk
    cases hq : kidOf t x with
    | none => rw [hq] at hk; cases hk
    | some q =>
      rw [hq] at hk
      obtain ⟨e, he⟩ := rises_kid h hq
      exact rises_at he hk
theorem own_block {w : World} {Q : Nat → Prop} {d : Nat} {l : List (ByteArray × Tree)} {v : Value} (h : OwnT w Q d l v) : ∀ q, v.ownBlock = some q → Q q := by
  cases d with
  | zero => exact h.elim
  | succ d =>
    obtain ⟨_, _, _, _, _, _, z5, _⟩ := h
    exact z5
theorem kidCells_one : ∀ {l : List (ByteArray × Tree)} {us : List Value}, (∀ (i : Nat) (x : ByteArray × Tree) (u : Value), l[i]? = some x → us[i]? = some u → u.oneCell' = true) → ∀ u ∈ kidCells l us, u.oneCell' = true
  | [], _, _, u, hu => by simp [kidCells] at hu
  | _ :: _, [], _, u, hu => by simp [kidCells] at hu
  | y :: l, v :: us, h, u, hu => by
    simp only [kidCells, List.mem_cons] at hu
    rcases hu with rfl | rfl | rfl | rfl | rfl | hu
    · rfl
    · rfl
    · rfl
    · rfl
    · exact h 0 y u rfl rfl
    · exact kidCells_one (l := l) (us := us) (fun i x w hx hw => h (i + 1) x w hx hw) u hu
theorem own_row {w : World} {Q : Nat → Prop} {d : Nat} {l : List (ByteArray × Tree)} {v : Value} (h : OwnT w Q d l v) : ∃ xs, w.ownsRow 0 65 5 v l.length xs ∧ ∀ u ∈ xs, u.oneCell' = true := by
  cases d with
  | zero => exact h.elim
  | succ d =>
    obtain ⟨_, _, us, Qs, h3, h4, h5, h6, _⟩ := h
    refine ⟨_, h4, kidCells_one fun i x u hx hu => ?_⟩
    obtain ⟨ad, cap, rfl⟩ := (h6 i x u hx hu).form
    rfl
/-- What room hands back. -/
def RoomPost (Q : Nat → Prop) (d b0 : Nat) (t : Tree) (names : List ByteArray) (w : World) (e : Ending) (w' : World) : Prop :=
  (roomB names t = false ∧ e = .returned (.pointer none) ∧ Below w.heap.size w w') ∨
  (roomB names t = true ∧ ∃ t' u' b o, e = .returned (.pointer (some ⟨b, o, none⟩)) ∧ Kept (fun q => q = b0 ∨ Q q) w w' ∧ w'.heap[b0]? = some (.cells #[.string t'.kind, .string t'.data, .bool t'.exec, u'] 24 (0, 0)) ∧
    OwnT w' (fun q => Q q ∨ (w.heap.size ≤ q ∧ q < w'.heap.size)) (d + 1) t'.kids u' ∧ AddrAt w' names t' b0 0 b o ∧ (∃ k, atR names t' = some k) ∧ ∀ X, setAt X names t' = setAt X names t)

set_option maxRecDepth 100000 in
set_option maxHeartbeats 4000000 in
theorem room_any (Q : Nat → Prop) (d b0 : Nat) (t : Tree) (u : Value) (names : List ByteArray) (v : Value) (w : World) (hQ : ∀ q, Q q → q < w.heap.size ∧ q ≠ b0) (hbox : w.heap[b0]? = some (.cells #[.string t.kind, .string t.data, .bool t.exec, u] 24 (0, 0)))
    (hO : OwnT w Q d t.kids u) (hr : RisesD d t) (hv : Texts w v names) (hc : RoomR v names.length) (hnl : names.length ≤ 1000) (hns : ∀ x ∈ names, x.size ≤ 1000) (hk : ∀ m k, atR m t = some k → k.kids.length ≤ 1000000) :
    Calls Tryz.prog 43 #[.pointer (some ⟨b0, 0, none⟩), v] w (RoomPost Q d b0 t names w) := by
  obtain ⟨⟨y0, y1, y2, y3⟩, _⟩ := row4b hbox
  have hb0 : b0 < w.heap.size := lt_of_cell y0
  obtain ⟨ua, uc, rfl⟩ := hO.form
  have hlies : Lies w w.heap.size d t.kids (.slice ua t.kids.length uc) := hO.liesQ.lies fun q hq => (hQ q hq).1
  rcases List.eq_nil_or_concat names with rfl | ⟨m, x, rfl⟩
  · obtain ⟨va, vc, rfl, hvc⟩ := hc
    have HP : Hid (RoomPost Q d b0 t [] w (.returned (.pointer (some ⟨b0, 0, none⟩))) w) := .inr ⟨rfl, t, _, b0, 0, rfl, Kept.of_below (Below.refl _ _), hbox, (hO.kept (fun _ _ => rfl) (fun q hq => .inl hq)).up (by omega), ⟨rfl, rfl⟩, ⟨t, rfl⟩, fun _ => rfl⟩
    clear hbox hO hr hv hk hQ hns
    go_enter Tryz.func43, Tryz.ntmps43
    go_wp2_with fail
    go_ret
    exact HP.out
  · rw [List.concat_eq_append] at *
    obtain ⟨va, vc, rfl, hvc, hvm⟩ := hc
    have hlm : (m ++ [x]).length = m.length + 1 := by simp
    obtain ⟨va', vc', ev, hcs⟩ := hv
    simp only [Value.slice.injEq] at ev
    obtain ⟨rfl, _, rfl⟩ := ev
    obtain ⟨nb, no, rfl, hnx⟩ := hcs m.length x (by simp)
    have htm : Texts w (.slice (some ⟨nb, no, none⟩) m.length vc) m := ⟨_, _, rfl, fun i y hy => hcs i y (by rw [List.getElem?_append_left (List.getElem?_eq_some_iff.1 hy).1]; exact hy)⟩
    have hxs : x.size ≤ 1000 := hns x (by simp)
    rw [hlm] at hvc hnl ⊢
    have HAT : Hid _ := at_any w.heap.size d b0 0 t m _ w (Nat.le_refl _) ⟨hb0, _, y0, y1, y2, y3, hlies⟩ hr htm (by omega)
    have HBOX : Hid _ := hbox
    have HO : Hid _ := hO
    have HQ : Hid _ := hQ
    have HK : Hid _ := hk
    have HR : Hid _ := hr
    have hi0 : (0 : Int) ≤ (m.length : Int) := by omega
    have hi1 : (m.length : Int) < (m.length : Int) + 1 := by omega
    have hi2 : (m.length : Int) ≤ (vc : Int) := by omega
    have hw1 : IntKind.i64.wrap ((m.length : Int) + 1 - 1) = (m.length : Int) := by rw [IntKind.wrap_i64]; omega
    unfold maxLen at hvm
    have hvc0 : ¬ vc = 0 := by omega
    clear hbox hO hQ hk hr htm hcs hns hlies hlm y0 y1 y2 y3
    go_enter Tryz.func43, Tryz.ntmps43
    go_wp2_with fail
    refine Calls.mono HAT.out ?_
    clear HAT hw1 hnx
    rintro e w1 ⟨hb1, ⟨hat, rfl⟩ | ⟨k, d', b, o, hat, rfl, ⟨hbl, ud, c0, c1, c2, c3, hl⟩, hd', had⟩⟩
    · have HP : Hid (RoomPost Q d b0 t (m ++ [x]) w (.returned (.pointer none)) w1) := .inl ⟨by rw [roomB_snoc, hat], rfl, hb1⟩
      clear hat hb1
      go_wp2_with fail
      go_ret
      exact HP.out
    · obtain ⟨ta, tc, rfl⟩ := hl.form
      have q0 : w1.cell? ⟨b, o, none⟩ = some (.string k.kind) := by rw [hb1.cell (p := ⟨b, o, none⟩) hbl]; exact c0
      have q3 : w1.cell? ⟨b, o + 3, none⟩ = some (.slice ta k.kids.length tc) := by rw [hb1.cell (p := ⟨b, o + 3, none⟩) hbl]; exact c3
      have HB1 : Hid _ := hb1
      have HAT : Hid _ := hat
      have HAD : Hid _ := had
      have HC3 : Hid _ := c3
      have HL : Hid _ := hl
      have HQ3 : Hid _ := q3
      have hz1 := hb1.size
      cases hdir : isDir k with
      | false =>
        have HP : Hid (RoomPost Q d b0 t (m ++ [x]) w (.returned (.pointer none)) w1) := .inl ⟨by rw [roomB_snoc, hat]; exact hdir, rfl, hb1⟩
        unfold isDir at hdir
        clear hat hb1 had c0 c1 c2 c3 hl q3
        go_wp2_with fail
        go_ret
        exact HP.out
      | true =>
        have HRB : Hid (roomB (m ++ [x]) t = true) := show _ = _ by rw [roomB_snoc, hat]; exact hdir
        unfold isDir at hdir
        have hrk : Rises k.kids := by
          obtain ⟨e, he⟩ := rises_at HR.out hat
          exact rises_top he
        have HF : Hid _ := find_any w.heap.size d' k.kids (.slice ta k.kids.length tc) x w1 hz1 (hl.below hb1 (Nat.le_refl _)) hrk
        clear hat hb1 had c0 c1 c2 c3 hl
        go_wp2_with fail
        refine Calls.mono HF.out ?_
        clear HF q0 q3
        rintro e w2 ⟨rfl, hb2⟩
        have hz2 := hb2.size
        have q3 : w2.cell? ⟨b, o + 3, none⟩ = some (.slice ta k.kids.length tc) := by rw [hb2.cell (p := ⟨b, o + 3, none⟩) (show b < w1.heap.size by omega)]; exact HQ3.out
        have HB2 : Hid (Below w.heap.size w w2) := HB1.out.trans (hb2.mono HB1.out.size)
        clear hb2
        cases hth : thereAt k.kids x with
        | true =>
          obtain ⟨y, hy, hyx⟩ := there_some hth
          have hpl : placeOf k.kids x < k.kids.length := (List.getElem?_eq_some_iff.1 hy).1
          obtain ⟨kb, koff, rfl⟩ : ∃ kb koff, ta = some ⟨kb, koff, none⟩ := by
            cases d' with
            | zero => exact absurd HL.out (by simp [Lies])
            | succ d' =>
              rcases (Lies.open HL.out).2 with ⟨h0, _⟩ | ⟨kb, koff, kc, e, _⟩
              · rw [h0] at hpl; simp at hpl
              · simp only [Value.slice.injEq] at e
                exact ⟨kb, koff, e.1⟩
          have hkk : kidOf k x = some y.2 := by
            unfold kidOf
            rw [if_pos hth, hy]
            rfl
          have HP : Hid (RoomPost Q d b0 t (m ++ [x]) w (.returned (.pointer (some ⟨kb, koff + placeOf k.kids x * 5 + 1, none⟩))) w2) := .inr ⟨HRB.out, t, .slice ua t.kids.length uc, kb, koff + placeOf k.kids x * 5 + 1, rfl, Kept.of_below HB2.out, (HB2.out.block b0 hb0).trans HBOX.out,
            (HO.out.kept (fun q hq => HB2.out.block q (HQ.out q hq).1) (fun q hq => .inl hq)).up (by omega), (HAD.out.snoc HAT.out hkk HC3.out).below HB2.out (fun b i v h => lt_of_cell h), ⟨y.2, by rw [atR_snoc, HAT.out]; exact hkk⟩, fun _ => rfl⟩
          clear hy hyx hkk hth
          generalize placeOf k.kids x = pl at *
          have hp0 : (0 : Int) ≤ (pl : Int) := by omega
          have hp1 : (pl : Int) < (k.kids.length : Int) := by omega
          go_wp2_with fail
          go_ret
          exact HP.out
        | false =>
          have hle := place_le k.kids x
          have hkl := HK.out m k HAT.out
          obtain ⟨⟨y0, y1, y2, y3⟩, _⟩ := row4b HBOX.out
          obtain ⟨Qk, dk, ud, hC, hOk, _, hQk, hmb, hfz⟩ := own_at HO.out (o0 := 0) ⟨y0, y1, y2, y3⟩ (fun i => free_of_row HBOX.out i) (fun q hq => (HQ.out q hq).2) HAT.out HAD.out
          obtain rfl : ud = .slice ta k.kids.length tc := Option.some.inj (hC.kids.symm.trans HC3.out)
          obtain ⟨xs, hxo, hx1⟩ := own_row hOk
          have hown : ∀ q, (Value.slice ta k.kids.length tc).ownBlock = some q → q < w.heap.size := fun q hq => (HQ.out q (hQk q (own_block hOk q hq)).1).1
          have hA : Below w.heap.size w (w2.alloc (.cells #[.string x, .string { data := #[] }, .string { data := #[] }, .bool false, .slice none 0 0] 65)) := HB2.out.alloc HB2.out.size _
          have hrow := row_alloc' w2 #[.string x, .string { data := #[] }, .string { data := #[] }, .bool false, .slice none 0 0] 65
          have hzA : (w2.alloc (.cells #[.string x, .string { data := #[] }, .string { data := #[] }, .bool false, .slice none 0 0] 65)).heap.size = w2.heap.size + 1 := by simp
          have hxoA : (w2.alloc (.cells #[.string x, .string { data := #[] }, .string { data := #[] }, .bool false, .slice none 0 0] 65)).ownsRow 0 65 5 (.slice ta k.kids.length tc) k.kids.length xs := ownsRow_ext' hxo fun q hq => hA.block q (hown q hq)
          have HINS : Hid _ := insert_any _ (.slice ta k.kids.length tc) k.kids.length (placeOf k.kids x) w2.heap.size xs #[.string x, .string { data := #[] }, .string { data := #[] }, .bool false, .slice none 0 0] hxoA hle hkl hrow rfl (fun e => by have := hown _ e; omega) hx1 (by simp [Value.oneCell'])
          have HNEW : Hid (∀ w4 g cap, w4.ownsRow 0 65 5 (.slice (some ⟨g, 0, none⟩) (k.kids.length + 1) cap) (k.kids.length + 1) (xs.take (placeOf k.kids x * 5) ++ zeroK x ++ xs.drop (placeOf k.kids x * 5)) → (w2.alloc (.cells #[.string x, .string { data := #[] }, .string { data := #[] }, .bool false, .slice none 0 0] 65)).grownBy w4 (Value.slice ta k.kids.length tc).ownBlock → ((Value.slice ta k.kids.length tc).ownBlock = some g ∨ (w2.alloc (.cells #[.string x, .string { data := #[] }, .string { data := #[] }, .bool false, .slice none 0 0] 65)).heap.size ≤ g) →
              (w4.cell? ⟨b, o + 3, none⟩ = some (.slice ta k.kids.length tc) ∧ w4.frozen? ⟨b, o + 3, none⟩ = false) ∧ RoomPost Q d b0 t (m ++ [x]) w (.returned (.pointer (some ⟨g, placeOf k.kids x * 5 + 1, none⟩))) (w4.setCell ⟨b, o + 3, none⟩ (.slice (some ⟨g, 0, none⟩) (k.kids.length + 1) cap))) := fun w4 g cap h1 h2 h3 => by
            have hbl2 : b < w.heap.size := lt_of_cell HC3.out
            have hbo : (Value.slice ta k.kids.length tc).ownBlock ≠ some b := fun e => (hQk b (own_block hOk b e)).2 rfl
            have hw4 : w4.heap[b]? = w.heap[b]? := (h2.block b (by omega) fun e => hbo e.symm).trans (hA.block b hbl2)
            obtain ⟨u', n1, n2, n3, n4⟩ := room_new (fun q hq => ⟨by have := (HQ.out q hq).1; omega, (HQ.out q hq).2⟩) ((hA.block b0 hb0).trans HBOX.out) (HO.out.kept (fun q hq => hA.block q (HQ.out q hq).1) (fun _ hq => hq)) HAT.out (HAD.out.below hA (fun b i v h => lt_of_cell h)) (by rw [hA.cell (p := ⟨b, o + 3, none⟩) hbl2]; exact HC3.out) hth (by omega) (by omega) hxoA h1 h2 h3
            obtain ⟨s1, s2, s3⟩ := set_head (Y := { k with kids := setKid k.kids x zeroT }) HAT.out rfl rfl rfl
            refine ⟨⟨by rw [World.cell?_of_block (w := w) hw4]; exact HC3.out, by rw [World.frozen?_of_block (w := w) hw4]; exact hfz _⟩, .inr ⟨HRB.out, setAt { k with kids := setKid k.kids x zeroT } m t, u', g, placeOf k.kids x * 5 + 1, rfl, (Kept.of_below hA).trans n4 (fun q hq => .inl hq), ?_, ?_, n3, ?_, fun X => set_zero HAT.out⟩⟩
            · rw [s1, s2, s3]; exact n1
            · refine n2.kept (fun _ _ => rfl) (fun q hq => hq.imp id fun h => ⟨by omega, ?_⟩)
              have : (w4.setCell ⟨b, o + 3, none⟩ (.slice (some ⟨g, 0, none⟩) (k.kids.length + 1) cap)).heap.size = w4.heap.size := by simp [World.setCell]
              omega
            · rw [atR_snoc, at_set_there HAT.out]
              obtain ⟨hpn, hgn, htn⟩ := put_new zeroT hth
              refine ⟨zeroT, ?_⟩
              show kidOf { k with kids := setKid k.kids x zeroT } x = some zeroT
              unfold kidOf
              simp only
              rw [if_pos htn, hpn, hgn]
              rfl
          clear hxo hx1 hown hA hrow hxoA hC hOk hQk hmb hfz y0 y1 y2 y3 hth
          generalize placeOf k.kids x = pl at *
          have hp0 : (0 : Int) ≤ (pl : Int) := by omega
          have hp1 : (pl : Int) < (k.kids.length : Int) + 1 := by omega
          go_wp2_with fail
          refine Calls.mono HINS.out ?_
          clear HINS
          rintro e w4 ⟨g, cap, rfl, h1, h2, h3⟩
          obtain ⟨⟨r1, r2⟩, hpost⟩ := HNEW.out w4 g cap h1 h2 h3
          have HP : Hid _ := hpost
          clear h1 h2 h3 HNEW hpost
          go_wp2_with fail
          go_ret
          exact HP.out
end Go.Proofs.YtpjjpmikhjlgnaaGreatDoor
