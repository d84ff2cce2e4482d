/-
  Both tables side by side: pairs of calls, actFile, AsTable, and the law InodeActs.
  Conditions: those that each states.
-/
import Derived.Test.YtnmknngpihjhnaaGreatDoorMe
import Derived.Test.YtnmknngpihjhnaaGreatDoorImO
import Derived.Test.YtnmknngpihjhnaaGreatDoorMkR
import Derived.Test.YtnmknngpihjhnaaGreatDoorDkE
import Derived.Test.YtnmknngpihjhnaaGreatDoorCode
import Derived.Test.YtnmknngpihjhnaaGreatDoorImA
import Derived.Deep.RegionHeld3
import Derived.Test.YtnmknngpihjhnaaGreatDoorSpU
namespace Go.Proofs.YtnmknngpihjhnaaGreatDoor
open Go.RowKit

/-- Both tables. -/
structure QAt (w0 : World) (T0 tb bb mt md i : Nat) (bl : List (List UInt8)) (u : List Bool) (tab : List (Option Ino)) (W : World) : Prop where
  t : ∃ sp sb cap mb n, n ≤ i ∧ TbAt W (fun _ => False) T0 tb bb sp sb cap mb n bl u tab
  m : ∃ la lc ia ic vs, MtAt W T0 mt md la lc ia ic bl tab vs
  b : Below T0 w0 W
  s : T0 = w0.heap.size
  l : T0 ≤ md ∧ T0 ≤ mt
/-- What both keep. -/
structure PInv (N i : Nat) (bl : List (List UInt8)) (u : List Bool) (tab : List (Option Ino)) : Prop where
  sp : SInv N bl u tab
  n5 : N ≤ 512
  li : ∀ k x, slotT tab k = some x → x.links ≤ i + 1 ∧ x.sum < 4294967296
section
variable {w0 W W' : World} {T0 tb bb mt md i N : Nat} {bl bl' : List (List UInt8)} {u u' : List Bool} {tab tab' : List (Option Ino)} {a : Nat → Addr}
theorem QAt.size (Q : QAt w0 T0 tb bb mt md i bl u tab W) : T0 ≤ W.heap.size := by rw [Q.s]; exact Nat.le_trans (by rw [← Q.s]; exact Nat.le_refl _) Q.b.size
theorem QAt.below (Q : QAt w0 T0 tb bb mt md i bl u tab W) (h : Below W.heap.size W W') : QAt w0 T0 tb bb mt md i bl u tab W' := by
  obtain ⟨⟨sp, sb, cap, mb, n, hn, T⟩, ⟨la, lc, ia, ic, vs, M⟩, b, s, l⟩ := id Q
  exact ⟨⟨sp, sb, cap, mb, n, hn, T.below h⟩, ⟨la, lc, ia, ic, vs, M.below h⟩, b.trans (h.mono Q.size), s, l⟩
theorem QAt.sents (Q : QAt w0 T0 tb bb mt md i bl u tab W) (S : Sents a w0) : Sents a W := S.below (by rw [← Q.s]; exact Q.b)
theorem QAt.mono {i' : Nat} (Q : QAt w0 T0 tb bb mt md i bl u tab W) (h : i ≤ i') : QAt w0 T0 tb bb mt md i' bl u tab W := by
  obtain ⟨⟨sp, sb, cap, mb, n, hn, T⟩, m, b, s, l⟩ := Q
  exact ⟨⟨sp, sb, cap, mb, n, Nat.le_trans hn h, T⟩, m, b, s, l⟩
theorem PInv.mono {i' : Nat} (P : PInv N i bl u tab) (h : i ≤ i') : PInv N i' bl u tab := ⟨P.sp, P.n5, fun k x hx => ⟨by have := (P.li k x hx).1; omega, (P.li k x hx).2⟩⟩
theorem QAt.len (Q : QAt w0 T0 tb bb mt md i bl u tab W) : tab.length ≤ i ∧ (∀ b ∈ bl, b.length = 16) := by
  obtain ⟨⟨sp, sb, cap, mb, n, hn, T⟩, _⟩ := Q
  exact ⟨Nat.le_trans T.low.2.2.2.2.2.1 hn, T.disk.bl16⟩
theorem PInv.need (P : PInv N i bl u tab) {k : Nat} {x : Ino} (hx : slotT tab k = some x) : x.blocks.length ≤ 1000 ∧ x.bytes ≤ 2000 ∧ x.bytes ≤ x.blocks.length * 16 ∧ (∀ b ∈ x.blocks, b < bl.length) := by
  obtain ⟨_, _, _, h4, h5⟩ := P.sp.own k x hx
  refine ⟨?_, h4, ?_, fun b hb => by rw [P.sp.lbl]; exact P.sp.lt hx b hb⟩
  · rw [h5]; unfold needN; omega
  · rw [h5]; exact need_fits _
theorem PInv.ok (P : PInv N i bl u tab) (h : tab.length ≤ 1000) : MOk tab := ⟨h, fun _ _ hx => (P.need hx).1⟩
theorem QAt.both (Q : QAt w0 T0 tb bb mt md i bl u tab W) {w1 w2 : World} {i' : Nat} (ht : ∃ sp sb cap mb n, n ≤ i' ∧ TbAt w1 (fun _ => False) T0 tb bb sp sb cap mb n bl' u' tab') (h1 : TbBut T0 W w1) (hm : ∃ la lc ia ic vs, MtAt w2 T0 mt md la lc ia ic bl' tab' vs) (h2 : MtBut T0 w1 w2) : QAt w0 T0 tb bb mt md i' bl' u' tab' w2 := by
  obtain ⟨sp, sb, cap, mb, n, hn, T⟩ := ht
  have hb1 : Below T0 w0 w1 := h1.below (Nat.le_refl _) Q.size Q.b
  have hs1 : T0 ≤ w1.heap.size := Nat.le_trans Q.size h1.size
  exact ⟨⟨sp, sb, cap, mb, n, hn, T.mtb h2⟩, hm, h2.below (Nat.le_refl _) hs1 hb1, Q.s, Q.l⟩
/-- What is left behind a pair. -/
def QEnd (w0 : World) (T0 tb bb mt md N i : Nat) (w' : World) : Prop := ∃ bl u tab, QAt w0 T0 tb bb mt md i bl u tab w' ∧ PInv N i bl u tab
theorem QEnd.below {w1 w2 : World} (h : QEnd w0 T0 tb bb mt md N i w1) (hb : Below w1.heap.size w1 w2) : QEnd w0 T0 tb bb mt md N i w2 := by
  obtain ⟨bl, u, tab, Q, P⟩ := h
  exact ⟨bl, u, tab, Q.below hb, P⟩
/-- What neither table is made of. -/
def qTy (o : Obj) : Bool := tbTy o || mtTy o
theorem Turn.trans {p : Obj → Bool} {w1 w2 w3 : World} (h : Turn p w1 w2) (h' : Turn p w2 w3) : Turn p w1 w3 := fun k o hk hp => h' k o (h k o hk hp) hp
theorem TbBut.q {w1 w2 : World} (h : TbBut T0 w1 w2) : Turn qTy w1 w2 := fun k o hk hp => h.block k o hk (.inr (by unfold qTy at hp; simp only [Bool.or_eq_false_iff] at hp; exact hp.1))
theorem MtBut.q {w1 w2 : World} (h : MtBut T0 w1 w2) : Turn qTy w1 w2 := fun k o hk hp => h.block k o hk (.inr (by unfold qTy at hp; simp only [Bool.or_eq_false_iff] at hp; exact hp.2))
theorem Turn.same (p : Obj → Bool) (w : World) : Turn p w w := fun _ _ hk _ => hk
/-- Two calls, and the look at their errors. -/
def Pair (P : Program) (f g : Nat) (fa ga : Array Value) (k : Option Int) (W : World) (R : World → Prop) : Prop :=
  Calls P f fa W fun e w1 => ∃ ev c, e = .returned (match k with | some j => .tuple #[.int .i64 j, ev] | none => ev) ∧ Turn qTy W w1 ∧ Calls P g ga w1 fun e2 w2 => e2 = .returned (match k with | some j => .tuple #[.int .i64 j, .int .i64 c] | none => .int .i64 c) ∧ Turn qTy W w2 ∧ Calls P 11 #[ev, .int .i64 c] w2 fun e3 w3 => e3 = .returned (.bool true) ∧ Turn qTy W w3 ∧ R w3
theorem code_sent (n : Nat) (hn : n < 13) (S : Sents a w0) {w2 : World} {R : World → Prop} (ht : Turn qTy W w2) (hb : Below w0.heap.size w0 w2) (hR : ∀ w3, Below w2.heap.size w2 w3 → R w3) :
    Calls Tryz.prog 11 #[.iface 205 (.pointer (some (a n))), .int .i64 ((n : Int) + 1)] w2 fun e3 w3 => e3 = .returned (.bool true) ∧ Turn qTy W w3 ∧ R w3 :=
  (coded_sent a n _ w2 (S.below hb) hn).mono fun e w3 ⟨he, h⟩ => ⟨by rw [he]; simp, ht.trans (Turn.of_below h), hR w3 h⟩
theorem code_zero {w2 : World} {R : World → Prop} (ht : Turn qTy W w2) (hR : R w2) : Calls Tryz.prog 11 #[.nilIface, .int .i64 0] w2 fun e3 w3 => e3 = .returned (.bool true) ∧ Turn qTy W w3 ∧ R w3 :=
  (coded_nil 0 w2).mono fun e w3 ⟨he, h⟩ => ⟨by rw [he]; rfl, by rw [h]; exact ht, by rw [h]; exact hR⟩
theorem q_link_none (f : Nat) (k more : Int) (hx : slotI tab k = none) (Q : QAt w0 T0 tb bb mt md i bl u tab W) (P : PInv N i bl u tab) (S : Sents a w0)
    (hf : ∀ er, W.cell? ⟨1, 0, none⟩ = some er → Calls Tryz.prog f #[.pointer (some ⟨tb, 0, none⟩), .int .i64 k] W fun e w' => e = .returned er ∧ w' = W) :
    Pair Tryz.prog f 21 #[.pointer (some ⟨tb, 0, none⟩), .int .i64 k] #[.pointer (some ⟨mt, 0, none⟩), .int .i64 k, .int .i64 more] none W (QEnd w0 T0 tb bb mt md N (i + 1)) := by
  have SW := Q.sents S
  obtain ⟨la, lc, ia, ic, vs, M⟩ := Q.m
  refine (hf _ SW.c5).mono fun e w1 ⟨he, hw⟩ => ⟨_, 6, he, by rw [hw]; exact Turn.same _ _, ?_⟩
  rw [hw]
  refine (m_link_none k more hx W M).mono fun e2 w2 ⟨he2, hw2⟩ => ⟨he2, by rw [hw2]; exact Turn.same _ _, ?_⟩
  rw [hw2]
  exact code_sent 5 (by decide) S (Turn.same _ _) (by rw [← Q.s]; exact Q.b) fun w3 h3 => ⟨bl, u, tab, (Q.below h3).mono (by omega), P.mono (by omega)⟩
theorem q_link (k : Int) (hk : (Lit.int .i64 k).wf = true) (hi : i ≤ 900) (Q : QAt w0 T0 tb bb mt md i bl u tab W) (P : PInv N i bl u tab) (S : Sents a w0) :
    Pair Tryz.prog 20 21 #[.pointer (some ⟨tb, 0, none⟩), .int .i64 k] #[.pointer (some ⟨mt, 0, none⟩), .int .i64 k, .int .i64 1] none W (QEnd w0 T0 tb bb mt md N (i + 1)) := by
  cases hx : slotI tab k with
  | none =>
    obtain ⟨sp, sb, cap, mb, n, hn, T⟩ := Q.t
    exact q_link_none 20 k 1 hx Q P S fun er hE => im_link_none k hk hx er W T hE
  | some x =>
    obtain ⟨j, rfl, hj⟩ := slotI_some hx
    obtain ⟨sp, sb, cap, mb, n, hn, T⟩ := Q.t
    obtain ⟨la, lc, ia, ic, vs, M⟩ := Q.m
    have hli := (P.li j x hj).1
    have hsu := (P.li j x hj).2
    refine (im_link j x hj (by omega) W T).mono fun e w1 ⟨he, T1, B1⟩ => ⟨_, 0, he, B1.q, ?_⟩
    refine (m_link (T0 := T0) j (x.links + 1) 1 x hj (by omega) (by omega) w1 (M.tb B1) (Nat.le_refl _)).mono fun e2 w2 ⟨he2, M2, B2⟩ => ⟨he2, B1.q.trans B2.q, ?_⟩
    rw [if_neg (by omega)] at M2
    obtain ⟨vs', M2⟩ := M2
    refine code_zero (B1.q.trans B2.q) ⟨bl, u, _, (Q.both ⟨sp, sb, cap, mb, n, (by omega : n ≤ i + 1), T1⟩ B1 ⟨la, lc, ia, ic, vs', M2⟩ B2), P.sp.links hj (by omega), P.n5, fun q y hy => ?_⟩
    rw [slotT_set (slotT_lt hj)] at hy
    split at hy
    · cases hy; exact ⟨by show x.links + 1 ≤ _; omega, hsu⟩
    · exact ⟨by have := (P.li q y hy).1; omega, (P.li q y hy).2⟩
theorem q_unlink (k : Int) (hk : (Lit.int .i64 k).wf = true) (hi : i ≤ 900) (Q : QAt w0 T0 tb bb mt md i bl u tab W) (P : PInv N i bl u tab) (S : Sents a w0) :
    Pair Tryz.prog 22 21 #[.pointer (some ⟨tb, 0, none⟩), .int .i64 k] #[.pointer (some ⟨mt, 0, none⟩), .int .i64 k, .int .i64 (-1)] none W (QEnd w0 T0 tb bb mt md N (i + 1)) := by
  have SW := Q.sents S
  cases hx : slotI tab k with
  | none =>
    obtain ⟨sp, sb, cap, mb, n, hn, T⟩ := Q.t
    exact q_link_none 22 k (-1) hx Q P S fun er hE => im_unlink_none k hk hx er W T hE
  | some x =>
    obtain ⟨j, rfl, hj⟩ := slotI_some hx
    obtain ⟨sp, sb, cap, mb, n, hn, T⟩ := Q.t
    obtain ⟨la, lc, ia, ic, vs, M⟩ := Q.m
    have hli := (P.li j x hj).1
    have hsu := (P.li j x hj).2
    have hl1 := (P.sp.own j x hj).2.2.1
    by_cases h1 : x.links = 1
    · have hg1 : 3 < T0 := by rw [Q.s]; exact lt_of_cell S.c1
      have hg5 : 1 < T0 := by rw [Q.s]; exact lt_of_cell S.c5
      refine (im_unlink_last j x _ _ hj h1 W T SW.c1 SW.c5 ⟨hg1, hg5⟩ (fun b hb => by rw [P.sp.lu]; exact P.sp.lt hj b hb) (P.sp.gives hj) (by have := (P.need hj).1; omega)).mono fun e w1 ⟨he, T1, B1⟩ => ⟨_, 0, he, B1.q, ?_⟩
      refine (m_link (T0 := T0) j 0 (-1) x hj (by omega) (by omega) w1 (M.tb B1) (Nat.le_refl _)).mono fun e2 w2 ⟨he2, M2, B2⟩ => ⟨he2, B1.q.trans B2.q, ?_⟩
      rw [if_pos rfl] at M2
      obtain ⟨vs', M2⟩ := M2
      refine code_zero (B1.q.trans B2.q) ⟨bl, _, _, (Q.both ⟨sp, sb, cap, mb, n, (by omega : n ≤ i + 1), T1⟩ B1 ⟨la, lc, ia, ic, vs', M2⟩ B2), P.sp.drop hj, P.n5, fun q y hy => ?_⟩
      rw [slotT_set (slotT_lt hj)] at hy
      split at hy
      · cases hy
      · exact ⟨by have := (P.li q y hy).1; omega, (P.li q y hy).2⟩
    · obtain ⟨l, hl⟩ : ∃ l, x.links = l + 1 := ⟨x.links - 1, by omega⟩
      refine (im_unlink j l x hj hl (by omega) (by omega) W T).mono fun e w1 ⟨he, T1, B1⟩ => ⟨_, 0, he, B1.q, ?_⟩
      refine (m_link (T0 := T0) j l (-1) x hj (by omega) (by omega) w1 (M.tb B1) (Nat.le_refl _)).mono fun e2 w2 ⟨he2, M2, B2⟩ => ⟨he2, B1.q.trans B2.q, ?_⟩
      rw [if_neg (by omega)] at M2
      obtain ⟨vs', M2⟩ := M2
      refine code_zero (B1.q.trans B2.q) ⟨bl, u, _, (Q.both ⟨sp, sb, cap, mb, n, (by omega : n ≤ i + 1), T1⟩ B1 ⟨la, lc, ia, ic, vs', M2⟩ B2), P.sp.links hj (by omega), P.n5, fun q y hy => ?_⟩
      rw [slotT_set (slotT_lt hj)] at hy
      split at hy
      · cases hy; exact ⟨by show l ≤ _; omega, hsu⟩
      · exact ⟨by have := (P.li q y hy).1; omega, (P.li q y hy).2⟩
theorem q_make (s : ByteArray) (ex : Bool) (hs : s.size ≤ 1000000) (hi : i ≤ 900) (Q : QAt w0 T0 tb bb mt md i bl u tab W) (P : PInv N i bl u tab) (S : Sents a w0) :
    ∃ k, Pair Tryz.prog 15 19 #[.pointer (some ⟨tb, 0, none⟩), .string s, .bool ex] #[.pointer (some ⟨mt, 0, none⟩), .string s, .bool ex] (some k) W (QEnd w0 T0 tb bb mt md N (i + 1)) := by
  have SW := Q.sents S
  obtain ⟨sp, sb, cap, mb, n, hn, T⟩ := Q.t
  obtain ⟨la, lc, ia, ic, vs, M⟩ := Q.m
  have hF := P.sp.freeM
  have hO := P.ok (by have := Q.len.1; omega)
  have hbl : bl.length ≤ 512 := by rw [P.sp.lbl]; exact P.n5
  rw [← P.sp.lbl] at hF
  by_cases h1 : 2000 < s.size
  · refine ⟨0, (im_make_big s ex h1 hs _ (.pointer (some ⟨tb, 0, none⟩)) W SW.c1).mono fun e w1 ⟨he, hb⟩ => ⟨_, 2, he, Turn.of_below hb, ?_⟩⟩
    refine (m_make_big s ex h1 (.pointer (some ⟨mt, 0, none⟩)) w1).mono fun e2 w2 ⟨he2, hw2⟩ => ⟨he2, by rw [hw2]; exact Turn.of_below hb, ?_⟩
    rw [hw2]
    have Q1 := Q.below hb
    exact code_sent 1 (by decide) S (Turn.of_below hb) (by rw [← Q1.s]; exact Q1.b) fun w3 h3 => ⟨bl, u, tab, (Q1.below h3).mono (by omega), P.mono (by omega)⟩
  · by_cases h2 : (freeR u).length < needN s.size
    · refine ⟨0, (im_make_full s ex (by omega) h2 205 _ W T SW.c7).mono fun e w1 ⟨he, hb⟩ => ⟨_, 8, he, Turn.of_below hb, ?_⟩⟩
      have Q1 := Q.below hb
      refine (m_make_full s ex (by omega) (by rw [hF]; exact h2) w1 (M.below hb) hO hbl).mono fun e2 w2 ⟨he2, hb2⟩ => ⟨he2, (Turn.of_below hb).trans (Turn.of_below hb2), ?_⟩
      have Q2 := Q1.below hb2
      exact code_sent 7 (by decide) S ((Turn.of_below hb).trans (Turn.of_below hb2)) (by rw [← Q2.s]; exact Q2.b) fun w3 h3 => ⟨bl, u, tab, (Q2.below h3).mono (by omega), P.mono (by omega)⟩
    · have hg1 : 3 < T0 := by rw [Q.s]; exact lt_of_cell S.c1
      refine ⟨(nextR tab : Int), (im_make s ex _ (by omega) rfl (by omega) (by omega) (by rw [P.sp.lu, P.sp.lbl]) _ W T SW.c1 hg1 Q.size (fun g h => h.elim)).mono fun e w1 ⟨he, T1, B1⟩ => ⟨_, 0, he, B1.q, ?_⟩⟩
      refine (m_make (T0 := T0) s ex _ (by omega) rfl (by rw [hF]; omega) w1 (M.tb B1) hO hbl (Nat.le_refl _) Q.l.1 (Nat.le_trans Q.size B1.size) Q.l.2).mono fun e2 w2 ⟨he2, M2, B2⟩ => ⟨he2, B1.q.trans B2.q, ?_⟩
      rw [hF] at M2
      obtain ⟨ia', ic', vs', M2⟩ := M2
      refine code_zero (B1.q.trans B2.q) ⟨_, _, _, (Q.both ⟨sp, sb, cap, mb, n + 1, (by omega : n + 1 ≤ i + 1), T1⟩ B1 ⟨la, lc, ia', ic', vs', M2⟩ B2), P.sp.make (by omega) rfl (by omega), P.n5, fun q y hy => ?_⟩
      rw [putN_slot] at hy
      split at hy
      · cases hy; exact ⟨by show 1 ≤ _; omega, crcR_lt _⟩
      · exact ⟨by have := (P.li q y hy).1; omega, (P.li q y hy).2⟩
theorem SInv.blocks {bl' : List (List UInt8)} (S : SInv N bl u tab) (h : bl'.length = bl.length) : SInv N bl' u tab := ⟨by rw [h]; exact S.lbl, S.lu, S.own, S.one, S.all⟩
theorem TbAt.redisk {F : Nat → Prop} {sp sb cap mb n : Nat} (T : TbAt W F T0 tb bb sp sb cap mb n bl u tab) (D : DkAt W' bb none 0 bl' []) (h : DkBut bb none W W') (hl : bl'.length = bl.length) : TbAt W' F T0 tb bb sp sb cap mb n bl' u tab := by
  have ht := Turn.of_but T.disk h
  obtain ⟨f, Nd⟩ := T.nodes
  exact ⟨ht _ _ T.box rfl, D, T.space.turn ht (fun _ _ => rfl) (fun _ _ => rfl), ⟨f, Nd.turn ht (fun _ _ => rfl) (fun _ _ => rfl) (fun _ _ => rfl)⟩, by rw [hl]; exact T.low⟩
/-- One disk has rotted, the other has not. -/
structure HAt (w0 : World) (T0 tb bb mt md i : Nat) (bl bl' : List (List UInt8)) (u : List Bool) (tab : List (Option Ino)) (W : World) : Prop where
  t : ∃ sp sb cap mb n, n ≤ i ∧ TbAt W (fun _ => False) T0 tb bb sp sb cap mb n bl u tab
  m : ∃ la lc ia ic vs, MtAt W T0 mt md la lc ia ic bl' tab vs
  b : Below T0 w0 W
  s : T0 = w0.heap.size
  l : T0 ≤ md ∧ T0 ≤ mt
theorem HAt.below (Q : HAt w0 T0 tb bb mt md i bl bl' u tab W) (h : Below W.heap.size W W') : HAt w0 T0 tb bb mt md i bl bl' u tab W' := by
  obtain ⟨⟨sp, sb, cap, mb, n, hn, T⟩, ⟨la, lc, ia, ic, vs, M⟩, b, s, l⟩ := id Q
  exact ⟨⟨sp, sb, cap, mb, n, hn, T.below h⟩, ⟨la, lc, ia, ic, vs, M.below h⟩, b.trans (h.mono (by rw [s]; exact Nat.le_trans (by rw [← s]; exact Nat.le_refl _) b.size)), s, l⟩
theorem q_rotm (k bit : Nat) (b : List UInt8) (hk : bl[k]? = some b) (hbit : bit < 128) (Q : QAt w0 T0 tb bb mt md i bl u tab W) :
    Calls Tryz.prog 25 #[.pointer (some ⟨md, 0, none⟩), .int .i64 (k : Int), .int .i64 (bit : Int)] W fun e w1 => e = .returned (.tuple #[]) ∧ Turn qTy W w1 ∧ HAt w0 T0 tb bb mt md i bl (bl.set k (turnL b bit)) u tab w1 := by
  obtain ⟨sp, sb, cap, mb, n, hn, T⟩ := Q.t
  obtain ⟨la, lc, ia, ic, vs, M⟩ := Q.m
  refine (rotM_any k bit b W M.disk hk (T.disk.bl16 b (List.mem_of_getElem? hk)) (fun x h => by cases h) hbit (by simp)).mono fun e w1 ⟨he, M1, B1⟩ => ?_
  have B2 : MtBut T0 W w1 := MtBut.of_mk M.disk Q.l.1 B1
  exact ⟨he, B2.q, ⟨sp, sb, cap, mb, n, hn, T.mtb B2⟩, ⟨la, lc, ia, ic, vs, M.redisk M1 (Turn.of_mk M.disk B1)⟩, B2.below (Nat.le_refl _) Q.size Q.b, Q.s, Q.l⟩
theorem q_rotd (k bit : Nat) (b : List UInt8) (hk : bl[k]? = some b) (hbit : bit < 128) (Q : HAt w0 T0 tb bb mt md i bl (bl.set k (turnL b bit)) u tab W) (P : PInv N i bl u tab) :
    Calls Tryz.prog 24 #[.pointer (some ⟨bb + 1, 0, none⟩), .int .i64 (k : Int), .int .i64 (bit : Int)] W fun e w1 => e = .returned .nilIface ∧ Turn qTy W w1 ∧ QEnd w0 T0 tb bb mt md N (i + 1) w1 := by
  obtain ⟨sp, sb, cap, mb, n, hn, T⟩ := Q.t
  obtain ⟨la, lc, ia, ic, vs, M⟩ := Q.m
  refine (rot_any k bit b W T.disk hk hbit (by simp)).mono fun e w1 ⟨he, D1, B1⟩ => ?_
  have B2 : TbBut T0 W w1 := TbBut.of_but T.disk T.low.1 B1
  have hs : T0 ≤ W.heap.size := by rw [Q.s]; exact Nat.le_trans (by rw [← Q.s]; exact Nat.le_refl _) Q.b.size
  exact ⟨he, B2.q, _, u, tab, ⟨⟨sp, sb, cap, mb, n, by omega, T.redisk D1 B1 (by simp)⟩, ⟨la, lc, ia, ic, vs, M.tb B2⟩, B2.below (Nat.le_refl _) hs Q.b, Q.s, Q.l⟩, (P.sp.blocks (by simp)), P.n5, fun q y hy => ⟨by have := (P.li q y hy).1; omega, (P.li q y hy).2⟩⟩
end
end Go.Proofs.YtnmknngpihjhnaaGreatDoor
namespace Go.Proofs.YtnmknngpihjhnaaGreatDoor
open Go.RowKit

section
variable {w0 W : World} {T0 tb bb mt md i N : Nat} {bl bl' : List (List UInt8)} {u : List Bool} {tab : List (Option Ino)} {a : Nat → Addr}
theorem HAt.cell (H : HAt w0 T0 tb bb mt md i bl bl' u tab W) : W.cell? ⟨mt, 0, none⟩ = some (.pointer (some ⟨md, 0, none⟩)) := by
  obtain ⟨la, lc, ia, ic, vs, M⟩ := H.m
  exact M.cells.1
theorem below_drewN (w : World) (q : Nat) : Below w.heap.size w (w.drewN q).drew := ⟨rfl, rfl, rfl, Nat.le_refl _, fun _ _ => rfl⟩
set_option maxRecDepth 100000 in
set_option maxHeartbeats 4000000 in
theorem act_any (x : FAct) (hn : (Lit.int .i64 x.n).wf = true) (hs : x.s.size ≤ 1000000) (hi : i ≤ 900) (Q : QAt w0 T0 tb bb mt md i bl u tab W) (P : PInv N i bl u tab) (S : Sents a w0) :
    Calls Tryz.prog 7 #[.pointer (some ⟨tb, 0, none⟩), .pointer (some ⟨mt, 0, none⟩), .agg #[.string x.kind, .string x.s, .bool x.exec, .int .i64 x.n, .int .i64 x.bit]] W fun e w' => e = .returned (.bool true) ∧ QEnd w0 T0 tb bb mt md N (i + 1) w' := by
  have HBW : Hid (Below W.heap.size W (W.alloc (.cells #[.string x.kind, .string x.s, .bool x.exec, .int .i64 x.n, .int .i64 x.bit] 30))) := (Below.refl _ W).alloc (Nat.le_refl _) _
  have HBX : Hid ((W.alloc (.cells #[.string x.kind, .string x.s, .bool x.exec, .int .i64 x.n, .int .i64 x.bit] 30)).heap[W.heap.size]? = some (.cells #[.string x.kind, .string x.s, .bool x.exec, .int .i64 x.n, .int .i64 x.bit] 30 (0, 0))) := heap_alloc_last W _
  have HSX : Hid (∀ w', Turn qTy (W.alloc (.cells #[.string x.kind, .string x.s, .bool x.exec, .int .i64 x.n, .int .i64 x.bit] 30)) w' → (w'.cell? ⟨W.heap.size, 3, none⟩ = some (.int .i64 x.n) ∧ w'.cell? ⟨W.heap.size, 4, none⟩ = some (.int .i64 x.bit))) := fun w' h => by
    have hb := h _ _ HBX.out rfl
    constructor <;> rw [cell_of_row _ _ _ _ _ _ hb] <;> rfl
  have HQ0 : Hid (QEnd w0 T0 tb bb mt md N (i + 1) (W.alloc (.cells #[.string x.kind, .string x.s, .bool x.exec, .int .i64 x.n, .int .i64 x.bit] 30))) := ⟨bl, u, tab, (Q.below HBW.out).mono (by omega), P.mono (by omega)⟩
  have HLB : Hid (∃ la lc, (W.alloc (.cells #[.string x.kind, .string x.s, .bool x.exec, .int .i64 x.n, .int .i64 x.bit] 30)).cell? ⟨mt, 0, none⟩ = some (.pointer (some ⟨md, 0, none⟩)) ∧ (W.alloc (.cells #[.string x.kind, .string x.s, .bool x.exec, .int .i64 x.n, .int .i64 x.bit] 30)).cell? ⟨md, 0, none⟩ = some (.slice la N lc)) := by
    obtain ⟨la, lc, ia, ic, vs, M⟩ := (Q.below HBW.out).m
    exact ⟨la, lc, M.cells.1, by rw [← P.sp.lbl]; exact M.disk.lcell⟩
  obtain ⟨la, lc, cm0, cd0⟩ := HLB.out
  clear HLB
  go_enter Tryz.func7, Tryz.ntmps7
  cases kw : (x.kind.toList == [109, 97, 107, 101]) with
  | true =>
    obtain ⟨k, hmk⟩ := q_make x.s x.exec hs hi (Q.below HBW.out) P S
    have HMK : Hid (Calls Tryz.prog 15 #[.pointer (some ⟨tb, 0, none⟩), .string x.s, .bool x.exec] (W.alloc (.cells #[.string x.kind, .string x.s, .bool x.exec, .int .i64 x.n, .int .i64 x.bit] 30)) fun e w1 => ∃ ev c, e = .returned (.tuple #[.int .i64 k, ev]) ∧ Turn qTy (W.alloc (.cells #[.string x.kind, .string x.s, .bool x.exec, .int .i64 x.n, .int .i64 x.bit] 30)) w1 ∧ Calls Tryz.prog 19 #[.pointer (some ⟨mt, 0, none⟩), .string x.s, .bool x.exec] w1 fun e2 w2 => e2 = .returned (.tuple #[.int .i64 k, .int .i64 c]) ∧ Turn qTy (W.alloc (.cells #[.string x.kind, .string x.s, .bool x.exec, .int .i64 x.n, .int .i64 x.bit] 30)) w2 ∧ Calls Tryz.prog 11 #[ev, .int .i64 c] w2 fun e3 w3 => e3 = .returned (.bool true) ∧ Turn qTy (W.alloc (.cells #[.string x.kind, .string x.s, .bool x.exec, .int .i64 x.n, .int .i64 x.bit] 30)) w3 ∧ QEnd w0 T0 tb bb mt md N (i + 1) w3) := hmk
    clear hmk Q P S
    go_wp2_with (first
      | (go_at_call 15; refine HMK.out.mono ?_; rintro e w1 ⟨ev, c, rfl, ht1, H2⟩; (have hb1 := ht1 _ _ HBX.out rfl); (have e1 : w1.cell? ⟨W.heap.size, 1, none⟩ = some (.string x.s) := (by rw [cell_of_row _ _ _ _ _ _ hb1]; rfl)); (have e2 : w1.cell? ⟨W.heap.size, 2, none⟩ = some (.bool x.exec) := (by rw [cell_of_row _ _ _ _ _ _ hb1]; rfl)); clear hb1 ht1)
      | (go_at_call 19; refine H2.mono ?_; rintro e w2 ⟨rfl, ht2, H3⟩; clear ht2)
      | (go_at_call 11; refine H3.mono ?_; rintro e w3 ⟨rfl, ht3, HQ⟩; clear ht3))
    go_ret
    exact ⟨rfl, HQ⟩
  | false =>
    cases kl : (x.kind.toList == [108, 105, 110, 107]) with
    | true =>
      have HLK : Hid (Calls Tryz.prog 20 #[.pointer (some ⟨tb, 0, none⟩), .int .i64 x.n] (W.alloc (.cells #[.string x.kind, .string x.s, .bool x.exec, .int .i64 x.n, .int .i64 x.bit] 30)).drew fun e w1 => ∃ ev c, e = .returned ev ∧ Turn qTy (W.alloc (.cells #[.string x.kind, .string x.s, .bool x.exec, .int .i64 x.n, .int .i64 x.bit] 30)).drew w1 ∧ Calls Tryz.prog 21 #[.pointer (some ⟨mt, 0, none⟩), .int .i64 x.n, .int .i64 1] w1 fun e2 w2 => e2 = .returned (.int .i64 c) ∧ Turn qTy (W.alloc (.cells #[.string x.kind, .string x.s, .bool x.exec, .int .i64 x.n, .int .i64 x.bit] 30)).drew w2 ∧ Calls Tryz.prog 11 #[ev, .int .i64 c] w2 fun e3 w3 => e3 = .returned (.bool true) ∧ Turn qTy (W.alloc (.cells #[.string x.kind, .string x.s, .bool x.exec, .int .i64 x.n, .int .i64 x.bit] 30)).drew w3 ∧ QEnd w0 T0 tb bb mt md N (i + 1) w3) := q_link x.n hn hi ((Q.below HBW.out).below (below_drew _)) P S
      clear Q P S
      go_wp2_with fail
      refine wp_region_held_drew (S := fun w' => w'.cell? ⟨W.heap.size, 3, none⟩ = some (.int .i64 x.n) ∧ w'.cell? ⟨W.heap.size, 4, none⟩ = some (.int .i64 x.bit)) (by kernel_rfl) (HSX.out _ (Turn.of_below (below_drew _))) (fun hHeld => ?_)
      refine wpAnyH_take (i := 0) (v := (.pointer (some ⟨tb, 0, none⟩))) rfl (by kernel_rfl) (by kernel_rfl) (by kernel_rfl) (fun _ _ _ h => h) (Or.inl ⟨by rfl, ?_⟩) hHeld ?_
      · intro w hSw; (try dsimp only at hSw); simp only [List.getElem_toArray, List.getElem_cons_zero]; go_simp
      simp only [List.getElem_toArray, List.getElem_cons_zero, Act.put, List.setIfInBounds_toArray, List.set_cons_zero, List.set_cons_succ]
      refine wpAnyH_take (i := 1) (v := (.pointer (some ⟨W.heap.size, 3, none⟩))) rfl (by kernel_rfl) (by kernel_rfl) (by kernel_rfl) (fun _ _ _ h => h) (Or.inl ⟨by rfl, ?_⟩) hHeld ?_
      · intro w hSw; (try dsimp only at hSw); simp only [List.getElem_toArray, List.getElem_cons_zero, List.getElem_cons_succ]; go_simp
      simp only [List.getElem_toArray, List.getElem_cons_zero, List.getElem_cons_succ, Act.put, List.setIfInBounds_toArray, List.set_cons_zero, List.set_cons_succ]
      refine wpAnyH_take (i := 2) (v := (.int .i64 x.n)) rfl (by kernel_rfl) (by kernel_rfl) (by kernel_rfl) (fun _ _ _ h => h) (Or.inl ⟨by rfl, ?_⟩) hHeld ?_
      · intro w hSw; (try dsimp only at hSw); simp only [List.getElem_toArray, List.getElem_cons_zero, List.getElem_cons_succ]; go_simp
      simp only [List.getElem_toArray, List.getElem_cons_zero, List.getElem_cons_succ, Act.put, List.setIfInBounds_toArray, List.set_cons_zero, List.set_cons_succ]
      refine wpAnyH_take (i := 4) (v := (.pointer (some ⟨mt, 0, none⟩))) rfl (by kernel_rfl) (by kernel_rfl) (by kernel_rfl) (fun _ _ _ h => h) (Or.inl ⟨by rfl, ?_⟩) hHeld ?_
      · intro w hSw; (try dsimp only at hSw); simp only [List.getElem_toArray, List.getElem_cons_zero, List.getElem_cons_succ]; go_simp
      simp only [List.getElem_toArray, List.getElem_cons_zero, List.getElem_cons_succ, Act.put, List.setIfInBounds_toArray, List.set_cons_zero, List.set_cons_succ]
      refine wpAnyH_take (i := 5) (v := (.pointer (some ⟨W.heap.size, 3, none⟩))) rfl (by kernel_rfl) (by kernel_rfl) (by kernel_rfl) (fun _ _ _ h => h) (Or.inl ⟨by rfl, ?_⟩) hHeld ?_
      · intro w hSw; (try dsimp only at hSw); simp only [List.getElem_toArray, List.getElem_cons_zero, List.getElem_cons_succ]; go_simp
      simp only [List.getElem_toArray, List.getElem_cons_zero, List.getElem_cons_succ, Act.put, List.setIfInBounds_toArray, List.set_cons_zero, List.set_cons_succ]
      refine wpAnyH_take (i := 6) (v := (.int .i64 x.n)) rfl (by kernel_rfl) (by kernel_rfl) (by kernel_rfl) (fun _ _ _ h => h) (Or.inl ⟨by rfl, ?_⟩) hHeld ?_
      · intro w hSw; (try dsimp only at hSw); simp only [List.getElem_toArray, List.getElem_cons_zero, List.getElem_cons_succ]; go_simp
      simp only [List.getElem_toArray, List.getElem_cons_zero, List.getElem_cons_succ, Act.put, List.setIfInBounds_toArray, List.set_cons_zero, List.set_cons_succ]
      refine wpAnyH_ready (rs := [3]) (by kernel_rfl) (by simp) ?_
      refine AllReadyH.cons rfl (fun K' hK => ?_) AllReadyH.nil
      simp only [List.getElem_toArray, List.getElem_cons_zero, List.getElem_cons_succ]
      go_simp
      refine Calls.mono (HLK.out) ?_
      rintro e wx ⟨ev, c, rfl, ht1, H2⟩
      go_wp2_with fail
      refine hK.out _ _ (HSX.out _ ((Turn.of_below (below_drew _)).trans ht1)) (fun hHeld' => ?_)
      clear hK K' hHeld
      have hHeld := hHeld'
      clear hHeld'
      refine wpAnyH_ready (rs := [7]) (by kernel_rfl) (by simp) ?_
      refine AllReadyH.cons rfl (fun K' hK => ?_) AllReadyH.nil
      simp only [List.getElem_toArray, List.getElem_cons_zero, List.getElem_cons_succ]
      go_simp
      refine Calls.mono (H2) ?_
      rintro e wx ⟨rfl, ht2, H3⟩
      go_wp2_with fail
      refine hK.out _ _ (HSX.out _ ((Turn.of_below (below_drew _)).trans ht2)) (fun hHeld' => ?_)
      clear hK K' hHeld
      have hHeld := hHeld'
      clear hHeld'
      refine wpAnyH_ready (rs := [8]) (by kernel_rfl) (by simp) ?_
      refine AllReadyH.cons rfl (fun K' hK => ?_) AllReadyH.nil
      simp only [List.getElem_toArray, List.getElem_cons_zero, List.getElem_cons_succ]
      go_simp
      refine Calls.mono (H3) ?_
      rintro e wx ⟨rfl, ht3, HQ⟩
      go_wp2_with fail
      refine hK.out _ _ (HSX.out _ ((Turn.of_below (below_drew _)).trans ht3)) (fun hHeld' => ?_)
      clear hK K' hHeld
      have hHeld := hHeld'
      clear hHeld'
      refine wpAnyH_ready (rs := [9]) (by kernel_rfl) (by simp) ?_
      refine AllReadyH.cons rfl (fun K' hK => ?_) AllReadyH.nil
      simp only [List.getElem_toArray, List.getElem_cons_zero, List.getElem_cons_succ]
      go_simp
      go_wp2_with fail
      refine hK.out _ _ (HSX.out _ ((Turn.of_below (below_drew _)).trans ht3)) (fun hHeld' => ?_)
      clear hK K' hHeld
      have hHeld := hHeld'
      clear hHeld'
      refine wpAnyH_done (by kernel_rfl) ?_ _
      go_wp2_with fail
      go_ret
      exact ⟨rfl, HQ⟩
    | false =>
      cases ku : (x.kind.toList == [117, 110, 108, 105, 110, 107]) with
      | true =>
        have HLK : Hid (Calls Tryz.prog 22 #[.pointer (some ⟨tb, 0, none⟩), .int .i64 x.n] (W.alloc (.cells #[.string x.kind, .string x.s, .bool x.exec, .int .i64 x.n, .int .i64 x.bit] 30)).drew fun e w1 => ∃ ev c, e = .returned ev ∧ Turn qTy (W.alloc (.cells #[.string x.kind, .string x.s, .bool x.exec, .int .i64 x.n, .int .i64 x.bit] 30)).drew w1 ∧ Calls Tryz.prog 21 #[.pointer (some ⟨mt, 0, none⟩), .int .i64 x.n, .int .i64 (-1)] w1 fun e2 w2 => e2 = .returned (.int .i64 c) ∧ Turn qTy (W.alloc (.cells #[.string x.kind, .string x.s, .bool x.exec, .int .i64 x.n, .int .i64 x.bit] 30)).drew w2 ∧ Calls Tryz.prog 11 #[ev, .int .i64 c] w2 fun e3 w3 => e3 = .returned (.bool true) ∧ Turn qTy (W.alloc (.cells #[.string x.kind, .string x.s, .bool x.exec, .int .i64 x.n, .int .i64 x.bit] 30)).drew w3 ∧ QEnd w0 T0 tb bb mt md N (i + 1) w3) := q_unlink x.n hn hi ((Q.below HBW.out).below (below_drew _)) P S
        clear Q P S
        go_wp2_with fail
        refine wp_region_held_drew (S := fun w' => w'.cell? ⟨W.heap.size, 3, none⟩ = some (.int .i64 x.n) ∧ w'.cell? ⟨W.heap.size, 4, none⟩ = some (.int .i64 x.bit)) (by kernel_rfl) (HSX.out _ (Turn.of_below (below_drew _))) (fun hHeld => ?_)
        refine wpAnyH_take (i := 0) (v := (.pointer (some ⟨tb, 0, none⟩))) rfl (by kernel_rfl) (by kernel_rfl) (by kernel_rfl) (fun _ _ _ h => h) (Or.inl ⟨by rfl, ?_⟩) hHeld ?_
        · intro w hSw; (try dsimp only at hSw); simp only [List.getElem_toArray, List.getElem_cons_zero]; go_simp
        simp only [List.getElem_toArray, List.getElem_cons_zero, Act.put, List.setIfInBounds_toArray, List.set_cons_zero, List.set_cons_succ]
        refine wpAnyH_take (i := 1) (v := (.pointer (some ⟨W.heap.size, 3, none⟩))) rfl (by kernel_rfl) (by kernel_rfl) (by kernel_rfl) (fun _ _ _ h => h) (Or.inl ⟨by rfl, ?_⟩) hHeld ?_
        · intro w hSw; (try dsimp only at hSw); simp only [List.getElem_toArray, List.getElem_cons_zero, List.getElem_cons_succ]; go_simp
        simp only [List.getElem_toArray, List.getElem_cons_zero, List.getElem_cons_succ, Act.put, List.setIfInBounds_toArray, List.set_cons_zero, List.set_cons_succ]
        refine wpAnyH_take (i := 2) (v := (.int .i64 x.n)) rfl (by kernel_rfl) (by kernel_rfl) (by kernel_rfl) (fun _ _ _ h => h) (Or.inl ⟨by rfl, ?_⟩) hHeld ?_
        · intro w hSw; (try dsimp only at hSw); simp only [List.getElem_toArray, List.getElem_cons_zero, List.getElem_cons_succ]; go_simp
        simp only [List.getElem_toArray, List.getElem_cons_zero, List.getElem_cons_succ, Act.put, List.setIfInBounds_toArray, List.set_cons_zero, List.set_cons_succ]
        refine wpAnyH_take (i := 4) (v := (.pointer (some ⟨mt, 0, none⟩))) rfl (by kernel_rfl) (by kernel_rfl) (by kernel_rfl) (fun _ _ _ h => h) (Or.inl ⟨by rfl, ?_⟩) hHeld ?_
        · intro w hSw; (try dsimp only at hSw); simp only [List.getElem_toArray, List.getElem_cons_zero, List.getElem_cons_succ]; go_simp
        simp only [List.getElem_toArray, List.getElem_cons_zero, List.getElem_cons_succ, Act.put, List.setIfInBounds_toArray, List.set_cons_zero, List.set_cons_succ]
        refine wpAnyH_take (i := 5) (v := (.pointer (some ⟨W.heap.size, 3, none⟩))) rfl (by kernel_rfl) (by kernel_rfl) (by kernel_rfl) (fun _ _ _ h => h) (Or.inl ⟨by rfl, ?_⟩) hHeld ?_
        · intro w hSw; (try dsimp only at hSw); simp only [List.getElem_toArray, List.getElem_cons_zero, List.getElem_cons_succ]; go_simp
        simp only [List.getElem_toArray, List.getElem_cons_zero, List.getElem_cons_succ, Act.put, List.setIfInBounds_toArray, List.set_cons_zero, List.set_cons_succ]
        refine wpAnyH_take (i := 6) (v := (.int .i64 x.n)) rfl (by kernel_rfl) (by kernel_rfl) (by kernel_rfl) (fun _ _ _ h => h) (Or.inl ⟨by rfl, ?_⟩) hHeld ?_
        · intro w hSw; (try dsimp only at hSw); simp only [List.getElem_toArray, List.getElem_cons_zero, List.getElem_cons_succ]; go_simp
        simp only [List.getElem_toArray, List.getElem_cons_zero, List.getElem_cons_succ, Act.put, List.setIfInBounds_toArray, List.set_cons_zero, List.set_cons_succ]
        refine wpAnyH_ready (rs := [3]) (by kernel_rfl) (by simp) ?_
        refine AllReadyH.cons rfl (fun K' hK => ?_) AllReadyH.nil
        simp only [List.getElem_toArray, List.getElem_cons_zero, List.getElem_cons_succ]
        go_simp
        refine Calls.mono (HLK.out) ?_
        rintro e wx ⟨ev, c, rfl, ht1, H2⟩
        go_wp2_with fail
        refine hK.out _ _ (HSX.out _ ((Turn.of_below (below_drew _)).trans ht1)) (fun hHeld' => ?_)
        clear hK K' hHeld
        have hHeld := hHeld'
        clear hHeld'
        refine wpAnyH_ready (rs := [7]) (by kernel_rfl) (by simp) ?_
        refine AllReadyH.cons rfl (fun K' hK => ?_) AllReadyH.nil
        simp only [List.getElem_toArray, List.getElem_cons_zero, List.getElem_cons_succ]
        go_simp
        refine Calls.mono (H2) ?_
        rintro e wx ⟨rfl, ht2, H3⟩
        go_wp2_with fail
        refine hK.out _ _ (HSX.out _ ((Turn.of_below (below_drew _)).trans ht2)) (fun hHeld' => ?_)
        clear hK K' hHeld
        have hHeld := hHeld'
        clear hHeld'
        refine wpAnyH_ready (rs := [8]) (by kernel_rfl) (by simp) ?_
        refine AllReadyH.cons rfl (fun K' hK => ?_) AllReadyH.nil
        simp only [List.getElem_toArray, List.getElem_cons_zero, List.getElem_cons_succ]
        go_simp
        refine Calls.mono (H3) ?_
        rintro e wx ⟨rfl, ht3, HQ⟩
        go_wp2_with fail
        refine hK.out _ _ (HSX.out _ ((Turn.of_below (below_drew _)).trans ht3)) (fun hHeld' => ?_)
        clear hK K' hHeld
        have hHeld := hHeld'
        clear hHeld'
        refine wpAnyH_ready (rs := [9]) (by kernel_rfl) (by simp) ?_
        refine AllReadyH.cons rfl (fun K' hK => ?_) AllReadyH.nil
        simp only [List.getElem_toArray, List.getElem_cons_zero, List.getElem_cons_succ]
        go_simp
        go_wp2_with fail
        refine hK.out _ _ (HSX.out _ ((Turn.of_below (below_drew _)).trans ht3)) (fun hHeld' => ?_)
        clear hK K' hHeld
        have hHeld := hHeld'
        clear hHeld'
        refine wpAnyH_done (by kernel_rfl) ?_ _
        go_wp2_with fail
        go_ret
        exact ⟨rfl, HQ⟩
      | false =>
        cases km : (x.kind.toList == [109, 101, 110, 100]) with
        | true =>
          clear P S
          have HQ1 : Hid (QEnd w0 T0 tb bb mt md N (i + 1) (W.alloc (.cells #[.string x.kind, .string x.s, .bool x.exec, .int .i64 x.n, .int .i64 x.bit] 30))) := HQ0.out
          clear Q
          go_wp2_with fail
          go_ret
          exact ⟨rfl, HQ1.out⟩
        | false =>
          by_cases h0 : x.n < 0
          · skip
            have hrno : ¬ (hasB bl.length x.n = true ∧ 0 ≤ x.bit ∧ x.bit < 128) := fun h => by have := (of_decide_eq_true h.1).1; omega
            have HQ9 : Hid (∀ q, QAt w0 T0 tb bb mt md i bl u tab ((W.alloc (.cells #[.string x.kind, .string x.s, .bool x.exec, .int .i64 x.n, .int .i64 x.bit] 30)).drewN q).drew) := fun q => (Q.below HBW.out).below (below_drewN _ _)
            have HDK : Hid (∀ q, Calls Tryz.prog 23 #[.pointer (some ⟨tb, 0, none⟩)] ((W.alloc (.cells #[.string x.kind, .string x.s, .bool x.exec, .int .i64 x.n, .int .i64 x.bit] 30)).drewN q).drew fun e w' => e = .returned (.pointer (some ⟨bb + 1, 0, none⟩)) ∧ w' = ((W.alloc (.cells #[.string x.kind, .string x.s, .bool x.exec, .int .i64 x.n, .int .i64 x.bit] 30)).drewN q).drew) := fun q => by
              obtain ⟨sp, sb, cap, mb, n, hnn, T⟩ := (HQ9.out q).t
              exact im_disk _ T
            have HRN : Hid (∀ q, Calls Tryz.prog 24 #[.pointer (some ⟨bb + 1, 0, none⟩), .int .i64 x.n, .int .i64 x.bit] ((W.alloc (.cells #[.string x.kind, .string x.s, .bool x.exec, .int .i64 x.n, .int .i64 x.bit] 30)).drewN q).drew fun e w' => e = .returned (.iface 205 (.pointer (some (a 1)))) ∧ w' = ((W.alloc (.cells #[.string x.kind, .string x.s, .bool x.exec, .int .i64 x.n, .int .i64 x.bit] 30)).drewN q).drew) := fun q => by
              obtain ⟨sp, sb, cap, mb, n, hnn, T⟩ := (HQ9.out q).t
              exact rot_not x.n x.bit _ _ T.disk hrno ((HQ9.out q).sents S).c1
            have HCD : Hid (∀ q, Calls Tryz.prog 11 #[.iface 205 (.pointer (some (a 1))), .int .i64 2] ((W.alloc (.cells #[.string x.kind, .string x.s, .bool x.exec, .int .i64 x.n, .int .i64 x.bit] 30)).drewN q).drew fun e3 w3 => e3 = .returned (.bool true) ∧ Turn qTy (W.alloc (.cells #[.string x.kind, .string x.s, .bool x.exec, .int .i64 x.n, .int .i64 x.bit] 30)) w3 ∧ QEnd w0 T0 tb bb mt md N (i + 1) w3) := fun q => code_sent 1 (by decide) S (Turn.of_below (below_drewN _ _)) (by rw [← (HQ9.out q).s]; exact (HQ9.out q).b) fun w3 h3 => ⟨bl, u, tab, ((HQ9.out q).below h3).mono (by omega), P.mono (by omega)⟩
            clear Q P S HQ9 hrno
            go_wp2_with fail
            go_quiet (fail)
            go_wp2_with fail
            refine wp_region_held_drew (S := fun w' => w'.cell? ⟨W.heap.size, 3, none⟩ = some (.int .i64 x.n) ∧ w'.cell? ⟨W.heap.size, 4, none⟩ = some (.int .i64 x.bit)) (by kernel_rfl) (HSX.out _ (Turn.of_below (below_drewN _ _))) (fun hHeld => ?_)
            refine wpAnyH_take (i := 0) (v := (.pointer (some ⟨tb, 0, none⟩))) rfl (by kernel_rfl) (by kernel_rfl) (by kernel_rfl) (fun _ _ _ h => h) (Or.inl ⟨by rfl, ?_⟩) hHeld ?_
            · intro w hSw; (try dsimp only at hSw); simp only [List.getElem_toArray, List.getElem_cons_zero]; go_simp
            simp only [List.getElem_toArray, List.getElem_cons_zero, Act.put, List.setIfInBounds_toArray, List.set_cons_zero, List.set_cons_succ]
            refine wpAnyH_take (i := 2) (v := (.pointer (some ⟨W.heap.size, 3, none⟩))) rfl (by kernel_rfl) (by kernel_rfl) (by kernel_rfl) (fun _ _ _ h => h) (Or.inl ⟨by rfl, ?_⟩) hHeld ?_
            · intro w hSw; (try dsimp only at hSw); simp only [List.getElem_toArray, List.getElem_cons_zero, List.getElem_cons_succ]; go_simp
            simp only [List.getElem_toArray, List.getElem_cons_zero, List.getElem_cons_succ, Act.put, List.setIfInBounds_toArray, List.set_cons_zero, List.set_cons_succ]
            refine wpAnyH_take (i := 3) (v := (.int .i64 x.n)) rfl (by kernel_rfl) (by kernel_rfl) (by kernel_rfl) (fun _ _ _ h => h) (Or.inl ⟨by rfl, ?_⟩) hHeld ?_
            · intro w hSw; (try dsimp only at hSw); simp only [List.getElem_toArray, List.getElem_cons_zero, List.getElem_cons_succ]; go_simp
            simp only [List.getElem_toArray, List.getElem_cons_zero, List.getElem_cons_succ, Act.put, List.setIfInBounds_toArray, List.set_cons_zero, List.set_cons_succ]
            refine wpAnyH_take (i := 4) (v := (.pointer (some ⟨W.heap.size, 4, none⟩))) rfl (by kernel_rfl) (by kernel_rfl) (by kernel_rfl) (fun _ _ _ h => h) (Or.inl ⟨by rfl, ?_⟩) hHeld ?_
            · intro w hSw; (try dsimp only at hSw); simp only [List.getElem_toArray, List.getElem_cons_zero, List.getElem_cons_succ]; go_simp
            simp only [List.getElem_toArray, List.getElem_cons_zero, List.getElem_cons_succ, Act.put, List.setIfInBounds_toArray, List.set_cons_zero, List.set_cons_succ]
            refine wpAnyH_take (i := 5) (v := (.int .i64 x.bit)) rfl (by kernel_rfl) (by kernel_rfl) (by kernel_rfl) (fun _ _ _ h => h) (Or.inl ⟨by rfl, ?_⟩) hHeld ?_
            · intro w hSw; (try dsimp only at hSw); simp only [List.getElem_toArray, List.getElem_cons_zero, List.getElem_cons_succ]; go_simp
            simp only [List.getElem_toArray, List.getElem_cons_zero, List.getElem_cons_succ, Act.put, List.setIfInBounds_toArray, List.set_cons_zero, List.set_cons_succ]
            refine wpAnyH_ready (rs := [1]) (by kernel_rfl) (by simp) ?_
            refine AllReadyH.cons rfl (fun K' hK => ?_) AllReadyH.nil
            simp only [List.getElem_toArray, List.getElem_cons_zero, List.getElem_cons_succ]
            go_simp
            refine Calls.mono (HDK.out _) ?_
            rintro e wx ⟨rfl, hw⟩
            rw [hw]
            clear hw
            go_wp2_with fail
            refine hK.out _ _ (HSX.out _ (Turn.of_below (below_drewN _ _))) (fun hHeld' => ?_)
            clear hK K' hHeld
            have hHeld := hHeld'
            clear hHeld'
            refine wpAnyH_ready (rs := [6]) (by kernel_rfl) (by simp) ?_
            refine AllReadyH.cons rfl (fun K' hK => ?_) AllReadyH.nil
            simp only [List.getElem_toArray, List.getElem_cons_zero, List.getElem_cons_succ]
            go_simp
            refine Calls.mono (HRN.out _) ?_
            rintro e wx ⟨rfl, hw⟩
            rw [hw]
            clear hw
            go_wp2_with fail
            refine hK.out _ _ (HSX.out _ (Turn.of_below (below_drewN _ _))) (fun hHeld' => ?_)
            clear hK K' hHeld
            have hHeld := hHeld'
            clear hHeld'
            refine wpAnyH_ready (rs := [7]) (by kernel_rfl) (by simp) ?_
            refine AllReadyH.cons rfl (fun K' hK => ?_) AllReadyH.nil
            simp only [List.getElem_toArray, List.getElem_cons_zero, List.getElem_cons_succ]
            go_simp
            refine Calls.mono (HCD.out _) ?_
            rintro e wx ⟨rfl, ht3, HQ⟩
            go_wp2_with fail
            refine hK.out _ _ (HSX.out _ ht3) (fun hHeld' => ?_)
            clear hK K' hHeld
            have hHeld := hHeld'
            clear hHeld'
            refine wpAnyH_ready (rs := [8]) (by kernel_rfl) (by simp) ?_
            refine AllReadyH.cons rfl (fun K' hK => ?_) AllReadyH.nil
            simp only [List.getElem_toArray, List.getElem_cons_zero, List.getElem_cons_succ]
            go_simp
            go_wp2_with fail
            refine hK.out _ _ (HSX.out _ ht3) (fun hHeld' => ?_)
            clear hK K' hHeld
            have hHeld := hHeld'
            clear hHeld'
            refine wpAnyH_done (by kernel_rfl) ?_ _
            go_wp2_with fail
            go_ret
            exact ⟨rfl, HQ⟩
          · skip
            by_cases h1 : (N : Int) ≤ x.n
            · skip
              have hrno : ¬ (hasB bl.length x.n = true ∧ 0 ≤ x.bit ∧ x.bit < 128) := fun h => by have := (of_decide_eq_true h.1).2; rw [P.sp.lbl] at this; omega
              have HQ9 : Hid (∀ q, QAt w0 T0 tb bb mt md i bl u tab ((W.alloc (.cells #[.string x.kind, .string x.s, .bool x.exec, .int .i64 x.n, .int .i64 x.bit] 30)).drewN q).drew) := fun q => (Q.below HBW.out).below (below_drewN _ _)
              have HDK : Hid (∀ q, Calls Tryz.prog 23 #[.pointer (some ⟨tb, 0, none⟩)] ((W.alloc (.cells #[.string x.kind, .string x.s, .bool x.exec, .int .i64 x.n, .int .i64 x.bit] 30)).drewN q).drew fun e w' => e = .returned (.pointer (some ⟨bb + 1, 0, none⟩)) ∧ w' = ((W.alloc (.cells #[.string x.kind, .string x.s, .bool x.exec, .int .i64 x.n, .int .i64 x.bit] 30)).drewN q).drew) := fun q => by
                obtain ⟨sp, sb, cap, mb, n, hnn, T⟩ := (HQ9.out q).t
                exact im_disk _ T
              have HRN : Hid (∀ q, Calls Tryz.prog 24 #[.pointer (some ⟨bb + 1, 0, none⟩), .int .i64 x.n, .int .i64 x.bit] ((W.alloc (.cells #[.string x.kind, .string x.s, .bool x.exec, .int .i64 x.n, .int .i64 x.bit] 30)).drewN q).drew fun e w' => e = .returned (.iface 205 (.pointer (some (a 1)))) ∧ w' = ((W.alloc (.cells #[.string x.kind, .string x.s, .bool x.exec, .int .i64 x.n, .int .i64 x.bit] 30)).drewN q).drew) := fun q => by
                obtain ⟨sp, sb, cap, mb, n, hnn, T⟩ := (HQ9.out q).t
                exact rot_not x.n x.bit _ _ T.disk hrno ((HQ9.out q).sents S).c1
              have HCD : Hid (∀ q, Calls Tryz.prog 11 #[.iface 205 (.pointer (some (a 1))), .int .i64 2] ((W.alloc (.cells #[.string x.kind, .string x.s, .bool x.exec, .int .i64 x.n, .int .i64 x.bit] 30)).drewN q).drew fun e3 w3 => e3 = .returned (.bool true) ∧ Turn qTy (W.alloc (.cells #[.string x.kind, .string x.s, .bool x.exec, .int .i64 x.n, .int .i64 x.bit] 30)) w3 ∧ QEnd w0 T0 tb bb mt md N (i + 1) w3) := fun q => code_sent 1 (by decide) S (Turn.of_below (below_drewN _ _)) (by rw [← (HQ9.out q).s]; exact (HQ9.out q).b) fun w3 h3 => ⟨bl, u, tab, ((HQ9.out q).below h3).mono (by omega), P.mono (by omega)⟩
              clear Q P S HQ9 hrno
              go_wp2_with fail
              go_quiet (fail)
              go_wp2_with fail
              refine wp_region_held_drew (S := fun w' => w'.cell? ⟨W.heap.size, 3, none⟩ = some (.int .i64 x.n) ∧ w'.cell? ⟨W.heap.size, 4, none⟩ = some (.int .i64 x.bit)) (by kernel_rfl) (HSX.out _ (Turn.of_below (below_drewN _ _))) (fun hHeld => ?_)
              refine wpAnyH_take (i := 0) (v := (.pointer (some ⟨tb, 0, none⟩))) rfl (by kernel_rfl) (by kernel_rfl) (by kernel_rfl) (fun _ _ _ h => h) (Or.inl ⟨by rfl, ?_⟩) hHeld ?_
              · intro w hSw; (try dsimp only at hSw); simp only [List.getElem_toArray, List.getElem_cons_zero]; go_simp
              simp only [List.getElem_toArray, List.getElem_cons_zero, Act.put, List.setIfInBounds_toArray, List.set_cons_zero, List.set_cons_succ]
              refine wpAnyH_take (i := 2) (v := (.pointer (some ⟨W.heap.size, 3, none⟩))) rfl (by kernel_rfl) (by kernel_rfl) (by kernel_rfl) (fun _ _ _ h => h) (Or.inl ⟨by rfl, ?_⟩) hHeld ?_
              · intro w hSw; (try dsimp only at hSw); simp only [List.getElem_toArray, List.getElem_cons_zero, List.getElem_cons_succ]; go_simp
              simp only [List.getElem_toArray, List.getElem_cons_zero, List.getElem_cons_succ, Act.put, List.setIfInBounds_toArray, List.set_cons_zero, List.set_cons_succ]
              refine wpAnyH_take (i := 3) (v := (.int .i64 x.n)) rfl (by kernel_rfl) (by kernel_rfl) (by kernel_rfl) (fun _ _ _ h => h) (Or.inl ⟨by rfl, ?_⟩) hHeld ?_
              · intro w hSw; (try dsimp only at hSw); simp only [List.getElem_toArray, List.getElem_cons_zero, List.getElem_cons_succ]; go_simp
              simp only [List.getElem_toArray, List.getElem_cons_zero, List.getElem_cons_succ, Act.put, List.setIfInBounds_toArray, List.set_cons_zero, List.set_cons_succ]
              refine wpAnyH_take (i := 4) (v := (.pointer (some ⟨W.heap.size, 4, none⟩))) rfl (by kernel_rfl) (by kernel_rfl) (by kernel_rfl) (fun _ _ _ h => h) (Or.inl ⟨by rfl, ?_⟩) hHeld ?_
              · intro w hSw; (try dsimp only at hSw); simp only [List.getElem_toArray, List.getElem_cons_zero, List.getElem_cons_succ]; go_simp
              simp only [List.getElem_toArray, List.getElem_cons_zero, List.getElem_cons_succ, Act.put, List.setIfInBounds_toArray, List.set_cons_zero, List.set_cons_succ]
              refine wpAnyH_take (i := 5) (v := (.int .i64 x.bit)) rfl (by kernel_rfl) (by kernel_rfl) (by kernel_rfl) (fun _ _ _ h => h) (Or.inl ⟨by rfl, ?_⟩) hHeld ?_
              · intro w hSw; (try dsimp only at hSw); simp only [List.getElem_toArray, List.getElem_cons_zero, List.getElem_cons_succ]; go_simp
              simp only [List.getElem_toArray, List.getElem_cons_zero, List.getElem_cons_succ, Act.put, List.setIfInBounds_toArray, List.set_cons_zero, List.set_cons_succ]
              refine wpAnyH_ready (rs := [1]) (by kernel_rfl) (by simp) ?_
              refine AllReadyH.cons rfl (fun K' hK => ?_) AllReadyH.nil
              simp only [List.getElem_toArray, List.getElem_cons_zero, List.getElem_cons_succ]
              go_simp
              refine Calls.mono (HDK.out _) ?_
              rintro e wx ⟨rfl, hw⟩
              rw [hw]
              clear hw
              go_wp2_with fail
              refine hK.out _ _ (HSX.out _ (Turn.of_below (below_drewN _ _))) (fun hHeld' => ?_)
              clear hK K' hHeld
              have hHeld := hHeld'
              clear hHeld'
              refine wpAnyH_ready (rs := [6]) (by kernel_rfl) (by simp) ?_
              refine AllReadyH.cons rfl (fun K' hK => ?_) AllReadyH.nil
              simp only [List.getElem_toArray, List.getElem_cons_zero, List.getElem_cons_succ]
              go_simp
              refine Calls.mono (HRN.out _) ?_
              rintro e wx ⟨rfl, hw⟩
              rw [hw]
              clear hw
              go_wp2_with fail
              refine hK.out _ _ (HSX.out _ (Turn.of_below (below_drewN _ _))) (fun hHeld' => ?_)
              clear hK K' hHeld
              have hHeld := hHeld'
              clear hHeld'
              refine wpAnyH_ready (rs := [7]) (by kernel_rfl) (by simp) ?_
              refine AllReadyH.cons rfl (fun K' hK => ?_) AllReadyH.nil
              simp only [List.getElem_toArray, List.getElem_cons_zero, List.getElem_cons_succ]
              go_simp
              refine Calls.mono (HCD.out _) ?_
              rintro e wx ⟨rfl, ht3, HQ⟩
              go_wp2_with fail
              refine hK.out _ _ (HSX.out _ ht3) (fun hHeld' => ?_)
              clear hK K' hHeld
              have hHeld := hHeld'
              clear hHeld'
              refine wpAnyH_ready (rs := [8]) (by kernel_rfl) (by simp) ?_
              refine AllReadyH.cons rfl (fun K' hK => ?_) AllReadyH.nil
              simp only [List.getElem_toArray, List.getElem_cons_zero, List.getElem_cons_succ]
              go_simp
              go_wp2_with fail
              refine hK.out _ _ (HSX.out _ ht3) (fun hHeld' => ?_)
              clear hK K' hHeld
              have hHeld := hHeld'
              clear hHeld'
              refine wpAnyH_done (by kernel_rfl) ?_ _
              go_wp2_with fail
              go_ret
              exact ⟨rfl, HQ⟩
            · skip
              by_cases h2 : x.bit < 0
              · skip
                have hrno : ¬ (hasB bl.length x.n = true ∧ 0 ≤ x.bit ∧ x.bit < 128) := fun h => by omega
                have HQ9 : Hid (∀ q, QAt w0 T0 tb bb mt md i bl u tab ((W.alloc (.cells #[.string x.kind, .string x.s, .bool x.exec, .int .i64 x.n, .int .i64 x.bit] 30)).drewN q).drew) := fun q => (Q.below HBW.out).below (below_drewN _ _)
                have HDK : Hid (∀ q, Calls Tryz.prog 23 #[.pointer (some ⟨tb, 0, none⟩)] ((W.alloc (.cells #[.string x.kind, .string x.s, .bool x.exec, .int .i64 x.n, .int .i64 x.bit] 30)).drewN q).drew fun e w' => e = .returned (.pointer (some ⟨bb + 1, 0, none⟩)) ∧ w' = ((W.alloc (.cells #[.string x.kind, .string x.s, .bool x.exec, .int .i64 x.n, .int .i64 x.bit] 30)).drewN q).drew) := fun q => by
                  obtain ⟨sp, sb, cap, mb, n, hnn, T⟩ := (HQ9.out q).t
                  exact im_disk _ T
                have HRN : Hid (∀ q, Calls Tryz.prog 24 #[.pointer (some ⟨bb + 1, 0, none⟩), .int .i64 x.n, .int .i64 x.bit] ((W.alloc (.cells #[.string x.kind, .string x.s, .bool x.exec, .int .i64 x.n, .int .i64 x.bit] 30)).drewN q).drew fun e w' => e = .returned (.iface 205 (.pointer (some (a 1)))) ∧ w' = ((W.alloc (.cells #[.string x.kind, .string x.s, .bool x.exec, .int .i64 x.n, .int .i64 x.bit] 30)).drewN q).drew) := fun q => by
                  obtain ⟨sp, sb, cap, mb, n, hnn, T⟩ := (HQ9.out q).t
                  exact rot_not x.n x.bit _ _ T.disk hrno ((HQ9.out q).sents S).c1
                have HCD : Hid (∀ q, Calls Tryz.prog 11 #[.iface 205 (.pointer (some (a 1))), .int .i64 2] ((W.alloc (.cells #[.string x.kind, .string x.s, .bool x.exec, .int .i64 x.n, .int .i64 x.bit] 30)).drewN q).drew fun e3 w3 => e3 = .returned (.bool true) ∧ Turn qTy (W.alloc (.cells #[.string x.kind, .string x.s, .bool x.exec, .int .i64 x.n, .int .i64 x.bit] 30)) w3 ∧ QEnd w0 T0 tb bb mt md N (i + 1) w3) := fun q => code_sent 1 (by decide) S (Turn.of_below (below_drewN _ _)) (by rw [← (HQ9.out q).s]; exact (HQ9.out q).b) fun w3 h3 => ⟨bl, u, tab, ((HQ9.out q).below h3).mono (by omega), P.mono (by omega)⟩
                clear Q P S HQ9 hrno
                go_wp2_with fail
                go_quiet (fail)
                go_wp2_with fail
                refine wp_region_held_drew (S := fun w' => w'.cell? ⟨W.heap.size, 3, none⟩ = some (.int .i64 x.n) ∧ w'.cell? ⟨W.heap.size, 4, none⟩ = some (.int .i64 x.bit)) (by kernel_rfl) (HSX.out _ (Turn.of_below (below_drewN _ _))) (fun hHeld => ?_)
                refine wpAnyH_take (i := 0) (v := (.pointer (some ⟨tb, 0, none⟩))) rfl (by kernel_rfl) (by kernel_rfl) (by kernel_rfl) (fun _ _ _ h => h) (Or.inl ⟨by rfl, ?_⟩) hHeld ?_
                · intro w hSw; (try dsimp only at hSw); simp only [List.getElem_toArray, List.getElem_cons_zero]; go_simp
                simp only [List.getElem_toArray, List.getElem_cons_zero, Act.put, List.setIfInBounds_toArray, List.set_cons_zero, List.set_cons_succ]
                refine wpAnyH_take (i := 2) (v := (.pointer (some ⟨W.heap.size, 3, none⟩))) rfl (by kernel_rfl) (by kernel_rfl) (by kernel_rfl) (fun _ _ _ h => h) (Or.inl ⟨by rfl, ?_⟩) hHeld ?_
                · intro w hSw; (try dsimp only at hSw); simp only [List.getElem_toArray, List.getElem_cons_zero, List.getElem_cons_succ]; go_simp
                simp only [List.getElem_toArray, List.getElem_cons_zero, List.getElem_cons_succ, Act.put, List.setIfInBounds_toArray, List.set_cons_zero, List.set_cons_succ]
                refine wpAnyH_take (i := 3) (v := (.int .i64 x.n)) rfl (by kernel_rfl) (by kernel_rfl) (by kernel_rfl) (fun _ _ _ h => h) (Or.inl ⟨by rfl, ?_⟩) hHeld ?_
                · intro w hSw; (try dsimp only at hSw); simp only [List.getElem_toArray, List.getElem_cons_zero, List.getElem_cons_succ]; go_simp
                simp only [List.getElem_toArray, List.getElem_cons_zero, List.getElem_cons_succ, Act.put, List.setIfInBounds_toArray, List.set_cons_zero, List.set_cons_succ]
                refine wpAnyH_take (i := 4) (v := (.pointer (some ⟨W.heap.size, 4, none⟩))) rfl (by kernel_rfl) (by kernel_rfl) (by kernel_rfl) (fun _ _ _ h => h) (Or.inl ⟨by rfl, ?_⟩) hHeld ?_
                · intro w hSw; (try dsimp only at hSw); simp only [List.getElem_toArray, List.getElem_cons_zero, List.getElem_cons_succ]; go_simp
                simp only [List.getElem_toArray, List.getElem_cons_zero, List.getElem_cons_succ, Act.put, List.setIfInBounds_toArray, List.set_cons_zero, List.set_cons_succ]
                refine wpAnyH_take (i := 5) (v := (.int .i64 x.bit)) rfl (by kernel_rfl) (by kernel_rfl) (by kernel_rfl) (fun _ _ _ h => h) (Or.inl ⟨by rfl, ?_⟩) hHeld ?_
                · intro w hSw; (try dsimp only at hSw); simp only [List.getElem_toArray, List.getElem_cons_zero, List.getElem_cons_succ]; go_simp
                simp only [List.getElem_toArray, List.getElem_cons_zero, List.getElem_cons_succ, Act.put, List.setIfInBounds_toArray, List.set_cons_zero, List.set_cons_succ]
                refine wpAnyH_ready (rs := [1]) (by kernel_rfl) (by simp) ?_
                refine AllReadyH.cons rfl (fun K' hK => ?_) AllReadyH.nil
                simp only [List.getElem_toArray, List.getElem_cons_zero, List.getElem_cons_succ]
                go_simp
                refine Calls.mono (HDK.out _) ?_
                rintro e wx ⟨rfl, hw⟩
                rw [hw]
                clear hw
                go_wp2_with fail
                refine hK.out _ _ (HSX.out _ (Turn.of_below (below_drewN _ _))) (fun hHeld' => ?_)
                clear hK K' hHeld
                have hHeld := hHeld'
                clear hHeld'
                refine wpAnyH_ready (rs := [6]) (by kernel_rfl) (by simp) ?_
                refine AllReadyH.cons rfl (fun K' hK => ?_) AllReadyH.nil
                simp only [List.getElem_toArray, List.getElem_cons_zero, List.getElem_cons_succ]
                go_simp
                refine Calls.mono (HRN.out _) ?_
                rintro e wx ⟨rfl, hw⟩
                rw [hw]
                clear hw
                go_wp2_with fail
                refine hK.out _ _ (HSX.out _ (Turn.of_below (below_drewN _ _))) (fun hHeld' => ?_)
                clear hK K' hHeld
                have hHeld := hHeld'
                clear hHeld'
                refine wpAnyH_ready (rs := [7]) (by kernel_rfl) (by simp) ?_
                refine AllReadyH.cons rfl (fun K' hK => ?_) AllReadyH.nil
                simp only [List.getElem_toArray, List.getElem_cons_zero, List.getElem_cons_succ]
                go_simp
                refine Calls.mono (HCD.out _) ?_
                rintro e wx ⟨rfl, ht3, HQ⟩
                go_wp2_with fail
                refine hK.out _ _ (HSX.out _ ht3) (fun hHeld' => ?_)
                clear hK K' hHeld
                have hHeld := hHeld'
                clear hHeld'
                refine wpAnyH_ready (rs := [8]) (by kernel_rfl) (by simp) ?_
                refine AllReadyH.cons rfl (fun K' hK => ?_) AllReadyH.nil
                simp only [List.getElem_toArray, List.getElem_cons_zero, List.getElem_cons_succ]
                go_simp
                go_wp2_with fail
                refine hK.out _ _ (HSX.out _ ht3) (fun hHeld' => ?_)
                clear hK K' hHeld
                have hHeld := hHeld'
                clear hHeld'
                refine wpAnyH_done (by kernel_rfl) ?_ _
                go_wp2_with fail
                go_ret
                exact ⟨rfl, HQ⟩
              · skip
                by_cases h3 : 128 ≤ x.bit
                · skip
                  have hrno : ¬ (hasB bl.length x.n = true ∧ 0 ≤ x.bit ∧ x.bit < 128) := fun h => by omega
                  have HQ9 : Hid (∀ q, QAt w0 T0 tb bb mt md i bl u tab ((W.alloc (.cells #[.string x.kind, .string x.s, .bool x.exec, .int .i64 x.n, .int .i64 x.bit] 30)).drewN q).drew) := fun q => (Q.below HBW.out).below (below_drewN _ _)
                  have HDK : Hid (∀ q, Calls Tryz.prog 23 #[.pointer (some ⟨tb, 0, none⟩)] ((W.alloc (.cells #[.string x.kind, .string x.s, .bool x.exec, .int .i64 x.n, .int .i64 x.bit] 30)).drewN q).drew fun e w' => e = .returned (.pointer (some ⟨bb + 1, 0, none⟩)) ∧ w' = ((W.alloc (.cells #[.string x.kind, .string x.s, .bool x.exec, .int .i64 x.n, .int .i64 x.bit] 30)).drewN q).drew) := fun q => by
                    obtain ⟨sp, sb, cap, mb, n, hnn, T⟩ := (HQ9.out q).t
                    exact im_disk _ T
                  have HRN : Hid (∀ q, Calls Tryz.prog 24 #[.pointer (some ⟨bb + 1, 0, none⟩), .int .i64 x.n, .int .i64 x.bit] ((W.alloc (.cells #[.string x.kind, .string x.s, .bool x.exec, .int .i64 x.n, .int .i64 x.bit] 30)).drewN q).drew fun e w' => e = .returned (.iface 205 (.pointer (some (a 1)))) ∧ w' = ((W.alloc (.cells #[.string x.kind, .string x.s, .bool x.exec, .int .i64 x.n, .int .i64 x.bit] 30)).drewN q).drew) := fun q => by
                    obtain ⟨sp, sb, cap, mb, n, hnn, T⟩ := (HQ9.out q).t
                    exact rot_not x.n x.bit _ _ T.disk hrno ((HQ9.out q).sents S).c1
                  have HCD : Hid (∀ q, Calls Tryz.prog 11 #[.iface 205 (.pointer (some (a 1))), .int .i64 2] ((W.alloc (.cells #[.string x.kind, .string x.s, .bool x.exec, .int .i64 x.n, .int .i64 x.bit] 30)).drewN q).drew fun e3 w3 => e3 = .returned (.bool true) ∧ Turn qTy (W.alloc (.cells #[.string x.kind, .string x.s, .bool x.exec, .int .i64 x.n, .int .i64 x.bit] 30)) w3 ∧ QEnd w0 T0 tb bb mt md N (i + 1) w3) := fun q => code_sent 1 (by decide) S (Turn.of_below (below_drewN _ _)) (by rw [← (HQ9.out q).s]; exact (HQ9.out q).b) fun w3 h3 => ⟨bl, u, tab, ((HQ9.out q).below h3).mono (by omega), P.mono (by omega)⟩
                  clear Q P S HQ9 hrno
                  go_wp2_with fail
                  go_quiet (fail)
                  go_wp2_with fail
                  refine wp_region_held_drew (S := fun w' => w'.cell? ⟨W.heap.size, 3, none⟩ = some (.int .i64 x.n) ∧ w'.cell? ⟨W.heap.size, 4, none⟩ = some (.int .i64 x.bit)) (by kernel_rfl) (HSX.out _ (Turn.of_below (below_drewN _ _))) (fun hHeld => ?_)
                  refine wpAnyH_take (i := 0) (v := (.pointer (some ⟨tb, 0, none⟩))) rfl (by kernel_rfl) (by kernel_rfl) (by kernel_rfl) (fun _ _ _ h => h) (Or.inl ⟨by rfl, ?_⟩) hHeld ?_
                  · intro w hSw; (try dsimp only at hSw); simp only [List.getElem_toArray, List.getElem_cons_zero]; go_simp
                  simp only [List.getElem_toArray, List.getElem_cons_zero, Act.put, List.setIfInBounds_toArray, List.set_cons_zero, List.set_cons_succ]
                  refine wpAnyH_take (i := 2) (v := (.pointer (some ⟨W.heap.size, 3, none⟩))) rfl (by kernel_rfl) (by kernel_rfl) (by kernel_rfl) (fun _ _ _ h => h) (Or.inl ⟨by rfl, ?_⟩) hHeld ?_
                  · intro w hSw; (try dsimp only at hSw); simp only [List.getElem_toArray, List.getElem_cons_zero, List.getElem_cons_succ]; go_simp
                  simp only [List.getElem_toArray, List.getElem_cons_zero, List.getElem_cons_succ, Act.put, List.setIfInBounds_toArray, List.set_cons_zero, List.set_cons_succ]
                  refine wpAnyH_take (i := 3) (v := (.int .i64 x.n)) rfl (by kernel_rfl) (by kernel_rfl) (by kernel_rfl) (fun _ _ _ h => h) (Or.inl ⟨by rfl, ?_⟩) hHeld ?_
                  · intro w hSw; (try dsimp only at hSw); simp only [List.getElem_toArray, List.getElem_cons_zero, List.getElem_cons_succ]; go_simp
                  simp only [List.getElem_toArray, List.getElem_cons_zero, List.getElem_cons_succ, Act.put, List.setIfInBounds_toArray, List.set_cons_zero, List.set_cons_succ]
                  refine wpAnyH_take (i := 4) (v := (.pointer (some ⟨W.heap.size, 4, none⟩))) rfl (by kernel_rfl) (by kernel_rfl) (by kernel_rfl) (fun _ _ _ h => h) (Or.inl ⟨by rfl, ?_⟩) hHeld ?_
                  · intro w hSw; (try dsimp only at hSw); simp only [List.getElem_toArray, List.getElem_cons_zero, List.getElem_cons_succ]; go_simp
                  simp only [List.getElem_toArray, List.getElem_cons_zero, List.getElem_cons_succ, Act.put, List.setIfInBounds_toArray, List.set_cons_zero, List.set_cons_succ]
                  refine wpAnyH_take (i := 5) (v := (.int .i64 x.bit)) rfl (by kernel_rfl) (by kernel_rfl) (by kernel_rfl) (fun _ _ _ h => h) (Or.inl ⟨by rfl, ?_⟩) hHeld ?_
                  · intro w hSw; (try dsimp only at hSw); simp only [List.getElem_toArray, List.getElem_cons_zero, List.getElem_cons_succ]; go_simp
                  simp only [List.getElem_toArray, List.getElem_cons_zero, List.getElem_cons_succ, Act.put, List.setIfInBounds_toArray, List.set_cons_zero, List.set_cons_succ]
                  refine wpAnyH_ready (rs := [1]) (by kernel_rfl) (by simp) ?_
                  refine AllReadyH.cons rfl (fun K' hK => ?_) AllReadyH.nil
                  simp only [List.getElem_toArray, List.getElem_cons_zero, List.getElem_cons_succ]
                  go_simp
                  refine Calls.mono (HDK.out _) ?_
                  rintro e wx ⟨rfl, hw⟩
                  rw [hw]
                  clear hw
                  go_wp2_with fail
                  refine hK.out _ _ (HSX.out _ (Turn.of_below (below_drewN _ _))) (fun hHeld' => ?_)
                  clear hK K' hHeld
                  have hHeld := hHeld'
                  clear hHeld'
                  refine wpAnyH_ready (rs := [6]) (by kernel_rfl) (by simp) ?_
                  refine AllReadyH.cons rfl (fun K' hK => ?_) AllReadyH.nil
                  simp only [List.getElem_toArray, List.getElem_cons_zero, List.getElem_cons_succ]
                  go_simp
                  refine Calls.mono (HRN.out _) ?_
                  rintro e wx ⟨rfl, hw⟩
                  rw [hw]
                  clear hw
                  go_wp2_with fail
                  refine hK.out _ _ (HSX.out _ (Turn.of_below (below_drewN _ _))) (fun hHeld' => ?_)
                  clear hK K' hHeld
                  have hHeld := hHeld'
                  clear hHeld'
                  refine wpAnyH_ready (rs := [7]) (by kernel_rfl) (by simp) ?_
                  refine AllReadyH.cons rfl (fun K' hK => ?_) AllReadyH.nil
                  simp only [List.getElem_toArray, List.getElem_cons_zero, List.getElem_cons_succ]
                  go_simp
                  refine Calls.mono (HCD.out _) ?_
                  rintro e wx ⟨rfl, ht3, HQ⟩
                  go_wp2_with fail
                  refine hK.out _ _ (HSX.out _ ht3) (fun hHeld' => ?_)
                  clear hK K' hHeld
                  have hHeld := hHeld'
                  clear hHeld'
                  refine wpAnyH_ready (rs := [8]) (by kernel_rfl) (by simp) ?_
                  refine AllReadyH.cons rfl (fun K' hK => ?_) AllReadyH.nil
                  simp only [List.getElem_toArray, List.getElem_cons_zero, List.getElem_cons_succ]
                  go_simp
                  go_wp2_with fail
                  refine hK.out _ _ (HSX.out _ ht3) (fun hHeld' => ?_)
                  clear hK K' hHeld
                  have hHeld := hHeld'
                  clear hHeld'
                  refine wpAnyH_done (by kernel_rfl) ?_ _
                  go_wp2_with fail
                  go_ret
                  exact ⟨rfl, HQ⟩
                · skip
                  obtain ⟨kn, hkn⟩ : ∃ kn : Nat, x.n = kn := ⟨x.n.toNat, by omega⟩
                  obtain ⟨bn, hbn⟩ : ∃ bn : Nat, x.bit = bn := ⟨x.bit.toNat, by omega⟩
                  obtain ⟨b, hb⟩ : ∃ b, bl[kn]? = some b := ⟨_, List.getElem?_eq_getElem (by rw [P.sp.lbl]; omega)⟩
                  have hbn8 : bn < 128 := by omega
                  have HQ9 : Hid (∀ q, QAt w0 T0 tb bb mt md i bl u tab ((W.alloc (.cells #[.string x.kind, .string x.s, .bool x.exec, .int .i64 x.n, .int .i64 x.bit] 30)).drewN q).drew) := fun q => (Q.below HBW.out).below (below_drewN _ _)
                  have HM0 : Hid (∀ q, ((W.alloc (.cells #[.string x.kind, .string x.s, .bool x.exec, .int .i64 x.n, .int .i64 x.bit] 30)).drewN q).drew.cell? ⟨mt, 0, none⟩ = some (.pointer (some ⟨md, 0, none⟩))) := fun q => by
                    obtain ⟨la, lc, ia, ic, vs, M⟩ := (HQ9.out q).m
                    exact M.cells.1
                  have HRM : Hid (∀ q, Calls Tryz.prog 25 #[.pointer (some ⟨md, 0, none⟩), .int .i64 x.n, .int .i64 x.bit] ((W.alloc (.cells #[.string x.kind, .string x.s, .bool x.exec, .int .i64 x.n, .int .i64 x.bit] 30)).drewN q).drew fun e w1 => e = .returned (.tuple #[]) ∧ Turn qTy ((W.alloc (.cells #[.string x.kind, .string x.s, .bool x.exec, .int .i64 x.n, .int .i64 x.bit] 30)).drewN q).drew w1 ∧ HAt w0 T0 tb bb mt md i bl (bl.set kn (turnL b bn)) u tab w1) := fun q => by
                    have h := q_rotm kn bn b hb hbn8 (HQ9.out q)
                    rw [← hkn, ← hbn] at h
                    exact h
                  have HRD : Hid (∀ W2, HAt w0 T0 tb bb mt md i bl (bl.set kn (turnL b bn)) u tab W2 → Calls Tryz.prog 23 #[.pointer (some ⟨tb, 0, none⟩)] W2 fun e w' => e = .returned (.pointer (some ⟨bb + 1, 0, none⟩)) ∧ w' = W2) := fun W2 H2 => by
                    obtain ⟨sp, sb, cap, mb, n, hnn, T⟩ := H2.t
                    exact im_disk _ T
                  have HRO : Hid (∀ W2, HAt w0 T0 tb bb mt md i bl (bl.set kn (turnL b bn)) u tab W2 → Calls Tryz.prog 24 #[.pointer (some ⟨bb + 1, 0, none⟩), .int .i64 x.n, .int .i64 x.bit] W2 fun e w1 => e = .returned .nilIface ∧ Turn qTy W2 w1 ∧ QEnd w0 T0 tb bb mt md N (i + 1) w1) := fun W2 H2 => by
                    have h := q_rotd (N := N) kn bn b hb hbn8 H2 P
                    rw [← hkn, ← hbn] at h
                    exact h
                  clear Q P S HQ9 hb hbn8 hkn hbn
                  go_wp2_with fail
                  go_quiet (fail)
                  go_wp2_with fail
                  refine wp_region_held_drew (S := fun w' => w'.cell? ⟨mt, 0, none⟩ = some (.pointer (some ⟨md, 0, none⟩)) ∧ w'.cell? ⟨W.heap.size, 3, none⟩ = some (.int .i64 x.n) ∧ w'.cell? ⟨W.heap.size, 4, none⟩ = some (.int .i64 x.bit)) (by kernel_rfl) (⟨HM0.out _, HSX.out _ (Turn.of_below (below_drewN _ _))⟩) (fun hHeld => ?_)
                  refine wpAnyH_take (i := 0) (v := (.pointer (some ⟨mt, 0, none⟩))) rfl (by kernel_rfl) (by kernel_rfl) (by kernel_rfl) (fun _ _ _ h => h) (Or.inl ⟨by rfl, ?_⟩) hHeld ?_
                  · intro w hSw; (try dsimp only at hSw); simp only [List.getElem_toArray, List.getElem_cons_zero]; go_simp
                  simp only [List.getElem_toArray, List.getElem_cons_zero, Act.put, List.setIfInBounds_toArray, List.set_cons_zero, List.set_cons_succ]
                  refine wpAnyH_take (i := 1) (v := (.pointer (some ⟨mt, 0, none⟩))) rfl (by kernel_rfl) (by kernel_rfl) (by kernel_rfl) (fun _ _ _ h => h) (Or.inl ⟨by rfl, ?_⟩) hHeld ?_
                  · intro w hSw; (try dsimp only at hSw); simp only [List.getElem_toArray, List.getElem_cons_zero, List.getElem_cons_succ]; go_simp
                  simp only [List.getElem_toArray, List.getElem_cons_zero, List.getElem_cons_succ, Act.put, List.setIfInBounds_toArray, List.set_cons_zero, List.set_cons_succ]
                  refine wpAnyH_take (i := 2) (v := (.pointer (some ⟨mt, 0, none⟩))) rfl (by kernel_rfl) (by kernel_rfl) (by kernel_rfl) (fun _ _ _ h => h) (Or.inl ⟨by rfl, ?_⟩) hHeld ?_
                  · intro w hSw; (try dsimp only at hSw); simp only [List.getElem_toArray, List.getElem_cons_zero, List.getElem_cons_succ]; go_simp
                  simp only [List.getElem_toArray, List.getElem_cons_zero, List.getElem_cons_succ, Act.put, List.setIfInBounds_toArray, List.set_cons_zero, List.set_cons_succ]
                  refine wpAnyH_take (i := 3) (v := (.pointer (some ⟨md, 0, none⟩))) rfl (by kernel_rfl) (by kernel_rfl) (by kernel_rfl) (fun _ _ _ h => h) (Or.inl ⟨by rfl, ?_⟩) hHeld ?_
                  · intro w hSw; (try dsimp only at hSw); simp only [List.getElem_toArray, List.getElem_cons_zero, List.getElem_cons_succ]; go_simp
                  simp only [List.getElem_toArray, List.getElem_cons_zero, List.getElem_cons_succ, Act.put, List.setIfInBounds_toArray, List.set_cons_zero, List.set_cons_succ]
                  refine wpAnyH_take (i := 4) (v := (.pointer (some ⟨W.heap.size, 3, none⟩))) rfl (by kernel_rfl) (by kernel_rfl) (by kernel_rfl) (fun _ _ _ h => h) (Or.inl ⟨by rfl, ?_⟩) hHeld ?_
                  · intro w hSw; (try dsimp only at hSw); simp only [List.getElem_toArray, List.getElem_cons_zero, List.getElem_cons_succ]; go_simp
                  simp only [List.getElem_toArray, List.getElem_cons_zero, List.getElem_cons_succ, Act.put, List.setIfInBounds_toArray, List.set_cons_zero, List.set_cons_succ]
                  refine wpAnyH_take (i := 5) (v := (.int .i64 x.n)) rfl (by kernel_rfl) (by kernel_rfl) (by kernel_rfl) (fun _ _ _ h => h) (Or.inl ⟨by rfl, ?_⟩) hHeld ?_
                  · intro w hSw; (try dsimp only at hSw); simp only [List.getElem_toArray, List.getElem_cons_zero, List.getElem_cons_succ]; go_simp
                  simp only [List.getElem_toArray, List.getElem_cons_zero, List.getElem_cons_succ, Act.put, List.setIfInBounds_toArray, List.set_cons_zero, List.set_cons_succ]
                  refine wpAnyH_take (i := 6) (v := (.pointer (some ⟨W.heap.size, 4, none⟩))) rfl (by kernel_rfl) (by kernel_rfl) (by kernel_rfl) (fun _ _ _ h => h) (Or.inl ⟨by rfl, ?_⟩) hHeld ?_
                  · intro w hSw; (try dsimp only at hSw); simp only [List.getElem_toArray, List.getElem_cons_zero, List.getElem_cons_succ]; go_simp
                  simp only [List.getElem_toArray, List.getElem_cons_zero, List.getElem_cons_succ, Act.put, List.setIfInBounds_toArray, List.set_cons_zero, List.set_cons_succ]
                  refine wpAnyH_take (i := 7) (v := (.int .i64 x.bit)) rfl (by kernel_rfl) (by kernel_rfl) (by kernel_rfl) (fun _ _ _ h => h) (Or.inl ⟨by rfl, ?_⟩) hHeld ?_
                  · intro w hSw; (try dsimp only at hSw); simp only [List.getElem_toArray, List.getElem_cons_zero, List.getElem_cons_succ]; go_simp
                  simp only [List.getElem_toArray, List.getElem_cons_zero, List.getElem_cons_succ, Act.put, List.setIfInBounds_toArray, List.set_cons_zero, List.set_cons_succ]
                  refine wpAnyH_ready (rs := [8]) (by kernel_rfl) (by simp) ?_
                  refine AllReadyH.cons rfl (fun K' hK => ?_) AllReadyH.nil
                  simp only [List.getElem_toArray, List.getElem_cons_zero, List.getElem_cons_succ]
                  go_simp
                  refine Calls.mono (HRM.out _) ?_
                  rintro e wx ⟨rfl, ht1, HH⟩
                  go_wp2_with fail
                  refine hK.out _ _ (⟨HAt.cell HH, HSX.out _ ((Turn.of_below (below_drewN _ _)).trans ht1)⟩) (fun hHeld' => ?_)
                  clear hK K' hHeld
                  have hHeld := hHeld'
                  clear hHeld'
                  refine wpAnyH_done (by kernel_rfl) ?_ _
                  go_wp2_with fail
                  have HH2 := HH.below (below_drew wx)
                  have HT2 : Hid (Turn qTy (W.alloc (.cells #[.string x.kind, .string x.s, .bool x.exec, .int .i64 x.n, .int .i64 x.bit] 30)) wx.drew) := ((Turn.of_below (below_drewN _ _)).trans ht1).trans (Turn.of_below (below_drew _))
                  clear HM0 HRM HH ht1
                  refine wp_region_held_drew (S := fun w' => w'.cell? ⟨W.heap.size, 3, none⟩ = some (.int .i64 x.n) ∧ w'.cell? ⟨W.heap.size, 4, none⟩ = some (.int .i64 x.bit)) (by kernel_rfl) (HSX.out _ HT2.out) (fun hHeld => ?_)
                  refine wpAnyH_take (i := 0) (v := (.pointer (some ⟨tb, 0, none⟩))) rfl (by kernel_rfl) (by kernel_rfl) (by kernel_rfl) (fun _ _ _ h => h) (Or.inl ⟨by rfl, ?_⟩) hHeld ?_
                  · intro w hSw; (try dsimp only at hSw); simp only [List.getElem_toArray, List.getElem_cons_zero]; go_simp
                  simp only [List.getElem_toArray, List.getElem_cons_zero, Act.put, List.setIfInBounds_toArray, List.set_cons_zero, List.set_cons_succ]
                  refine wpAnyH_take (i := 2) (v := (.pointer (some ⟨W.heap.size, 3, none⟩))) rfl (by kernel_rfl) (by kernel_rfl) (by kernel_rfl) (fun _ _ _ h => h) (Or.inl ⟨by rfl, ?_⟩) hHeld ?_
                  · intro w hSw; (try dsimp only at hSw); simp only [List.getElem_toArray, List.getElem_cons_zero, List.getElem_cons_succ]; go_simp
                  simp only [List.getElem_toArray, List.getElem_cons_zero, List.getElem_cons_succ, Act.put, List.setIfInBounds_toArray, List.set_cons_zero, List.set_cons_succ]
                  refine wpAnyH_take (i := 3) (v := (.int .i64 x.n)) rfl (by kernel_rfl) (by kernel_rfl) (by kernel_rfl) (fun _ _ _ h => h) (Or.inl ⟨by rfl, ?_⟩) hHeld ?_
                  · intro w hSw; (try dsimp only at hSw); simp only [List.getElem_toArray, List.getElem_cons_zero, List.getElem_cons_succ]; go_simp
                  simp only [List.getElem_toArray, List.getElem_cons_zero, List.getElem_cons_succ, Act.put, List.setIfInBounds_toArray, List.set_cons_zero, List.set_cons_succ]
                  refine wpAnyH_take (i := 4) (v := (.pointer (some ⟨W.heap.size, 4, none⟩))) rfl (by kernel_rfl) (by kernel_rfl) (by kernel_rfl) (fun _ _ _ h => h) (Or.inl ⟨by rfl, ?_⟩) hHeld ?_
                  · intro w hSw; (try dsimp only at hSw); simp only [List.getElem_toArray, List.getElem_cons_zero, List.getElem_cons_succ]; go_simp
                  simp only [List.getElem_toArray, List.getElem_cons_zero, List.getElem_cons_succ, Act.put, List.setIfInBounds_toArray, List.set_cons_zero, List.set_cons_succ]
                  refine wpAnyH_take (i := 5) (v := (.int .i64 x.bit)) rfl (by kernel_rfl) (by kernel_rfl) (by kernel_rfl) (fun _ _ _ h => h) (Or.inl ⟨by rfl, ?_⟩) hHeld ?_
                  · intro w hSw; (try dsimp only at hSw); simp only [List.getElem_toArray, List.getElem_cons_zero, List.getElem_cons_succ]; go_simp
                  simp only [List.getElem_toArray, List.getElem_cons_zero, List.getElem_cons_succ, Act.put, List.setIfInBounds_toArray, List.set_cons_zero, List.set_cons_succ]
                  refine wpAnyH_ready (rs := [1]) (by kernel_rfl) (by simp) ?_
                  refine AllReadyH.cons rfl (fun K' hK => ?_) AllReadyH.nil
                  simp only [List.getElem_toArray, List.getElem_cons_zero, List.getElem_cons_succ]
                  go_simp
                  refine Calls.mono (HRD.out _ HH2) ?_
                  rintro e wx ⟨rfl, hw⟩
                  rw [hw]
                  clear hw
                  go_wp2_with fail
                  refine hK.out _ _ (HSX.out _ HT2.out) (fun hHeld' => ?_)
                  clear hK K' hHeld
                  have hHeld := hHeld'
                  clear hHeld'
                  refine wpAnyH_ready (rs := [6]) (by kernel_rfl) (by simp) ?_
                  refine AllReadyH.cons rfl (fun K' hK => ?_) AllReadyH.nil
                  simp only [List.getElem_toArray, List.getElem_cons_zero, List.getElem_cons_succ]
                  go_simp
                  refine Calls.mono (HRO.out _ HH2) ?_
                  rintro e wx ⟨rfl, ht3, HQ⟩
                  go_wp2_with fail
                  refine hK.out _ _ (HSX.out _ (HT2.out.trans ht3)) (fun hHeld' => ?_)
                  clear hK K' hHeld
                  have hHeld := hHeld'
                  clear hHeld'
                  refine wpAnyH_ready (rs := [7]) (by kernel_rfl) (by simp) ?_
                  refine AllReadyH.cons rfl (fun K' hK => ?_) AllReadyH.nil
                  simp only [List.getElem_toArray, List.getElem_cons_zero, List.getElem_cons_succ]
                  go_simp
                  refine Calls.mono (coded_nil _ _) ?_
                  rintro e wx ⟨rfl, hw⟩
                  rw [hw]
                  clear hw
                  go_wp2_with fail
                  refine hK.out _ _ (HSX.out _ (HT2.out.trans ht3)) (fun hHeld' => ?_)
                  clear hK K' hHeld
                  have hHeld := hHeld'
                  clear hHeld'
                  refine wpAnyH_ready (rs := [8]) (by kernel_rfl) (by simp) ?_
                  refine AllReadyH.cons rfl (fun K' hK => ?_) AllReadyH.nil
                  simp only [List.getElem_toArray, List.getElem_cons_zero, List.getElem_cons_succ]
                  go_simp
                  go_wp2_with fail
                  refine hK.out _ _ (HSX.out _ (HT2.out.trans ht3)) (fun hHeld' => ?_)
                  clear hK K' hHeld
                  have hHeld := hHeld'
                  clear hHeld'
                  refine wpAnyH_done (by kernel_rfl) ?_ _
                  go_wp2_with fail
                  go_ret
                  exact ⟨rfl, HQ⟩
end
end Go.Proofs.YtnmknngpihjhnaaGreatDoor
namespace Go.Proofs.YtnmknngpihjhnaaGreatDoor
open Go.RowKit

section
variable {w0 W : World} {T0 tb bb mt md i N : Nat} {bl : List (List UInt8)} {u : List Bool} {tab : List (Option Ino)} {a : Nat → Addr}
theorem q_read (k : Nat) (x : Ino) (hx : slotT tab k = some x) (Q : QAt w0 T0 tb bb mt md i bl u tab W) (P : PInv N i bl u tab) (S : Sents a w0) :
    Calls Tryz.prog 10 #[.pointer (some ⟨tb, 0, none⟩), .int .i64 (k : Int)] W fun e w1 => ∃ s ev c, e = .returned (.tuple #[.string s, ev]) ∧ Below W.heap.size W w1 ∧ Calls Tryz.prog 36 #[.pointer (some ⟨mt, 0, none⟩), .int .i64 (k : Int)] w1 fun e2 w2 => e2 = .returned (.tuple #[.string s, .int .i64 c]) ∧ Below W.heap.size W w2 ∧ Calls Tryz.prog 11 #[ev, .int .i64 c] w2 fun e3 w3 => e3 = .returned (.bool true) ∧ Below W.heap.size W w3 := by
  have SW := Q.sents S
  obtain ⟨sp, sb, cap, mb, n, hn, T⟩ := Q.t
  obtain ⟨la, lc, ia, ic, vs, M⟩ := Q.m
  obtain ⟨p1, p2, p3, p4⟩ := P.need hx
  by_cases hc : crcR (readD bl x.blocks x.bytes) = x.sum
  · refine (im_read k x _ hx hc W T p4 p1 (by omega) SW.c10).mono fun e w1 ⟨he, hb⟩ => ⟨_, _, 0, he, hb, ?_⟩
    refine (m_read k x hx w1 (M.below hb) p4 T.disk.bl16 p1 p3).mono fun e2 w2 ⟨he2, hb2⟩ => ⟨?_, hb.trans (hb2.mono hb.size), ?_⟩
    · rw [he2]; unfold readM; rw [if_pos hc]
    · refine (coded_nil 0 w2).mono fun e3 w3 ⟨he3, h3⟩ => ⟨by rw [he3]; rfl, by rw [h3]; exact hb.trans (hb2.mono hb.size)⟩
  · refine (im_read_bad k x _ hx hc W T p4 p1 (by omega) SW.c10).mono fun e w1 ⟨he, hb⟩ => ⟨_, _, 11, he, hb, ?_⟩
    refine (m_read k x hx w1 (M.below hb) p4 T.disk.bl16 p1 p3).mono fun e2 w2 ⟨he2, hb2⟩ => ⟨?_, hb.trans (hb2.mono hb.size), ?_⟩
    · rw [he2]; unfold readM; rw [if_neg hc]
    · have hb12 := hb.trans (hb2.mono hb.size)
      refine (coded_sent a 10 11 w2 (SW.below hb12) (by decide)).mono fun e3 w3 ⟨he3, h3⟩ => ⟨by rw [he3]; rfl, hb12.trans (h3.mono hb12.size)⟩
set_option maxRecDepth 100000 in
set_option maxHeartbeats 4000000 in
theorem asTable_any (hi : i ≤ 900) (Q : QAt w0 T0 tb bb mt md i bl u tab W) (P : PInv N i bl u tab) (S : Sents a w0) :
    Calls Tryz.prog 13 #[.pointer (some ⟨tb, 0, none⟩), .pointer (some ⟨mt, 0, none⟩)] W fun e w' => e = .returned (.int .i64 1) ∧ Below W.heap.size W w' := by
  obtain ⟨sp, sb, cap, mb, n, hn, T⟩ := Q.t
  obtain ⟨la, lc, ia, ic, vs, M⟩ := Q.m
  have hlen := Q.len.1
  have hO := P.ok (by omega)
  have hbl : bl.length ≤ 512 := by rw [P.sp.lbl]; exact P.n5
  have hF := P.sp.freeM
  rw [← P.sp.lbl] at hF
  have HAL : Hid (Calls Tryz.prog 33 #[.pointer (some ⟨tb, 0, none⟩)] W fun e w1 => ∃ ad vc, e = .returned (.slice ad (allT tab).length vc) ∧ IntsT w1 (.slice ad (allT tab).length vc) (ints (allT tab)) ∧ Below W.heap.size W w1) := (im_all W T).mono fun e w1 ⟨v, he, ho, hb⟩ => by
    obtain ⟨ad, vc, rfl⟩ := own_form ho
    exact ⟨ad, vc, he, ho.t, hb⟩
  have HFM : Hid (∀ w1, Below W.heap.size W w1 → Calls Tryz.prog 34 #[.pointer (some ⟨mt, 0, none⟩)] w1 fun e w2 => ∃ ad vc, e = .returned (.slice ad (freeR u).length vc) ∧ Below w1.heap.size w1 w2 ∧ Below W.heap.size W w2) := fun w1 h1 => (m_free w1 (M.below h1) hO hbl).mono fun e w2 ⟨v, he, ho, hb⟩ => by
    rw [hF] at ho
    obtain ⟨ad, vc, rfl⟩ := own_form ho
    exact ⟨ad, vc, he, hb, h1.trans (hb.mono h1.size)⟩
  have HMA : Hid (∀ w1, Below W.heap.size W w1 → Calls Tryz.prog 35 #[.pointer (some ⟨mt, 0, none⟩)] w1 fun e w2 => ∃ ad vc, e = .returned (.slice ad (allT tab).length vc) ∧ IntsT w2 (.slice ad (allT tab).length vc) (ints (allT tab)) ∧ Below w1.heap.size w1 w2 ∧ Below W.heap.size W w2) := fun w1 h1 => (m_all w1 (M.below h1) (by omega)).mono fun e w2 ⟨v, he, ho, hb⟩ => by
    have ho2 : OwnI w2 w1.heap.size v (allT tab) := ho
    obtain ⟨ad, vc, rfl⟩ := own_form ho2
    exact ⟨ad, vc, he, ho2.t, hb, h1.trans (hb.mono h1.size)⟩
  have HFR : Hid (∀ w1, Below W.heap.size W w1 → Calls Tryz.prog 17 #[.pointer (some ⟨tb, 0, none⟩)] w1 fun e w2 => e = .returned (.int .i64 ((freeR u).length : Int)) ∧ Below w1.heap.size w1 w2 ∧ Below W.heap.size W w2) := fun w1 h1 => (im_free w1 (T.below h1)).mono fun e w2 ⟨he, hb⟩ => ⟨he, hb, h1.trans (hb.mono h1.size)⟩
  have HSI : Hid (∀ w1 v1 v2 l, IntsT w1 v1 l → IntsT w1 v2 l → l.length ≤ 100000 → Calls Tryz.prog 16 #[v1, v2] w1 fun e w2 => e = .returned (.bool true) ∧ Below w1.heap.size w1 w2) := fun w1 v1 v2 l h1 h2 hl => sameInts_any v1 v2 l w1 h1.at h2.at hl
  have HST : Hid (∀ w1 k x, slotT tab k = some x → Below W.heap.size W w1 → Calls Tryz.prog 9 #[.pointer (some ⟨tb, 0, none⟩), .int .i64 (k : Int)] w1 fun e w2 => ∃ ad vc, e = .returned (.tuple #[.agg #[.int .i64 (x.bytes : Int), .int .i64 (x.links : Int), .bool x.exec, .slice ad x.blocks.length vc, .int .u32 (x.sum : Int)], .bool true]) ∧ IntsT w2 (.slice ad x.blocks.length vc) (ints x.blocks) ∧ Below w1.heap.size w1 w2) := fun w1 k x hx h1 => (im_stat k x hx (by have := (P.need hx).1; omega) w1 (T.below h1)).mono fun e w2 ⟨v, he, hv, hb⟩ => by
    obtain ⟨ad, vc, rfl, h⟩ := id hv
    rw [ints_len] at hv he
    exact ⟨ad, vc, he, hv, hb⟩
  have HSL : Hid (∀ w1 k x, slotT tab k = some x → Below W.heap.size W w1 → w1.cell? ⟨mt, 1, none⟩ = some (.slice ia tab.length ic) ∧ ∃ g ad vc, ia = some ⟨g, 0, none⟩ ∧ w1.cell? ⟨g, k * 6, none⟩ = some (.bool true) ∧ w1.cell? ⟨g, k * 6 + 1, none⟩ = some (.int .i64 (x.bytes : Int)) ∧ w1.cell? ⟨g, k * 6 + 2, none⟩ = some (.int .i64 (x.links : Int)) ∧ w1.cell? ⟨g, k * 6 + 3, none⟩ = some (.bool x.exec) ∧ w1.cell? ⟨g, k * 6 + 4, none⟩ = some (.slice ad x.blocks.length vc) ∧ w1.cell? ⟨g, k * 6 + 5, none⟩ = some (.int .i64 (x.sum : Int)) ∧ IntsT w1 (.slice ad x.blocks.length vc) (ints x.blocks)) := fun w1 k x hx h1 => by
    have M1 := M.below h1
    refine ⟨M1.cells.2.1, ?_⟩
    obtain ⟨v, g, hv, e, hc, _⟩ := M1.slot (slotT_get hx)
    have iv := M1.its k x v (slotT_get hx) hv
    obtain ⟨ad, vc, rfl, h⟩ := id iv
    rw [ints_len] at iv hc
    exact ⟨g, ad, vc, e, hc 0 _ rfl, hc 1 _ rfl, hc 2 _ rfl, hc 3 _ rfl, hc 4 _ rfl, hc 5 _ rfl, iv⟩
  have HRD : Hid (∀ w1 k x, slotT tab k = some x → Below W.heap.size W w1 → Calls Tryz.prog 10 #[.pointer (some ⟨tb, 0, none⟩), .int .i64 (k : Int)] w1 fun e w2 => ∃ s ev c, e = .returned (.tuple #[.string s, ev]) ∧ Below w1.heap.size w1 w2 ∧ Calls Tryz.prog 36 #[.pointer (some ⟨mt, 0, none⟩), .int .i64 (k : Int)] w2 fun e2 w3 => e2 = .returned (.tuple #[.string s, .int .i64 c]) ∧ Below w1.heap.size w1 w3 ∧ Calls Tryz.prog 11 #[ev, .int .i64 c] w3 fun e3 w4 => e3 = .returned (.bool true) ∧ Below w1.heap.size w1 w4) := fun w1 k x hx h1 => q_read k x hx (Q.below h1) P S
  have HSM : Hid (∀ j, j < (allT tab).length → ∃ k x, (allT tab)[j]? = some k ∧ slotT tab k = some x ∧ k < tab.length ∧ x.blocks.length ≤ 1000 ∧ x.sum < 4294967296) := fun j hj => by
    obtain ⟨x, hx⟩ := allT_mem.1 (List.getElem_mem hj)
    exact ⟨_, x, List.getElem?_eq_getElem hj, hx, slotT_lt hx, (P.need hx).1, (P.li _ x hx).2⟩
  have hal := allT_len tab
  have HIA : Hid (∀ {w1 : World} {ad : Option Addr} {vc j k : Nat}, IntsT w1 (.slice ad (allT tab).length vc) (ints (allT tab)) → (allT tab)[j]? = some k → ∃ b off, ad = some ⟨b, off, none⟩ ∧ w1.cell? ⟨b, off + j, none⟩ = some (.int .i64 (k : Int))) := fun h hk => by
    obtain ⟨ad', c', e, hc⟩ := h.at
    simp only [Value.slice.injEq] at e
    obtain ⟨b, off, e2, hc2⟩ := hc _ _ (by unfold ints; rw [List.getElem?_map, hk]; rfl)
    exact ⟨b, off, by rw [e.1, e2], hc2⟩
  clear M T Q P S hO hF hn
  obtain ⟨al, Hal⟩ : ∃ al, Hid (al = ints (allT tab)) := ⟨_, (rfl : _ = _)⟩
  rw [← Hal.out] at HAL HMA HIA
  obtain ⟨LL, HLL⟩ : ∃ LL, Hid (LL = (allT tab).length) := ⟨_, (rfl : _ = _)⟩
  have hal2 : al.length ≤ 100000 := by rw [Hal.out, ints_len]; omega
  rw [← HLL.out] at HAL HMA HIA HSM hal
  clear HLL Hal
  generalize (freeR u).length = FR at *
  go_enter Tryz.func13, Tryz.ntmps13
  go_wp2_with (first
    | (go_at_call 33; refine HAL.out.mono ?_; rintro e w1 ⟨ad1, vc1, rfl, i1, b1⟩; clear HAL)
    | (go_at_call 34; refine (HFM.out _ b1).mono ?_; rintro e w2 ⟨ad2, vc2, rfl, b12, b2⟩; clear HFM)
    | (go_at_call 35; refine (HMA.out _ b2).mono ?_; rintro e w3 ⟨ad3, vc3, rfl, i3, b23, b3⟩; clear HMA)
    | (go_at_call 16; refine (HSI.out _ _ _ al (i1.below (b12.trans (b23.mono b12.size))) i3 hal2).mono ?_; rintro e w4 ⟨rfl, b34⟩)
    | (go_at_call 17; refine (HFR.out _ (b3.trans (b34.mono b3.size))).mono ?_; rintro e w5 ⟨rfl, b45, b5⟩; clear HFR))
  have I5 : IntsT w5 (.slice ad1 LL vc1) al := i1.below ((b12.trans (b23.mono b12.size)).trans ((b34.trans (b45.mono b34.size)).mono (Nat.le_trans b12.size b23.size)))
  have HI5 : Hid (IntsT w5 (.slice ad1 LL vc1) al) := I5
  have HB5 : Hid (Below W.heap.size W w5) := b5
  clear I5 b5 i1 i3 b1 b2 b3 b12 b23 b34 b45
  go_loopw [7] (fun i wr => ∃ j : Nat, j ≤ LL ∧ i = .int .i64 j ∧ Below w5.heap.size w5 wr) (fun i _ => LL - (intOf i).toNat)
  case atStart => exact ⟨0, Nat.zero_le _, rfl, Below.refl _ _⟩
  case round =>
    obtain ⟨j, hj, rfl, hb⟩ := hrel
    have HB : Hid (Below w5.heap.size w5 wr) := hb
    clear hb
    by_cases hlt : j < LL
    · obtain ⟨k, x, hk, hx, hkl, hbl2, hsum⟩ := HSM.out j hlt
      have HBW : Hid (Below W.heap.size W wr) := HB5.out.trans (HB.out.mono HB5.out.size)
      obtain ⟨b0, off, rfl, c0⟩ := HIA.out (HI5.out.below HB.out) hk
      have HX := HST.out wr k x hx HBW.out
      have HIL : Hid ((ints x.blocks).length ≤ 100000) := by show _ ≤ _; rw [ints_len]; omega
      have HXX : Hid (slotT tab k = some x) := hx
      clear hk hx
      go_wp2_with (first
        | (go_at_call 9; refine HX.mono ?_; rintro e w6 ⟨ad6, vc6, rfl, i6, b6⟩; (have HB6 : Hid (Below W.heap.size W (w6.alloc (.cells #[.int .i64 (x.bytes : Int), .int .i64 (x.links : Int), .bool x.exec, .slice ad6 x.blocks.length vc6, .int .u32 (x.sum : Int)] 39))) := ((HBW.out.trans (b6.mono HBW.out.size)).alloc (HBW.out.trans (b6.mono HBW.out.size)).size _)); (obtain ⟨cm1, g, ad7, vc7, rfl, d0, d1, d2, d3, d4, d5, i7⟩ := HSL.out (w6.alloc (.cells #[.int .i64 (x.bytes : Int), .int .i64 (x.links : Int), .bool x.exec, .slice ad6 x.blocks.length vc6, .int .u32 (x.sum : Int)] 39)) k x HXX.out HB6.out); (have HI6 : Hid (IntsT w6 (.slice ad6 x.blocks.length vc6) (ints x.blocks)) := i6); (have HI7 : Hid (IntsT (w6.alloc (.cells #[.int .i64 (x.bytes : Int), .int .i64 (x.links : Int), .bool x.exec, .slice ad6 x.blocks.length vc6, .int .u32 (x.sum : Int)] 39)) (.slice ad7 x.blocks.length vc7) (ints x.blocks)) := i7); (have HBB6 : Hid (Below wr.heap.size wr w6) := b6); clear i6 i7 b6 HX)
        | (go_at_call 16; refine (HSI.out _ _ _ (ints x.blocks) (HI6.out.below (((Below.refl _ w6).alloc (Nat.le_refl _) _).alloc (by simp) _)) (HI7.out.below ((Below.refl _ _).alloc (Nat.le_refl _) _)) HIL.out).mono ?_; rintro e w8 ⟨rfl, b8⟩; (have HB8 : Hid (Below W.heap.size W w8) := (HB6.out.alloc HB6.out.size _).trans (b8.mono (by have := HB6.out.size; simp at this ⊢; omega))); (have HC8 : Hid (Below wr.heap.size wr w8) := (((HBB6.out.alloc HBB6.out.size _).alloc (by have := HBB6.out.size; simp; omega) _).trans (b8.mono (by have := HBB6.out.size; simp; omega)))); (have HR8 := HRD.out w8 k x HXX.out HB8.out); clear b8)
        | (go_at_call 10; refine HR8.mono ?_; rintro e w9 ⟨s, ev, c, rfl, b9, HR9⟩; clear b9 HR8)
        | (go_at_call 36; refine HR9.mono ?_; rintro e w10 ⟨rfl, b10, HR10⟩; clear b10 HR9)
        | (go_at_call 11; refine HR10.mono ?_; rintro e w11 ⟨rfl, b11⟩; clear HR10))
      have hb11 := HC8.out.trans (b11.mono HC8.out.size)
      exact ⟨⟨j + 1, by omega, by simp, HB.out.trans (hb11.mono HB.out.size)⟩, by simp [intOf]; omega⟩
    · obtain rfl : j = LL := by omega
      go_wp2_with fail
      go_ret
      exact ⟨rfl, HB5.out.trans (HB.out.mono HB5.out.size)⟩
end
end Go.Proofs.YtnmknngpihjhnaaGreatDoor
namespace Go.Proofs.YtnmknngpihjhnaaGreatDoor
open Go.RowKit

theorem im_new_nil (er : Value) (w : World) (hE : w.cell? ⟨0, 0, none⟩ = some er) : Calls Tryz.prog 8 #[.pointer none] w fun e w' => e = .returned (.tuple #[.pointer none, er]) ∧ Below w.heap.size w w' := by
  go_enter Tryz.func8, Tryz.ntmps8
  go_wp2_with fail
  go_region
  all_goals
    go_wp2_with fail
    go_ret2
    exact ⟨rfl, (Below.refl _ _).drew⟩
theorem QEnd.mono {w0 : World} {T0 tb bb mt md N i i' : Nat} {w' : World} (h : QEnd w0 T0 tb bb mt md N i w') (hi : i ≤ i') : QEnd w0 T0 tb bb mt md N i' w' := by
  obtain ⟨bl, u, tab, Q, P⟩ := h
  exact ⟨bl, u, tab, Q.mono hi, P.mono hi⟩
theorem q_start {N : Nat} (h1 : 1 ≤ N) (h2 : N ≤ 512) (W : World) :
    Calls Tryz.prog 6 #[.int .i64 (N : Int)] W fun e w' => ∃ tb bb mt md, e = .returned (.tuple #[.pointer (some ⟨tb, 0, none⟩), .pointer (some ⟨mt, 0, none⟩), .bool true]) ∧ QEnd W W.heap.size tb bb mt md N 0 w' :=
  (tableOf_any (fun _ => False) W.heap.size N h1 h2 W (Nat.le_refl _)).mono fun e w' ⟨tb, bb, sp, sb, cap, mb, md, mt, he, T, ⟨⟨la, lc, D⟩, hm, l1, l2⟩, hb⟩ =>
    ⟨tb, bb, mt, md, he, _, _, [], ⟨⟨sp, sb, cap, mb, 0, Nat.le_refl _, T⟩, ⟨la, lc, none, 0, [], hm, D, World.ownsRow_nil _ _ _ _, rfl, fun k x v h => by simp at h⟩, hb, rfl, l1, l2⟩, SInv.start N, h2, fun k x h => by simp [slotT] at h⟩
set_option maxRecDepth 100000 in
set_option maxHeartbeats 4000000 in
theorem inodeActs_any (a : Nat → Addr) (M : Int) (l : List FAct) (v : Value) (k : Int) (hk : (Lit.int .i64 k).wf = true) (w : World) (hv : FActsAt w v l) (S : Sents a w) :
    Calls Tryz.prog 3 #[.int .i64 M, v, .int .i64 k] w fun e w' => e = .returned (.bool true) ∧ Below w.heap.size w w' := by
  have HMD := made_any _ _ w S.c1 S.c10
  have HLF : Hid (∀ W, Below w.heap.size w W → Calls Tryz.prog 5 #[v] W fun e w' => (∃ r, e = .returned (.bool r) ∧ (r = false → Shorts l)) ∧ w' = W) := fun W hW => longFiles_any v l W (hv.below hW)
  obtain ⟨ad, vcap, rfl, hcs⟩ := id hv
  have HV : Hid (∀ (i : Nat) (x : FAct), l[i]? = some x → (Lit.int .i64 x.n).wf = true ∧ ∃ b off, ad = some ⟨b, off, none⟩ ∧ ∀ W, Below w.heap.size w W → (W.cell? ⟨b, off + i * 5, none⟩ = some (.string x.kind) ∧ W.cell? ⟨b, off + i * 5 + 1, none⟩ = some (.string x.s) ∧ W.cell? ⟨b, off + i * 5 + 2, none⟩ = some (.bool x.exec) ∧ W.cell? ⟨b, off + i * 5 + 3, none⟩ = some (.int .i64 x.n) ∧ W.cell? ⟨b, off + i * 5 + 4, none⟩ = some (.int .i64 x.bit))) := fun i x ha => by
    obtain ⟨h1, _, _, b, off, e, c0, c1, c2, c3, c4⟩ := hcs i x ha
    have hlt : b < w.heap.size := World.block_lt_of_cell? w _ c0
    refine ⟨h1, b, off, e, fun W hW => ⟨?_, ?_, ?_, ?_, ?_⟩⟩
    · rw [hW.cell (p := ⟨b, off + i * 5, none⟩) hlt]; exact c0
    · rw [hW.cell (p := ⟨b, off + i * 5 + 1, none⟩) hlt]; exact c1
    · rw [hW.cell (p := ⟨b, off + i * 5 + 2, none⟩) hlt]; exact c2
    · rw [hW.cell (p := ⟨b, off + i * 5 + 3, none⟩) hlt]; exact c3
    · rw [hW.cell (p := ⟨b, off + i * 5 + 4, none⟩) hlt]; exact c4
  have HS : Hid (Sents a w) := S
  clear hv hcs S
  by_cases hM : 1 ≤ M ∧ M ≤ 40
  · obtain ⟨N, rfl⟩ : ∃ N : Nat, M = (N : Int) := ⟨M.toNat, by omega⟩
    have hN1 : 1 ≤ N := by omega
    have hN2 : N ≤ 40 := by omega
    have hi1 : ¬ (N : Int) < 1 := by omega
    have hi2 : ¬ (40 : Int) < (N : Int) := by omega
    clear hM
    go_enter Tryz.func3, Tryz.ntmps3
    go_wp2_with (first
      | (go_at_call 4; refine HMD.mono ?_; rintro e w1 ⟨rfl, hb1⟩; clear HMD)
      | (go_at_call 5; refine (HLF.out _ hb1).mono ?_; rintro e w2 ⟨⟨r, rfl, hr⟩, hw⟩; rw [hw]; clear hw; (have HR : Hid _ := hr); clear hr; cases r))
    · obtain ⟨hl40, hsh⟩ := HR.out (by first | rfl | trivial)
      have HSH : Hid (∀ x ∈ l, x.s.size ≤ 120 ∨ x.s.size = 2001) := hsh
      have HB1 : Hid (Below w.heap.size w w1) := hb1
      refine Calls.mono (q_start hN1 (by omega) w1) ?_
      rintro e w3 ⟨tb, bb, mt, md, rfl, Q0⟩
      obtain ⟨T0, HT0⟩ : ∃ T0, Hid (T0 = w1.heap.size) := ⟨_, (rfl : w1.heap.size = _)⟩
      rw [← HT0.out] at Q0
      have HQ0 : Hid (QEnd w1 T0 tb bb mt md N 0 w3) := Q0
      have HS1 : Hid (Sents a w1) := HS.out.below hb1
      have HUP : Hid (∀ i W, QEnd w1 T0 tb bb mt md N i W → Below w.heap.size w W) := fun i W ⟨_, _, _, Q, _⟩ => HB1.out.trans (Q.b.mono (by rw [HT0.out]; exact HB1.out.size))
      clear Q0 hsh HLF hb1 HR HS
      go_wp2_with fail
      clear hi1 hi2
      generalize decide ((N : Int) < 1) = z1
      generalize decide ((40 : Int) < (N : Int)) = z2
      go_loopw [11] (fun i wr => ∃ j : Nat, j ≤ l.length ∧ i = .int .i64 j ∧ QEnd w1 T0 tb bb mt md N j wr) (fun i _ => l.length - (intOf i).toNat)
      case atStart => exact ⟨0, Nat.zero_le _, rfl, HQ0.out⟩
      case round =>
        obtain ⟨j, hj, rfl, hq⟩ := hrel
        have HQ : Hid (QEnd w1 T0 tb bb mt md N j wr) := hq
        clear hq
        by_cases hlt : j < l.length
        · obtain ⟨x, hx⟩ : ∃ x, l[j]? = some x := ⟨_, List.getElem?_eq_getElem hlt⟩
          obtain ⟨hn, b, off, rfl, hc⟩ := HV.out j x hx
          obtain ⟨c0, c1, c2, c3, c4⟩ := hc wr (HUP.out _ _ HQ.out)
          have hs := HSH.out x (List.mem_of_getElem? hx)
          have HA : Hid (Calls Tryz.prog 7 #[.pointer (some ⟨tb, 0, none⟩), .pointer (some ⟨mt, 0, none⟩), .agg #[.string x.kind, .string x.s, .bool x.exec, .int .i64 x.n, .int .i64 x.bit]] wr fun e w' => e = .returned (.bool true) ∧ QEnd w1 T0 tb bb mt md N (j + 1) w') := by
            obtain ⟨bl, u, tab, Q, P⟩ := HQ.out
            exact act_any x hn (by omega) (by omega) Q P HS1.out
          clear hx hc hn hs
          cases km : (x.kind.toList == [109, 101, 110, 100]) with
          | true =>
            go_wp2_with fail
            exact ⟨⟨j + 1, by omega, by simp, HQ.out.mono (by omega)⟩, by simp [intOf]; omega⟩
          | false =>
            go_wp2_with (go_at_call 7; refine HA.out.mono ?_; rintro e w4 ⟨rfl, hq4⟩)
            exact ⟨⟨j + 1, by omega, by simp, hq4⟩, by simp [intOf]; omega⟩
        · obtain rfl : j = l.length := by omega
          obtain ⟨bl, u, tab, Q, P⟩ := id HQ.out
          have SW := Q.sents HS1.out
          obtain ⟨sp, sb, cap, mb, n, hnn, T⟩ := Q.t
          obtain ⟨la, lc, ia, ic, vs, MM⟩ := Q.m
          have HBW : Hid (Below w.heap.size w wr) := HUP.out _ _ HQ.out
          have HNW : Hid (Calls Tryz.prog 8 #[.pointer none] wr fun e w' => e = .returned (.tuple #[.pointer none, .iface 205 (.pointer (some (a 2)))]) ∧ Below wr.heap.size wr w') := im_new_nil _ wr SW.c2
          have HCD : Hid (∀ (W : World) (n : Nat) (c : Int), c = (n : Int) + 1 → n < 13 → Below wr.heap.size wr W → Calls Tryz.prog 11 #[.iface 205 (.pointer (some (a n))), .int .i64 c] W fun e w' => e = .returned (.bool true) ∧ Below W.heap.size W w' ∧ Below wr.heap.size wr w') := fun W n c hc hn hW => (coded_sent a n c W (SW.below hW) hn).mono fun e w' ⟨he, hb⟩ => ⟨by rw [he, decide_eq_true hc], hb, hW.trans (hb.mono hW.size)⟩
          have HIS : Hid (∀ W, Below wr.heap.size wr W → Calls Tryz.prog 12 #[.pointer (some ⟨mt, 0, none⟩), .int .i64 k] W fun e w' => e = .returned (.bool (slotI tab k).isSome) ∧ w' = W) := fun W hW => m_is k W (MM.below hW)
          have HAS : Hid (∀ W, Below wr.heap.size wr W → Calls Tryz.prog 13 #[.pointer (some ⟨tb, 0, none⟩), .pointer (some ⟨mt, 0, none⟩)] W fun e w' => e = .returned (.int .i64 1) ∧ Below wr.heap.size wr w') := fun W hW => (asTable_any (by omega) (Q.below hW) P HS1.out).mono fun e w' ⟨he, hb⟩ => ⟨he, hW.trans (hb.mono hW.size)⟩
          cases hx : slotI tab k with
          | none =>
            have HC2 := HCD
            have HST : Hid (∀ W, Below wr.heap.size wr W → Calls Tryz.prog 9 #[.pointer (some ⟨tb, 0, none⟩), .int .i64 k] W fun e w' => e = .returned (.tuple #[.agg #[.int .i64 0, .int .i64 0, .bool false, .slice none 0 0, .int .u32 0], .bool false]) ∧ Below wr.heap.size wr w') := fun W hW => (im_stat_none k hk hx W (T.below hW)).mono fun e w' ⟨he, hb⟩ => ⟨he, hW.trans (hb.mono hW.size)⟩
            have HRD : Hid (∀ W, Below wr.heap.size wr W → Calls Tryz.prog 10 #[.pointer (some ⟨tb, 0, none⟩), .int .i64 k] W fun e w' => e = .returned (.tuple #[.string { data := #[] }, .iface 205 (.pointer (some (a 5)))]) ∧ Below W.heap.size W w' ∧ Below wr.heap.size wr w') := fun W hW => (im_read_none k hk hx _ W (T.below hW) (SW.below hW).c5).mono fun e w' ⟨he, hb⟩ => ⟨he, hb, hW.trans (hb.mono hW.size)⟩
            rw [hx] at HIS
            clear hx Q P SW T MM HQ HQ0 HV HSH
            go_wp2_with (first
              | (go_at_call 8; refine HNW.out.mono ?_; rintro e w5 ⟨rfl, b5⟩)
              | (go_at_call 9; refine (HST.out _ b5).mono ?_; rintro e w6 ⟨rfl, b6⟩; (have HB6 : Hid (Below wr.heap.size wr (w6.alloc (.cells #[.int .i64 0, .int .i64 0, .bool false, .slice none 0 0, .int .u32 0] 39))) := b6.alloc b6.size _); (have HBX6 : Hid ((w6.alloc (.cells #[.int .i64 0, .int .i64 0, .bool false, .slice none 0 0, .int .u32 0] 39)).heap[w6.heap.size]? = some (.cells #[.int .i64 0, .int .i64 0, .bool false, .slice none 0 0, .int .u32 0] 39 (0, 0))) := heap_alloc_last w6 _); clear b6)
              | (go_at_call 10; refine (HRD.out _ HB6.out).mono ?_; rintro e w7 ⟨rfl, b67, b7⟩)
              | (go_at_call 11; refine (HC2.out _ 2 3 (by rfl) (by decide) b7).mono ?_; clear HC2; rintro e w8 ⟨rfl, b78, b8⟩; (have hbx8 := (b78.block _ (Nat.lt_of_lt_of_le (by simp) b67.size)).trans ((b67.block w6.heap.size (by simp)).trans HBX6.out)); (have cx0 : w8.cell? ⟨w6.heap.size, 0, none⟩ = some (.int .i64 0) := (by rw [cell_of_row _ _ _ _ _ _ hbx8]; rfl)); (have cx1 : w8.cell? ⟨w6.heap.size, 1, none⟩ = some (.int .i64 0) := (by rw [cell_of_row _ _ _ _ _ _ hbx8]; rfl)); (have cx3 : w8.cell? ⟨w6.heap.size, 3, none⟩ = some (.slice none 0 0) := (by rw [cell_of_row _ _ _ _ _ _ hbx8]; rfl)); clear hbx8 b67 b78)
              | (go_at_call 12; refine (HIS.out _ b8).mono ?_; rintro e w9 ⟨rfl, hw⟩; rw [hw]; clear hw)
              | (go_at_call 11; refine (HCD.out _ 5 6 (by rfl) (by decide) b8).mono ?_; rintro e w10 ⟨rfl, b910, b10⟩)
              | (go_at_call 13; refine (HAS.out _ b10).mono ?_; rintro e w11 ⟨rfl, b11⟩))
            go_ret
            exact ⟨rfl, HBW.out.trans (b11.mono HBW.out.size)⟩
          | some x =>
            obtain ⟨q, rfl, hq⟩ := slotI_some hx
            have HST : Hid (∀ W, Below wr.heap.size wr W → Calls Tryz.prog 9 #[.pointer (some ⟨tb, 0, none⟩), .int .i64 (q : Int)] W fun e w' => ∃ ax cx, e = .returned (.tuple #[.agg #[.int .i64 (x.bytes : Int), .int .i64 (x.links : Int), .bool x.exec, .slice ax x.blocks.length cx, .int .u32 (x.sum : Int)], .bool true]) ∧ Below wr.heap.size wr w') := fun W hW => (im_stat q x hq (by have := (P.need hq).1; omega) W (T.below hW)).mono fun e w' ⟨v, he, hv, hb⟩ => by
              obtain ⟨ax, cx, rfl, _⟩ := hv
              rw [ints_len] at he
              exact ⟨ax, cx, he, hW.trans (hb.mono hW.size)⟩
            have HRD : Hid (∀ W, Below wr.heap.size wr W → Calls Tryz.prog 10 #[.pointer (some ⟨tb, 0, none⟩), .int .i64 (q : Int)] W fun e w' => ∃ s ev, e = .returned (.tuple #[.string s, ev]) ∧ Below wr.heap.size wr w') := fun W hW => (q_read q x hq (Q.below hW) P HS1.out).mono fun e w' ⟨s, ev, c, he, hb, _⟩ => ⟨s, ev, he, hW.trans (hb.mono hW.size)⟩
            rw [hx] at HIS
            clear hx hq Q P SW T MM HQ HQ0 HV HSH
            go_wp2_with (first
              | (go_at_call 8; refine HNW.out.mono ?_; rintro e w5 ⟨rfl, b5⟩)
              | (go_at_call 9; refine (HST.out _ b5).mono ?_; rintro e w6 ⟨ax, cx, rfl, b6⟩; (have HB6 : Hid (Below wr.heap.size wr (w6.alloc (.cells #[.int .i64 (x.bytes : Int), .int .i64 (x.links : Int), .bool x.exec, .slice ax x.blocks.length cx, .int .u32 (x.sum : Int)] 39))) := b6.alloc b6.size _); clear b6)
              | (go_at_call 10; refine (HRD.out _ HB6.out).mono ?_; rintro e w7 ⟨s, ev, rfl, b7⟩)
              | (go_at_call 11; refine (HCD.out _ 2 3 (by rfl) (by decide) b7).mono ?_; rintro e w8 ⟨rfl, b78, b8⟩; clear b78)
              | (go_at_call 12; refine (HIS.out _ b8).mono ?_; rintro e w9 ⟨rfl, hw⟩; rw [hw]; clear hw)
              | (go_at_call 13; refine (HAS.out _ b8).mono ?_; rintro e w11 ⟨rfl, b11⟩))
            go_ret
            exact ⟨rfl, HBW.out.trans (b11.mono HBW.out.size)⟩
    · go_wp2_with fail
      go_ret
      exact ⟨rfl, hb1⟩
  · by_cases hM1 : M < 1
    · go_enter Tryz.func3, Tryz.ntmps3
      go_wp2_with (go_at_call 4; refine HMD.mono ?_; rintro e w1 ⟨rfl, hb1⟩)
      go_ret
      exact ⟨rfl, hb1⟩
    · have hM2 : (40 : Int) < M := by omega
      go_enter Tryz.func3, Tryz.ntmps3
      go_wp2_with (go_at_call 4; refine HMD.mono ?_; rintro e w1 ⟨rfl, hb1⟩)
      go_ret
      exact ⟨rfl, hb1⟩
end Go.Proofs.YtnmknngpihjhnaaGreatDoor
