/-
  The acts of the law InodeKeeps on its state.
  Conditions: package api's errors are errors.
-/
import Derived.Test.YtcjocgpdlmdflaaDoorImL
namespace Go.Proofs.YtcjocgpdlmdflaaDoor
open Go.RowKit

/-- The errors of package api that inode hands back. -/
structure ErsAt (w : World) (T0 : Nat) : Prop where
  b : ∃ p, w.cell? ⟨0, 0, none⟩ = some (.iface 119 p)
  f : ∃ p, w.cell? ⟨1, 0, none⟩ = some (.iface 119 p)
  n : ∃ p, w.cell? ⟨2, 0, none⟩ = some (.iface 119 p)
  s : ∃ p, w.cell? ⟨3, 0, none⟩ = some (.iface 119 p)
  lt : 0 < T0 ∧ 1 < T0 ∧ 2 < T0 ∧ 3 < T0
theorem ErsAt.below {w w' : World} {T0 : Nat} (E : ErsAt w T0) (h : Below T0 w w') : ErsAt w' T0 := by
  obtain ⟨b, f, n, s, l1, l2, l3, l4⟩ := E
  obtain ⟨b, hb⟩ := b
  obtain ⟨f, hf⟩ := f
  obtain ⟨n, hn⟩ := n
  obtain ⟨s, hs⟩ := s
  refine ⟨⟨b, ?_⟩, ⟨f, ?_⟩, ⟨n, ?_⟩, ⟨s, ?_⟩, l1, l2, l3, l4⟩
  · rw [h.cell (p := ⟨0, 0, none⟩) l1]; exact hb
  · rw [h.cell (p := ⟨1, 0, none⟩) l2]; exact hf
  · rw [h.cell (p := ⟨2, 0, none⟩) l3]; exact hn
  · rw [h.cell (p := ⟨3, 0, none⟩) l4]; exact hs
section
variable {w0 W : World} {T0 tb bb sp sb cap mb n N : Nat} {bl : List (List UInt8)} {u : List Bool} {tab : List (Option Ino)} {da : List ByteArray} {li : List Nat} {dv lv : Value}
theorem LAt.ers (L : LAt w0 T0 tb bb sp sb cap mb n bl u tab da li dv lv W) (E : ErsAt w0 T0) : ErsAt W T0 := E.below L.b
theorem LAt.Flt (L : LAt w0 T0 tb bb sp sb cap mb n bl u tab da li dv lv W) : ∀ g, lv.ownBlock = some g → g < W.heap.size := fun g h => (World.ownsRow.lt L.l g h).2
theorem j_make (s : ByteArray) (ex : Bool) (hs : s.size ≤ 1000000) (hn : n < 100000) (L : LAt w0 T0 tb bb sp sb cap mb n bl u tab da li dv lv W) (K : KInv N bl u tab da li) (E : ErsAt w0 T0) :
    Calls Tryd.prog 7 #[.pointer (some ⟨tb, 0, none⟩), .string s, .bool ex] W fun e w' =>
      (∃ p, e = .returned (.tuple #[.int .i64 0, .iface 119 p]) ∧ LAt w0 T0 tb bb sp sb cap mb n bl u tab da li dv lv w' ∧ TbBut T0 W w') ∨
      (∃ bl' u' tab', e = .returned (.tuple #[.int .i64 (nextR tab : Int), .nilIface]) ∧ LAt w0 T0 tb bb sp sb cap mb (n + 1) bl' u' tab' da li dv lv w' ∧ KInv N bl' u' tab' (putL da (nextR tab) s) (putL li (nextR tab) 1) ∧ TbBut T0 W w') := by
  have EW := L.ers E
  by_cases h1 : 2000 < s.size
  · obtain ⟨p, hp⟩ := EW.b
    refine (im_make_big s ex h1 hs _ (.pointer (some ⟨tb, 0, none⟩)) W hp).mono ?_
    rintro e w' ⟨rfl, hb⟩
    exact .inl ⟨p, rfl, L.below hb, TbBut.of_below hb⟩
  · by_cases h2 : (freeR u).length < needN s.size
    · obtain ⟨p, hp⟩ := EW.f
      refine (im_make_full s ex (by omega) h2 119 p W L.t hp).mono ?_
      rintro e w' ⟨rfl, hb⟩
      exact .inl ⟨p, rfl, L.below hb, TbBut.of_below hb⟩
    · obtain ⟨p, hp⟩ := EW.b
      refine (im_make s ex _ (by omega) rfl (by omega) hn (by rw [K.sp.lu, K.sp.lbl]) _ W L.t hp EW.lt.1 L.size L.Flt).mono ?_
      rintro e w' ⟨rfl, T, B⟩
      exact .inr ⟨_, _, _, rfl, L.but T B, K.make (by omega) rfl (by omega), B⟩
theorem j_link_none (k : Int) (hk : (Lit.int .i64 k).wf = true) (hx : slotI tab k = none) (L : LAt w0 T0 tb bb sp sb cap mb n bl u tab da li dv lv W) (E : ErsAt w0 T0) :
    Calls Tryd.prog 8 #[.pointer (some ⟨tb, 0, none⟩), .int .i64 k] W fun e w' => (∃ p, e = .returned (.iface 119 p)) ∧ w' = W := by
  obtain ⟨p, hp⟩ := (L.ers E).n
  exact (im_link_none k hk hx _ W L.t hp).mono fun e w' ⟨h1, h2⟩ => ⟨⟨p, h1⟩, h2⟩
theorem j_unlink_none (k : Int) (hk : (Lit.int .i64 k).wf = true) (hx : slotI tab k = none) (L : LAt w0 T0 tb bb sp sb cap mb n bl u tab da li dv lv W) (E : ErsAt w0 T0) :
    Calls Tryd.prog 9 #[.pointer (some ⟨tb, 0, none⟩), .int .i64 k] W fun e w' => (∃ p, e = .returned (.iface 119 p)) ∧ w' = W := by
  obtain ⟨p, hp⟩ := (L.ers E).n
  exact (im_unlink_none k hk hx _ W L.t hp).mono fun e w' ⟨h1, h2⟩ => ⟨⟨p, h1⟩, h2⟩
theorem j_link (k : Nat) (x : Ino) (hx : slotT tab k = some x) (hl : x.links ≤ 1000000) (L : LAt w0 T0 tb bb sp sb cap mb n bl u tab da li dv lv W) (K : KInv N bl u tab da li) :
    Calls Tryd.prog 8 #[.pointer (some ⟨tb, 0, none⟩), .int .i64 (k : Int)] W fun e w' => ∃ tab', e = .returned .nilIface ∧ LAt w0 T0 tb bb sp sb cap mb n bl u tab' da li dv lv w' ∧ KInv N bl u tab' da (li.set k (x.links + 1)) ∧ TbBut T0 W w' :=
  (im_link k x hx hl W L.t).mono fun e w' ⟨h1, T, B⟩ => ⟨_, h1, L.but T B, K.links hx (by omega), B⟩
theorem j_unlink (k l : Nat) (x : Ino) (hx : slotT tab k = some x) (hxl : x.links = l + 1) (hl : l ≤ 1000000) (L : LAt w0 T0 tb bb sp sb cap mb n bl u tab da li dv lv W) (K : KInv N bl u tab da li) (E : ErsAt w0 T0) :
    Calls Tryd.prog 9 #[.pointer (some ⟨tb, 0, none⟩), .int .i64 (k : Int)] W fun e w' => ∃ u' tab', e = .returned .nilIface ∧ LAt w0 T0 tb bb sp sb cap mb n bl u' tab' da li dv lv w' ∧ KInv N bl u' tab' da (li.set k l) ∧ TbBut T0 W w' := by
  by_cases h0 : l = 0
  · subst h0
    have EW := L.ers E
    obtain ⟨p, hp⟩ := EW.b
    obtain ⟨q, hq⟩ := EW.n
    obtain ⟨_, _, _, h4, h5⟩ := K.sp.own k x hx
    have hle : x.blocks.length ≤ 1000 := by rw [h5]; unfold needN; omega
    refine (im_unlink_last k x _ _ hx hxl W L.t hp hq ⟨EW.lt.1, EW.lt.2.2.1⟩ (fun b hb => by rw [K.sp.lu]; exact K.sp.lt hx b hb) (K.sp.gives hx) (by omega)).mono ?_
    rintro e w' ⟨h1, T, B⟩
    exact ⟨_, _, h1, L.but T B, K.drop hx, B⟩
  · refine (im_unlink k l x hx hxl (by omega) hl W L.t).mono ?_
    rintro e w' ⟨h1, T, B⟩
    exact ⟨_, _, h1, L.but T B, K.links hx (by omega), B⟩
theorem j_read_none (k : Nat) (hk : k ≤ 1000000) (hx : slotT tab k = none) (L : LAt w0 T0 tb bb sp sb cap mb n bl u tab da li dv lv W) (E : ErsAt w0 T0) :
    Calls Tryd.prog 10 #[.pointer (some ⟨tb, 0, none⟩), .int .i64 (k : Int)] W fun e w' => (∃ p, e = .returned (.tuple #[.string { data := #[] }, .iface 119 p])) ∧ Below W.heap.size W w' := by
  obtain ⟨p, hp⟩ := (L.ers E).n
  exact (im_read_none (k : Int) (wf_nat hk) (by rw [slotI_nat]; exact hx) _ W L.t hp).mono fun e w' ⟨h1, h2⟩ => ⟨⟨p, h1⟩, h2⟩
theorem j_read (k : Nat) (x : Ino) (d : ByteArray) (hx : slotT tab k = some x) (hd : da[k]? = some d) (L : LAt w0 T0 tb bb sp sb cap mb n bl u tab da li dv lv W) (K : KInv N bl u tab da li) (E : ErsAt w0 T0) :
    Calls Tryd.prog 10 #[.pointer (some ⟨tb, 0, none⟩), .int .i64 (k : Int)] W fun e w' => e = .returned (.tuple #[.string d, .nilIface]) ∧ Below W.heap.size W w' := by
  obtain ⟨p, hp⟩ := (L.ers E).s
  obtain ⟨_, d', e1, e2, e3, e4⟩ := K.yes k x hx
  rw [hd] at e1; cases e1
  obtain ⟨_, _, _, h4, h5⟩ := K.sp.own k x hx
  have hb : x.blocks.length ≤ 1000 := by rw [h5]; unfold needN; omega
  have h := im_read k x _ hx (by rw [e4, e3]) W L.t (fun b hb => by rw [K.sp.lbl]; exact K.sp.lt hx b hb) hb (by omega) hp
  rw [e4] at h
  exact h
theorem j_stat (k : Nat) (x : Ino) (hx : slotT tab k = some x) (L : LAt w0 T0 tb bb sp sb cap mb n bl u tab da li dv lv W) (K : KInv N bl u tab da li) :
    Calls Tryd.prog 11 #[.pointer (some ⟨tb, 0, none⟩), .int .i64 (k : Int)] W fun e w' => ∃ ad vc, e = .returned (.tuple #[.agg #[.int .i64 (x.bytes : Int), .int .i64 (x.links : Int), .bool x.exec, .slice ad x.blocks.length vc, .int .u32 (x.sum : Int)], .bool true]) ∧ IntsT w' (.slice ad x.blocks.length vc) (ints x.blocks) ∧ Below W.heap.size W w' := by
  obtain ⟨_, _, _, h4, h5⟩ := K.sp.own k x hx
  refine (im_stat k x hx (by rw [h5]; unfold needN; omega) W L.t).mono ?_
  rintro e w' ⟨v, rfl, iv, hb⟩
  obtain ⟨ad, vc, rfl⟩ : ∃ ad vc, v = .slice ad x.blocks.length vc := by
    obtain ⟨ad, vc, e, _⟩ := iv
    exact ⟨ad, vc, by rw [e, ints_len]⟩
  exact ⟨ad, vc, rfl, iv, hb⟩
end
end Go.Proofs.YtcjocgpdlmdflaaDoor
