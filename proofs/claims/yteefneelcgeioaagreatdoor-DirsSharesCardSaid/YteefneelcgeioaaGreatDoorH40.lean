/-
  The acts of the law DirsLinks: dirs, and the row of the nodes that were put.
  What the walk of the law DirsLinks wants of acts, trees and files.
  Conditions: those that each states.
-/
import Derived.Test.YteefneelcgeioaaGreatDoorH39
import Derived.Deep.RegionHeld3
namespace Go.Proofs.YteefneelcgeioaaGreatDoor
open Go.RowKit Go.Maps

/-- The cells of a row of nodes. -/
def ndCells (pt : List Tree) (us : List Value) : List Value := (List.zipWith (fun (t : Tree) u => [.string t.kind, .string t.data, .bool t.exec, u]) pt us).flatten
theorem ndCells_snoc : ∀ {pt : List Tree} {us : List Value} (t : Tree) (u : Value), us.length = pt.length → ndCells (pt ++ [t]) (us ++ [u]) = ndCells pt us ++ [.string t.kind, .string t.data, .bool t.exec, u]
  | [], [], _, _, _ => by simp [ndCells]
  | [], _ :: _, _, _, h => by simp at h
  | _ :: _, [], _, _, h => by simp at h
  | x :: pt, v :: us, t, u, h => by
    have ih := ndCells_snoc (pt := pt) (us := us) t u (by simpa using h)
    simp only [ndCells, List.cons_append, List.zipWith_cons_cons, List.flatten_cons] at ih ⊢
    rw [ih]
    rfl
theorem ndCells_at : ∀ {pt : List Tree} {us : List Value} {i : Nat} {t : Tree} {u : Value}, pt[i]? = some t → us[i]? = some u → (ndCells pt us)[i * 4]? = some (.string t.kind) ∧ (ndCells pt us)[i * 4 + 1]? = some (.string t.data) ∧ (ndCells pt us)[i * 4 + 2]? = some (.bool t.exec) ∧ (ndCells pt us)[i * 4 + 3]? = some u
  | [], _, _, _, _, h, _ => by simp at h
  | _ :: _, [], _, _, _, _, h => by simp at h
  | x :: pt, v :: us, 0, t, u, h, h' => by
    simp only [List.getElem?_cons_zero, Option.some.injEq] at h h'
    subst h; subst h'
    simp [ndCells]
  | x :: pt, v :: us, i + 1, t, u, h, h' => by
    have ih := ndCells_at (pt := pt) (us := us) (i := i) (t := t) (u := u) (by simpa using h) (by simpa using h')
    have e : ndCells (x :: pt) (v :: us) = [.string x.kind, .string x.data, .bool x.exec, v] ++ ndCells pt us := by simp [ndCells]
    have g : ∀ o, (ndCells (x :: pt) (v :: us))[(i + 1) * 4 + o]? = (ndCells pt us)[i * 4 + o]? := fun o => by
      rw [e, List.getElem?_append_right (by simp; omega)]
      congr 1
      simp; omega
    have g0 := g 0
    rw [Nat.add_zero, Nat.add_zero] at g0
    exact ⟨g0.trans ih.1, (g 1).trans ih.2.1, (g 2).trans ih.2.2.1, (g 3).trans ih.2.2.2⟩
theorem infoNd : (Tryz.prog.info? 32).map (fun i => (i.zero, i.size, i.bytes)) = some (some (.agg #[.string { data := #[] }, .string { data := #[] }, .bool false, .slice none 0 0]), 4, 64) := by kernel_rfl
theorem ownsRow_below {w w' : World} {base : Nat} {e : TypeId} {size : Nat} {v : Value} {n : Nat} {xs : List Value} (h : w.ownsRow base e size v n xs) (hb : Below w.heap.size w w') : w'.ownsRow base e size v n xs := ownsRow_ext' h fun k hk => hb.block k (h.lt k hk).2
/-- Behind so many acts: dirs with their trees q, and the row of nodes pt. -/
structure DlAt (w0 : World) (N d dp tb bb sp sb cap mb m1 m2 j : Nat) (q pt : List Tree) (us : List Value) (v : Value) (W : World) : Prop where
  S : ∃ s tr, DSt w0 N d dp tb bb sp sb cap mb m1 m2 j s tr q W
  len : us.length = pt.length
  row : W.ownsRow w0.heap.size 32 4 v pt.length (ndCells pt us)
  kids : ∀ (i : Nat) (t : Tree) (u : Value), pt[i]? = some t → us[i]? = some u → Lies w0 w0.heap.size (d + 1) t.kids u
section
variable {a : Nat → Addr} {w0 W W' : World} {N d dp tb bb sp sb cap mb m1 m2 j : Nat} {q pt : List Tree} {us : List Value} {v : Value}
theorem DlAt.low (L : DlAt w0 N d dp tb bb sp sb cap mb m1 m2 j q pt us v W) : Below w0.heap.size w0 W := by
  obtain ⟨s, tr, S⟩ := L.S
  exact S.low
theorem DlAt.below (L : DlAt w0 N d dp tb bb sp sb cap mb m1 m2 j q pt us v W) (h : Below W.heap.size W W') : DlAt w0 N d dp tb bb sp sb cap mb m1 m2 j q pt us v W' := by
  obtain ⟨⟨s, tr, S⟩, h1, h2, h3⟩ := L
  exact ⟨⟨s, tr, S.below h⟩, h1, ownsRow_below h2 h, h3⟩
theorem DlAt.up (L : DlAt w0 N d dp tb bb sp sb cap mb m1 m2 j q pt us v W) {j' : Nat} (h : j ≤ j') : DlAt w0 N d dp tb bb sp sb cap mb m1 m2 j' q pt us v W := by
  obtain ⟨⟨s, tr, S⟩, h1, h2, h3⟩ := L
  exact ⟨⟨s, tr, S.up h⟩, h1, h2, h3⟩
theorem DlAt.rowP (L : DlAt w0 N d dp tb bb sp sb cap mb m1 m2 j q pt us v W) (h : PBut w0.heap.size dp W W') : W'.ownsRow w0.heap.size 32 4 v pt.length (ndCells pt us) := by
  obtain ⟨s, tr, S⟩ := L.S
  refine ownsRow_ext' L.row fun k hk => ?_
  obtain ⟨cur, hc⟩ := rowTyD L.row hk
  rw [hc]
  exact h.keeps S hc rfl (by decide)
theorem dl_put (E : DSn a w0) (L : DlAt w0 N d dp tb bb sp sb cap mb m1 m2 j pt pt us v W) (hj : j ≤ 900) (hd : d ≤ 900) (t : Tree) (ua : Option Addr) (uc : Nat) (hl : Lies w0 w0.heap.size (d + 1) t.kids (.slice ua t.kids.length uc)) (hs : SmT d t) {bx : Nat} {cs : Array Value} (hbx : W.heap[bx]? = some (.cells cs 34 (0, 0))) :
    Calls Tryz.prog 10 #[.agg #[.string t.kind, .string t.data, .bool t.exec, .slice ua t.kids.length uc]] W fun e w2 => ∃ xa xc, e = .returned (.agg #[.string t.kind, .string t.data, .bool t.exec, .slice xa t.kids.length xc]) ∧ Calls Tryz.prog 9 #[.pointer (some ⟨dp, 0, none⟩), .agg #[.string t.kind, .string t.data, .bool t.exec, .slice xa t.kids.length xc]] w2 fun e3 w3 => w3.heap[bx]? = some (.cells cs 34 (0, 0)) ∧
      ((∃ p, e3 = .returned (.tuple #[.int .i64 0, .iface 235 p]) ∧ DlAt w0 N d dp tb bb sp sb cap mb m1 m2 (j + 1) pt pt us v w3) ∨ (e3 = .returned (.tuple #[.int .i64 (pt.length : Int), .nilIface]) ∧ DlAt w0 N d dp tb bb sp sb cap mb m1 m2 (j + 1) (pt ++ [t]) pt us v w3)) := by
  have hlow := L.low
  refine (own_own w0.heap.size (d + 1) t _ W hlow.size (hl.below hlow (Nat.le_refl _))).mono ?_
  rintro e w2 ⟨u', he, hO, hb⟩
  obtain ⟨xa, xc, rfl⟩ := hO.form
  have L2 := L.below hb
  obtain ⟨s, tr, S⟩ := L2.S
  refine ⟨xa, xc, he, ?_⟩
  refine (ds_put E S (by omega) hd t xa xc _ hO (fun b hb => hb.2) hs).mono ?_
  rintro e3 w3 ⟨hP, h⟩
  refine ⟨hP.keeps S ((hb.block bx (Array.getElem?_eq_some_iff.1 hbx).1).trans hbx) rfl (by decide), ?_⟩
  rcases h with ⟨p, he3, S3⟩ | ⟨he3, _, S3⟩
  · exact .inl ⟨p, he3, ⟨s, tr, S3⟩, L2.len, L2.rowP hP, L2.kids⟩
  · exact .inr ⟨he3, ⟨_, _, S3⟩, L2.len, L2.rowP hP, L2.kids⟩
theorem dl_app {t : Tree} {u v' : Value} (L : DlAt w0 N d dp tb bb sp sb cap mb m1 m2 j (pt ++ [t]) pt us v W) (hl : Lies w0 w0.heap.size (d + 1) t.kids u) (hown : W'.ownsRow w0.heap.size 32 4 v' (pt.length + 1) (ndCells pt us ++ [.string t.kind, .string t.data, .bool t.exec, u])) (hg : W.grownBy W' v.ownBlock) : DlAt w0 N d dp tb bb sp sb cap mb m1 m2 j (pt ++ [t]) (pt ++ [t]) (us ++ [u]) v' W' := by
  obtain ⟨⟨s, tr, S⟩, h1, h2, h3⟩ := L
  refine ⟨⟨s, tr, S.grow h2 (Nat.le_refl _) rfl hg⟩, by simp [h1], by rw [List.length_append, List.length_singleton, ndCells_snoc t u h1]; exact hown, fun i y u' hy hu => ?_⟩
  by_cases hi : i < pt.length
  · rw [List.getElem?_append_left hi] at hy
    rw [List.getElem?_append_left (by omega)] at hu
    exact h3 i y u' hy hu
  · rw [List.getElem?_append_right (by omega)] at hy
    rw [List.getElem?_append_right (by omega)] at hu
    rw [h1] at hu
    cases hk : i - pt.length with
    | zero =>
      rw [hk] at hy hu
      simp only [List.getElem?_cons_zero, Option.some.injEq] at hy hu
      subst hy; subst hu
      exact hl
    | succ n => rw [hk] at hy; simp at hy
theorem dl_drop (E : DSn a w0) (L : DlAt w0 N d dp tb bb sp sb cap mb m1 m2 j pt pt us v W) (hj : j ≤ 900) (k : Int) (hk : (Lit.int .i64 k).wf = true) :
    Calls Tryz.prog 11 #[.pointer (some ⟨dp, 0, none⟩), .int .i64 k] W fun e w' => ∃ r, e = .returned r ∧ DlAt w0 N d dp tb bb sp sb cap mb m1 m2 (j + 1) pt pt us v w' := by
  obtain ⟨s, tr, S⟩ := L.S
  refine (ds_drop E S (by omega) k hk).mono ?_
  rintro e w' ⟨r, s', tr', he, S', hP⟩
  exact ⟨r, he, ⟨s', tr', S'.up (by omega)⟩, L.len, L.rowP hP, L.kids⟩
theorem dl_share (E : DSn a w0) (L : DlAt w0 N d dp tb bb sp sb cap mb m1 m2 j pt pt us v W) (hj : j ≤ 900) (k i : Int) (p : ByteArray) (hk : (Lit.int .i64 k).wf = true) (hi : (Lit.int .i64 i).wf = true) (hp : p.size ≤ 1000000) :
    Calls Tryz.prog 12 #[.pointer (some ⟨dp, 0, none⟩), .int .i64 k, .string p, .int .i64 i] W fun e w' => ∃ r, e = .returned r ∧ DlAt w0 N d dp tb bb sp sb cap mb m1 m2 (j + 1) pt pt us v w' := by
  obtain ⟨s, tr, S⟩ := L.S
  refine (ds_share E S (by omega) k i p hk hi hp).mono ?_
  rintro e w' ⟨r, s', tr', he, S', hP⟩
  exact ⟨r, he, ⟨s', tr', S'.up (by omega)⟩, L.len, L.rowP hP, L.kids⟩
/-- The cells of a node that was put. -/
theorem DlAt.node (L : DlAt w0 N d dp tb bb sp sb cap mb m1 m2 j q pt us v W) {k : Nat} {t : Tree} (ht : pt[k]? = some t) : ∃ g cp ua uc, v = .slice (some ⟨g, 0, none⟩) pt.length cp ∧ g < W.heap.size ∧ (W.cell? ⟨g, k * 4, none⟩ = some (.string t.kind) ∧ W.cell? ⟨g, k * 4 + 1, none⟩ = some (.string t.data) ∧ W.cell? ⟨g, k * 4 + 2, none⟩ = some (.bool t.exec) ∧ W.cell? ⟨g, k * 4 + 3, none⟩ = some (.slice ua t.kids.length uc)) ∧ Lies W w0.heap.size (d + 1) t.kids (.slice ua t.kids.length uc) := by
  have hk := (List.getElem?_eq_some_iff.1 ht).1
  obtain ⟨u, hu⟩ : ∃ u, us[k]? = some u := ⟨_, List.getElem?_eq_getElem (by rw [L.len]; exact hk)⟩
  have hl := (L.kids k t u ht hu).below L.low (Nat.le_refl _)
  obtain ⟨ua, uc, rfl⟩ := hl.form
  rcases L.row.2 with ⟨_, e0⟩ | ⟨g, cp, cur, e, _⟩
  · omega
  · obtain ⟨k0, k1, k2, k3⟩ := ndCells_at ht hu
    have hcs := L.row.cells (g := g) (by rw [e]; rfl)
    have hadd : ∀ j, (⟨g, 0, none⟩ : Addr).add j = ⟨g, j, none⟩ := fun j => by unfold Addr.add; split <;> simp_all
    have c0 := hcs _ _ k0
    have c1 := hcs _ _ k1
    have c2 := hcs _ _ k2
    have c3 := hcs _ _ k3
    rw [hadd] at c0 c1 c2 c3
    exact ⟨g, cp, ua, uc, e, (L.row.lt g (by rw [e]; rfl)).2, ⟨c0, c1, c2, c3⟩, hl⟩
/-- Two trees that are the same tree. -/
theorem ds_same {t : Tree} {u u' : Value} (h : Lies W W.heap.size (d + 1) t.kids u) (h' : Lies W W.heap.size (d + 1) t.kids u') :
    Calls Tryz.prog 16 #[.agg #[.string t.kind, .string t.data, .bool t.exec, u], .agg #[.string t.kind, .string t.data, .bool t.exec, u']] W fun e w' => e = .returned (.bool true) ∧ Below W.heap.size W w' := by
  have h1 := same_any W.heap.size (d + 1) t t u u' W (Nat.le_refl _) h h'
  rw [sameB_refl h.fit] at h1
  exact h1
end
end Go.Proofs.YteefneelcgeioaaGreatDoor
namespace Go.Proofs.YteefneelcgeioaaGreatDoor
open Go.RowKit Go.Maps

theorem TActsIn.below {w w' : World} {d : Nat} {l : List TAct} {v : Value} (h : TActsIn w d l v) (hb : Below w.heap.size w w') : TActsIn w' d l v := by
  obtain ⟨ad, cap, rfl, h1, h2⟩ := h
  refine ⟨ad, cap, rfl, h1, fun i c hc => ?_⟩
  obtain ⟨b, off, u, e, hlt, A⟩ := h2 i c hc
  exact ⟨b, off, u, e, Nat.lt_of_lt_of_le hlt hb.size, A.below hb hlt⟩
/-- An act of the list, in whatever world. -/
def ActIn (w : World) (ad : Option Addr) (i : Nat) (c : TAct) (ua : Option Addr) (uc : Nat) : Prop :=
  (Lit.int .i64 c.k).wf = true ∧ (Lit.int .i64 c.n).wf = true ∧ c.path.size ≤ 100 ∧ SmT 11 c.node ∧ Lies w w.heap.size 12 c.node.kids (.slice ua c.node.kids.length uc) ∧ ∃ b off, ad = some ⟨b, off, none⟩ ∧ ∀ W, Below w.heap.size w W → b < W.heap.size ∧ W.cell? ⟨b, off + i * 10, none⟩ = some (.string c.kind) ∧ W.cell? ⟨b, off + i * 10 + 1, none⟩ = some (.string c.path) ∧ W.cell? ⟨b, off + i * 10 + 2, none⟩ = some (.string c.s) ∧ W.cell? ⟨b, off + i * 10 + 3, none⟩ = some (.string c.node.kind) ∧ W.cell? ⟨b, off + i * 10 + 4, none⟩ = some (.string c.node.data) ∧ W.cell? ⟨b, off + i * 10 + 5, none⟩ = some (.bool c.node.exec) ∧ W.cell? ⟨b, off + i * 10 + 6, none⟩ = some (.slice ua c.node.kids.length uc) ∧ W.cell? ⟨b, off + i * 10 + 7, none⟩ = some (.int .i64 c.k) ∧ W.cell? ⟨b, off + i * 10 + 8, none⟩ = some (.int .i64 c.n) ∧ W.cell? ⟨b, off + i * 10 + 9, none⟩ = some (.int .i64 c.bit)
theorem lies_levels {w : World} {B : Nat} : ∀ {n d : Nat} {t : Tree} {v : Value}, Fit n t → Lies w B d t.kids v → Lies w B n t.kids v
  | 0, _, _, _, h, _ => h.elim
  | _ + 1, 0, _, _, _, h => h.elim
  | n + 1, d + 1, t, v, hf, ⟨ad, cap, e, hlen, hk⟩ => ⟨ad, cap, e, hlen, fun i x hx => by
    obtain ⟨b, off, u, e, h1, h2, h3, h4, h5, h6, h7, h8⟩ := hk i x hx
    exact ⟨b, off, u, e, h1, h2, h3, h4, h5, h6, h7, lies_levels (hf x (List.mem_of_getElem? hx)) h8⟩⟩
theorem acts_in {w : World} {n cap : Nat} {l : List TAct} {ad : Option Addr} (h : TActsIn w n l (.slice ad l.length cap)) (hs : ShortT l) {i : Nat} {c : TAct} (hc : l[i]? = some c) : ∃ ua uc, ActIn w ad i c ua uc := by
  obtain ⟨ad', cap', e0, h1, h2⟩ := h
  simp only [Value.slice.injEq] at e0
  obtain ⟨rfl, _, rfl⟩ := e0
  obtain ⟨b, off, u, e, hb, A⟩ := h2 i c hc
  obtain ⟨hL, hp, _⟩ := hs.2 c (List.mem_of_getElem? hc)
  obtain ⟨ua, uc, rfl⟩ := A.lies.form
  obtain ⟨_, _, _, k1, k2, _⟩ := h1 c (List.mem_of_getElem? hc)
  have sm : SmT 11 c.node := SmT.of A.lies.fit hL (Nat.le_refl _)
  refine ⟨ua, uc, k1, k2, hp, sm, lies_levels sm.fit A.lies, b, off, e, fun W hW => ?_⟩
  have B := A.below hW hb
  exact ⟨Nat.lt_of_lt_of_le hb hW.size, B.kind, B.path, B.s, B.nkind, B.ndata, B.nexec, B.nkids, B.k, B.n, B.bit⟩
theorem OwnI.at {w : World} {B : Nat} {v : Value} {l : List Nat} (h : OwnI w B v l) {i k : Nat} (hk : l[i]? = some k) : ∃ g cp, v = .slice (some ⟨g, 0, none⟩) l.length cp ∧ B ≤ g ∧ g < w.heap.size ∧ w.cell? ⟨g, i, none⟩ = some (.int .i64 (k : Int)) := by
  have h' : w.ownsRow B 3 1 v l.length ((ints l).map (Value.int .i64)) := h
  have hi := (List.getElem?_eq_some_iff.1 hk).1
  rcases h'.2 with ⟨_, e0⟩ | ⟨g, cp, cur, e, _⟩
  · omega
  · have hcs := h'.cells (g := g) (by rw [e]; rfl)
    have c := hcs i (.int .i64 (k : Int)) (by unfold ints; rw [List.getElem?_map, List.getElem?_map, hk]; rfl)
    have hadd : ∀ j, (⟨g, 0, none⟩ : Addr).add j = ⟨g, j, none⟩ := fun j => by unfold Addr.add; split <;> simp_all
    rw [hadd] at c
    have hlt := h'.lt g (by rw [e]; rfl)
    exact ⟨g, cp, e, hlt.1, hlt.2, c⟩
theorem OwnI.below {w w' : World} {B : Nat} {v : Value} {l : List Nat} (h : OwnI w B v l) (hb : Below w.heap.size w w') : OwnI w' B v l := ownsRow_below (w := w) (e := 3) (size := 1) h hb
theorem OwnI.form {w : World} {B : Nat} {v : Value} {l : List Nat} (h : OwnI w B v l) : ∃ a c, v = .slice a l.length c := rowForm (w := w) (e := 3) (size := 1) h
theorem row_str {w : World} {B : Nat} {v : Value} {l : List ByteArray} (h : w.ownsRow B 9 1 v l.length (l.map Value.string)) {i : Nat} {p : ByteArray} (hk : l[i]? = some p) : ∃ g cp, v = .slice (some ⟨g, 0, none⟩) l.length cp ∧ w.cell? ⟨g, i, none⟩ = some (.string p) := by
  have hi := (List.getElem?_eq_some_iff.1 hk).1
  rcases h.2 with ⟨_, e0⟩ | ⟨g, cp, cur, e, _⟩
  · omega
  · have hcs := h.cells (g := g) (by rw [e]; rfl)
    have c := hcs i (.string p) (by rw [List.getElem?_map, hk]; rfl)
    have hadd : ∀ j, (⟨g, 0, none⟩ : Addr).add j = ⟨g, j, none⟩ := fun j => by unfold Addr.add; split <;> simp_all
    rw [hadd] at c
    exact ⟨g, cp, e, c⟩
theorem below_grow {B base size n : Nat} {e : TypeId} {w W W' : World} {v : Value} {xs : List Value} (hb : Below B w W) (hB : B ≤ w.heap.size) (h : W.ownsRow base e size v n xs) (hle : B ≤ base) (hg : W.grownBy W' v.ownBlock) : Below B w W' :=
  ⟨hg.os.trans hb.os, hg.tape.trans hb.tape, hg.output.trans hb.output, Nat.le_trans hb.size hg.size, fun k hk => by
    rw [← hb.block k hk]
    refine hg.block k (Nat.lt_of_lt_of_le (Nat.lt_of_lt_of_le hk hB) hb.size) fun e => ?_
    have := (h.lt k e.symm).1
    omega⟩
theorem row_apart {b1 b2 s1 s2 n1 n2 : Nat} {e1 e2 : TypeId} {W W' : World} {v1 v2 : Value} {x1 x2 : List Value} (h1 : W.ownsRow b1 e1 s1 v1 n1 x1) (h2 : W.ownsRow b2 e2 s2 v2 n2 x2) (hne : ¬ e1 = e2) (hg : W.grownBy W' v1.ownBlock) : W'.ownsRow b2 e2 s2 v2 n2 x2 := by
  refine ownsRow_ext' h2 fun k hk => ?_
  refine hg.block k (h2.lt k hk).2 fun e => ?_
  obtain ⟨c1, hc1⟩ := rowTyD h1 e.symm
  obtain ⟨c2, hc2⟩ := rowTyD h2 hk
  rw [hc1] at hc2
  simp only [Option.some.injEq, Obj.cells.injEq] at hc2
  exact hne hc2.2.1
/-- What the law asks of one tree. -/
def DlTree (d dp : Nat) (tr : List (Option NTree)) (np : Nat) (v : Value) (k : Nat) (W : World) : Prop :=
    ∃ (t : Tree) (g cp : Nat) (ua : Option Addr) (uc : Nat), v = .slice (some ⟨g, 0, none⟩) np cp ∧ k < np ∧ (pathsT (d + 1) t).length = (fsI tr k).length ∧
      (∀ W', Below W.heap.size W W' → (W'.cell? ⟨g, k * 4, none⟩ = some (.string t.kind) ∧ W'.cell? ⟨g, k * 4 + 1, none⟩ = some (.string t.data) ∧ W'.cell? ⟨g, k * 4 + 2, none⟩ = some (.bool t.exec) ∧ W'.cell? ⟨g, k * 4 + 3, none⟩ = some (.slice ua t.kids.length uc)) ∧
        Calls Tryz.prog 15 #[.pointer (some ⟨dp, 0, none⟩), .int .i64 (k : Int)] W' fun e w' => ∃ xa xc, e = .returned (.tuple #[.agg #[.string t.kind, .string t.data, .bool t.exec, .slice xa t.kids.length xc], .nilIface]) ∧ Below W'.heap.size W' w' ∧
          ∀ W2, Below w'.heap.size w' W2 → (Calls Tryz.prog 16 #[.agg #[.string t.kind, .string t.data, .bool t.exec, .slice xa t.kids.length xc], .agg #[.string t.kind, .string t.data, .bool t.exec, .slice ua t.kids.length uc]] W2 fun e w' => e = .returned (.bool true) ∧ Below W2.heap.size W2 w') ∧
            Calls Tryz.prog 17 #[.agg #[.string t.kind, .string t.data, .bool t.exec, .slice xa t.kids.length xc]] W2 fun e w' => ∃ v, e = .returned v ∧ w'.ownsRow W2.heap.size 9 1 v (pathsT (d + 1) t).length ((pathsT (d + 1) t).map Value.string) ∧ Below W2.heap.size W2 w') ∧
      ∀ (i2 : Nat) (p : ByteArray), (pathsT (d + 1) t)[i2]? = some p → ∃ q, (fsI tr k)[i2]? = some q ∧ ∀ W', Below W.heap.size W W' → Calls Tryz.prog 18 #[.pointer (some ⟨dp, 0, none⟩), .int .i64 (k : Int), .string p] W' fun e w' => e = .returned (.tuple #[.int .i64 (q : Int), .nilIface]) ∧ Below W'.heap.size W' w'
theorem dl_tree {a : Nat → Addr} {w0 W : World} {N d dp tb bb sp sb cap mb m1 m2 j : Nat} {s : TSt} {tr : List (Option NTree)} {pt : List Tree} {us : List Value} {v : Value} (E : DSn a w0) (S : DSt w0 N d dp tb bb sp sb cap mb m1 m2 j s tr pt W) (L : DlAt w0 N d dp tb bb sp sb cap mb m1 m2 j pt pt us v W) (hd : d ≤ 900) (hj : j ≤ 900) {i k : Nat} (hk : (allN tr)[i]? = some k) : DlTree d dp tr pt.length v k W := by
  obtain ⟨x, hx⟩ := allN_mem.1 (List.mem_of_getElem? hk)
  obtain ⟨t, ht, hw, hf, hxt, hfs⟩ := S.I.tree k x hx
  obtain ⟨g, cp, ua, uc, ev, hg, hc, hl⟩ := L.node ht
  have hsm := S.few.2 t (List.mem_of_getElem? ht)
  have hfk : fsI tr k = x.fs.map (·.2) := by unfold fsI; rw [hx]
  have hlen : x.fs.length = (filesT (d + 1) t).length := by have := congrArg List.length hfs; simpa using this
  refine ⟨t, g, cp, ua, uc, ev, (List.getElem?_eq_some_iff.1 ht).1, by rw [hfk]; unfold pathsT; rw [List.length_map, List.length_map, hlen], fun W' hW' => ⟨?_, ?_⟩, fun i2 p hp => ?_⟩
  · have hcc : ∀ o, W'.cell? ⟨g, o, none⟩ = W.cell? ⟨g, o, none⟩ := fun o => hW'.cell (p := ⟨g, o, none⟩) hg
    exact ⟨(hcc _).trans hc.1, (hcc _).trans hc.2.1, (hcc _).trans hc.2.2.1, (hcc _).trans hc.2.2.2⟩
  · refine (ds_get E (S.below hW') hd (by omega) hx ht).mono ?_
    rintro e w' ⟨xa, xc, he, hl', hb⟩
    refine ⟨xa, xc, he, hb, fun W2 hW2 => ?_⟩
    have b2 : Below W.heap.size W W2 := hW'.trans ((hb.trans (hW2.mono hb.size)).mono hW'.size)
    have l2 := (hl'.below hW2 (Nat.le_refl _)).up hW2.size (Nat.le_refl _)
    have hW := S.low.size
    have l3 := (hl.below b2 (by omega)).up (B' := W2.heap.size) (by have := b2.size; omega) (Nat.le_refl _)
    exact ⟨ds_same l2 l3, ds_files (E.P.below (S.low.trans (b2.mono hW))) hw hsm l2⟩
  · obtain ⟨q, hq, _⟩ := S.I.ino hx ht hp
    refine ⟨q, by rw [hfk]; exact hq, fun W' hW' => ?_⟩
    obtain ⟨q', hq', h⟩ := ds_inode E (S.below hW') hd (by omega) hx ht hp
    rw [hq] at hq'
    cases hq'
    exact h
theorem links_len {w0 W : World} {N d dp tb bb sp sb cap mb m1 m2 j : Nat} {s : TSt} {tr : List (Option NTree)} {pt : List Tree} (S : DSt w0 N d dp tb bb sp sb cap mb m1 m2 j s tr pt W) (hj : j ≤ 900) : ((allN tr).flatMap (fsI tr)).length ≤ 40000 := by
  rw [links_tr, ← refs_tr S.I.len (D := d + 1) fun k x t h1 h2 => ?_]
  · rw [List.length_map]; exact S.refs (by omega)
  · obtain ⟨t', ht', _, _, _, hfs⟩ := S.I.tree k x (by rw [ntI_nat, h1]; rfl)
    rw [h2] at ht'
    cases ht'
    have := congrArg List.length hfs
    simpa using this
theorem flat_takeN {α : Type} {f : Nat → List α} : ∀ {l : List Nat} {i k : Nat}, l[i]? = some k → (l.take (i + 1)).flatMap f = (l.take i).flatMap f ++ f k
  | [], _, _, h => by simp at h
  | x :: l, 0, k, h => by simp at h; subst h; simp
  | x :: l, i + 1, k, h => by
    have ih := flat_takeN (f := f) (l := l) (i := i) (k := k) (by simpa using h)
    simp only [List.take_succ_cons, List.flatMap_cons, List.append_assoc] at ih ⊢
    rw [ih]
theorem flat_lenN {α : Type} {f : Nat → List α} : ∀ {l : List Nat} {i k m : Nat}, l[i]? = some k → ((l.take i).flatMap f ++ (f k).take m).length ≤ (l.flatMap f).length
  | [], _, _, _, h => by simp at h
  | x :: l, 0, k, m, h => by
    simp at h; subst h
    simp only [List.take_zero, List.flatMap_nil, List.nil_append, List.flatMap_cons, List.length_append, List.length_take]
    omega
  | x :: l, i + 1, k, m, h => by
    have ih := flat_lenN (f := f) (l := l) (i := i) (k := k) (m := m) (by simpa using h)
    simp only [List.take_succ_cons, List.flatMap_cons, List.append_assoc, List.length_append] at ih ⊢
    omega
theorem take_next {α : Type} {l : List α} {i : Nat} {x : α} (h : l[i]? = some x) : l.take (i + 1) = l.take i ++ [x] := by
  obtain ⟨hk, e⟩ := List.getElem?_eq_some_iff.1 h
  rw [List.take_succ_eq_append_getElem hk, e]
theorem count_next {l : List Nat} {i x q : Nat} (h : l[i]? = some x) : (l.take (i + 1)).count q = (l.take i).count q + (if x = q then 1 else 0) := by
  rw [take_next h, List.count_append, List.count_singleton]
  simp
end Go.Proofs.YteefneelcgeioaaGreatDoor
