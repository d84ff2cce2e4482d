/-
  What the walk of the law DirsLinks wants of acts, trees and files.
  Conditions: those that each states.
-/
import Derived.Test.YtcejpeohkgchdaaGreatDoorC40
import Derived.Deep.RegionHeld3
namespace Go.Proofs.YtcejpeohkgchdaaGreatDoor
open Go.RowKit Go.Maps

theorem TActsIn.below {w w' : World} {d : Nat} {l : List TAct} {v : Value} (h : TActsIn w d l v) (hb : Below w.heap.size w w') : TActsIn w' d l v := by
  obtain ⟨ad, cap, rfl, h1, h2⟩ := h
  refine ⟨ad, cap, rfl, h1, fun i c hc => ?_⟩
  obtain ⟨b, off, u, e, hlt, A⟩ := h2 i c hc
  exact ⟨b, off, u, e, Nat.lt_of_lt_of_le hlt hb.size, A.below hb hlt⟩
/-- An act of the list, in whatever world. -/
def ActIn (w : World) (ad : Option Addr) (i : Nat) (c : TAct) (ua : Option Addr) (uc : Nat) : Prop :=
  (Lit.int .i64 c.k).wf = true ∧ (Lit.int .i64 c.n).wf = true ∧ c.path.size ≤ 100 ∧ SmT 11 c.node ∧ Lies w w.heap.size 12 c.node.kids (.slice ua c.node.kids.length uc) ∧ ∃ b off, ad = some ⟨b, off, none⟩ ∧ ∀ W, Below w.heap.size w W → b < W.heap.size ∧ W.cell? ⟨b, off + i * 10, none⟩ = some (.string c.kind) ∧ W.cell? ⟨b, off + i * 10 + 1, none⟩ = some (.string c.path) ∧ W.cell? ⟨b, off + i * 10 + 2, none⟩ = some (.string c.s) ∧ W.cell? ⟨b, off + i * 10 + 3, none⟩ = some (.string c.node.kind) ∧ W.cell? ⟨b, off + i * 10 + 4, none⟩ = some (.string c.node.data) ∧ W.cell? ⟨b, off + i * 10 + 5, none⟩ = some (.bool c.node.exec) ∧ W.cell? ⟨b, off + i * 10 + 6, none⟩ = some (.slice ua c.node.kids.length uc) ∧ W.cell? ⟨b, off + i * 10 + 7, none⟩ = some (.int .i64 c.k) ∧ W.cell? ⟨b, off + i * 10 + 8, none⟩ = some (.int .i64 c.n) ∧ W.cell? ⟨b, off + i * 10 + 9, none⟩ = some (.int .i64 c.bit)
theorem lies_levels {w : World} {B : Nat} : ∀ {n d : Nat} {t : Tree} {v : Value}, Fit n t → Lies w B d t.kids v → Lies w B n t.kids v
  | 0, _, _, _, h, _ => h.elim
  | _ + 1, 0, _, _, _, h => h.elim
  | n + 1, d + 1, t, v, hf, ⟨ad, cap, e, hlen, hk⟩ => ⟨ad, cap, e, hlen, fun i x hx => by
    obtain ⟨b, off, u, e, h1, h2, h3, h4, h5, h6, h7, h8⟩ := hk i x hx
    exact ⟨b, off, u, e, h1, h2, h3, h4, h5, h6, h7, lies_levels (hf x (List.mem_of_getElem? hx)) h8⟩⟩
theorem acts_in {w : World} {n cap : Nat} {l : List TAct} {ad : Option Addr} (h : TActsIn w n l (.slice ad l.length cap)) (hs : ShortT l) {i : Nat} {c : TAct} (hc : l[i]? = some c) : ∃ ua uc, ActIn w ad i c ua uc := by
  obtain ⟨ad', cap', e0, h1, h2⟩ := h
  simp only [Value.slice.injEq] at e0
  obtain ⟨rfl, _, rfl⟩ := e0
  obtain ⟨b, off, u, e, hb, A⟩ := h2 i c hc
  obtain ⟨hL, hp, _⟩ := hs.2 c (List.mem_of_getElem? hc)
  obtain ⟨ua, uc, rfl⟩ := A.lies.form
  obtain ⟨_, _, _, k1, k2, _⟩ := h1 c (List.mem_of_getElem? hc)
  have sm : SmT 11 c.node := SmT.of A.lies.fit hL (Nat.le_refl _)
  refine ⟨ua, uc, k1, k2, hp, sm, lies_levels sm.fit A.lies, b, off, e, fun W hW => ?_⟩
  have B := A.below hW hb
  exact ⟨Nat.lt_of_lt_of_le hb hW.size, B.kind, B.path, B.s, B.nkind, B.ndata, B.nexec, B.nkids, B.k, B.n, B.bit⟩
theorem OwnI.at {w : World} {B : Nat} {v : Value} {l : List Nat} (h : OwnI w B v l) {i k : Nat} (hk : l[i]? = some k) : ∃ g cp, v = .slice (some ⟨g, 0, none⟩) l.length cp ∧ B ≤ g ∧ g < w.heap.size ∧ w.cell? ⟨g, i, none⟩ = some (.int .i64 (k : Int)) := by
  have h' : w.ownsRow B 3 1 v l.length ((ints l).map (Value.int .i64)) := h
  have hi := (List.getElem?_eq_some_iff.1 hk).1
  rcases h'.2 with ⟨_, e0⟩ | ⟨g, cp, cur, e, _⟩
  · omega
  · have hcs := h'.cells (g := g) (by rw [e]; rfl)
    have c := hcs i (.int .i64 (k : Int)) (by unfold ints; rw [List.getElem?_map, List.getElem?_map, hk]; rfl)
    have hadd : ∀ j, (⟨g, 0, none⟩ : Addr).add j = ⟨g, j, none⟩ := fun j => by unfold Addr.add; split <;> simp_all
    rw [hadd] at c
    have hlt := h'.lt g (by rw [e]; rfl)
    exact ⟨g, cp, e, hlt.1, hlt.2, c⟩
theorem OwnI.below {w w' : World} {B : Nat} {v : Value} {l : List Nat} (h : OwnI w B v l) (hb : Below w.heap.size w w') : OwnI w' B v l := ownsRow_below (w := w) (e := 3) (size := 1) h hb
theorem OwnI.form {w : World} {B : Nat} {v : Value} {l : List Nat} (h : OwnI w B v l) : ∃ a c, v = .slice a l.length c := rowForm (w := w) (e := 3) (size := 1) h
theorem row_str {w : World} {B : Nat} {v : Value} {l : List ByteArray} (h : w.ownsRow B 9 1 v l.length (l.map Value.string)) {i : Nat} {p : ByteArray} (hk : l[i]? = some p) : ∃ g cp, v = .slice (some ⟨g, 0, none⟩) l.length cp ∧ w.cell? ⟨g, i, none⟩ = some (.string p) := by
  have hi := (List.getElem?_eq_some_iff.1 hk).1
  rcases h.2 with ⟨_, e0⟩ | ⟨g, cp, cur, e, _⟩
  · omega
  · have hcs := h.cells (g := g) (by rw [e]; rfl)
    have c := hcs i (.string p) (by rw [List.getElem?_map, hk]; rfl)
    have hadd : ∀ j, (⟨g, 0, none⟩ : Addr).add j = ⟨g, j, none⟩ := fun j => by unfold Addr.add; split <;> simp_all
    rw [hadd] at c
    exact ⟨g, cp, e, c⟩
theorem below_grow {B base size n : Nat} {e : TypeId} {w W W' : World} {v : Value} {xs : List Value} (hb : Below B w W) (hB : B ≤ w.heap.size) (h : W.ownsRow base e size v n xs) (hle : B ≤ base) (hg : W.grownBy W' v.ownBlock) : Below B w W' :=
  ⟨hg.os.trans hb.os, hg.tape.trans hb.tape, hg.output.trans hb.output, Nat.le_trans hb.size hg.size, fun k hk => by
    rw [← hb.block k hk]
    refine hg.block k (Nat.lt_of_lt_of_le (Nat.lt_of_lt_of_le hk hB) hb.size) fun e => ?_
    have := (h.lt k e.symm).1
    omega⟩
theorem row_apart {b1 b2 s1 s2 n1 n2 : Nat} {e1 e2 : TypeId} {W W' : World} {v1 v2 : Value} {x1 x2 : List Value} (h1 : W.ownsRow b1 e1 s1 v1 n1 x1) (h2 : W.ownsRow b2 e2 s2 v2 n2 x2) (hne : ¬ e1 = e2) (hg : W.grownBy W' v1.ownBlock) : W'.ownsRow b2 e2 s2 v2 n2 x2 := by
  refine ownsRow_ext' h2 fun k hk => ?_
  refine hg.block k (h2.lt k hk).2 fun e => ?_
  obtain ⟨c1, hc1⟩ := rowTyD h1 e.symm
  obtain ⟨c2, hc2⟩ := rowTyD h2 hk
  rw [hc1] at hc2
  simp only [Option.some.injEq, Obj.cells.injEq] at hc2
  exact hne hc2.2.1
/-- What the law asks of one tree. -/
def DlTree (d dp : Nat) (tr : List (Option NTree)) (np : Nat) (v : Value) (k : Nat) (W : World) : Prop :=
    ∃ (t : Tree) (g cp : Nat) (ua : Option Addr) (uc : Nat), v = .slice (some ⟨g, 0, none⟩) np cp ∧ k < np ∧ (pathsT (d + 1) t).length = (fsI tr k).length ∧
      (∀ W', Below W.heap.size W W' → (W'.cell? ⟨g, k * 4, none⟩ = some (.string t.kind) ∧ W'.cell? ⟨g, k * 4 + 1, none⟩ = some (.string t.data) ∧ W'.cell? ⟨g, k * 4 + 2, none⟩ = some (.bool t.exec) ∧ W'.cell? ⟨g, k * 4 + 3, none⟩ = some (.slice ua t.kids.length uc)) ∧
        Calls Tryz.prog 27 #[.pointer (some ⟨dp, 0, none⟩), .int .i64 (k : Int)] W' fun e w' => ∃ xa xc, e = .returned (.tuple #[.agg #[.string t.kind, .string t.data, .bool t.exec, .slice xa t.kids.length xc], .nilIface]) ∧ Below W'.heap.size W' w' ∧
          ∀ W2, Below w'.heap.size w' W2 → (Calls Tryz.prog 28 #[.agg #[.string t.kind, .string t.data, .bool t.exec, .slice xa t.kids.length xc], .agg #[.string t.kind, .string t.data, .bool t.exec, .slice ua t.kids.length uc]] W2 fun e w' => e = .returned (.bool true) ∧ Below W2.heap.size W2 w') ∧
            Calls Tryz.prog 29 #[.agg #[.string t.kind, .string t.data, .bool t.exec, .slice xa t.kids.length xc]] W2 fun e w' => ∃ v, e = .returned v ∧ w'.ownsRow W2.heap.size 9 1 v (pathsT (d + 1) t).length ((pathsT (d + 1) t).map Value.string) ∧ Below W2.heap.size W2 w') ∧
      ∀ (i2 : Nat) (p : ByteArray), (pathsT (d + 1) t)[i2]? = some p → ∃ q, (fsI tr k)[i2]? = some q ∧ ∀ W', Below W.heap.size W W' → Calls Tryz.prog 30 #[.pointer (some ⟨dp, 0, none⟩), .int .i64 (k : Int), .string p] W' fun e w' => e = .returned (.tuple #[.int .i64 (q : Int), .nilIface]) ∧ Below W'.heap.size W' w'
theorem dl_tree {a : Nat → Addr} {w0 W : World} {N d dp tb bb sp sb cap mb m1 m2 j : Nat} {s : TSt} {tr : List (Option NTree)} {pt : List Tree} {us : List Value} {v : Value} (E : DSn a w0) (S : DSt w0 N d dp tb bb sp sb cap mb m1 m2 j s tr pt W) (L : DlAt w0 N d dp tb bb sp sb cap mb m1 m2 j pt pt us v W) (hd : d ≤ 900) (hj : j ≤ 900) {i k : Nat} (hk : (allN tr)[i]? = some k) : DlTree d dp tr pt.length v k W := by
  obtain ⟨x, hx⟩ := allN_mem.1 (List.mem_of_getElem? hk)
  obtain ⟨t, ht, hw, hf, hxt, hfs⟩ := S.I.tree k x hx
  obtain ⟨g, cp, ua, uc, ev, hg, hc, hl⟩ := L.node ht
  have hsm := S.few.2 t (List.mem_of_getElem? ht)
  have hfk : fsI tr k = x.fs.map (·.2) := by unfold fsI; rw [hx]
  have hlen : x.fs.length = (filesT (d + 1) t).length := by have := congrArg List.length hfs; simpa using this
  refine ⟨t, g, cp, ua, uc, ev, (List.getElem?_eq_some_iff.1 ht).1, by rw [hfk]; unfold pathsT; rw [List.length_map, List.length_map, hlen], fun W' hW' => ⟨?_, ?_⟩, fun i2 p hp => ?_⟩
  · have hcc : ∀ o, W'.cell? ⟨g, o, none⟩ = W.cell? ⟨g, o, none⟩ := fun o => hW'.cell (p := ⟨g, o, none⟩) hg
    exact ⟨(hcc _).trans hc.1, (hcc _).trans hc.2.1, (hcc _).trans hc.2.2.1, (hcc _).trans hc.2.2.2⟩
  · refine (ds_get E (S.below hW') hd (by omega) hx ht).mono ?_
    rintro e w' ⟨xa, xc, he, hl', hb⟩
    refine ⟨xa, xc, he, hb, fun W2 hW2 => ?_⟩
    have b2 : Below W.heap.size W W2 := hW'.trans ((hb.trans (hW2.mono hb.size)).mono hW'.size)
    have l2 := (hl'.below hW2 (Nat.le_refl _)).up hW2.size (Nat.le_refl _)
    have hW := S.low.size
    have l3 := (hl.below b2 (by omega)).up (B' := W2.heap.size) (by have := b2.size; omega) (Nat.le_refl _)
    exact ⟨ds_same l2 l3, ds_files (E.P.below (S.low.trans (b2.mono hW))) hw hsm l2⟩
  · obtain ⟨q, hq, _⟩ := S.I.ino hx ht hp
    refine ⟨q, by rw [hfk]; exact hq, fun W' hW' => ?_⟩
    obtain ⟨q', hq', h⟩ := ds_inode E (S.below hW') hd (by omega) hx ht hp
    rw [hq] at hq'
    cases hq'
    exact h
theorem links_len {w0 W : World} {N d dp tb bb sp sb cap mb m1 m2 j : Nat} {s : TSt} {tr : List (Option NTree)} {pt : List Tree} (S : DSt w0 N d dp tb bb sp sb cap mb m1 m2 j s tr pt W) (hj : j ≤ 900) : ((allN tr).flatMap (fsI tr)).length ≤ 40000 := by
  rw [links_tr, ← refs_tr S.I.len (D := d + 1) fun k x t h1 h2 => ?_]
  · rw [List.length_map]; exact S.refs (by omega)
  · obtain ⟨t', ht', _, _, _, hfs⟩ := S.I.tree k x (by rw [ntI_nat, h1]; rfl)
    rw [h2] at ht'
    cases ht'
    have := congrArg List.length hfs
    simpa using this
theorem flat_takeN {α : Type} {f : Nat → List α} : ∀ {l : List Nat} {i k : Nat}, l[i]? = some k → (l.take (i + 1)).flatMap f = (l.take i).flatMap f ++ f k
  | [], _, _, h => by simp at h
  | x :: l, 0, k, h => by simp at h; subst h; simp
  | x :: l, i + 1, k, h => by
    have ih := flat_takeN (f := f) (l := l) (i := i) (k := k) (by simpa using h)
    simp only [List.take_succ_cons, List.flatMap_cons, List.append_assoc] at ih ⊢
    rw [ih]
theorem flat_lenN {α : Type} {f : Nat → List α} : ∀ {l : List Nat} {i k m : Nat}, l[i]? = some k → ((l.take i).flatMap f ++ (f k).take m).length ≤ (l.flatMap f).length
  | [], _, _, _, h => by simp at h
  | x :: l, 0, k, m, h => by
    simp at h; subst h
    simp only [List.take_zero, List.flatMap_nil, List.nil_append, List.flatMap_cons, List.length_append, List.length_take]
    omega
  | x :: l, i + 1, k, m, h => by
    have ih := flat_lenN (f := f) (l := l) (i := i) (k := k) (m := m) (by simpa using h)
    simp only [List.take_succ_cons, List.flatMap_cons, List.append_assoc, List.length_append] at ih ⊢
    omega
theorem take_next {α : Type} {l : List α} {i : Nat} {x : α} (h : l[i]? = some x) : l.take (i + 1) = l.take i ++ [x] := by
  obtain ⟨hk, e⟩ := List.getElem?_eq_some_iff.1 h
  rw [List.take_succ_eq_append_getElem hk, e]
theorem count_next {l : List Nat} {i x q : Nat} (h : l[i]? = some x) : (l.take (i + 1)).count q = (l.take i).count q + (if x = q then 1 else 0) := by
  rw [take_next h, List.count_append, List.count_singleton]
  simp
end Go.Proofs.YtcejpeohkgchdaaGreatDoor
