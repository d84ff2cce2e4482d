/-
  A tree in memory of its own: each list of kids in a row that nothing else of the tree shares; kids below a block, each list with its room told.
  A tree in memory by its nodes' cells, each row of kids in a block of its own: what a function that is handed nodes by their places may change.
  The contracts of the functions of package tree that look at one node, or at one name.
  Conditions: those that each states.
-/
import Derived.Test.YteefneelcgeioaaGreatDoorH01
import Derived.Test.YteefneelcgeioaaGreatDoorH02
import Derived.OneCell
import Derived.Test.YteefneelcgeioaaGreatDoorProg
import Derived.WalkKit
import Derived.Handy
import Derived.Outline
import Derived.WalkLawsBesides
import Derived.WalkSpells
namespace Go.Proofs.YteefneelcgeioaaGreatDoor
open Go.RowKit

theorem row_alloc' (w : World) (c : Array Value) (t : TypeId) : (w.alloc (.cells c t)).heap[w.heap.size]? = some (.cells c t (0, 0)) := by
  show (w.heap.push _)[w.heap.size]? = _
  simp
theorem free_of_row {w : World} {b : Nat} {c : Array Value} {t : TypeId} (h : w.heap[b]? = some (.cells c t (0, 0))) (i : Nat) : w.frozen? ⟨b, i, none⟩ = false := by simp [World.frozen?, h]
theorem ownsRow_ext' {w w' : World} {base : Nat} {e : TypeId} {size : Nat} {v : Value} {n : Nat} {xs : List Value} (h : w.ownsRow base e size v n xs) (hb : ∀ k, v.ownBlock = some k → w'.heap[k]? = w.heap[k]?) : w'.ownsRow base e size v n xs := by
  obtain ⟨h1, h2⟩ := h
  refine ⟨h1, ?_⟩
  rcases h2 with h2 | ⟨g, cap, cur, hv, hg, hh, r⟩
  · exact .inl h2
  · subst hv
    exact .inr ⟨g, cap, cur, rfl, hg, by rw [hb g rfl]; exact hh, r⟩
/-- Kids in memory of their own, in blocks of Q. -/
def OwnT (w : World) : (Nat → Prop) → Nat → List (ByteArray × Tree) → Value → Prop
  | _, 0, _, _ => False
  | Q, d + 1, l, v => l.length ≤ 1759218604390 ∧ (∀ x ∈ l, x.1.size ≤ 140737488355328) ∧ ∃ (us : List Value) (Qs : Nat → Nat → Prop), us.length = l.length ∧ w.ownsRow 0 86 5 v l.length (kidCells l us) ∧ (∀ g, v.ownBlock = some g → Q g) ∧
      (∀ i x u, l[i]? = some x → us[i]? = some u → OwnT w (Qs i) d x.2.kids u) ∧ (∀ i b, Qs i b → Q b ∧ v.ownBlock ≠ some b) ∧ ∀ i j b, i ≠ j → Qs i b → ¬ Qs j b
theorem OwnT.kept {w w' : World} : ∀ {d : Nat} {Q Q' : Nat → Prop} {l : List (ByteArray × Tree)} {v : Value}, (∀ k, Q k → w'.heap[k]? = w.heap[k]?) → (∀ k, Q k → Q' k) → OwnT w Q d l v → OwnT w' Q' d l v
  | 0, _, _, _, _, _, _, h => h
  | _ + 1, _, _, _, _, hb, hq, ⟨h1, h2, us, Qs, h3, h4, h5, h6, h7, h8⟩ =>
    ⟨h1, h2, us, Qs, h3, ownsRow_ext' h4 fun k hk => hb k (h5 k hk), fun g hg => hq g (h5 g hg), fun i x u hx hu => OwnT.kept (fun k hk => hb k (h7 i k hk).1) (fun _ hk => hk) (h6 i x u hx hu), fun i b hi => ⟨hq b (h7 i b hi).1, (h7 i b hi).2⟩, h8⟩
theorem OwnT.liesQ {w : World} : ∀ {d : Nat} {Q : Nat → Prop} {l : List (ByteArray × Tree)} {v : Value}, OwnT w Q d l v → LiesQ w Q d l v
  | 0, _, _, _, h => h
  | _ + 1, _, _, _, ⟨h1, h2, _, _, h3, h4, h5, h6, h7, _⟩ =>
    LiesQ.made h4 h1 h3 h5 h2 fun i x u hx hu => (OwnT.liesQ (h6 i x u hx hu)).kept (fun _ _ => rfl) fun k hk => (h7 i k hk).1
theorem OwnT.form {w : World} {Q : Nat → Prop} {d : Nat} {l : List (ByteArray × Tree)} {v : Value} (h : OwnT w Q d l v) : ∃ ad cap, v = .slice ad l.length cap := h.liesQ.form
theorem OwnT.up {w : World} : ∀ {d e : Nat} {Q : Nat → Prop} {l : List (ByteArray × Tree)} {v : Value}, d ≤ e → OwnT w Q d l v → OwnT w Q e l v
  | 0, _, _, _, _, _, h => h.elim
  | _ + 1, 0, _, _, _, h, _ => by omega
  | _ + 1, _ + 1, _, _, _, hd, ⟨h1, h2, us, Qs, h3, h4, h5, h6, h7, h8⟩ => ⟨h1, h2, us, Qs, h3, h4, h5, fun i x u hx hu => OwnT.up (by omega) (h6 i x u hx hu), h7, h8⟩
end Go.Proofs.YteefneelcgeioaaGreatDoor
namespace Go.Proofs.YteefneelcgeioaaGreatDoor
open Go.RowKit

def LiesC (w : World) (B : Nat) : Nat → List (ByteArray × Tree) → Value → Prop
  | 0, _, _ => False
  | d + 1, l, v => ∃ ad cap, v = .slice ad l.length cap ∧ l.length ≤ cap ∧ cap ≤ maxLen ∧ l.length ≤ 1759218604390 ∧ ∀ i x, l[i]? = some x → ∃ b off u, ad = some ⟨b, off, none⟩ ∧ b < B ∧ x.1.size ≤ 140737488355328 ∧
      w.cell? ⟨b, off + i * 5, none⟩ = some (.string x.1) ∧ w.cell? ⟨b, off + i * 5 + 1, none⟩ = some (.string x.2.kind) ∧ w.cell? ⟨b, off + i * 5 + 2, none⟩ = some (.string x.2.data) ∧
      w.cell? ⟨b, off + i * 5 + 3, none⟩ = some (.bool x.2.exec) ∧ w.cell? ⟨b, off + i * 5 + 4, none⟩ = some u ∧ LiesC w B d x.2.kids u
theorem LiesC.lies {w : World} {B : Nat} : ∀ {d : Nat} {l : List (ByteArray × Tree)} {v : Value}, LiesC w B d l v → Lies w B d l v
  | 0, _, _, h => h
  | d + 1, l, v, ⟨ad, cap, e, _, _, hlen, hk⟩ => ⟨ad, cap, e, hlen, fun i x hx => by
    obtain ⟨b, off, u, e, h1, h2, h3, h4, h5, h6, h7, h8⟩ := hk i x hx
    exact ⟨b, off, u, e, h1, h2, h3, h4, h5, h6, h7, LiesC.lies h8⟩⟩
theorem LiesC.kept {w w' : World} {B : Nat} (hb : ∀ k, k < B → w'.heap[k]? = w.heap[k]?) : ∀ {d : Nat} {l : List (ByteArray × Tree)} {v : Value}, LiesC w B d l v → LiesC w' B d l v
  | 0, _, _, h => h
  | d + 1, l, v, ⟨ad, cap, e, hc, hm, hlen, hk⟩ => ⟨ad, cap, e, hc, hm, hlen, fun i x hx => by
    obtain ⟨b, off, u, e, h1, h2, h3, h4, h5, h6, h7, h8⟩ := hk i x hx
    have hc : ∀ o, w'.cell? ⟨b, o, none⟩ = w.cell? ⟨b, o, none⟩ := fun o => World.cell?_of_block (hb b h1)
    exact ⟨b, off, u, e, h1, h2, by rw [hc]; exact h3, by rw [hc]; exact h4, by rw [hc]; exact h5, by rw [hc]; exact h6, by rw [hc]; exact h7, LiesC.kept hb h8⟩⟩
theorem LiesC.below {w w' : World} {B d : Nat} {l : List (ByteArray × Tree)} {v : Value} (h : LiesC w B d l v) {C : Nat} (hb : Below C w w') (hC : B ≤ C) : LiesC w' B d l v := h.kept fun k hk => hb.block k (by omega)
theorem LiesC.up {w : World} {B B' : Nat} (hB : B ≤ B') : ∀ {d : Nat} {l : List (ByteArray × Tree)} {v : Value}, LiesC w B d l v → LiesC w B' d l v
  | 0, _, _, h => h
  | d + 1, l, v, ⟨ad, cap, e, hc, hm, hlen, hk⟩ => ⟨ad, cap, e, hc, hm, hlen, fun i x hx => by
    obtain ⟨b, off, u, e, h1, h2, h3, h4, h5, h6, h7, h8⟩ := hk i x hx
    exact ⟨b, off, u, e, by omega, h2, h3, h4, h5, h6, h7, LiesC.up hB h8⟩⟩
/-- One ahead of the rest. -/
theorem LiesC.cons {w : World} {B d : Nat} {x : ByteArray × Tree} {r : List (ByteArray × Tree)} {v : Value} (h : LiesC w B (d + 1) (x :: r) v) : ∃ b off cap u, v = .slice (some ⟨b, off, none⟩) (r.length + 1) cap ∧ r.length + 1 ≤ cap ∧ cap ≤ maxLen ∧ b < B ∧ r.length + 1 ≤ 1759218604390 ∧
    w.cell? ⟨b, off, none⟩ = some (.string x.1) ∧ w.cell? ⟨b, off + 1, none⟩ = some (.string x.2.kind) ∧ w.cell? ⟨b, off + 2, none⟩ = some (.string x.2.data) ∧ w.cell? ⟨b, off + 3, none⟩ = some (.bool x.2.exec) ∧ w.cell? ⟨b, off + 4, none⟩ = some u ∧ LiesC w B d x.2.kids u ∧
    (cap = 1 → LiesC w B (d + 1) r (.slice (some ⟨b, off, none⟩) r.length (cap - 1))) ∧ LiesC w B (d + 1) r (.slice (some ⟨b, off + 5, none⟩) r.length (cap - 1)) := by
  obtain ⟨ad, cap, e, hc, hm, hlen, hk⟩ := h
  obtain ⟨b, off, u, rfl, h1, h2, h3, h4, h5, h6, h7, h8⟩ := hk 0 x rfl
  simp only [Nat.zero_mul, Nat.add_zero] at h3 h4 h5 h6 h7
  simp only [List.length_cons] at hc hlen e
  have hcap : cap = 1 → r = [] := fun e1 => by
    cases r with
    | nil => rfl
    | cons y r => simp only [List.length_cons] at hc; omega
  refine ⟨b, off, cap, u, e, hc, hm, h1, hlen, h3, h4, h5, h6, h7, h8, fun e1 => ?_, ?_⟩
  · rw [hcap e1]
    exact ⟨_, _, rfl, by simp, by omega, by simp, fun i x hx => by simp at hx⟩
  · refine ⟨_, _, rfl, by omega, by omega, by omega, fun i y hy => ?_⟩
    obtain ⟨b', off', u', e', g1, g2, g3, g4, g5, g6, g7, g8⟩ := hk (i + 1) y hy
    simp only [Option.some.injEq, Addr.mk.injEq, and_true] at e'
    obtain ⟨rfl, rfl⟩ := e'
    have ea : ∀ j, off + (i + 1) * 5 + j = off + 5 + i * 5 + j := fun j => by omega
    have e0 : off + (i + 1) * 5 = off + 5 + i * 5 := by omega
    rw [ea] at g4 g5 g6 g7
    rw [e0] at g3
    exact ⟨b, off + 5, u', rfl, g1, g2, g3, g4, g5, g6, g7, g8⟩
theorem LiesC.nil {w : World} {B d : Nat} {v : Value} (h : LiesC w B (d + 1) [] v) : ∃ ad cap, v = .slice ad 0 cap := by
  obtain ⟨ad, cap, e, _⟩ := h
  exact ⟨ad, cap, e⟩
theorem LiesC.form {w : World} {B : Nat} {d : Nat} {l : List (ByteArray × Tree)} {v : Value} (h : LiesC w B d l v) : ∃ ad cap, v = .slice ad l.length cap := h.lies.form
/-- Memory of its own tells its room. -/
theorem OwnT.liesC {w : World} {B : Nat} : ∀ {d : Nat} {Q : Nat → Prop} {l : List (ByteArray × Tree)} {v : Value}, (∀ q, Q q → q < B) → OwnT w Q d l v → LiesC w B d l v
  | 0, _, _, _, _, h => h
  | d + 1, Q, l, v, hq, ⟨h1, h2, us, Qs, h3, h4, h5, h6, h7, _⟩ => by
    rcases h4.2 with ⟨rfl, h0⟩ | ⟨g, cap, cur, rfl, _, hg, hnc, hcm, hs, ht⟩
    · have : l = [] := List.eq_nil_of_length_eq_zero h0
      subst this
      exact ⟨none, 0, rfl, by simp, by unfold maxLen; omega, by simp, fun i x hx => by simp at hx⟩
    · refine ⟨_, cap, rfl, hnc, hcm, h1, fun i x hx => ?_⟩
      have hi : i < l.length := (List.getElem?_eq_some_iff.1 hx).1
      obtain ⟨u, hui⟩ : ∃ u, us[i]? = some u := ⟨us[i]'(by omega), List.getElem?_eq_getElem (by omega)⟩
      have hc := h4.cells (g := g) rfl
      have hadd : ∀ j, (⟨g, 0, none⟩ : Addr).add j = ⟨g, j, none⟩ := fun j => by unfold Addr.add; split <;> simp_all
      obtain ⟨k0, k1, k2, k3, k4⟩ := kidCells_at hx hui
      have c0 := hc _ _ k0
      have c1 := hc _ _ k1
      have c2 := hc _ _ k2
      have c3 := hc _ _ k3
      have c4 := hc _ _ k4
      rw [hadd] at c0 c1 c2 c3 c4
      exact ⟨g, 0, u, rfl, hq g (h5 g rfl), h2 x (List.mem_of_getElem? hx), by rw [Nat.zero_add]; exact c0, by rw [Nat.zero_add]; exact c1, by rw [Nat.zero_add]; exact c2, by rw [Nat.zero_add]; exact c3, by rw [Nat.zero_add]; exact c4, OwnT.liesC (fun q h => hq q (h7 i q h).1) (h6 i x u hx hui)⟩
end Go.Proofs.YteefneelcgeioaaGreatDoor
namespace Go.Proofs.YteefneelcgeioaaGreatDoor
open Go.RowKit

/-- A node's four cells. -/
structure NodeC (w : World) (b o : Nat) (t : Tree) (u : Value) : Prop where
  kind : w.cell? ⟨b, o, none⟩ = some (.string t.kind)
  data : w.cell? ⟨b, o + 1, none⟩ = some (.string t.data)
  exec : w.cell? ⟨b, o + 2, none⟩ = some (.bool t.exec)
  kids : w.cell? ⟨b, o + 3, none⟩ = some u
theorem NodeC.same {w w' : World} {b o : Nat} {t : Tree} {u : Value} (h : NodeC w b o t u) (hc : ∀ j, o ≤ j → j < o + 4 → w'.cell? ⟨b, j, none⟩ = w.cell? ⟨b, j, none⟩) : NodeC w' b o t u :=
  ⟨by rw [hc o (by omega) (by omega)]; exact h.kind, by rw [hc (o + 1) (by omega) (by omega)]; exact h.data, by rw [hc (o + 2) (by omega) (by omega)]; exact h.exec, by rw [hc (o + 3) (by omega) (by omega)]; exact h.kids⟩
/-- A block that nodes lie in. -/
def RowT (w : World) (b : Nat) (cur : Array Value) : Prop := w.heap[b]? = some (.cells cur 32 (0, 0)) ∨ w.heap[b]? = some (.cells cur 86 (0, 0))
def trTy : Obj → Bool
  | .cells _ t _ => t == 32 || t == 86
  | _ => false
/-- A node at a place, and all below it in blocks of Q. -/
def TreeIn (w : World) : (Nat → Prop) → Nat → Nat → Nat → Tree → Prop
  | _, 0, _, _, _ => False
  | Q, d + 1, b, o, t => ∃ ad cap, NodeC w b o t (.slice ad t.kids.length cap) ∧ t.kids.length ≤ 1759218604390 ∧ t.kids.length ≤ cap ∧ (t.kids ≠ [] → ∃ (g : Nat) (cur : Array Value) (Qs : Nat → Nat → Prop), ad = some ⟨g, 0, none⟩ ∧ Q g ∧ w.heap[g]? = some (.cells cur 86 (0, 0)) ∧ t.kids.length * 5 ≤ cur.size ∧
      (∀ i x, t.kids[i]? = some x → x.1.size ≤ 140737488355328 ∧ w.cell? ⟨g, i * 5, none⟩ = some (.string x.1) ∧ TreeIn w (Qs i) d g (i * 5 + 1) x.2) ∧ (∀ i k, Qs i k → Q k ∧ k ≠ g) ∧ ∀ i j k, i ≠ j → Qs i k → ¬ Qs j k)
theorem TreeIn.kept {w w' : World} : ∀ {d : Nat} {Q Q' : Nat → Prop} {b o : Nat} {t : Tree}, TreeIn w Q d b o t → (∀ k cur, Q k → w.heap[k]? = some (.cells cur 86 (0, 0)) → w'.heap[k]? = some (.cells cur 86 (0, 0))) → (∀ j, o ≤ j → j < o + 4 → w'.cell? ⟨b, j, none⟩ = w.cell? ⟨b, j, none⟩) → (∀ k, Q k → Q' k) → TreeIn w' Q' d b o t
  | 0, _, _, _, _, _, h, _, _, _ => h
  | d + 1, Q, Q', b, o, t, ⟨ad, cap, hn, hl, hlc, hk⟩, hq, hc, hqq => ⟨ad, cap, hn.same hc, hl, hlc, fun hne => by
    obtain ⟨g, cur, Qs, e, hg, hr, hs, hi, hsub, hdis⟩ := hk hne
    have hr' := hq g cur hg hr
    have hcell : ∀ j, w'.cell? ⟨g, j, none⟩ = w.cell? ⟨g, j, none⟩ := fun j => World.cell?_of_block (by rw [hr, hr'])
    refine ⟨g, cur, Qs, e, hqq g hg, hr', hs, fun i x hx => ?_, fun i k h => ⟨hqq k (hsub i k h).1, (hsub i k h).2⟩, hdis⟩
    obtain ⟨h1, h2, h3⟩ := hi i x hx
    exact ⟨h1, by rw [hcell]; exact h2, TreeIn.kept h3 (fun k cur hk hr => hq k cur (hsub i k hk).1 hr) (fun j _ _ => hcell j) (fun _ h => h)⟩⟩
/-- A tree in memory of its own, with its top at a place. -/
theorem TreeIn.of_own {w : World} : ∀ {d : Nat} {Q : Nat → Prop} {b o : Nat} {t : Tree} {u : Value}, OwnT w Q d t.kids u → NodeC w b o t u → TreeIn w Q d b o t
  | 0, _, _, _, _, _, h, _ => h
  | d + 1, Q, b, o, t, u, ⟨h1, h2, us, Qs, h3, h4, h5, h6, h7, h8⟩, hn => by
    rcases h4.2 with ⟨rfl, h0⟩ | ⟨g, cap, cur, rfl, _, hr, hlc, _, hsz, _⟩
    · exact ⟨none, 0, by rw [h0]; exact hn, h1, by omega, fun hne => absurd (List.eq_nil_of_length_eq_zero h0) hne⟩
    · refine ⟨some ⟨g, 0, none⟩, cap, hn, h1, hlc, fun _ => ⟨g, cur, Qs, rfl, h5 g rfl, hr, by rw [hsz]; exact Nat.mul_le_mul_right _ hlc, fun i x hx => ?_, fun i k hk => ⟨(h7 i k hk).1, fun e => (h7 i k hk).2 (by rw [e]; rfl)⟩, h8⟩⟩
      have hi := (List.getElem?_eq_some_iff.1 hx).1
      obtain ⟨uu, hu⟩ : ∃ uu, us[i]? = some uu := ⟨_, List.getElem?_eq_getElem (by rw [h3]; exact hi)⟩
      have hc := h4.cells (g := g) rfl
      have hadd : ∀ j, (⟨g, 0, none⟩ : Addr).add j = ⟨g, j, none⟩ := fun j => by unfold Addr.add; split <;> simp_all
      obtain ⟨a0, a1, a2, a3, a4⟩ := kidCells_at hx hu
      have c0 := hc _ _ a0
      have c1 := hc _ _ a1
      have c2 := hc _ _ a2
      have c3 := hc _ _ a3
      have c4 := hc _ _ a4
      rw [hadd] at c0 c1 c2 c3 c4
      exact ⟨h2 x (List.mem_of_getElem? hx), c0, TreeIn.of_own (h6 i x uu hx hu) ⟨c1, c2, c3, c4⟩⟩
/-- .. it lies. -/
theorem TreeIn.lies {w : World} {B : Nat} : ∀ {d : Nat} {Q : Nat → Prop} {b o : Nat} {t : Tree}, TreeIn w Q d b o t → (∀ k, Q k → k < B) → ∃ u, NodeC w b o t u ∧ Lies w B d t.kids u
  | 0, _, _, _, _, h, _ => h.elim
  | d + 1, Q, b, o, t, ⟨ad, cap, hn, hl, hlc, hk⟩, hB => by
    refine ⟨_, hn, ad, cap, rfl, hl, fun i x hx => ?_⟩
    obtain ⟨g, cur, Qs, e, hg, hr, hs, hi, hsub, hdis⟩ := hk (fun h0 => by rw [h0] at hx; simp at hx)
    obtain ⟨h1, h2, h3⟩ := hi i x hx
    obtain ⟨u, hc, hl3⟩ := TreeIn.lies h3 (fun k hk => hB k (hsub i k hk).1)
    refine ⟨g, 0, u, e, hB g hg, h1, ?_⟩
    simp only [Nat.zero_add]
    exact ⟨h2, hc.kind, hc.data, hc.exec, hc.kids, hl3⟩
/-- What a visit of a node may change of nodes: its own four cells, and blocks of Q. -/
structure EFrame (Q : Nat → Prop) (b o : Nat) (w w' : World) : Prop where
  tre : ∀ k obj, w.heap[k]? = some obj → trTy obj = true → k ≠ b → ¬ Q k → w'.heap[k]? = some obj
  blk : ∀ cur ty, w.heap[b]? = some (.cells cur ty (0, 0)) → ∃ cur', w'.heap[b]? = some (.cells cur' ty (0, 0)) ∧ cur'.size = cur.size ∧ ∀ j, (j < o ∨ o + 4 ≤ j) → cur'[j]? = cur[j]?
theorem EFrame.refl (Q : Nat → Prop) (b o : Nat) (w : World) : EFrame Q b o w w := ⟨fun _ _ h _ _ _ => h, fun cur _ h => ⟨cur, h, rfl, fun _ _ => rfl⟩⟩
theorem EFrame.trans {Q : Nat → Prop} {b o : Nat} {w1 w2 w3 : World} (h : EFrame Q b o w1 w2) (h' : EFrame Q b o w2 w3) : EFrame Q b o w1 w3 :=
  ⟨fun k obj hk ht hb hq => h'.tre k obj (h.tre k obj hk ht hb hq) ht hb hq, fun cur ty hr => by
    obtain ⟨c1, r1, s1, e1⟩ := h.blk cur ty hr
    obtain ⟨c2, r2, s2, e2⟩ := h'.blk c1 ty r1
    exact ⟨c2, r2, s2.trans s1, fun j hj => (e2 j hj).trans (e1 j hj)⟩⟩
theorem EFrame.of_eq {Q : Nat → Prop} {b o : Nat} {w w' : World} (h : w'.heap = w.heap) : EFrame Q b o w w' := ⟨fun _ _ hk _ _ _ => by rw [h]; exact hk, fun cur _ hr => ⟨cur, by rw [h]; exact hr, rfl, fun _ _ => rfl⟩⟩
/-- A kid's visit, as one of its dir's. -/
theorem EFrame.kid {Q Q' : Nat → Prop} {b o g o' : Nat} {w w' : World} (h : EFrame Q' g o' w w') (hg : Q g) (hsub : ∀ k, Q' k → Q k) (hb : ¬ Q b) (hr : ∃ cur, RowT w b cur) : EFrame Q b o w w' := by
  obtain ⟨cur, hr⟩ := hr
  have hbg : b ≠ g := fun e => hb (by rw [e]; exact hg)
  refine ⟨fun k obj hk ht _ hq => h.tre k obj hk ht (fun e => hq (by rw [e]; exact hg)) (fun h' => hq (hsub k h')), fun c ty hc => ?_⟩
  refine ⟨c, h.tre b _ hc ?_ hbg (fun h' => hb (hsub b h')), rfl, fun _ _ => rfl⟩
  rcases hr with hr | hr <;> rw [hr] at hc <;> cases hc <;> rfl
theorem EFrame.cell {Q : Nat → Prop} {b o : Nat} {w w' : World} (h : EFrame Q b o w w') {cur : Array Value} {ty : TypeId} (hr : w.heap[b]? = some (.cells cur ty (0, 0))) {j : Nat} (hj : j < o ∨ o + 4 ≤ j) : w'.cell? ⟨b, j, none⟩ = w.cell? ⟨b, j, none⟩ := by
  obtain ⟨c1, r1, _, e1⟩ := h.blk cur ty hr
  rw [cell_of_row _ _ _ _ _ _ hr, cell_of_row _ _ _ _ _ _ r1, e1 j hj]
/-- The files of a tree, with their paths; the path of the top is handed in without its slash. -/
def topP (p : ByteArray) : ByteArray := if p.toList.isEmpty then slash else p
def filesL : Nat → ByteArray → Tree → List (ByteArray × Tree)
  | 0, _, _ => []
  | d + 1, p, t => if isFile t = true then [(topP p, t)] else t.kids.flatMap fun x => filesL d (p ++ slash ++ x.1) x.2
/-- .. each of them another one. -/
def mapL (g : ByteArray → Tree → Tree) : Nat → ByteArray → Tree → Tree
  | 0, _, t => t
  | d + 1, p, t => if isFile t = true then g (topP p) t else { t with kids := t.kids.map fun x => (x.1, mapL g d (p ++ slash ++ x.1) x.2) }
/-- Files have no kids, names are short. -/
def GoodT : Nat → Tree → Prop
  | 0, _ => True
  | d + 1, t => (isFile t = true → t.kids = []) ∧ ∀ x ∈ t.kids, x.1.size ≤ 12 ∧ GoodT d x.2
/-- Kids, of which the first j were visited. -/
def KidsAt (g : ByteArray → Tree → Tree) (d : Nat) (p : ByteArray) (ks : List (ByteArray × Tree)) (gb : Nat) (Qs : Nat → Nat → Prop) (j : Nat) (w : World) : Prop :=
  ∃ cur, w.heap[gb]? = some (.cells cur 86 (0, 0)) ∧ ks.length * 5 ≤ cur.size ∧ ∀ i x, ks[i]? = some x → x.1.size ≤ 140737488355328 ∧ w.cell? ⟨gb, i * 5, none⟩ = some (.string x.1) ∧ TreeIn w (Qs i) d gb (i * 5 + 1) (if i < j then mapL g d (p ++ slash ++ x.1) x.2 else x.2)
theorem KidsAt.drew {g : ByteArray → Tree → Tree} {d : Nat} {p : ByteArray} {ks : List (ByteArray × Tree)} {gb : Nat} {Qs : Nat → Nat → Prop} {j : Nat} {w : World} (K : KidsAt g d p ks gb Qs j w) : KidsAt g d p ks gb Qs j w.drew := by
  obtain ⟨cur, h1, h2, h3⟩ := K
  exact ⟨cur, h1, h2, fun i x hx => ⟨(h3 i x hx).1, (h3 i x hx).2.1, (h3 i x hx).2.2.kept (fun _ _ _ h => h) (fun _ _ _ => rfl) (fun _ h => h)⟩⟩
theorem KidsAt.next {g : ByteArray → Tree → Tree} {d : Nat} {p : ByteArray} {ks : List (ByteArray × Tree)} {gb : Nat} {Qs : Nat → Nat → Prop} {j : Nat} {w w' : World} {x : ByteArray × Tree} (K : KidsAt g d p ks gb Qs j w) (hx : ks[j]? = some x) (hT : TreeIn w' (Qs j) d gb (j * 5 + 1) (mapL g d (p ++ slash ++ x.1) x.2)) (hF : EFrame (Qs j) gb (j * 5 + 1) w w') (hsub : ∀ i k, Qs i k → k ≠ gb) (hdis : ∀ i j k, i ≠ j → Qs i k → ¬ Qs j k) : KidsAt g d p ks gb Qs (j + 1) w' := by
  obtain ⟨cur, h1, h2, h3⟩ := K
  obtain ⟨c1, r1, s1, _⟩ := hF.blk cur _ h1
  refine ⟨c1, r1, by rw [s1]; exact h2, fun i y hy => ?_⟩
  obtain ⟨a1, a2, a3⟩ := h3 i y hy
  refine ⟨a1, ?_, ?_⟩
  · rw [hF.cell h1 (j := i * 5) (by omega)]; exact a2
  · by_cases e : i = j
    · subst e
      rw [hx] at hy; cases hy
      rw [if_pos (by omega)]; exact hT
    · have e2 : (if i < j + 1 then mapL g d (p ++ slash ++ y.1) y.2 else y.2) = (if i < j then mapL g d (p ++ slash ++ y.1) y.2 else y.2) := by
        by_cases h : i < j
        · rw [if_pos h, if_pos (by omega)]
        · rw [if_neg h, if_neg (by omega)]
      rw [e2]
      exact a3.kept (fun k c hk hr => hF.tre k _ hr rfl (hsub i k hk) (hdis i j k e hk)) (fun q h1' h2' => hF.cell h1 (by omega)) (fun _ h => h)
theorem KidsAt.all {g : ByteArray → Tree → Tree} {d : Nat} {p : ByteArray} {t : Tree} {gb b o cap : Nat} {Q : Nat → Prop} {Qs : Nat → Nat → Prop} {w : World} (K : KidsAt g d p t.kids gb Qs t.kids.length w) (hn : NodeC w b o t (.slice (some ⟨gb, 0, none⟩) t.kids.length cap)) (hl : t.kids.length ≤ 1759218604390) (hlc : t.kids.length ≤ cap) (hg : Q gb) (hsub : ∀ i k, Qs i k → Q k ∧ k ≠ gb) (hdis : ∀ i j k, i ≠ j → Qs i k → ¬ Qs j k) (hf : isFile t = false) : TreeIn w Q (d + 1) b o (mapL g (d + 1) p t) := by
  have e : mapL g (d + 1) p t = { t with kids := t.kids.map fun x => (x.1, mapL g d (p ++ slash ++ x.1) x.2) } := by rw [mapL, if_neg (by rw [hf]; simp)]
  obtain ⟨cur, h1, h2, h3⟩ := K
  rw [e]
  refine ⟨some ⟨gb, 0, none⟩, cap, ?_, by simpa using hl, by simpa using hlc, fun _ => ⟨gb, cur, Qs, rfl, hg, h1, by simpa using h2, fun i y hy => ?_, hsub, hdis⟩⟩
  · simp only [List.length_map]
    exact ⟨hn.kind, hn.data, hn.exec, hn.kids⟩
  · simp only [List.getElem?_map, Option.map_eq_some_iff] at hy
    obtain ⟨x, hx, rfl⟩ := hy
    obtain ⟨a1, a2, a3⟩ := h3 i x hx
    rw [if_pos (List.getElem?_eq_some_iff.1 hx).1] at a3
    exact ⟨a1, a2, a3⟩
/-- The contract of a function that files are handed to: J: which ones are still to come. -/
structure EVisit (P : Program) (f : FuncId) (cp : Array Value) (tS : TypeId) (g : ByteArray → Tree → Tree) (J : List (ByteArray × Tree) → World → Prop) (E : Value → World → Prop) (B0 : Nat) : Prop where
  drew : ∀ r w, J r w → J r w.drew
  call : ∀ p t r w b o ad cap cur, J ((p, t) :: r) w → NodeC w b o t (.slice ad 0 cap) → RowT w b cur → o + 4 ≤ cur.size → isFile t = true → t.kids = [] → B0 ≤ b →
    Calls P f (#[.string p, .pointer (some ⟨b, o, none⟩)] ++ cp) w fun e w' => (e = .returned .nilIface ∧ J r w' ∧ (∃ ad' cap', NodeC w' b o (g p t) (.slice ad' 0 cap')) ∧ (g p t).kids = [] ∧ EFrame (fun _ => False) b o w w') ∨ (∃ er, e = .returned (.iface tS er) ∧ E (.iface tS er) w')
/-- What is left of an each. -/
def EPost (tS : TypeId) (Q : Nat → Prop) (d b o : Nat) (t' : Tree) (r : List (ByteArray × Tree)) (J : List (ByteArray × Tree) → World → Prop) (E : Value → World → Prop) (w : World) (e : Ending) (w' : World) : Prop :=
  (e = .returned .nilIface ∧ J r w' ∧ TreeIn w' Q d b o t' ∧ EFrame Q b o w w') ∨ (∃ er, e = .returned (.iface tS er) ∧ E (.iface tS er) w')
end Go.Proofs.YteefneelcgeioaaGreatDoor
namespace Go.Proofs.YteefneelcgeioaaGreatDoor
open Go.RowKit

theorem ret_bool {a b : Bool} (h : a = b) : Ending.returned (.bool a) = .returned (.bool b) := by rw [h]

set_option maxHeartbeats 1000000 in
theorem nameByte_any (c : Int) (w : World) : Calls Tryz.prog 99 #[.int .u8 c] w fun e w' => e = .returned (.bool (nb c)) ∧ w' = w := by
  go_enter Tryz.func99, Tryz.ntmps99
  go_wp2
  all_goals (go_ret; refine ⟨ret_bool ?_, rfl⟩)
  all_goals (unfold nb; rw [Bool.eq_iff_iff]; simp; try omega)

set_option maxHeartbeats 1000000 in
theorem name_any (s : ByteArray) (w : World) (hs : s.size ≤ maxLen) : Calls Tryz.prog 74 #[.string s] w fun e w' => e = .returned (.bool (nameB s)) ∧ w' = w := by
  unfold maxLen at hs
  by_cases hg : (1 ≤ s.size ∧ s.size ≤ 12) ∧ (s.toList == [46]) = false ∧ (s.toList == [46, 46]) = false
  · obtain ⟨⟨h1, h2⟩, h3, h4⟩ := hg
    have HE : Hid (nameB s = s.data.toList.all fun c => nb (c.toNat : Int)) := nameB_yes h1 h2 h3 h4
    go_enter Tryz.func74, Tryz.ntmps74
    go_wp2_with fail
    go_loop [22] (fun i => ∃ k : Nat, k ≤ s.size ∧ i = .int .i64 k ∧ (s.data.toList.take k).all (fun c => nb (c.toNat : Int)) = true) (fun i => s.size - (intOf i).toNat)
    case atStart => exact ⟨0, Nat.zero_le _, rfl, by simp⟩
    case round =>
      obtain ⟨k, hk, rfl, hall⟩ := hrel
      have HA : Hid ((s.data.toList.take k).all (fun c => nb (c.toNat : Int)) = true) := hall
      clear hall
      by_cases hlt : k < s.size
      · have HS := all_snoc (p := fun c => nb (c.toNat : Int)) s k hlt
        have HS : Hid _ := HS
        cases hc : nb (s[k].toNat : Int)
        · have HM : Hid (s.data.toList.all (fun c => nb (c.toNat : Int)) = false) := all_miss (p := fun c => nb (c.toNat : Int)) s k hlt hc
          go_wp2_with fail
          refine (nameByte_any _ _).mono ?_
          rintro e w' ⟨rfl, rfl⟩
          go_wp2_with fail
          go_ret
          exact ⟨ret_bool (by rw [HE.out, HM.out]), rfl⟩
        · have HC : Hid (nb (s[k].toNat : Int) = true) := hc
          go_wp2_with fail
          refine (nameByte_any _ _).mono ?_
          rintro e w' ⟨rfl, rfl⟩
          go_wp2_with fail
          go_round
          case rel => exact ⟨k + 1, by omega, by go_num, by rw [HS.out, HA.out]; exact HC.out⟩
          case measure => simp [intOf]; omega
      · have ek : k = s.size := by omega
        have HB : Hid (s.data.toList.all (fun c => nb (c.toNat : Int)) = true) := by
          have := HA.out
          rw [ek, all_whole] at this
          exact this
        clear ek
        go_wp2_with fail
        go_ret
        exact ⟨ret_bool (by rw [HE.out, HB.out]), rfl⟩
  · have HE : Hid (nameB s = false) := nameB_no hg
    go_enter Tryz.func74, Tryz.ntmps74
    go_wp2_with fail
    all_goals first
      | (go_ret; exact ⟨ret_bool HE.out.symm, rfl⟩)
      | (exfalso; apply hg; refine ⟨⟨by omega, by omega⟩, ?_, ?_⟩ <;> simp_all)
end Go.Proofs.YteefneelcgeioaaGreatDoor
