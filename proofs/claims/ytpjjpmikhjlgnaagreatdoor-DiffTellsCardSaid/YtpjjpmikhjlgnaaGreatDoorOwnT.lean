/-
  A tree in memory of its own: each list of kids in a row that nothing else of the tree shares; kids below a block, each list with its room told. Conditions: those that each states.
-/
import Derived.Test.YtpjjpmikhjlgnaaGreatDoorSen
import Derived.Test.YtpjjpmikhjlgnaaGreatDoorLists
import Derived.OneCell
namespace Go.Proofs.YtpjjpmikhjlgnaaGreatDoor
open Go.RowKit

theorem row_alloc' (w : World) (c : Array Value) (t : TypeId) : (w.alloc (.cells c t)).heap[w.heap.size]? = some (.cells c t (0, 0)) := by
  show (w.heap.push _)[w.heap.size]? = _
  simp
theorem free_of_row {w : World} {b : Nat} {c : Array Value} {t : TypeId} (h : w.heap[b]? = some (.cells c t (0, 0))) (i : Nat) : w.frozen? ⟨b, i, none⟩ = false := by simp [World.frozen?, h]
theorem ownsRow_ext' {w w' : World} {base : Nat} {e : TypeId} {size : Nat} {v : Value} {n : Nat} {xs : List Value} (h : w.ownsRow base e size v n xs) (hb : ∀ k, v.ownBlock = some k → w'.heap[k]? = w.heap[k]?) : w'.ownsRow base e size v n xs := by
  obtain ⟨h1, h2⟩ := h
  refine ⟨h1, ?_⟩
  rcases h2 with h2 | ⟨g, cap, cur, hv, hg, hh, r⟩
  · exact .inl h2
  · subst hv
    exact .inr ⟨g, cap, cur, rfl, hg, by rw [hb g rfl]; exact hh, r⟩
/-- Kids in memory of their own, in blocks of Q. -/
def OwnT (w : World) : (Nat → Prop) → Nat → List (ByteArray × Tree) → Value → Prop
  | _, 0, _, _ => False
  | Q, d + 1, l, v => l.length ≤ 1759218604390 ∧ (∀ x ∈ l, x.1.size ≤ 140737488355328) ∧ ∃ (us : List Value) (Qs : Nat → Nat → Prop), us.length = l.length ∧ w.ownsRow 0 65 5 v l.length (kidCells l us) ∧ (∀ g, v.ownBlock = some g → Q g) ∧
      (∀ i x u, l[i]? = some x → us[i]? = some u → OwnT w (Qs i) d x.2.kids u) ∧ (∀ i b, Qs i b → Q b ∧ v.ownBlock ≠ some b) ∧ ∀ i j b, i ≠ j → Qs i b → ¬ Qs j b
theorem OwnT.kept {w w' : World} : ∀ {d : Nat} {Q Q' : Nat → Prop} {l : List (ByteArray × Tree)} {v : Value}, (∀ k, Q k → w'.heap[k]? = w.heap[k]?) → (∀ k, Q k → Q' k) → OwnT w Q d l v → OwnT w' Q' d l v
  | 0, _, _, _, _, _, _, h => h
  | _ + 1, _, _, _, _, hb, hq, ⟨h1, h2, us, Qs, h3, h4, h5, h6, h7, h8⟩ =>
    ⟨h1, h2, us, Qs, h3, ownsRow_ext' h4 fun k hk => hb k (h5 k hk), fun g hg => hq g (h5 g hg), fun i x u hx hu => OwnT.kept (fun k hk => hb k (h7 i k hk).1) (fun _ hk => hk) (h6 i x u hx hu), fun i b hi => ⟨hq b (h7 i b hi).1, (h7 i b hi).2⟩, h8⟩
theorem OwnT.liesQ {w : World} : ∀ {d : Nat} {Q : Nat → Prop} {l : List (ByteArray × Tree)} {v : Value}, OwnT w Q d l v → LiesQ w Q d l v
  | 0, _, _, _, h => h
  | _ + 1, _, _, _, ⟨h1, h2, _, _, h3, h4, h5, h6, h7, _⟩ =>
    LiesQ.made h4 h1 h3 h5 h2 fun i x u hx hu => (OwnT.liesQ (h6 i x u hx hu)).kept (fun _ _ => rfl) fun k hk => (h7 i k hk).1
theorem OwnT.form {w : World} {Q : Nat → Prop} {d : Nat} {l : List (ByteArray × Tree)} {v : Value} (h : OwnT w Q d l v) : ∃ ad cap, v = .slice ad l.length cap := h.liesQ.form
theorem OwnT.up {w : World} : ∀ {d e : Nat} {Q : Nat → Prop} {l : List (ByteArray × Tree)} {v : Value}, d ≤ e → OwnT w Q d l v → OwnT w Q e l v
  | 0, _, _, _, _, _, h => h.elim
  | _ + 1, 0, _, _, _, h, _ => by omega
  | _ + 1, _ + 1, _, _, _, hd, ⟨h1, h2, us, Qs, h3, h4, h5, h6, h7, h8⟩ => ⟨h1, h2, us, Qs, h3, h4, h5, fun i x u hx hu => OwnT.up (by omega) (h6 i x u hx hu), h7, h8⟩
end Go.Proofs.YtpjjpmikhjlgnaaGreatDoor
namespace Go.Proofs.YtpjjpmikhjlgnaaGreatDoor
open Go.RowKit

def LiesC (w : World) (B : Nat) : Nat → List (ByteArray × Tree) → Value → Prop
  | 0, _, _ => False
  | d + 1, l, v => ∃ ad cap, v = .slice ad l.length cap ∧ l.length ≤ cap ∧ cap ≤ maxLen ∧ l.length ≤ 1759218604390 ∧ ∀ i x, l[i]? = some x → ∃ b off u, ad = some ⟨b, off, none⟩ ∧ b < B ∧ x.1.size ≤ 140737488355328 ∧
      w.cell? ⟨b, off + i * 5, none⟩ = some (.string x.1) ∧ w.cell? ⟨b, off + i * 5 + 1, none⟩ = some (.string x.2.kind) ∧ w.cell? ⟨b, off + i * 5 + 2, none⟩ = some (.string x.2.data) ∧
      w.cell? ⟨b, off + i * 5 + 3, none⟩ = some (.bool x.2.exec) ∧ w.cell? ⟨b, off + i * 5 + 4, none⟩ = some u ∧ LiesC w B d x.2.kids u
theorem LiesC.lies {w : World} {B : Nat} : ∀ {d : Nat} {l : List (ByteArray × Tree)} {v : Value}, LiesC w B d l v → Lies w B d l v
  | 0, _, _, h => h
  | d + 1, l, v, ⟨ad, cap, e, _, _, hlen, hk⟩ => ⟨ad, cap, e, hlen, fun i x hx => by
    obtain ⟨b, off, u, e, h1, h2, h3, h4, h5, h6, h7, h8⟩ := hk i x hx
    exact ⟨b, off, u, e, h1, h2, h3, h4, h5, h6, h7, LiesC.lies h8⟩⟩
theorem LiesC.kept {w w' : World} {B : Nat} (hb : ∀ k, k < B → w'.heap[k]? = w.heap[k]?) : ∀ {d : Nat} {l : List (ByteArray × Tree)} {v : Value}, LiesC w B d l v → LiesC w' B d l v
  | 0, _, _, h => h
  | d + 1, l, v, ⟨ad, cap, e, hc, hm, hlen, hk⟩ => ⟨ad, cap, e, hc, hm, hlen, fun i x hx => by
    obtain ⟨b, off, u, e, h1, h2, h3, h4, h5, h6, h7, h8⟩ := hk i x hx
    have hc : ∀ o, w'.cell? ⟨b, o, none⟩ = w.cell? ⟨b, o, none⟩ := fun o => World.cell?_of_block (hb b h1)
    exact ⟨b, off, u, e, h1, h2, by rw [hc]; exact h3, by rw [hc]; exact h4, by rw [hc]; exact h5, by rw [hc]; exact h6, by rw [hc]; exact h7, LiesC.kept hb h8⟩⟩
theorem LiesC.below {w w' : World} {B d : Nat} {l : List (ByteArray × Tree)} {v : Value} (h : LiesC w B d l v) {C : Nat} (hb : Below C w w') (hC : B ≤ C) : LiesC w' B d l v := h.kept fun k hk => hb.block k (by omega)
theorem LiesC.up {w : World} {B B' : Nat} (hB : B ≤ B') : ∀ {d : Nat} {l : List (ByteArray × Tree)} {v : Value}, LiesC w B d l v → LiesC w B' d l v
  | 0, _, _, h => h
  | d + 1, l, v, ⟨ad, cap, e, hc, hm, hlen, hk⟩ => ⟨ad, cap, e, hc, hm, hlen, fun i x hx => by
    obtain ⟨b, off, u, e, h1, h2, h3, h4, h5, h6, h7, h8⟩ := hk i x hx
    exact ⟨b, off, u, e, by omega, h2, h3, h4, h5, h6, h7, LiesC.up hB h8⟩⟩
/-- One ahead of the rest. -/
theorem LiesC.cons {w : World} {B d : Nat} {x : ByteArray × Tree} {r : List (ByteArray × Tree)} {v : Value} (h : LiesC w B (d + 1) (x :: r) v) : ∃ b off cap u, v = .slice (some ⟨b, off, none⟩) (r.length + 1) cap ∧ r.length + 1 ≤ cap ∧ cap ≤ maxLen ∧ b < B ∧ r.length + 1 ≤ 1759218604390 ∧
    w.cell? ⟨b, off, none⟩ = some (.string x.1) ∧ w.cell? ⟨b, off + 1, none⟩ = some (.string x.2.kind) ∧ w.cell? ⟨b, off + 2, none⟩ = some (.string x.2.data) ∧ w.cell? ⟨b, off + 3, none⟩ = some (.bool x.2.exec) ∧ w.cell? ⟨b, off + 4, none⟩ = some u ∧ LiesC w B d x.2.kids u ∧
    (cap = 1 → LiesC w B (d + 1) r (.slice (some ⟨b, off, none⟩) r.length (cap - 1))) ∧ LiesC w B (d + 1) r (.slice (some ⟨b, off + 5, none⟩) r.length (cap - 1)) := by
  obtain ⟨ad, cap, e, hc, hm, hlen, hk⟩ := h
  obtain ⟨b, off, u, rfl, h1, h2, h3, h4, h5, h6, h7, h8⟩ := hk 0 x rfl
  simp only [Nat.zero_mul, Nat.add_zero] at h3 h4 h5 h6 h7
  simp only [List.length_cons] at hc hlen e
  have hcap : cap = 1 → r = [] := fun e1 => by
    cases r with
    | nil => rfl
    | cons y r => simp only [List.length_cons] at hc; omega
  refine ⟨b, off, cap, u, e, hc, hm, h1, hlen, h3, h4, h5, h6, h7, h8, fun e1 => ?_, ?_⟩
  · rw [hcap e1]
    exact ⟨_, _, rfl, by simp, by omega, by simp, fun i x hx => by simp at hx⟩
  · refine ⟨_, _, rfl, by omega, by omega, by omega, fun i y hy => ?_⟩
    obtain ⟨b', off', u', e', g1, g2, g3, g4, g5, g6, g7, g8⟩ := hk (i + 1) y hy
    simp only [Option.some.injEq, Addr.mk.injEq, and_true] at e'
    obtain ⟨rfl, rfl⟩ := e'
    have ea : ∀ j, off + (i + 1) * 5 + j = off + 5 + i * 5 + j := fun j => by omega
    have e0 : off + (i + 1) * 5 = off + 5 + i * 5 := by omega
    rw [ea] at g4 g5 g6 g7
    rw [e0] at g3
    exact ⟨b, off + 5, u', rfl, g1, g2, g3, g4, g5, g6, g7, g8⟩
theorem LiesC.nil {w : World} {B d : Nat} {v : Value} (h : LiesC w B (d + 1) [] v) : ∃ ad cap, v = .slice ad 0 cap := by
  obtain ⟨ad, cap, e, _⟩ := h
  exact ⟨ad, cap, e⟩
theorem LiesC.form {w : World} {B : Nat} {d : Nat} {l : List (ByteArray × Tree)} {v : Value} (h : LiesC w B d l v) : ∃ ad cap, v = .slice ad l.length cap := h.lies.form
/-- Memory of its own tells its room. -/
theorem OwnT.liesC {w : World} {B : Nat} : ∀ {d : Nat} {Q : Nat → Prop} {l : List (ByteArray × Tree)} {v : Value}, (∀ q, Q q → q < B) → OwnT w Q d l v → LiesC w B d l v
  | 0, _, _, _, _, h => h
  | d + 1, Q, l, v, hq, ⟨h1, h2, us, Qs, h3, h4, h5, h6, h7, _⟩ => by
    rcases h4.2 with ⟨rfl, h0⟩ | ⟨g, cap, cur, rfl, _, hg, hnc, hcm, hs, ht⟩
    · have : l = [] := List.eq_nil_of_length_eq_zero h0
      subst this
      exact ⟨none, 0, rfl, by simp, by unfold maxLen; omega, by simp, fun i x hx => by simp at hx⟩
    · refine ⟨_, cap, rfl, hnc, hcm, h1, fun i x hx => ?_⟩
      have hi : i < l.length := (List.getElem?_eq_some_iff.1 hx).1
      obtain ⟨u, hui⟩ : ∃ u, us[i]? = some u := ⟨us[i]'(by omega), List.getElem?_eq_getElem (by omega)⟩
      have hc := h4.cells (g := g) rfl
      have hadd : ∀ j, (⟨g, 0, none⟩ : Addr).add j = ⟨g, j, none⟩ := fun j => by unfold Addr.add; split <;> simp_all
      obtain ⟨k0, k1, k2, k3, k4⟩ := kidCells_at hx hui
      have c0 := hc _ _ k0
      have c1 := hc _ _ k1
      have c2 := hc _ _ k2
      have c3 := hc _ _ k3
      have c4 := hc _ _ k4
      rw [hadd] at c0 c1 c2 c3 c4
      exact ⟨g, 0, u, rfl, hq g (h5 g rfl), h2 x (List.mem_of_getElem? hx), by rw [Nat.zero_add]; exact c0, by rw [Nat.zero_add]; exact c1, by rw [Nat.zero_add]; exact c2, by rw [Nat.zero_add]; exact c3, by rw [Nat.zero_add]; exact c4, OwnT.liesC (fun q h => hq q (h7 i q h).1) (h6 i x u hx hui)⟩
end Go.Proofs.YtpjjpmikhjlgnaaGreatDoor
