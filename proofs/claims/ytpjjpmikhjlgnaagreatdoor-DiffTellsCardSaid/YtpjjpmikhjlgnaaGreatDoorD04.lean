/-
  Lists of a tree's nodes, as the document's answer makes them: each node's kids right behind it, one node after the other. No program stands here.
  A tree in memory of its own: each list of kids in a row that nothing else of the tree shares; kids below a block, each list with its room told.
  The contract of the statements' own OwnNode: a copy of a node in memory of its own.
  Conditions: those that each states.
-/
import Derived.Test.YtpjjpmikhjlgnaaGreatDoorD02
import Derived.OneCell
import Derived.Test.YtpjjpmikhjlgnaaGreatDoorD03
import Derived.Deep.RegionHeld3
import Derived.Deep.DrawnRows
import Derived.Deep.AppendLies
import Derived.OwnWalk
import Derived.WalkSmall
namespace Go.Proofs.YtpjjpmikhjlgnaaGreatDoor
open Go.RowKit

def kidsOf (most : Nat) (x : ByteArray × Nat × Tree) : List (ByteArray × Nat × Tree) := (x.2.2.kids.take (most + 1)).map fun y => (x.1 ++ slash ++ y.1, x.2.1 + 1, y.2)
def grow (most deep : Nat) (l : List (ByteArray × Nat × Tree)) (i : Nat) : List (ByteArray × Nat × Tree) :=
  match l[i]? with
  | none => l
  | some x => if deep < x.2.1 then l else l.take (i + 1) ++ kidsOf most x ++ l.drop (i + 1)
def listTo (most deep : Nat) (l : List (ByteArray × Nat × Tree)) : Nat → List (ByteArray × Nat × Tree)
  | 0 => l
  | i + 1 => grow most deep (listTo most deep l i) i
def listOf (most deep : Nat) (t : Tree) : List (ByteArray × Nat × Tree) := listTo most deep [(ByteArray.empty, 0, t)] (most + 1)

theorem listTo_done {most deep : Nat} {l : List (ByteArray × Nat × Tree)} {i : Nat} (h : (listTo most deep l i).length ≤ i) : ∀ n, i ≤ n → listTo most deep l n = listTo most deep l i := by
  intro n hn
  induction n with
  | zero => have : i = 0 := by omega
            subst this; rfl
  | succ n ih =>
    rcases Nat.lt_or_ge n i with hlt | hge
    · have : i = n + 1 := by omega
      subst this; rfl
    · have e := ih hge
      show grow most deep (listTo most deep l n) n = _
      rw [e]
      unfold grow
      rw [List.getElem?_eq_none (by omega)]
theorem listTo_len {most deep : Nat} {l : List (ByteArray × Nat × Tree)} : ∀ i, (listTo most deep l i).length ≤ l.length + i * (most + 1)
  | 0 => by simp [listTo]
  | i + 1 => by
    have ih := listTo_len (most := most) (deep := deep) (l := l) i
    have e : (i + 1) * (most + 1) = i * (most + 1) + (most + 1) := by rw [Nat.add_mul]; omega
    show (grow most deep (listTo most deep l i) i).length ≤ _
    unfold grow
    split
    · omega
    · rename_i x hx
      split
      · omega
      · have hi : i < (listTo most deep l i).length := (List.getElem?_eq_some_iff.1 hx).1
        have hk : (kidsOf most x).length ≤ most + 1 := by unfold kidsOf; simp; omega
        simp only [List.length_append, List.length_take, List.length_drop]
        omega

/-- An item in memory: its cells, with its kids' slice. -/
def itCells : List ((ByteArray × Nat × Tree) × Value) → List Value
  | [] => []
  | x :: l => .string x.1.1 :: .int .i64 (x.1.2.1 : Int) :: .string x.1.2.2.kind :: .string x.1.2.2.data :: .bool x.1.2.2.exec :: x.2 :: itCells l
theorem itCells_append : ∀ (a b : List ((ByteArray × Nat × Tree) × Value)), itCells (a ++ b) = itCells a ++ itCells b
  | [], b => rfl
  | x :: a, b => by simp only [List.cons_append, itCells]; rw [itCells_append a b]
theorem itCells_length : ∀ (a : List ((ByteArray × Nat × Tree) × Value)), (itCells a).length = a.length * 6
  | [] => rfl
  | x :: a => by simp only [itCells, List.length_cons, itCells_length a]; omega
theorem itCells_at : ∀ {l : List ((ByteArray × Nat × Tree) × Value)} {i : Nat} {x : (ByteArray × Nat × Tree) × Value}, l[i]? = some x →
    (itCells l)[i * 6]? = some (.string x.1.1) ∧ (itCells l)[i * 6 + 1]? = some (.int .i64 (x.1.2.1 : Int)) ∧ (itCells l)[i * 6 + 2]? = some (.string x.1.2.2.kind) ∧ (itCells l)[i * 6 + 3]? = some (.string x.1.2.2.data) ∧ (itCells l)[i * 6 + 4]? = some (.bool x.1.2.2.exec) ∧ (itCells l)[i * 6 + 5]? = some x.2
  | [], i, x, h => by simp at h
  | y :: l, 0, x, h => by
    simp only [List.getElem?_cons_zero, Option.some.injEq] at h
    subst h
    exact ⟨rfl, rfl, rfl, rfl, rfl, rfl⟩
  | y :: l, i + 1, x, h => by
    simp only [List.getElem?_cons_succ] at h
    have := itCells_at h
    have e : ∀ k, (i + 1) * 6 + k = (i * 6 + k) + 1 + 1 + 1 + 1 + 1 + 1 := fun k => by omega
    simp only [itCells]
    refine ⟨?_, ?_, ?_, ?_, ?_, ?_⟩
    · rw [show (i + 1) * 6 = (i * 6) + 1 + 1 + 1 + 1 + 1 + 1 from by omega]; simpa using this.1
    · rw [e]; simpa using this.2.1
    · rw [e]; simpa using this.2.2.1
    · rw [e]; simpa using this.2.2.2.1
    · rw [e]; simpa using this.2.2.2.2.1
    · rw [e]; simpa using this.2.2.2.2.2
theorem itCells_oneCell {l : List ((ByteArray × Nat × Tree) × Value)} (h : ∀ x ∈ l, ∃ ad n c, x.2 = .slice ad n c) : ∀ u ∈ itCells l, u.oneCell' = true := by
  induction l with
  | nil => intro u hu; simp [itCells] at hu
  | cons x l ih =>
    intro u hu
    obtain ⟨ad, n, c, e⟩ := h x List.mem_cons_self
    simp only [itCells, List.mem_cons] at hu
    rcases hu with rfl | rfl | rfl | rfl | rfl | rfl | hu
    · rfl
    · rfl
    · rfl
    · rfl
    · rfl
    · rw [e]; rfl
    · exact ih (fun y hy => h y (List.mem_cons_of_mem _ hy)) u hu
theorem itCells_take {l : List ((ByteArray × Nat × Tree) × Value)} (k : Nat) : itCells (l.take k) = (itCells l).take (k * 6) := by
  induction l generalizing k with
  | nil => simp [itCells]
  | cons x l ih =>
    cases k with
    | zero => simp [itCells]
    | succ k =>
      simp only [List.take_succ_cons, itCells, ih]
      rw [show (k + 1) * 6 = k * 6 + 1 + 1 + 1 + 1 + 1 + 1 from by omega]
      simp only [List.take_succ_cons]
theorem itCells_drop {l : List ((ByteArray × Nat × Tree) × Value)} (k : Nat) : itCells (l.drop k) = (itCells l).drop (k * 6) := by
  induction l generalizing k with
  | nil => simp [itCells]
  | cons x l ih =>
    cases k with
    | zero => simp [itCells]
    | succ k =>
      simp only [List.drop_succ_cons, itCells, ih]
      rw [show (k + 1) * 6 = k * 6 + 1 + 1 + 1 + 1 + 1 + 1 from by omega]
      simp only [List.drop_succ_cons]
theorem ownsRow_lower {w : World} {base base' : Nat} {e : TypeId} {size : Nat} {v : Value} {n : Nat} {xs : List Value} (h : w.ownsRow base e size v n xs) (hb : base' ≤ base) : w.ownsRow base' e size v n xs := by
  obtain ⟨h1, h2⟩ := h
  refine ⟨h1, ?_⟩
  rcases h2 with h2 | ⟨g, cap, cur, hv, hg, hh, r⟩
  · exact .inl h2
  · exact .inr ⟨g, cap, cur, hv, by omega, hh, r⟩
theorem ownsRow_single (w : World) (base : Nat) (e : TypeId) (size : Nat) (cs : Array Value) (hb : base ≤ w.heap.size) (hs : cs.size = size) : (w.alloc (.cells cs e)).ownsRow base e size (.slice (some ⟨w.heap.size, 0, none⟩) 1 1) 1 cs.toList := by
  refine ⟨by simp [hs], .inr ⟨w.heap.size, 1, cs, rfl, hb, heap_alloc_new w _, Nat.le_refl _, by unfold maxLen; omega, by omega, ?_⟩⟩
  rw [List.take_of_length_le (by simp; omega)]
end Go.Proofs.YtpjjpmikhjlgnaaGreatDoor
namespace Go.Proofs.YtpjjpmikhjlgnaaGreatDoor
open Go.RowKit

theorem row_alloc' (w : World) (c : Array Value) (t : TypeId) : (w.alloc (.cells c t)).heap[w.heap.size]? = some (.cells c t (0, 0)) := by
  show (w.heap.push _)[w.heap.size]? = _
  simp
theorem free_of_row {w : World} {b : Nat} {c : Array Value} {t : TypeId} (h : w.heap[b]? = some (.cells c t (0, 0))) (i : Nat) : w.frozen? ⟨b, i, none⟩ = false := by simp [World.frozen?, h]
theorem ownsRow_ext' {w w' : World} {base : Nat} {e : TypeId} {size : Nat} {v : Value} {n : Nat} {xs : List Value} (h : w.ownsRow base e size v n xs) (hb : ∀ k, v.ownBlock = some k → w'.heap[k]? = w.heap[k]?) : w'.ownsRow base e size v n xs := by
  obtain ⟨h1, h2⟩ := h
  refine ⟨h1, ?_⟩
  rcases h2 with h2 | ⟨g, cap, cur, hv, hg, hh, r⟩
  · exact .inl h2
  · subst hv
    exact .inr ⟨g, cap, cur, rfl, hg, by rw [hb g rfl]; exact hh, r⟩
/-- Kids in memory of their own, in blocks of Q. -/
def OwnT (w : World) : (Nat → Prop) → Nat → List (ByteArray × Tree) → Value → Prop
  | _, 0, _, _ => False
  | Q, d + 1, l, v => l.length ≤ 1759218604390 ∧ (∀ x ∈ l, x.1.size ≤ 140737488355328) ∧ ∃ (us : List Value) (Qs : Nat → Nat → Prop), us.length = l.length ∧ w.ownsRow 0 65 5 v l.length (kidCells l us) ∧ (∀ g, v.ownBlock = some g → Q g) ∧
      (∀ i x u, l[i]? = some x → us[i]? = some u → OwnT w (Qs i) d x.2.kids u) ∧ (∀ i b, Qs i b → Q b ∧ v.ownBlock ≠ some b) ∧ ∀ i j b, i ≠ j → Qs i b → ¬ Qs j b
theorem OwnT.kept {w w' : World} : ∀ {d : Nat} {Q Q' : Nat → Prop} {l : List (ByteArray × Tree)} {v : Value}, (∀ k, Q k → w'.heap[k]? = w.heap[k]?) → (∀ k, Q k → Q' k) → OwnT w Q d l v → OwnT w' Q' d l v
  | 0, _, _, _, _, _, _, h => h
  | _ + 1, _, _, _, _, hb, hq, ⟨h1, h2, us, Qs, h3, h4, h5, h6, h7, h8⟩ =>
    ⟨h1, h2, us, Qs, h3, ownsRow_ext' h4 fun k hk => hb k (h5 k hk), fun g hg => hq g (h5 g hg), fun i x u hx hu => OwnT.kept (fun k hk => hb k (h7 i k hk).1) (fun _ hk => hk) (h6 i x u hx hu), fun i b hi => ⟨hq b (h7 i b hi).1, (h7 i b hi).2⟩, h8⟩
theorem OwnT.liesQ {w : World} : ∀ {d : Nat} {Q : Nat → Prop} {l : List (ByteArray × Tree)} {v : Value}, OwnT w Q d l v → LiesQ w Q d l v
  | 0, _, _, _, h => h
  | _ + 1, _, _, _, ⟨h1, h2, _, _, h3, h4, h5, h6, h7, _⟩ =>
    LiesQ.made h4 h1 h3 h5 h2 fun i x u hx hu => (OwnT.liesQ (h6 i x u hx hu)).kept (fun _ _ => rfl) fun k hk => (h7 i k hk).1
theorem OwnT.form {w : World} {Q : Nat → Prop} {d : Nat} {l : List (ByteArray × Tree)} {v : Value} (h : OwnT w Q d l v) : ∃ ad cap, v = .slice ad l.length cap := h.liesQ.form
theorem OwnT.up {w : World} : ∀ {d e : Nat} {Q : Nat → Prop} {l : List (ByteArray × Tree)} {v : Value}, d ≤ e → OwnT w Q d l v → OwnT w Q e l v
  | 0, _, _, _, _, _, h => h.elim
  | _ + 1, 0, _, _, _, h, _ => by omega
  | _ + 1, _ + 1, _, _, _, hd, ⟨h1, h2, us, Qs, h3, h4, h5, h6, h7, h8⟩ => ⟨h1, h2, us, Qs, h3, h4, h5, fun i x u hx hu => OwnT.up (by omega) (h6 i x u hx hu), h7, h8⟩
end Go.Proofs.YtpjjpmikhjlgnaaGreatDoor
namespace Go.Proofs.YtpjjpmikhjlgnaaGreatDoor
open Go.RowKit

def LiesC (w : World) (B : Nat) : Nat → List (ByteArray × Tree) → Value → Prop
  | 0, _, _ => False
  | d + 1, l, v => ∃ ad cap, v = .slice ad l.length cap ∧ l.length ≤ cap ∧ cap ≤ maxLen ∧ l.length ≤ 1759218604390 ∧ ∀ i x, l[i]? = some x → ∃ b off u, ad = some ⟨b, off, none⟩ ∧ b < B ∧ x.1.size ≤ 140737488355328 ∧
      w.cell? ⟨b, off + i * 5, none⟩ = some (.string x.1) ∧ w.cell? ⟨b, off + i * 5 + 1, none⟩ = some (.string x.2.kind) ∧ w.cell? ⟨b, off + i * 5 + 2, none⟩ = some (.string x.2.data) ∧
      w.cell? ⟨b, off + i * 5 + 3, none⟩ = some (.bool x.2.exec) ∧ w.cell? ⟨b, off + i * 5 + 4, none⟩ = some u ∧ LiesC w B d x.2.kids u
theorem LiesC.lies {w : World} {B : Nat} : ∀ {d : Nat} {l : List (ByteArray × Tree)} {v : Value}, LiesC w B d l v → Lies w B d l v
  | 0, _, _, h => h
  | d + 1, l, v, ⟨ad, cap, e, _, _, hlen, hk⟩ => ⟨ad, cap, e, hlen, fun i x hx => by
    obtain ⟨b, off, u, e, h1, h2, h3, h4, h5, h6, h7, h8⟩ := hk i x hx
    exact ⟨b, off, u, e, h1, h2, h3, h4, h5, h6, h7, LiesC.lies h8⟩⟩
theorem LiesC.kept {w w' : World} {B : Nat} (hb : ∀ k, k < B → w'.heap[k]? = w.heap[k]?) : ∀ {d : Nat} {l : List (ByteArray × Tree)} {v : Value}, LiesC w B d l v → LiesC w' B d l v
  | 0, _, _, h => h
  | d + 1, l, v, ⟨ad, cap, e, hc, hm, hlen, hk⟩ => ⟨ad, cap, e, hc, hm, hlen, fun i x hx => by
    obtain ⟨b, off, u, e, h1, h2, h3, h4, h5, h6, h7, h8⟩ := hk i x hx
    have hc : ∀ o, w'.cell? ⟨b, o, none⟩ = w.cell? ⟨b, o, none⟩ := fun o => World.cell?_of_block (hb b h1)
    exact ⟨b, off, u, e, h1, h2, by rw [hc]; exact h3, by rw [hc]; exact h4, by rw [hc]; exact h5, by rw [hc]; exact h6, by rw [hc]; exact h7, LiesC.kept hb h8⟩⟩
theorem LiesC.below {w w' : World} {B d : Nat} {l : List (ByteArray × Tree)} {v : Value} (h : LiesC w B d l v) {C : Nat} (hb : Below C w w') (hC : B ≤ C) : LiesC w' B d l v := h.kept fun k hk => hb.block k (by omega)
theorem LiesC.up {w : World} {B B' : Nat} (hB : B ≤ B') : ∀ {d : Nat} {l : List (ByteArray × Tree)} {v : Value}, LiesC w B d l v → LiesC w B' d l v
  | 0, _, _, h => h
  | d + 1, l, v, ⟨ad, cap, e, hc, hm, hlen, hk⟩ => ⟨ad, cap, e, hc, hm, hlen, fun i x hx => by
    obtain ⟨b, off, u, e, h1, h2, h3, h4, h5, h6, h7, h8⟩ := hk i x hx
    exact ⟨b, off, u, e, by omega, h2, h3, h4, h5, h6, h7, LiesC.up hB h8⟩⟩
/-- One ahead of the rest. -/
theorem LiesC.cons {w : World} {B d : Nat} {x : ByteArray × Tree} {r : List (ByteArray × Tree)} {v : Value} (h : LiesC w B (d + 1) (x :: r) v) : ∃ b off cap u, v = .slice (some ⟨b, off, none⟩) (r.length + 1) cap ∧ r.length + 1 ≤ cap ∧ cap ≤ maxLen ∧ b < B ∧ r.length + 1 ≤ 1759218604390 ∧
    w.cell? ⟨b, off, none⟩ = some (.string x.1) ∧ w.cell? ⟨b, off + 1, none⟩ = some (.string x.2.kind) ∧ w.cell? ⟨b, off + 2, none⟩ = some (.string x.2.data) ∧ w.cell? ⟨b, off + 3, none⟩ = some (.bool x.2.exec) ∧ w.cell? ⟨b, off + 4, none⟩ = some u ∧ LiesC w B d x.2.kids u ∧
    (cap = 1 → LiesC w B (d + 1) r (.slice (some ⟨b, off, none⟩) r.length (cap - 1))) ∧ LiesC w B (d + 1) r (.slice (some ⟨b, off + 5, none⟩) r.length (cap - 1)) := by
  obtain ⟨ad, cap, e, hc, hm, hlen, hk⟩ := h
  obtain ⟨b, off, u, rfl, h1, h2, h3, h4, h5, h6, h7, h8⟩ := hk 0 x rfl
  simp only [Nat.zero_mul, Nat.add_zero] at h3 h4 h5 h6 h7
  simp only [List.length_cons] at hc hlen e
  have hcap : cap = 1 → r = [] := fun e1 => by
    cases r with
    | nil => rfl
    | cons y r => simp only [List.length_cons] at hc; omega
  refine ⟨b, off, cap, u, e, hc, hm, h1, hlen, h3, h4, h5, h6, h7, h8, fun e1 => ?_, ?_⟩
  · rw [hcap e1]
    exact ⟨_, _, rfl, by simp, by omega, by simp, fun i x hx => by simp at hx⟩
  · refine ⟨_, _, rfl, by omega, by omega, by omega, fun i y hy => ?_⟩
    obtain ⟨b', off', u', e', g1, g2, g3, g4, g5, g6, g7, g8⟩ := hk (i + 1) y hy
    simp only [Option.some.injEq, Addr.mk.injEq, and_true] at e'
    obtain ⟨rfl, rfl⟩ := e'
    have ea : ∀ j, off + (i + 1) * 5 + j = off + 5 + i * 5 + j := fun j => by omega
    have e0 : off + (i + 1) * 5 = off + 5 + i * 5 := by omega
    rw [ea] at g4 g5 g6 g7
    rw [e0] at g3
    exact ⟨b, off + 5, u', rfl, g1, g2, g3, g4, g5, g6, g7, g8⟩
theorem LiesC.nil {w : World} {B d : Nat} {v : Value} (h : LiesC w B (d + 1) [] v) : ∃ ad cap, v = .slice ad 0 cap := by
  obtain ⟨ad, cap, e, _⟩ := h
  exact ⟨ad, cap, e⟩
theorem LiesC.form {w : World} {B : Nat} {d : Nat} {l : List (ByteArray × Tree)} {v : Value} (h : LiesC w B d l v) : ∃ ad cap, v = .slice ad l.length cap := h.lies.form
/-- Memory of its own tells its room. -/
theorem OwnT.liesC {w : World} {B : Nat} : ∀ {d : Nat} {Q : Nat → Prop} {l : List (ByteArray × Tree)} {v : Value}, (∀ q, Q q → q < B) → OwnT w Q d l v → LiesC w B d l v
  | 0, _, _, _, _, h => h
  | d + 1, Q, l, v, hq, ⟨h1, h2, us, Qs, h3, h4, h5, h6, h7, _⟩ => by
    rcases h4.2 with ⟨rfl, h0⟩ | ⟨g, cap, cur, rfl, _, hg, hnc, hcm, hs, ht⟩
    · have : l = [] := List.eq_nil_of_length_eq_zero h0
      subst this
      exact ⟨none, 0, rfl, by simp, by unfold maxLen; omega, by simp, fun i x hx => by simp at hx⟩
    · refine ⟨_, cap, rfl, hnc, hcm, h1, fun i x hx => ?_⟩
      have hi : i < l.length := (List.getElem?_eq_some_iff.1 hx).1
      obtain ⟨u, hui⟩ : ∃ u, us[i]? = some u := ⟨us[i]'(by omega), List.getElem?_eq_getElem (by omega)⟩
      have hc := h4.cells (g := g) rfl
      have hadd : ∀ j, (⟨g, 0, none⟩ : Addr).add j = ⟨g, j, none⟩ := fun j => by unfold Addr.add; split <;> simp_all
      obtain ⟨k0, k1, k2, k3, k4⟩ := kidCells_at hx hui
      have c0 := hc _ _ k0
      have c1 := hc _ _ k1
      have c2 := hc _ _ k2
      have c3 := hc _ _ k3
      have c4 := hc _ _ k4
      rw [hadd] at c0 c1 c2 c3 c4
      exact ⟨g, 0, u, rfl, hq g (h5 g rfl), h2 x (List.mem_of_getElem? hx), by rw [Nat.zero_add]; exact c0, by rw [Nat.zero_add]; exact c1, by rw [Nat.zero_add]; exact c2, by rw [Nat.zero_add]; exact c3, by rw [Nat.zero_add]; exact c4, OwnT.liesC (fun q h => hq q (h7 i q h).1) (h6 i x u hx hui)⟩
end Go.Proofs.YtpjjpmikhjlgnaaGreatDoor
namespace Go.Proofs.YtpjjpmikhjlgnaaGreatDoor
open Go.RowKit
attribute [local go_sem ↓] Go.wp_at_zero Go.wp_at_succ

theorem infoKid : (Tryz.prog.info? 65).map (fun i => (i.zero, i.size, i.bytes)) = some (some (.agg #[.string { data := #[] }, .string { data := #[] }, .string { data := #[] }, .bool false, .slice none 0 0]), 5, 80) := by kernel_rfl

/-- The state of the loop: so many kids are copied. -/
structure OwnAt (w : World) (d : Nat) (t : Tree) (ta : Option Addr) (tc : Nat) (j : Nat) (us : List Value) (v : Value) (wr : World) : Prop where
  box : wr.heap[w.heap.size]? = some (.cells #[.string t.kind, .string t.data, .bool t.exec, .slice ta t.kids.length tc] 24 (0, 0))
  res : wr.heap[w.heap.size + 1]? = some (.cells #[.string { data := #[] }, .string { data := #[] }, .bool false, .slice none 0 0] 24 (0, 0))
  len : us.length = j
  own : wr.ownsRow (w.heap.size + 1 + 1) 65 5 v j (kidCells (t.kids.take j) us)
  kids : ∃ Qs : Nat → Nat → Prop, (∀ (i : Nat) (x : ByteArray × Tree) (u : Value), t.kids[i]? = some x → us[i]? = some u → OwnT wr (Qs i) d x.2.kids u) ∧ (∀ i b, Qs i b → w.heap.size + 1 + 1 ≤ b ∧ b < wr.heap.size ∧ v.ownBlock ≠ some b) ∧ ∀ i j b, i ≠ j → Qs i b → ¬ Qs j b
  below : Below w.heap.size w wr

/-- One kid more. -/
theorem own_next {w wr w2 wa w5 : World} {d : Nat} {t : Tree} {ta : Option Addr} {tc j : Nat} {us : List Value} {v u' : Value} {x : ByteArray × Tree} {g cap H : Nat} (O : OwnAt w d t ta tc j us v wr) (hx : t.kids[j]? = some x)
    (hb2 : Below wr.heap.size wr w2) (hu' : OwnT w2 (fun b => wr.heap.size ≤ b ∧ b < w2.heap.size) d x.2.kids u') (hba : Below w2.heap.size w2 wa)
    (hown1 : w5.ownsRow (w.heap.size + 1 + 1) 65 5 (.slice (some ⟨g, 0, none⟩) (j + 1) cap) (j + 1) (kidCells (t.kids.take j) us ++ [.string x.1, .string x.2.kind, .string x.2.data, .bool x.2.exec, u']))
    (hgrow : wa.grownBy w5 v.ownBlock) (hat : v.ownBlock = some g ∨ g = H) (hH : w2.heap.size ≤ H) : OwnAt w d t ta tc (j + 1) (us ++ [u']) (.slice (some ⟨g, 0, none⟩) (j + 1) cap) w5 := by
  have hbr := lt_of_row O.box
  have hbs := lt_of_row O.res
  have hlt := fun k hk => O.own.lt k hk
  have h5 : ∀ k, k < w2.heap.size → v.ownBlock ≠ some k → w5.heap[k]? = w2.heap[k]? := fun k hk hne => by
    rw [hgrow.block k (Nat.lt_of_lt_of_le hk hba.size) (fun e => hne e.symm), hba.block k hk]
  have h5r : ∀ k, k < wr.heap.size → v.ownBlock ≠ some k → w5.heap[k]? = wr.heap[k]? := fun k hk hne => by
    rw [h5 k (Nat.lt_of_lt_of_le hk hb2.size) hne, hb2.block k hk]
  have hs5 : w2.heap.size ≤ w5.heap.size := Nat.le_trans hba.size hgrow.size
  have hj : j < t.kids.length := (List.getElem?_eq_some_iff.1 hx).1
  refine ⟨?_, ?_, ?_, ?_, ?_, ?_⟩
  · rw [h5r _ hbr (fun e => by have := (hlt _ e).1; omega)]; exact O.box
  · rw [h5r _ hbs (fun e => by have := (hlt _ e).1; omega)]; exact O.res
  · simp [O.len]
  · have e : t.kids.take (j + 1) = t.kids.take j ++ [x] := by rw [List.take_succ_eq_append_getElem hj, (List.getElem?_eq_some_iff.1 hx).2]
    rw [e, kidCells_snoc _ _ _ _ (by rw [O.len, List.length_take]; omega)]
    exact hown1
  · obtain ⟨Qs, k1, k2, k3⟩ := O.kids
    have hwr : w.heap.size ≤ wr.heap.size := O.below.size
    have hold : ∀ k, k < wr.heap.size → v.ownBlock ≠ some k → some g ≠ some k := fun k hk hne e => by
      simp only [Option.some.injEq] at e
      rcases hat with h | h
      · exact hne (by rw [h, e])
      · have := hb2.size; omega
    refine ⟨fun i => if i = j then (fun b => wr.heap.size ≤ b ∧ b < w2.heap.size) else Qs i, fun i y u hy hu => ?_, fun i b hb => ?_, fun i i' b hne hb hb' => ?_⟩
    · by_cases hi : i < us.length
      · rw [List.getElem?_append_left hi] at hu
        have hij : i ≠ j := by have := O.len; omega
        simp only [if_neg hij]
        exact (k1 i y u hy hu).kept (fun k hk => h5r k (k2 i k hk).2.1 (k2 i k hk).2.2) (fun _ hk => hk)
      · have hle : us.length ≤ i := by omega
        rw [List.getElem?_append_right hle] at hu
        have hi0 : i - us.length = 0 := by
          rcases Nat.eq_zero_or_pos (i - us.length) with h | h
          · exact h
          · rw [List.getElem?_eq_none (by simp; omega)] at hu; cases hu
        rw [hi0] at hu
        simp only [List.getElem?_cons_zero, Option.some.injEq] at hu
        have hij : i = j := by have := O.len; omega
        subst hij
        rw [hx] at hy
        simp only [Option.some.injEq] at hy
        subst hy; subst hu
        simp only [if_true]
        exact hu'.kept (fun k hk => h5 k hk.2 (fun e => by have := (hlt k e).2; omega)) (fun _ hk => hk)
    · by_cases hij : i = j
      · simp only [if_pos hij] at hb
        refine ⟨by omega, by omega, ?_⟩
        simp only [Value.ownBlock, ne_eq, Option.some.injEq]
        rcases hat with h | h
        · have := (hlt g h).2; omega
        · omega
      · simp only [if_neg hij] at hb
        have := k2 i b hb
        exact ⟨this.1, by have := hb2.size; omega, hold b this.2.1 this.2.2⟩
    · by_cases hij : i = j
      · have hij' : i' ≠ j := by omega
        simp only [if_pos hij] at hb
        simp only [if_neg hij'] at hb'
        have := k2 i' b hb'
        omega
      · simp only [if_neg hij] at hb
        by_cases hij' : i' = j
        · simp only [if_pos hij'] at hb'
          have := k2 i b hb
          omega
        · simp only [if_neg hij'] at hb'
          exact k3 i i' b hne hb hb'
  · refine ⟨?_, ?_, ?_, ?_, fun k hk => ?_⟩
    · exact hgrow.os.trans (hba.os.trans (hb2.os.trans O.below.os))
    · exact hgrow.tape.trans (hba.tape.trans (hb2.tape.trans O.below.tape))
    · exact hgrow.output.trans (hba.output.trans (hb2.output.trans O.below.output))
    · exact Nat.le_trans O.below.size (Nat.le_trans hb2.size hs5)
    · rw [h5r k (Nat.lt_of_lt_of_le hk O.below.size) (fun e => by have := (hlt k e).1; omega)]
      exact O.below.block k hk

/-- All kids are copied. -/
theorem own_end {w wr w' : World} {d : Nat} {t : Tree} {ta : Option Addr} {tc j : Nat} {us : List Value} {v : Value} (O : OwnAt w d t ta tc j us v wr) (hj : j = t.kids.length) (hlen : t.kids.length ≤ 1759218604390) (hs : ∀ x ∈ t.kids, x.1.size ≤ 140737488355328)
    (hos : w'.os = wr.os) (hta : w'.tape = wr.tape) (hou : w'.output = wr.output) (hsz : w'.heap.size = wr.heap.size) (hw : ∀ k, k ≠ w.heap.size → k ≠ w.heap.size + 1 → w'.heap[k]? = wr.heap[k]?) :
    OwnT w' (fun b => w.heap.size ≤ b ∧ b < w'.heap.size) (d + 1) t.kids v ∧ Below w.heap.size w w' := by
  subst hj
  have hown := O.own
  rw [List.take_length] at hown
  have hlt := fun k hk => hown.lt k hk
  obtain ⟨Qs, k1, k2, k3⟩ := O.kids
  refine ⟨⟨hlen, hs, us, Qs, O.len, ?_, fun g hg => ⟨by have := (hlt g hg).1; omega, by have := (hlt g hg).2; omega⟩, fun i x u hx hu => ?_, fun i b hb => ?_, k3⟩, ?_⟩
  · exact ownsRow_lower (ownsRow_ext' hown fun k hk => hw k (by have := (hlt k hk).1; omega) (by have := (hlt k hk).1; omega)) (Nat.zero_le _)
  · exact (k1 i x u hx hu).kept (fun k hk => hw k (by have := k2 i k hk; omega) (by have := k2 i k hk; omega)) (fun _ hk => hk)
  · have := k2 i b hb
    exact ⟨⟨by omega, by omega⟩, this.2.2⟩
  · exact ⟨hos.trans O.below.os, hta.trans O.below.tape, hou.trans O.below.output, by rw [hsz]; exact O.below.size, fun k hk => by rw [hw k (by omega) (by omega)]; exact O.below.block k hk⟩

set_option maxRecDepth 100000 in
set_option maxHeartbeats 2000000 in
theorem own_own (B : Nat) : ∀ (d : Nat) (t : Tree) (u : Value) (w : World), B ≤ w.heap.size → Lies w B d t.kids u →
    Calls Tryz.prog 7 #[.agg #[.string t.kind, .string t.data, .bool t.exec, u]] w fun e w' => ∃ u', e = .returned (.agg #[.string t.kind, .string t.data, .bool t.exec, u']) ∧ OwnT w' (fun b => w.heap.size ≤ b ∧ b < w'.heap.size) d t.kids u' ∧ Below w.heap.size w w' := by
  intro d
  induction d with
  | zero => intro t u w _ hl; exact absurd hl (by simp [Lies])
  | succ d ih =>
    intro t u w hB hl
    have hlo := hl.open
    obtain ⟨ta, tc, rfl⟩ := hl.form
    obtain ⟨i0, hi0, hz0, hz1, hz2⟩ := info_parts infoKid
    have HL : Hid _ := hlo
    have HIH : Hid _ := ih
    have hlen := hlo.1
    have HN : Hid (∀ x ∈ t.kids, x.1.size ≤ 140737488355328) := fun x hx => by
      obtain ⟨i, hi, he⟩ := List.getElem_of_mem hx
      have hxi : t.kids[i]? = some x := by rw [List.getElem?_eq_getElem hi, he]
      rcases hlo.2 with ⟨h0, _⟩ | ⟨b, off, cp, _, _, hk⟩
      · rw [h0] at hxi; simp at hxi
      · obtain ⟨u, K⟩ := hk i x hxi
        exact K.size
    clear hlo hl ih
    go_enter Tryz.func7, Tryz.ntmps7
    go_wp2_with fail
    go_loopw [3, 4] (fun v i wr => ∃ (j : Nat) (us : List Value) (va : Option Addr) (vc : Nat), j ≤ t.kids.length ∧ i = .int .i64 j ∧ v = .slice va j vc ∧ OwnAt w d t ta tc j us (.slice va j vc) wr) (fun _ i _ => t.kids.length - (intOf i).toNat)
    case atStart =>
      refine ⟨0, [], none, 0, Nat.zero_le _, rfl, rfl, ⟨?_, ?_, rfl, ?_, ?_, ?_⟩⟩
      · rw [Below.heap_alloc _ _ _ (by simp)]; exact row_alloc' _ _ _
      · have := row_alloc' (w.alloc (.cells #[.string t.kind, .string t.data, .bool t.exec, .slice ta t.kids.length tc] 24)) #[.string { data := #[] }, .string { data := #[] }, .bool false, .slice none 0 0] 24
        simpa using this
      · have e : kidCells (t.kids.take 0) [] = [] := by simp [kidCells]
        rw [e]; exact World.ownsRow_nil _ _ _ _
      · exact ⟨fun _ _ => False, fun i x u _ h => by simp at h, fun _ _ h => h.elim, fun _ _ _ _ h => h.elim⟩
      · exact ((Below.refl _ _).alloc (Nat.le_refl _) _).alloc (by simp) _
    case round =>
      obtain ⟨j, us, va, vc, hj, rfl, rfl, O⟩ := hrel
      have hrow := O.box
      have g0 : wr.cell? ⟨w.heap.size, 0, none⟩ = some (.string t.kind) := by rw [cell_of_row wr _ _ _ _ _ O.box]; rfl
      have g1 : wr.cell? ⟨w.heap.size, 1, none⟩ = some (.string t.data) := by rw [cell_of_row wr _ _ _ _ _ O.box]; rfl
      have g2 : wr.cell? ⟨w.heap.size, 2, none⟩ = some (.bool t.exec) := by rw [cell_of_row wr _ _ _ _ _ O.box]; rfl
      have g3 : wr.cell? ⟨w.heap.size, 3, none⟩ = some (.slice ta t.kids.length tc) := by rw [cell_of_row wr _ _ _ _ _ O.box]; rfl
      by_cases hlt : j < t.kids.length
      · obtain ⟨x, hx⟩ : ∃ x, t.kids[j]? = some x := ⟨t.kids[j], List.getElem?_eq_getElem hlt⟩
        obtain ⟨b, off, rfl, ux, K0⟩ : ∃ b off, ta = some ⟨b, off, none⟩ ∧ ∃ u, KidAt w B d b off j x u := by
          rcases HL.out.2 with ⟨h0, _⟩ | ⟨b, off, cp, e, _, hk⟩
          · rw [h0] at hlt; exact absurd hlt (by simp)
          · simp only [Value.slice.injEq] at e
            exact ⟨b, off, e.1, hk j x hx⟩
        have K := K0.below O.below hB
        obtain ⟨xa, xc, rfl⟩ := K.lies.form
        have n0 := K.name
        have n1 := K.kind
        have n2 := K.data
        have n3 := K.exec
        have n4 := K.kids
        have hBr : B ≤ wr.heap.size := Nat.le_trans hB O.below.size
        have lb : b < wr.heap.size := Nat.lt_of_lt_of_le K.lt hBr
        have lw : w.heap.size < wr.heap.size := lt_of_row O.box
        have HC : Hid _ := HIH.out x.2 (.slice xa x.2.kids.length xc) wr hBr K.lies
        have hj0 : (0 : Int) ≤ (j : Int) := by omega
        have hj1 : (j : Int) < (t.kids.length : Int) := by omega
        have HKLT : Hid (b < B) := K.lt
        have HO : Hid _ := O
        have HX : Hid _ := hx
        clear O hrow K K0 hx
        go_wp2_with fail
        refine Calls.mono HC.out ?_
        rintro e w2 ⟨u', rfl, hq, hb2⟩
        obtain ⟨xa', xc', rfl⟩ := hq.form
        have g3' : w2.cell? ⟨w.heap.size, 3, none⟩ = some (.slice (some ⟨b, off, none⟩) t.kids.length tc) := by rw [hb2.cell (p := ⟨w.heap.size, 3, none⟩) lw]; exact g3
        have n0' : w2.cell? ⟨b, off + j * 5, none⟩ = some (.string x.1) := by rw [hb2.cell (p := ⟨b, off + j * 5, none⟩) lb]; exact n0
        have lw2 : w.heap.size < w2.heap.size := Nat.lt_of_lt_of_le lw hb2.size
        have lb2 : b < w2.heap.size := Nat.lt_of_lt_of_le lb hb2.size
        have hown2 : w2.ownsRow (w.heap.size + 1 + 1) 65 5 (.slice va j vc) j (kidCells (t.kids.take j) us) := ownsRow_ext' HO.out.own fun k hk => hb2.block k (HO.out.own.lt k hk).2
        have HOW2 : Hid _ := hown2
        have HQ : Hid (OwnT w2 (fun b => wr.heap.size ≤ b ∧ b < w2.heap.size) d x.2.kids (.slice xa' x.2.kids.length xc')) := hq
        have HB2 : Hid _ := hb2
        have HN2 : Hid (∀ o, ((w2.alloc o).alloc (.cells #[.string x.1, .string x.2.kind, .string x.2.data, .bool x.2.exec, .slice xa' x.2.kids.length xc'] 65)).heap[w2.heap.size + 1]? = some (.cells #[.string x.1, .string x.2.kind, .string x.2.data, .bool x.2.exec, .slice xa' x.2.kids.length xc'] 65 (0, 0))) := fun o => by
          have := row_alloc' (w2.alloc o) #[.string x.1, .string x.2.kind, .string x.2.data, .bool x.2.exec, .slice xa' x.2.kids.length xc'] 65
          simpa using this
        have a1 : (Value.slice va j vc).ownBlock ≠ some w.heap.size := fun e => by have := (HO.out.own.lt _ e).1; omega
        have a2 : (Value.slice va j vc).ownBlock ≠ some b := fun e => by have := (HO.out.own.lt _ e).1; have := HKLT.out; omega
        have a3 : (Value.slice va j vc).ownBlock ≠ some w2.heap.size := fun e => by have := (HO.out.own.lt _ e).2; have := hb2.size; omega
        have hbs : w.heap.size + 1 + 1 ≤ w2.heap.size := by have := lt_of_row HO.out.res; have := hb2.size; omega
        clear hown2 hq hb2 n0 n1 n2 n3 n4 g0 g1 g2 g3
        go_wp2_with fail
        go_region_held3 (fun w' => w'.cell? ⟨w.heap.size, 3, none⟩ = some (.slice (some ⟨b, off, none⟩) t.kids.length tc) ∧ w'.cell? ⟨b, off + j * 5, none⟩ = some (.string x.1) ∧ w'.cell? ⟨w2.heap.size, 0, none⟩ = some (.string x.2.kind) ∧ w'.cell? ⟨w2.heap.size, 1, none⟩ = some (.string x.2.data) ∧ w'.cell? ⟨w2.heap.size, 2, none⟩ = some (.bool x.2.exec) ∧ w'.cell? ⟨w2.heap.size, 3, none⟩ = some (.slice xa' x.2.kids.length xc'))
          (first
            | go_keep
            | (go_split_ands
               refine ⟨?_, ?_, ?_, ?_, ?_, ?_⟩
               · (rw [hgrow.cell_far _ (by first | (simp; done) | (simp; omega)) (Ne.symm a1)]; assumption)
               · (rw [hgrow.cell_far _ (by first | (simp; done) | (simp; omega)) (Ne.symm a2)]; assumption)
               · (rw [hgrow.cell_far _ (by first | (simp; done) | (simp; omega)) (Ne.symm a3)]; assumption)
               · (rw [hgrow.cell_far _ (by first | (simp; done) | (simp; omega)) (Ne.symm a3)]; assumption)
               · (rw [hgrow.cell_far _ (by first | (simp; done) | (simp; omega)) (Ne.symm a3)]; assumption)
               · (rw [hgrow.cell_far _ (by first | (simp; done) | (simp; omega)) (Ne.symm a3)]; assumption)))
          ((refine step_append_lies _ (by rfl) _ _ _ (by rfl) (w.heap.size + 1 + 1) 65 i0 _ 5 80 Tryz.underlying22 hi0 hz0 hz1 hz2 rfl (by omega) (.slice va j vc) j (kidCells (t.kids.take j) us) (by rfl) ((World.ownsRow.alloc (World.ownsRow.alloc HOW2.out _) _).drew) ⟨w2.heap.size + 1, 0, none⟩ 1 1 [.string x.1, .string x.2.kind, .string x.2.data, .bool x.2.exec, .slice xa' x.2.kids.length xc'] (by rfl) (by rfl) (World.news_of_block (cs := #[.string x.1, .string x.2.kind, .string x.2.data, .bool x.2.exec, .slice xa' x.2.kids.length xc']) (t := 65) (fr := (0, 0)) (HN2.out _)) (by simp [Value.oneCell']) (by omega) (by unfold maxLen; omega) (by omega) (by simp; omega) (w2.heap.size + 1 + 1) (by simp) ?_; intro g cap' w5 hown5 hgrow hat hlt5))
        go_wp2_with fail
        have hO := own_next HO.out HX.out HB2.out HQ.out (wa := ((w2.alloc (.cells #[.string x.2.kind, .string x.2.data, .bool x.2.exec, .slice xa' x.2.kids.length xc'] 24)).alloc (.cells #[.string x.1, .string x.2.kind, .string x.2.data, .bool x.2.exec, .slice xa' x.2.kids.length xc'] 65)).drew) (by go_grown) hown5 hgrow hat (by omega)
        go_roundw
        case rel => exact ⟨j + 1, us ++ [.slice xa' x.2.kids.length xc'], some ⟨g, 0, none⟩, cap', by omega, by go_num, rfl, hO⟩
        case measure => simp [intOf]; omega
      · have f3 : wr.frozen? ⟨w.heap.size, 3, none⟩ = false := free_of_row O.box 3
        have r0 : wr.cell? ⟨w.heap.size + 1, 0, none⟩ = some (.string { data := #[] }) := by rw [cell_of_row wr _ _ _ _ _ O.res]; rfl
        have r1 : wr.cell? ⟨w.heap.size + 1, 1, none⟩ = some (.string { data := #[] }) := by rw [cell_of_row wr _ _ _ _ _ O.res]; rfl
        have r2 : wr.cell? ⟨w.heap.size + 1, 2, none⟩ = some (.bool false) := by rw [cell_of_row wr _ _ _ _ _ O.res]; rfl
        have r3 : wr.cell? ⟨w.heap.size + 1, 3, none⟩ = some (.slice none 0 0) := by rw [cell_of_row wr _ _ _ _ _ O.res]; rfl
        have s0 : wr.frozen? ⟨w.heap.size + 1, 0, none⟩ = false := free_of_row O.res 0
        have s1 : wr.frozen? ⟨w.heap.size + 1, 1, none⟩ = false := free_of_row O.res 1
        have s2 : wr.frozen? ⟨w.heap.size + 1, 2, none⟩ = false := free_of_row O.res 2
        have s3 : wr.frozen? ⟨w.heap.size + 1, 3, none⟩ = false := free_of_row O.res 3
        have HE : Hid _ := own_end (w' := (((((wr.setCell ⟨w.heap.size, 3, none⟩ (.slice va j vc)).setCell ⟨w.heap.size + 1, 0, none⟩ (.string t.kind)).setCell ⟨w.heap.size + 1, 1, none⟩ (.string t.data)).setCell ⟨w.heap.size + 1, 2, none⟩ (.bool t.exec)).setCell ⟨w.heap.size + 1, 3, none⟩ (.slice va j vc)))
          O (by omega) hlen HN.out rfl rfl rfl (by simp [World.setCell]) (fun k h1 h2 => by
            rw [Below.heap_setCell _ _ _ _ h2, Below.heap_setCell _ _ _ _ h2, Below.heap_setCell _ _ _ _ h2, Below.heap_setCell _ _ _ _ h2, Below.heap_setCell _ _ _ _ h1])
        clear O hrow
        go_wp2_with fail
        refine bodyPost_ret (v := .agg #[.string t.kind, .string t.data, .bool t.exec, .slice va j vc]) (by simp [results, Tryz.results7, go_sem, r0, r1, r2, r3]) rfl ⟨.slice va j vc, rfl, ?_, ?_⟩
        · exact HE.out.1
        · exact HE.out.2
/-- The copy, without its memory's own blocks. -/
theorem own_any (B : Nat) (d : Nat) (t : Tree) (u : Value) (w : World) (hB : B ≤ w.heap.size) (hl : Lies w B d t.kids u) :
    Calls Tryz.prog 7 #[.agg #[.string t.kind, .string t.data, .bool t.exec, u]] w fun e w' => ∃ u', e = .returned (.agg #[.string t.kind, .string t.data, .bool t.exec, u']) ∧ LiesQ w' (fun b => w.heap.size ≤ b ∧ b < w'.heap.size) d t.kids u' ∧ Below w.heap.size w w' := by
  refine (own_own B d t u w hB hl).mono ?_
  rintro e w' ⟨u', h1, h2, h3⟩
  exact ⟨u', h1, h2.liesQ, h3⟩
end Go.Proofs.YtpjjpmikhjlgnaaGreatDoor
