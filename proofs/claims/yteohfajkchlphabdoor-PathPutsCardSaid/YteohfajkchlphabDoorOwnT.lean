/-
  A tree in memory of its own: each list of kids in a row that nothing else of the tree shares.
  Conditions: those that each states.
-/
import Derived.Test.YteohfajkchlphabDoorOwn
import Derived.Test.YteohfajkchlphabDoorLists
namespace Go.Proofs.YteohfajkchlphabDoor
open Go.RowKit

/-- Kids in memory of their own, in blocks of Q. -/
def OwnT (w : World) : (Nat → Prop) → Nat → List (ByteArray × Tree) → Value → Prop
  | _, 0, _, _ => False
  | Q, d + 1, l, v => l.length ≤ 1759218604390 ∧ (∀ x ∈ l, x.1.size ≤ 140737488355328) ∧ ∃ (us : List Value) (Qs : Nat → Nat → Prop), us.length = l.length ∧ w.ownsRow 0 60 5 v l.length (kidCells l us) ∧ (∀ g, v.ownBlock = some g → Q g) ∧
      (∀ i x u, l[i]? = some x → us[i]? = some u → OwnT w (Qs i) d x.2.kids u) ∧ (∀ i b, Qs i b → Q b ∧ v.ownBlock ≠ some b) ∧ ∀ i j b, i ≠ j → Qs i b → ¬ Qs j b
theorem OwnT.kept {w w' : World} : ∀ {d : Nat} {Q Q' : Nat → Prop} {l : List (ByteArray × Tree)} {v : Value}, (∀ k, Q k → w'.heap[k]? = w.heap[k]?) → (∀ k, Q k → Q' k) → OwnT w Q d l v → OwnT w' Q' d l v
  | 0, _, _, _, _, _, _, h => h
  | _ + 1, _, _, _, _, hb, hq, ⟨h1, h2, us, Qs, h3, h4, h5, h6, h7, h8⟩ =>
    ⟨h1, h2, us, Qs, h3, ownsRow_ext' h4 fun k hk => hb k (h5 k hk), fun g hg => hq g (h5 g hg), fun i x u hx hu => OwnT.kept (fun k hk => hb k (h7 i k hk).1) (fun _ hk => hk) (h6 i x u hx hu), fun i b hi => ⟨hq b (h7 i b hi).1, (h7 i b hi).2⟩, h8⟩
theorem OwnT.liesQ {w : World} : ∀ {d : Nat} {Q : Nat → Prop} {l : List (ByteArray × Tree)} {v : Value}, OwnT w Q d l v → LiesQ w Q d l v
  | 0, _, _, _, h => h
  | _ + 1, _, _, _, ⟨h1, h2, _, _, h3, h4, h5, h6, h7, _⟩ =>
    LiesQ.made h4 h1 h3 h5 h2 fun i x u hx hu => (OwnT.liesQ (h6 i x u hx hu)).kept (fun _ _ => rfl) fun k hk => (h7 i k hk).1
theorem OwnT.form {w : World} {Q : Nat → Prop} {d : Nat} {l : List (ByteArray × Tree)} {v : Value} (h : OwnT w Q d l v) : ∃ ad cap, v = .slice ad l.length cap := h.liesQ.form
theorem OwnT.up {w : World} : ∀ {d e : Nat} {Q : Nat → Prop} {l : List (ByteArray × Tree)} {v : Value}, d ≤ e → OwnT w Q d l v → OwnT w Q e l v
  | 0, _, _, _, _, _, h => h.elim
  | _ + 1, 0, _, _, _, h, _ => by omega
  | _ + 1, _ + 1, _, _, _, hd, ⟨h1, h2, us, Qs, h3, h4, h5, h6, h7, h8⟩ => ⟨h1, h2, us, Qs, h3, h4, h5, fun i x u hx hu => OwnT.up (by omega) (h6 i x u hx hu), h7, h8⟩
end Go.Proofs.YteohfajkchlphabDoor
