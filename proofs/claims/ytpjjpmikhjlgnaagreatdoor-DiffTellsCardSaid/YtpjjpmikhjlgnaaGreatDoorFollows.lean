/-
  Links followed, name by name: plain mathematics.
  Conditions: none.
-/
import Derived.Test.YtpjjpmikhjlgnaaGreatDoorPAt
import Derived.Test.YtpjjpmikhjlgnaaGreatDoorJoins
namespace Go.Proofs.YtpjjpmikhjlgnaaGreatDoor
open Go.RowKit

def dotB : ByteArray := { data := #[46] }
def dotsB : ByteArray := { data := #[46, 46] }
/-- A text cut by strokes, as texts. -/
def cutB (s : ByteArray) : List ByteArray := (cutL s.data.toList).map fun x => (⟨x.toArray⟩ : ByteArray)
def rooted (s : ByteArray) : Bool := Lib.hasPrefix s.data.toList [47]
/-- Where it is, what is left, how many links it met. -/
structure WkS where
  here : List ByteArray
  ahead : List ByteArray
  links : Nat
/-- A link. -/
def linkR (s : ByteArray) (h a : List ByteArray) (n : Nat) : Except Nat WkS := if 16 < n + 1 then .error 8 else .ok ⟨if rooted s = true then [] else h, cutB s ++ a, n + 1⟩
/-- One name. -/
def stepR (t : Tree) (x : ByteArray) (h a : List ByteArray) (n : Nat) : Except Nat WkS :=
  if x = ByteArray.empty ∨ x = dotB then .ok ⟨h, a, n⟩ else if x = dotsB then .ok ⟨h.dropLast, a, n⟩ else if nameB x = false then .error 4 else match atR (h ++ [x]) t with
    | none => .error 5
    | some k => if isLink k = true then linkR k.data h a n else .ok ⟨h ++ [x], a, n⟩
/-- All names, with so many steps at most. -/
def followR (t : Tree) : Nat → WkS → Except Nat (List ByteArray)
  | 0, _ => .error 99
  | f + 1, s => match s.ahead with
    | [] => .ok s.here
    | x :: a => match stepR t x s.here a s.links with
      | .error e => .error e
      | .ok s' => followR t f s'
/-- So many steps are enough. -/
def wkM (s : WkS) : Nat := s.ahead.length + 42 * (17 - s.links)
theorem cutB_len (s : ByteArray) : (cutB s).length ≤ s.size + 1 := by
  unfold cutB
  rw [List.length_map]
  have := cutL_le s.data.toList
  simpa using this
/-- Links are short. -/
def ShortD : Nat → Tree → Prop
  | 0, _ => False
  | d + 1, t => (isLink t = true → t.data.size ≤ 40) ∧ ∀ x ∈ t.kids, ShortD d x.2
theorem short_at : ∀ {l : List ByteArray} {d : Nat} {t k : Tree}, ShortD d t → atR l t = some k → ∃ e, ShortD e k
  | [], d, t, k, h, e => by
    simp only [atR, Option.some.injEq] at e
    subst e
    exact ⟨d, h⟩
  | x :: l, d, t, k, h, e => by
    simp only [atR] at e
    cases hk : kidOf t x with
    | none => rw [hk] at e; cases e
    | some y =>
      rw [hk] at e
      simp only at e
      unfold kidOf at hk
      split at hk
      · cases hx : t.kids[placeOf t.kids x]? with
        | none => rw [hx] at hk; cases hk
        | some z =>
          rw [hx] at hk
          simp only [Option.map_some, Option.some.injEq] at hk
          subst hk
          cases d with
          | zero => exact h.elim
          | succ d => exact short_at (h.2 z (List.mem_of_getElem? hx)) e
      · cases hk
theorem short_link {l : List ByteArray} {d : Nat} {t k : Tree} (h : ShortD d t) (e : atR l t = some k) (hl : isLink k = true) : k.data.size ≤ 40 := by
  obtain ⟨f, hf⟩ := short_at h e
  cases f with
  | zero => exact hf.elim
  | succ f => exact hf.1 hl
/-- Each step comes nearer to the end. -/
theorem step_less {t : Tree} {d : Nat} (hs : ShortD d t) {x : ByteArray} {h a : List ByteArray} {n : Nat} {s : WkS} (hn : n ≤ 16) (e : stepR t x h a n = .ok s) : wkM s < wkM ⟨h, x :: a, n⟩ ∧ s.links ≤ 16 := by
  unfold stepR at e
  unfold wkM
  simp only [List.length_cons]
  split at e
  · injection e with e
    subst e
    simp only
    omega
  · split at e
    · injection e with e
      subst e
      simp only
      omega
    · split at e
      · cases e
      · split at e
        · cases e
        · rename_i k hk
          split at e
          · rename_i hl
            unfold linkR at e
            split at e
            · cases e
            · injection e with e
              subst e
              have h1 := short_link hs hk hl
              have h2 := cutB_len k.data
              simp only [List.length_append]
              omega
          · injection e with e
            subst e
            simp only
            omega
theorem follow_enough {t : Tree} {d : Nat} (hs : ShortD d t) : ∀ (f g : Nat) (s : WkS), s.links ≤ 16 → wkM s < f → wkM s < g → followR t f s = followR t g s
  | 0, _, _, _, h, _ => by omega
  | _ + 1, 0, _, _, _, h => by omega
  | f + 1, g + 1, s, hl, h1, h2 => by
    obtain ⟨h, a, n⟩ := s
    simp only [followR]
    cases a with
    | nil => rfl
    | cons x a =>
      simp only
      cases hst : stepR t x h a n with
      | error e => rfl
      | ok s' =>
        simp only
        have hl' : n ≤ 16 := hl
        have := step_less hs hl' hst
        exact follow_enough hs f g s' this.2 (by omega) (by omega)
/-- What Follow comes to. -/
def followS (t : Tree) (s : WkS) : Except Nat (List ByteArray) := followR t (wkM s + 1) s
theorem followS_end {t : Tree} {h : List ByteArray} {n : Nat} : followS t ⟨h, [], n⟩ = .ok h := rfl
theorem followS_err {t : Tree} {x : ByteArray} {h a : List ByteArray} {n e : Nat} (hst : stepR t x h a n = .error e) : followS t ⟨h, x :: a, n⟩ = .error e := by
  unfold followS followR
  simp only [hst]
theorem followS_on {t : Tree} {d : Nat} (hs : ShortD d t) {x : ByteArray} {h a : List ByteArray} {n : Nat} {s : WkS} (hn : n ≤ 16) (hst : stepR t x h a n = .ok s) : followS t ⟨h, x :: a, n⟩ = followS t s := by
  unfold followS
  rw [show wkM ⟨h, x :: a, n⟩ + 1 = (wkM ⟨h, x :: a, n⟩) + 1 from rfl]
  rw [followR]
  simp only [hst]
  have := step_less hs hn hst
  exact follow_enough hs _ _ s this.2 (by omega) (by omega)
end Go.Proofs.YtpjjpmikhjlgnaaGreatDoor
