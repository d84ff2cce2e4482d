/-
  A tree's nodes, each with its names: plain mathematics.
  Conditions: none.
-/
import Derived.Test.YtpjjpmikhjlgnaaGreatDoorPGet
import Derived.Test.YtpjjpmikhjlgnaaGreatDoorJoins
import Derived.Test.YtpjjpmikhjlgnaaGreatDoorPathT
namespace Go.Proofs.YtpjjpmikhjlgnaaGreatDoor
open Go.RowKit

/-- A tree's nodes, each with its names. -/
def preN : Nat → List ByteArray → Tree → List (List ByteArray × Tree)
  | 0, _, _ => []
  | d + 1, ns, t => (ns, t) :: t.kids.flatMap fun x => preN d (ns ++ [x.1]) x.2
theorem joinB_app (l : List ByteArray) (x : ByteArray) : joinB (l ++ [x]) = joinB l ++ slash ++ x := by
  have h := joinB_snoc (l := l ++ [x]) (j := l.length) (x := x) (by simp)
  rw [List.take_of_length_le (by simp), List.take_left] at h
  exact h
theorem pre_names : ∀ (d : Nat) (ns : List ByteArray) (t : Tree), pre d (joinB ns) ns.length t = (preN d ns t).map fun x => (joinB x.1, x.1.length, x.2)
  | 0, _, _ => rfl
  | d + 1, ns, t => by
    simp only [pre, preN, List.map_cons, List.map_flatMap]
    congr 1
    rw [List.flatMap_def, List.flatMap_def]
    congr 1
    apply List.map_congr_left
    intro x _
    have h := pre_names d (ns ++ [x.1]) x.2
    rw [joinB_app, List.length_append] at h
    exact h
/-- Names are names, all the way down; so deep at most. -/
def NamesD : Nat → Tree → Prop
  | 0, _ => False
  | d + 1, t => ∀ x ∈ t.kids, nameB x.1 = true ∧ NamesD d x.2
theorem names_dir {t : Tree} (h : nodeErr t = none) : ∀ x ∈ t.kids, nameB x.1 = true := by
  obtain ⟨kd, da, ex, ki⟩ := t
  unfold nodeErr at h
  have nil : ki.length = 0 → ∀ x ∈ ki, nameB x.1 = true := fun e x hx => by
    rw [List.eq_nil_of_length_eq_zero e] at hx
    simp at hx
  split at h
  · unfold fileErr at h
    split at h
    · cases h
    · rename_i h1
      exact nil (by simp only at h1; omega)
  · split at h
    · unfold dirErr at h
      split at h
      · cases h
      · split at h
        · rename_i h2
          exact fun x hx => List.all_eq_true.1 h2 x hx
        · cases h
    · split at h
      · unfold linkErr at h
        split at h
        · cases h
        · rename_i h1
          simp only [not_or] at h1
          exact nil (by have := h1.2; omega)
      · cases h
theorem names_tree : ∀ {d : Nat} {p : ByteArray} {k : Nat} {t : Tree}, Fit d t → (∀ x ∈ pre d p k t, nodeErr x.2.2 = none) → NamesD d t
  | 0, _, _, _, h, _ => h
  | d + 1, p, k, t, h, ho => by
    simp only [pre] at ho
    exact fun y hy => ⟨names_dir (ho (p, k, t) List.mem_cons_self) y hy, names_tree (p := p ++ slash ++ y.1) (k := k + 1) (h y hy) fun x hx => ho x (List.mem_cons_of_mem _ (List.mem_flatMap.2 ⟨y, hy, hx⟩))⟩
/-- Each node is where its names lead. -/
theorem preN_at : ∀ {d : Nat} {ns : List ByteArray} {t : Tree}, RisesD d t → NamesD d t → ∀ x ∈ preN d ns t, ∃ m, x.1 = ns ++ m ∧ atR m t = some x.2 ∧ m.all nameB = true
  | 0, _, _, h, _, _, _ => h.elim
  | d + 1, ns, t, hr, hn, x, hx => by
    simp only [preN, List.mem_cons, List.mem_flatMap] at hx
    rcases hx with rfl | ⟨y, hy, hx⟩
    · exact ⟨[], by simp, rfl, rfl⟩
    · obtain ⟨m, e, ha, hall⟩ := preN_at (hr.2 y hy) (hn y hy).2 x hx
      obtain ⟨i, hi, hiy⟩ := List.getElem_of_mem hy
      have hyi : t.kids[i]? = some y := by rw [List.getElem?_eq_getElem hi, hiy]
      refine ⟨y.1 :: m, by rw [e]; simp, ?_, by rw [List.all_cons, (hn y hy).1, hall]; rfl⟩
      have hk : kidOf t y.1 = some y.2 := by
        unfold kidOf
        rw [if_pos (there_at hr.1 hyi), place_at hr.1 hyi, hyi]
        rfl
      simp only [atR, hk]
      exact ha
/-- No two nodes have the same names. -/
theorem preN_nodup : ∀ {d : Nat} {ns : List ByteArray} {t : Tree}, RisesD d t → ((preN d ns t).map (·.1)).Nodup
  | 0, _, _, h => h.elim
  | d + 1, ns, t, hr => by
    have pref : ∀ (y : ByteArray × Tree), RisesD d y.2 → ∀ z ∈ (preN d (ns ++ [y.1]) y.2).map (·.1), ∃ m, z = ns ++ y.1 :: m := fun y _ z hz => by
      have key : ∀ (d : Nat) (ms : List ByteArray) (t : Tree), ∀ z ∈ (preN d ms t).map (·.1), ∃ m, z = ms ++ m := by
        intro d
        induction d with
        | zero => intro ms t z hz; simp [preN] at hz
        | succ d ih =>
          intro ms t z hz
          simp only [preN, List.map_cons, List.map_flatMap, List.mem_cons, List.mem_flatMap] at hz
          rcases hz with rfl | ⟨x, _, hz⟩
          · exact ⟨[], by simp⟩
          · obtain ⟨m, e⟩ := ih _ _ z hz
            exact ⟨x.1 :: m, by rw [e]; simp⟩
      obtain ⟨m, e⟩ := key d _ _ z hz
      exact ⟨m, by rw [e]; simp⟩
    simp only [preN, List.map_cons, List.map_flatMap]
    rw [List.nodup_cons]
    refine ⟨fun h => ?_, ?_⟩
    · obtain ⟨y, hy, hz⟩ := List.mem_flatMap.1 h
      obtain ⟨m, e⟩ := pref y (hr.2 y hy) ns hz
      have := congrArg List.length e
      simp at this
    · have dist : ∀ (l : List (ByteArray × Tree)), Rises l → (∀ x ∈ l, RisesD d x.2) → (l.flatMap fun x => (preN d (ns ++ [x.1]) x.2).map (·.1)).Nodup := by
        intro l
        induction l with
        | nil => intro _ _; simp
        | cons y l ih =>
          intro h1 h2
          rw [List.flatMap_cons, List.nodup_append]
          refine ⟨preN_nodup (h2 y (by simp)), ih (fun i j x z hij hx hz => h1 (i + 1) (j + 1) x z (by omega) (by simpa using hx) (by simpa using hz)) (fun x hx => h2 x (by simp [hx])), fun z hz z' hz' e => ?_⟩
          subst e
          obtain ⟨m, e1⟩ := pref y (h2 y (by simp)) z hz
          obtain ⟨x, hx, hzx⟩ := List.mem_flatMap.1 hz'
          obtain ⟨m', e2⟩ := pref x (h2 x (by simp [hx])) z hzx
          rw [e1] at e2
          have e3 := List.append_cancel_left e2
          injection e3 with e4 _
          obtain ⟨i, hi, hix⟩ := List.getElem_of_mem hx
          have := h1 0 (i + 1) y x (by omega) rfl (by rw [List.getElem?_cons_succ, List.getElem?_eq_getElem hi, hix])
          rw [e4, less_irrefl] at this
          cases this
      exact dist t.kids hr.1 hr.2
end Go.Proofs.YtpjjpmikhjlgnaaGreatDoor
