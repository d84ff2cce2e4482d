/-
  Names put together to a path, and cut again: plain mathematics.
  How a path is told: plain mathematics.
  A tree's nodes, each with its names: plain mathematics.
  The contract of tree.walk, once more, for the function that package tree's each hands it.
  Conditions: those that each states.
-/
import Derived.Test.YteefneelcgeioaaGreatDoorH21
import Derived.Test.YteefneelcgeioaaGreatDoorH30
import Derived.Test.YteefneelcgeioaaGreatDoorH32
import Derived.Test.YteefneelcgeioaaGreatDoorH25
namespace Go.Proofs.YteefneelcgeioaaGreatDoor
open Go.RowKit

theorem ba_ext' {s t : ByteArray} (h : s.data.toList = t.data.toList) : s = t := by
  obtain ⟨⟨a⟩⟩ := s
  obtain ⟨⟨b⟩⟩ := t
  simp only at h
  subst h; rfl
/-- Each name with a stroke ahead. -/
def joinL (l : List ByteArray) : List UInt8 := l.flatMap fun x => 47 :: x.data.toList
def joinB (l : List ByteArray) : ByteArray := ⟨(joinL l).toArray⟩
theorem joinB_list (l : List ByteArray) : (joinB l).data.toList = joinL l := rfl
theorem cutL_join : ∀ (l : List UInt8), ((cutL l).flatMap fun x => 47 :: x) = 47 :: l
  | [] => rfl
  | c :: l => by
    have ih := cutL_join l
    by_cases hc : c = 47
    · subst hc
      rw [cutL_stroke, List.flatMap_cons, ih]
      rfl
    · obtain ⟨h, t, e⟩ : ∃ h t, cutL l = h :: t := by
        cases h : cutL l with
        | nil => exact absurd h (cutL_ne l)
        | cons a b => exact ⟨a, b, rfl⟩
      rw [cutL_byte hc e]
      rw [e, List.flatMap_cons] at ih
      rw [List.flatMap_cons]
      simp only [List.cons_append, List.cons.injEq, true_and] at ih ⊢
      exact ih
/-- Names of a path make it again. -/
theorem split_join {s : ByteArray} {l : List ByteArray} (h : splitR s = some l) : (s = strokeB ∧ l = []) ∨ (s ≠ strokeB ∧ joinB l = s) := by
  by_cases hs : s = strokeB
  · left
    subst hs
    rw [splitR_one] at h
    injection h with h
    exact ⟨rfl, h.symm⟩
  · right
    refine ⟨hs, ?_⟩
    cases hl : s.data.toList with
    | nil => rw [splitR_nil hs hl] at h; cases h
    | cons c r =>
      rw [splitR_cons hs hl] at h
      split at h
      · rename_i h2
        injection h with h
        subst h
        have e : joinL ((cutL r).map fun x => (⟨x.toArray⟩ : ByteArray)) = 47 :: r := by
          unfold joinL
          rw [List.flatMap_map]
          exact cutL_join r
        have e2 : (joinB ((cutL r).map fun x => (⟨x.toArray⟩ : ByteArray))).data.toList = s.data.toList := by
          rw [joinB_list, e, hl, h2.1]
        obtain ⟨⟨k⟩⟩ := s
        simp only at e2
        unfold joinB at e2 ⊢
        simp only at e2
        rw [e2]
      · cases h
/-- No stroke. -/
def NoStroke (x : ByteArray) : Prop := ∀ c ∈ x.data.toList, c ≠ 47
theorem cutL_piece : ∀ {x : List UInt8}, (∀ c ∈ x, c ≠ 47) → ∀ (r : List UInt8), cutL (x ++ 47 :: r) = x :: cutL r
  | [], _, r => cutL_stroke r
  | c :: x, h, r => by
    rw [List.cons_append, cutL_byte (h c (by simp)) (cutL_piece (fun d hd => h d (by simp [hd])) r)]
theorem cutL_last : ∀ {x : List UInt8}, (∀ c ∈ x, c ≠ 47) → cutL x = [x]
  | [], _ => rfl
  | c :: x, h => by rw [cutL_byte (h c (by simp)) (cutL_last (fun d hd => h d (by simp [hd])))]
theorem join_cut : ∀ (x : ByteArray) (l : List ByteArray), (∀ y ∈ x :: l, NoStroke y) → cutL (x.data.toList ++ joinL l) = (x :: l).map (·.data.toList)
  | x, [], h => by
    show cutL (x.data.toList ++ []) = _
    rw [List.append_nil, cutL_last (h x (by simp))]
    rfl
  | x, y :: l, h => by
    have ih := join_cut y l fun z hz => h z (by simp [hz])
    show cutL (x.data.toList ++ (47 :: y.data.toList ++ joinL l)) = _
    rw [List.cons_append, cutL_piece (h x (by simp)), ih]
    rfl
theorem map_back (l : List ByteArray) : (l.map (·.data.toList)).map (fun x => (⟨x.toArray⟩ : ByteArray)) = l := by
  rw [List.map_map]
  have : (fun x : List UInt8 => (⟨x.toArray⟩ : ByteArray)) ∘ (fun x : ByteArray => x.data.toList) = id := by
    funext x
    rfl
  rw [this, List.map_id]
theorem joinB_ne {x : ByteArray} {l : List ByteArray} (h : ¬ (l = [] ∧ x = ByteArray.empty)) : joinB (x :: l) ≠ strokeB := by
  intro e
  have e2 := congrArg (fun s : ByteArray => s.data.toList) e
  simp only [joinB_list] at e2
  have e3 : joinL (x :: l) = 47 :: (x.data.toList ++ joinL l) := rfl
  rw [e3] at e2
  have e4 : strokeB.data.toList = [47] := rfl
  rw [e4] at e2
  simp only [List.cons.injEq, true_and, List.append_eq_nil_iff] at e2
  apply h
  refine ⟨?_, ?_⟩
  · cases l with
    | nil => rfl
    | cons y l => have := e2.2; simp [joinL] at this
  · have h1 := e2.1
    obtain ⟨⟨k⟩⟩ := x
    simp only at h1
    subst h1; rfl
/-- Of names there is a path just if each is one, and they are not too many. -/
theorem join_split {x : ByteArray} {l : List ByteArray} (hn : ∀ y ∈ x :: l, NoStroke y) (h : ¬ (l = [] ∧ x = ByteArray.empty)) :
    splitR (joinB (x :: l)) = if decide ((x :: l).length ≤ 8) && (x :: l).all nameB then some (x :: l) else none := by
  have e : (joinB (x :: l)).data.toList = 47 :: (x.data.toList ++ joinL l) := rfl
  rw [splitR_cons (joinB_ne h) e, join_cut x l hn, all_map, map_back, List.length_map]
  simp
theorem joinB_nil : joinB [] = ByteArray.empty := rfl
theorem joinB_empty : joinB [ByteArray.empty] = strokeB := rfl
theorem joinB_snoc {l : List ByteArray} {j : Nat} {x : ByteArray} (hx : l[j]? = some x) : joinB (l.take (j + 1)) = joinB (l.take j) ++ strokeB ++ x := by
  have hj : j < l.length := (List.getElem?_eq_some_iff.1 hx).1
  have e : l.take (j + 1) = l.take j ++ [x] := by rw [List.take_succ_eq_append_getElem hj, (List.getElem?_eq_some_iff.1 hx).2]
  apply ba_ext'
  rw [ByteArray.data_append, Array.toList_append, ByteArray.data_append, Array.toList_append, joinB_list, joinB_list, e]
  unfold joinL
  rw [List.flatMap_append]
  simp [strokeB]
theorem joinB_size {l : List ByteArray} {n : Nat} (h : ∀ x ∈ l, x.size ≤ n) : (joinB l).size ≤ l.length * (n + 1) := by
  have e : (joinB l).size = (joinL l).length := rfl
  rw [e]
  clear e
  induction l with
  | nil => simp [joinL]
  | cons y l ih =>
    have h1 := h y (by simp)
    have h2 := ih fun x hx => h x (by simp [hx])
    have e2 : joinL (y :: l) = 47 :: (y.data.toList ++ joinL l) := rfl
    rw [e2]
    simp only [List.length_cons, List.length_append, Array.length_toList, ByteArray.size_data]
    have e3 : (l.length + 1) * (n + 1) = l.length * (n + 1) + (n + 1) := Nat.succ_mul _ _
    omega
end Go.Proofs.YteefneelcgeioaaGreatDoor
namespace Go.Proofs.YteefneelcgeioaaGreatDoor
open Go.RowKit

/-- How a path is told. -/
def tellP (m : List ByteArray) : ByteArray := if (joinB m).toList.isEmpty = true then slash else joinB m
theorem joinB_isEmpty (m : List ByteArray) : (joinB m).toList.isEmpty = m.isEmpty := by
  rw [ba_toList, joinB_list]
  cases m <;> rfl
theorem name_noStroke {x : ByteArray} (h : nameB x = true) : NoStroke x := fun c hc e => by
  unfold nameB at h
  simp only [Bool.and_eq_true, List.all_eq_true] at h
  have := h.2 c hc
  subst e
  simp [nb] at this
theorem name_ne {x : ByteArray} (h : nameB x = true) : x ≠ ByteArray.empty := fun e => by
  unfold nameB at h
  simp only [Bool.and_eq_true, decide_eq_true_eq] at h
  rw [e] at h
  have := h.1.1.1.1
  simp at this
theorem tell_split {m : List ByteArray} (h8 : m.length ≤ 8) (hn : m.all nameB = true) : splitR (tellP m) = some m := by
  unfold tellP
  rw [joinB_isEmpty]
  cases m with
  | nil => exact splitR_one
  | cons x r =>
    have hx : ∀ y ∈ x :: r, nameB y = true := fun y hy => List.all_eq_true.1 hn y hy
    rw [if_neg (by simp), join_split (fun y hy => name_noStroke (hx y hy)) (fun h => name_ne (hx x (by simp)) h.2), if_pos (by simp only [Bool.and_eq_true, decide_eq_true_eq]; exact ⟨h8, hn⟩)]
theorem tell_size {m : List ByteArray} (h8 : m.length ≤ 8) (hn : m.all nameB = true) : (tellP m).size ≤ 1000 := by
  unfold tellP
  split
  · decide
  · have h1 := joinB_size (l := m) (n := 12) fun x hx => by
      have := List.all_eq_true.1 hn x hx
      unfold nameB at this
      simp only [Bool.and_eq_true, decide_eq_true_eq] at this
      exact this.1.1.1.2
    have h2 : m.length * (12 + 1) ≤ 8 * 13 := Nat.mul_le_mul h8 (Nat.le_refl _)
    omega
theorem splitR_names {s : ByteArray} {l : List ByteArray} (h : splitR s = some l) : l.all nameB = true := by
  unfold splitR at h
  split at h
  · injection h with h; subst h; rfl
  · split at h
    · cases h
    · split at h
      · rename_i h2
        injection h with h
        subst h
        rw [← all_map]
        exact h2.2.2
      · cases h
end Go.Proofs.YteefneelcgeioaaGreatDoor
namespace Go.Proofs.YteefneelcgeioaaGreatDoor
open Go.RowKit

/-- A tree's nodes, each with its names. -/
def preN : Nat → List ByteArray → Tree → List (List ByteArray × Tree)
  | 0, _, _ => []
  | d + 1, ns, t => (ns, t) :: t.kids.flatMap fun x => preN d (ns ++ [x.1]) x.2
theorem joinB_app (l : List ByteArray) (x : ByteArray) : joinB (l ++ [x]) = joinB l ++ slash ++ x := by
  have h := joinB_snoc (l := l ++ [x]) (j := l.length) (x := x) (by simp)
  rw [List.take_of_length_le (by simp), List.take_left] at h
  exact h
theorem pre_names : ∀ (d : Nat) (ns : List ByteArray) (t : Tree), pre d (joinB ns) ns.length t = (preN d ns t).map fun x => (joinB x.1, x.1.length, x.2)
  | 0, _, _ => rfl
  | d + 1, ns, t => by
    simp only [pre, preN, List.map_cons, List.map_flatMap]
    congr 1
    rw [List.flatMap_def, List.flatMap_def]
    congr 1
    apply List.map_congr_left
    intro x _
    have h := pre_names d (ns ++ [x.1]) x.2
    rw [joinB_app, List.length_append] at h
    exact h
/-- Names are names, all the way down; so deep at most. -/
def NamesD : Nat → Tree → Prop
  | 0, _ => False
  | d + 1, t => ∀ x ∈ t.kids, nameB x.1 = true ∧ NamesD d x.2
theorem names_dir {t : Tree} (h : nodeErr t = none) : ∀ x ∈ t.kids, nameB x.1 = true := by
  obtain ⟨kd, da, ex, ki⟩ := t
  unfold nodeErr at h
  have nil : ki.length = 0 → ∀ x ∈ ki, nameB x.1 = true := fun e x hx => by
    rw [List.eq_nil_of_length_eq_zero e] at hx
    simp at hx
  split at h
  · unfold fileErr at h
    split at h
    · cases h
    · rename_i h1
      exact nil (by simp only at h1; omega)
  · split at h
    · unfold dirErr at h
      split at h
      · cases h
      · split at h
        · rename_i h2
          exact fun x hx => List.all_eq_true.1 h2 x hx
        · cases h
    · split at h
      · unfold linkErr at h
        split at h
        · cases h
        · rename_i h1
          simp only [not_or] at h1
          exact nil (by have := h1.2; omega)
      · cases h
theorem names_tree : ∀ {d : Nat} {p : ByteArray} {k : Nat} {t : Tree}, Fit d t → (∀ x ∈ pre d p k t, nodeErr x.2.2 = none) → NamesD d t
  | 0, _, _, _, h, _ => h
  | d + 1, p, k, t, h, ho => by
    simp only [pre] at ho
    exact fun y hy => ⟨names_dir (ho (p, k, t) List.mem_cons_self) y hy, names_tree (p := p ++ slash ++ y.1) (k := k + 1) (h y hy) fun x hx => ho x (List.mem_cons_of_mem _ (List.mem_flatMap.2 ⟨y, hy, hx⟩))⟩
/-- Each node is where its names lead. -/
theorem preN_at : ∀ {d : Nat} {ns : List ByteArray} {t : Tree}, RisesD d t → NamesD d t → ∀ x ∈ preN d ns t, ∃ m, x.1 = ns ++ m ∧ atR m t = some x.2 ∧ m.all nameB = true
  | 0, _, _, h, _, _, _ => h.elim
  | d + 1, ns, t, hr, hn, x, hx => by
    simp only [preN, List.mem_cons, List.mem_flatMap] at hx
    rcases hx with rfl | ⟨y, hy, hx⟩
    · exact ⟨[], by simp, rfl, rfl⟩
    · obtain ⟨m, e, ha, hall⟩ := preN_at (hr.2 y hy) (hn y hy).2 x hx
      obtain ⟨i, hi, hiy⟩ := List.getElem_of_mem hy
      have hyi : t.kids[i]? = some y := by rw [List.getElem?_eq_getElem hi, hiy]
      refine ⟨y.1 :: m, by rw [e]; simp, ?_, by rw [List.all_cons, (hn y hy).1, hall]; rfl⟩
      have hk : kidOf t y.1 = some y.2 := by
        unfold kidOf
        rw [if_pos (there_at hr.1 hyi), place_at hr.1 hyi, hyi]
        rfl
      simp only [atR, hk]
      exact ha
/-- No two nodes have the same names. -/
theorem preN_nodup : ∀ {d : Nat} {ns : List ByteArray} {t : Tree}, RisesD d t → ((preN d ns t).map (·.1)).Nodup
  | 0, _, _, h => h.elim
  | d + 1, ns, t, hr => by
    have pref : ∀ (y : ByteArray × Tree), RisesD d y.2 → ∀ z ∈ (preN d (ns ++ [y.1]) y.2).map (·.1), ∃ m, z = ns ++ y.1 :: m := fun y _ z hz => by
      have key : ∀ (d : Nat) (ms : List ByteArray) (t : Tree), ∀ z ∈ (preN d ms t).map (·.1), ∃ m, z = ms ++ m := by
        intro d
        induction d with
        | zero => intro ms t z hz; simp [preN] at hz
        | succ d ih =>
          intro ms t z hz
          simp only [preN, List.map_cons, List.map_flatMap, List.mem_cons, List.mem_flatMap] at hz
          rcases hz with rfl | ⟨x, _, hz⟩
          · exact ⟨[], by simp⟩
          · obtain ⟨m, e⟩ := ih _ _ z hz
            exact ⟨x.1 :: m, by rw [e]; simp⟩
      obtain ⟨m, e⟩ := key d _ _ z hz
      exact ⟨m, by rw [e]; simp⟩
    simp only [preN, List.map_cons, List.map_flatMap]
    rw [List.nodup_cons]
    refine ⟨fun h => ?_, ?_⟩
    · obtain ⟨y, hy, hz⟩ := List.mem_flatMap.1 h
      obtain ⟨m, e⟩ := pref y (hr.2 y hy) ns hz
      have := congrArg List.length e
      simp at this
    · have dist : ∀ (l : List (ByteArray × Tree)), Rises l → (∀ x ∈ l, RisesD d x.2) → (l.flatMap fun x => (preN d (ns ++ [x.1]) x.2).map (·.1)).Nodup := by
        intro l
        induction l with
        | nil => intro _ _; simp
        | cons y l ih =>
          intro h1 h2
          rw [List.flatMap_cons, List.nodup_append]
          refine ⟨preN_nodup (h2 y (by simp)), ih (fun i j x z hij hx hz => h1 (i + 1) (j + 1) x z (by omega) (by simpa using hx) (by simpa using hz)) (fun x hx => h2 x (by simp [hx])), fun z hz z' hz' e => ?_⟩
          subst e
          obtain ⟨m, e1⟩ := pref y (h2 y (by simp)) z hz
          obtain ⟨x, hx, hzx⟩ := List.mem_flatMap.1 hz'
          obtain ⟨m', e2⟩ := pref x (h2 x (by simp [hx])) z hzx
          rw [e1] at e2
          have e3 := List.append_cancel_left e2
          injection e3 with e4 _
          obtain ⟨i, hi, hix⟩ := List.getElem_of_mem hx
          have := h1 0 (i + 1) y x (by omega) rfl (by rw [List.getElem?_cons_succ, List.getElem?_eq_getElem hi, hix])
          rw [e4, less_irrefl] at this
          cases this
      exact dist t.kids hr.1 hr.2
end Go.Proofs.YteefneelcgeioaaGreatDoor
namespace Go.Proofs.YteefneelcgeioaaGreatDoor
open Go.RowKit

set_option maxHeartbeats 1000000 in
theorem walk_each1 {σ : Type} {step : σ → ByteArray × Nat × Tree → σ × Option Nat} {ok : σ → ByteArray × Nat × Tree → Prop} {J : σ → (Nat → Prop) → World → Prop} (a : Nat → Addr) (c : Addr) (B : Nat) (V : Visit a 71 (.pointer (some c)) B step ok J) :
    ∀ (d : Nat) (t : Tree) (p : ByteArray) (k : Nat) (u : Value) (s : σ) (C : Nat → Prop) (w : World), J s C w → SentsB a B w → B ≤ w.heap.size → Lies w B d t.kids u → Alive step ok s (pre d p k t) →
      Calls Tryz.prog 57 #[.string p, .int .i64 (k : Int), .agg #[.string t.kind, .string t.data, .bool t.exec, u], .func (.func 71) #[] #[.pointer (some c)]] w fun e w' =>
        e = .returned (errV a (runs step s (pre d p k t)).2) ∧ ∃ C', J (runs step s (pre d p k t)).1 C' w' ∧ Kept C w w' ∧ ∀ j, C' j → C j ∨ w.heap.size ≤ j := by
  intro d
  induction d with
  | zero => intro t p k u s C w _ _ _ hl; exact absurd hl (by simp [Lies])
  | succ d ih =>
    intro t p k u s C w hJ S hB hl hal
    obtain ⟨ad, cap, rfl⟩ := hl.form
    have hW : ∀ o, Below w.heap.size w (w.alloc o) := fun o => (Below.refl _ _).alloc (Nat.le_refl _) o
    have hv := V.call s C (w.alloc (.cells #[.string t.kind, .string t.data, .bool t.exec, .slice ad t.kids.length cap] 32)) d p k t (.slice ad t.kids.length cap) (V.alloc hJ _) (S.below (hW _) hB) (by simp; omega) (hl.below (hW _) hB) hal.1
    have hlow := V.low s C w hJ
    cases hst : step s (p, k, t) with
    | mk s1 o =>
      rw [hst] at hv
      cases o with
      | some er =>
        have hr : runs step s (pre (d + 1) p k t) = (s1, some er) := by simp [pre, runs, hst]
        rw [hr]
        have HV : Hid (Calls Tryz.prog 71 #[.string p, .int .i64 (k : Int), .agg #[.string t.kind, .string t.data, .bool t.exec, .slice ad t.kids.length cap], .pointer (some c)] (w.alloc (.cells #[.string t.kind, .string t.data, .bool t.exec, .slice ad t.kids.length cap] 32)) fun e w' =>
          e = .returned (.iface 235 (.pointer (some (a er)))) ∧ ∃ C', J s1 C' w' ∧ Kept C (w.alloc (.cells #[.string t.kind, .string t.data, .bool t.exec, .slice ad t.kids.length cap] 32)) w' ∧ ∀ j, C' j → C j ∨ (w.alloc (.cells #[.string t.kind, .string t.data, .bool t.exec, .slice ad t.kids.length cap] 32)).heap.size ≤ j) := hv
        have HW : Hid _ := hW
        clear hr hst hal ih hv hJ S hl hlow hW
        go_enter Tryz.func57, Tryz.ntmps57
        go_wp2_with fail
        refine Calls.mono HV.out ?_
        rintro e w2 ⟨rfl, C2, hJ2, hK2, hC2⟩
        go_wp2_with fail
        go_ret
        refine ⟨rfl, C2, hJ2, (Kept.of_below (HW.out _)).trans hK2 (fun j h => .inl h), fun j hj => ?_⟩
        rcases hC2 j hj with h | h
        · exact .inl h
        · exact .inr (by simp at h; omega)
      | none =>
        have hr : runs step s (pre (d + 1) p k t) = runs step s1 (t.kids.flatMap fun x => pre d (p ++ slash ++ x.1) (k + 1) x.2) := by simp [pre, runs, hst]
        rw [hr]
        have hal1 : Alive step ok s1 (t.kids.flatMap fun x => pre d (p ++ slash ++ x.1) (k + 1) x.2) := by
          have := hal.2
          rw [hst] at this
          exact this rfl
        have HV : Hid (Calls Tryz.prog 71 #[.string p, .int .i64 (k : Int), .agg #[.string t.kind, .string t.data, .bool t.exec, .slice ad t.kids.length cap], .pointer (some c)] (w.alloc (.cells #[.string t.kind, .string t.data, .bool t.exec, .slice ad t.kids.length cap] 32)) fun e w' =>
          e = .returned .nilIface ∧ ∃ C', J s1 C' w' ∧ Kept C (w.alloc (.cells #[.string t.kind, .string t.data, .bool t.exec, .slice ad t.kids.length cap] 32)) w' ∧ ∀ j, C' j → C j ∨ (w.alloc (.cells #[.string t.kind, .string t.data, .bool t.exec, .slice ad t.kids.length cap] 32)).heap.size ≤ j) := hv
        have q3 : (w.alloc (.cells #[.string t.kind, .string t.data, .bool t.exec, .slice ad t.kids.length cap] 32)).cell? ⟨w.heap.size, 3, none⟩ = some (.slice ad t.kids.length cap) := by rw [World.cell?_alloc_at _ _ _ _ rfl]; rfl
        have HZ : Hid ((w.alloc (.cells #[.string t.kind, .string t.data, .bool t.exec, .slice ad t.kids.length cap] 32)).heap.size = w.heap.size + 1) := show _ = _ by simp
        have hW1 := hW (.cells #[.string t.kind, .string t.data, .bool t.exec, .slice ad t.kids.length cap] 32)
        have HJ : Hid _ := hJ
        have HI : Hid _ := ih
        clear hr hst hal hv hW hJ ih
        go_enter Tryz.func57, Tryz.ntmps57
        go_wp2_with fail
        refine Calls.mono HV.out ?_
        rintro e w2 ⟨rfl, C2, hJ2, hK2, hC2⟩
        generalize w.alloc (.cells #[.string t.kind, .string t.data, .bool t.exec, .slice ad t.kids.length cap] 32) = W1 at *
        have q3' : w2.cell? ⟨w.heap.size, 3, none⟩ = some (.slice ad t.kids.length cap) := by
          rw [World.cell?_of_block (w := W1) (hK2.block w.heap.size (by rw [HZ.out]; exact Nat.lt_succ_self _) (fun hc => Nat.lt_irrefl _ (hlow _ hc).2))]; exact q3
        have HK2 : Hid _ := hK2
        have HC2 : Hid _ := hC2
        clear HV q3 hK2 hC2
        have HL := hl.open
        obtain ⟨hlen, HL⟩ := HL
        have HL : Hid _ := HL
        have HAL : Hid _ := hal1
        clear hal1 hl
        go_wp2_with fail
        go_loopw [24] (fun i wr => ∃ (j : Nat) (s' : σ) (C' : Nat → Prop), j ≤ t.kids.length ∧ i = .int .i64 j ∧ runs step s1 ((t.kids.take j).flatMap fun x => pre d (p ++ slash ++ x.1) (k + 1) x.2) = (s', none) ∧ J s' C' wr ∧ Kept C W1 wr ∧ (∀ m, C' m → C m ∨ W1.heap.size ≤ m)) (fun i _ => t.kids.length - (intOf i).toNat)
        case atStart => exact ⟨0, s1, C2, Nat.zero_le _, rfl, rfl, hJ2, HK2.out, HC2.out⟩
        case round =>
          obtain ⟨j, s', C', hj, rfl, hrun, hJ', hK', hC'⟩ := hrel
          by_cases hlt : j < t.kids.length
          · obtain ⟨x, hx⟩ : ∃ x, t.kids[j]? = some x := ⟨t.kids[j], List.getElem?_eq_getElem hlt⟩
            obtain ⟨b, off, rfl, u, K0⟩ : ∃ b off, ad = some ⟨b, off, none⟩ ∧ ∃ u, KidAt w B d b off j x u := by
              rcases HL.out with ⟨h0, _⟩ | ⟨b, off, cp, e, _, hk⟩
              · rw [h0] at hlt; exact absurd hlt (by simp)
              · simp only [Value.slice.injEq] at e
                exact ⟨b, off, e.1, hk j x hx⟩
            have hbB : Below B w wr := (hW1.mono hB).trans (hK'.below (fun m hm => (hlow m hm).1) (by have := HZ.out; omega))
            have hBr : B ≤ wr.heap.size := by have := hK'.size; have := HZ.out; omega
            have K := K0.below hbB (Nat.le_refl _)
            obtain ⟨ua, uc, rfl⟩ := K.lies.form
            have ha1 := HAL.out
            rw [flat_split hx] at ha1
            have ha2 := ha1.append.2 (by rw [hrun])
            rw [hrun] at ha2
            have ha3 := ha2.append.1
            have hbd : (p ++ slash ++ x.1).size ≤ maxLen ∧ k + 1 ≤ 4611686018427387904 := by
              have hl' := K.lies
              cases d with
              | zero => exact absurd hl' (by simp [Lies])
              | succ d => exact V.bound _ _ ha3.1
            have hp2 : p.size + 1 + x.1.size ≤ 9223372036854775807 := by
              have := hbd.1
              simp only [ByteArray.size_append, maxLen] at this
              have e : slash.size = 1 := rfl
              omega
            have hk2 := hbd.2
            have hcall := HI.out x.2 (p ++ slash ++ x.1) (k + 1) (.slice ua x.2.kids.length uc) s' C' (wr.alloc (.cells #[.string x.1, .string x.2.kind, .string x.2.data, .bool x.2.exec, .slice ua x.2.kids.length uc] 86)) (V.alloc hJ' _)
              ((S.below hbB (Nat.le_refl _)).below ((Below.refl _ _).alloc (Nat.le_refl _) _) hBr) (by simp; omega) (K.lies.below ((Below.refl _ _).alloc (Nat.le_refl _) _) hBr) ha3
            have ek : ((k + 1 : Nat) : Int) = (k : Int) + 1 := by omega
            rw [ek] at hcall
            have n0 := K.name
            have n1 := K.kind
            have n2 := K.data
            have n3 := K.exec
            have n4 := K.kids
            have HX : Hid _ := hx
            have HJ' : Hid _ := hJ'
            have HK' : Hid _ := hK'
            have HC' : Hid _ := hC'
            have HR : Hid _ := hrun
            cases hr2 : runs step s' (pre d (p ++ slash ++ x.1) (k + 1) x.2) with
            | mk s2 o =>
              rw [hr2] at hcall
              cases o with
              | some er =>
                have HF : Hid _ := runs_flat_err HX.out HR.out hr2
                have HCALL : Hid (Calls Tryz.prog 57 #[.string (p ++ slash ++ x.1), .int .i64 ((k : Int) + 1), .agg #[.string x.2.kind, .string x.2.data, .bool x.2.exec, .slice ua x.2.kids.length uc], .func (.func 71) #[] #[.pointer (some c)]] (wr.alloc (.cells #[.string x.1, .string x.2.kind, .string x.2.data, .bool x.2.exec, .slice ua x.2.kids.length uc] 86)) fun e w' =>
                    e = .returned (.iface 235 (.pointer (some (a er)))) ∧ ∃ C'', J s2 C'' w' ∧ Kept C' (wr.alloc (.cells #[.string x.1, .string x.2.kind, .string x.2.data, .bool x.2.exec, .slice ua x.2.kids.length uc] 86)) w' ∧ ∀ m, C'' m → C' m ∨ (wr.alloc (.cells #[.string x.1, .string x.2.kind, .string x.2.data, .bool x.2.exec, .slice ua x.2.kids.length uc] 86)).heap.size ≤ m) := hcall
                clear hcall ek ha1 ha2 ha3 hbd hx hJ' hK' hC' hrun K K0 hbB S hlow hr2
                go_wp2_with fail
                refine Calls.mono HCALL.out ?_
                rintro e w4 ⟨rfl, C4, hJ4, hK4, hC4⟩
                have HJ4 : Hid _ := hJ4
                have HK4 : Hid _ := hK4
                have HC4 : Hid _ := hC4
                clear hJ4 hK4 hC4
                go_wp2_with fail
                go_ret
                rw [HF.out]
                refine ⟨rfl, C4, HJ4.out, ?_, fun m hm => ?_⟩
                · exact (Kept.of_below hW1).trans (HK'.out.trans ((Kept.of_below ((Below.refl _ _).alloc (Nat.le_refl _) _)).trans HK4.out (fun m h => .inl h)) HC'.out) (fun m h => .inl h)
                · rcases HC4.out m hm with h | h
                  · rcases HC'.out m h with h | h
                    · exact .inl h
                    · exact .inr (by have := HZ.out; omega)
                  · exact .inr (by have := HZ.out; have := HK'.out.size; simp at h; omega)
              | none =>
                have HF : Hid _ := runs_flat_next HX.out HR.out hr2
                have HCALL : Hid (Calls Tryz.prog 57 #[.string (p ++ slash ++ x.1), .int .i64 ((k : Int) + 1), .agg #[.string x.2.kind, .string x.2.data, .bool x.2.exec, .slice ua x.2.kids.length uc], .func (.func 71) #[] #[.pointer (some c)]] (wr.alloc (.cells #[.string x.1, .string x.2.kind, .string x.2.data, .bool x.2.exec, .slice ua x.2.kids.length uc] 86)) fun e w' =>
                    e = .returned .nilIface ∧ ∃ C'', J s2 C'' w' ∧ Kept C' (wr.alloc (.cells #[.string x.1, .string x.2.kind, .string x.2.data, .bool x.2.exec, .slice ua x.2.kids.length uc] 86)) w' ∧ ∀ m, C'' m → C' m ∨ (wr.alloc (.cells #[.string x.1, .string x.2.kind, .string x.2.data, .bool x.2.exec, .slice ua x.2.kids.length uc] 86)).heap.size ≤ m) := hcall
                clear hcall ek ha1 ha2 ha3 hbd hx hJ' hK' hC' hrun K K0 hbB S hlow hr2
                go_wp2_with fail
                refine Calls.mono HCALL.out ?_
                rintro e w4 ⟨rfl, C4, hJ4, hK4, hC4⟩
                have HJ4 : Hid _ := hJ4
                have HK4 : Hid _ := hK4
                have HC4 : Hid _ := hC4
                clear hJ4 hK4 hC4
                go_wp2_with fail
                go_roundw
                case rel =>
                  refine ⟨j + 1, s2, C4, by omega, by go_num, HF.out, HJ4.out, ?_, fun m hm => ?_⟩
                  · exact HK'.out.trans ((Kept.of_below ((Below.refl _ _).alloc (Nat.le_refl _) _)).trans HK4.out (fun m h => .inl h)) HC'.out
                  · rcases HC4.out m hm with h | h
                    · exact HC'.out m h
                    · exact .inr (by have := HK'.out.size; simp at h; omega)
                case measure => simp [intOf]; omega
          · have et : t.kids.take j = t.kids := List.take_of_length_le (by omega)
            rw [et] at hrun
            have HR : Hid _ := hrun
            have HJ' : Hid _ := hJ'
            have HK' : Hid _ := hK'
            have HC' : Hid _ := hC'
            clear et hrun hJ' hK' hC'
            go_wp2_with fail
            go_ret
            rw [HR.out]
            refine ⟨rfl, C', HJ'.out, (Kept.of_below hW1).trans HK'.out (fun j h => .inl h), fun j hj => ?_⟩
            rcases HC'.out j hj with h | h
            · exact .inl h
            · exact .inr (by have := HZ.out; omega)
end Go.Proofs.YteefneelcgeioaaGreatDoor
