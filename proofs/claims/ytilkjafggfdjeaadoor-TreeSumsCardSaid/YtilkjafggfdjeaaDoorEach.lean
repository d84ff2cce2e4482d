/-
  The contract of tree.each: where a tree is well it hands each node, in the order of the walk, to a function that keeps to a contract of its own ('Told').
  Conditions: as those of tree.Check.
-/
import Derived.Test.YtilkjafggfdjeaaDoorCheck
import Derived.Test.YtilkjafggfdjeaaDoorWalkE
import Derived.Laws.EntriesVeiled
namespace Go.Proofs.YtilkjafggfdjeaaDoor
open Go.RowKit

/-- The contract of a function that is told of each node. -/
structure Told (f : FuncId) (c : Value) (B : Nat) {σ : Type} (step : σ → ByteArray × Nat × Tree → σ) (ok : σ → ByteArray × Nat × Tree → Prop) (J : σ → (Nat → Prop) → World → Prop) : Prop where
  low : ∀ s C w, J s C w → ∀ k, C k → B ≤ k ∧ k < w.heap.size
  ext : ∀ s C w w', J s C w → (∀ k, C k → w'.heap[k]? = w.heap[k]?) → J s C w'
  bound : ∀ s x, ok s x → x.1.size ≤ maxLen ∧ x.2.1 ≤ 4611686018427387904
  call : ∀ s C w d p (k : Nat) t u, J s C w → B ≤ w.heap.size → Lies w B (d + 1) t.kids u → ok s (p, k, t) →
    Calls Tryd.prog f #[.string p, .agg #[.string t.kind, .string t.data, .bool t.exec, u], c] w fun e w' =>
      e = .returned (.tuple #[]) ∧ ∃ C', J (step s (p, k, t)) C' w' ∧ Kept C w w' ∧ ∀ j, C' j → C j ∨ w.heap.size ≤ j

/-- The state of the function between: the box of the function value besides. -/
def boxJ {σ : Type} (J : σ → (Nat → Prop) → World → Prop) (B eb : Nat) (v : Value) (s : σ) (C : Nat → Prop) (w : World) : Prop :=
  ∃ C0, J s C0 w ∧ (∀ k, C k ↔ C0 k ∨ k = eb) ∧ w.heap[eb]? = some (.cells #[v] 65 (0, 0)) ∧ ¬ C0 eb ∧ B ≤ eb

theorem runs_none {σ : Type} (step : σ → ByteArray × Nat × Tree → σ) : ∀ (l : List (ByteArray × Nat × Tree)) (s : σ), runs (fun s x => (step s x, none)) s l = (l.foldl step s, none)
  | [], _ => rfl
  | x :: r, s => by simp only [runs, List.foldl_cons]; exact runs_none step r (step s x)

set_option maxHeartbeats 1000000 in
theorem each1_Count1 {σ : Type} {step : σ → ByteArray × Nat × Tree → σ} {ok : σ → ByteArray × Nat × Tree → Prop} {J : σ → (Nat → Prop) → World → Prop} (a : Nat → Addr) (c : Addr) (B eb : Nat) (T : Told 43 (.pointer (some c)) B step ok J) :
    Visit a 60 (.pointer (some ⟨eb, 0, none⟩)) B (fun s x => (step s x, none)) ok (boxJ J B eb (.func (.func 43) #[] #[.pointer (some c)])) where
  low s C w h k hk := by
    obtain ⟨C0, h1, h2, h3, _, h5⟩ := h
    rcases (h2 k).1 hk with h | h
    · exact T.low s C0 w h1 k h
    · subst h; exact ⟨h5, lt_of_row h3⟩
  ext s C w w' h hb := by
    obtain ⟨C0, h1, h2, h3, h4, h5⟩ := h
    exact ⟨C0, T.ext s C0 w w' h1 (fun k hk => hb k ((h2 k).2 (.inl hk))), h2, by rw [hb eb ((h2 eb).2 (.inr rfl))]; exact h3, h4, h5⟩
  bound := T.bound
  call := by
    intro s C w d p k t u hJ S hB hl hok
    obtain ⟨C0, h1, h2, h3, h4, h5⟩ := hJ
    obtain ⟨ad, cap, rfl⟩ := hl.form
    have hel : eb < w.heap.size := lt_of_row h3
    have q0 := cell_of_one h3
    have hW : ∀ o, Below w.heap.size w (w.alloc o) := fun o => (Below.refl _ _).alloc (Nat.le_refl _) o
    have hcall := T.call s C0 (w.alloc (.cells #[.string t.kind, .string t.data, .bool t.exec, .slice ad t.kids.length cap] 24)) d p k t (.slice ad t.kids.length cap)
      (T.ext s C0 w _ h1 fun k hk => Below.heap_alloc _ _ _ (T.low s C0 w h1 k hk).2) (by simp; omega) (hl.below (hW _) hB) hok
    have HCALL : Hid _ := hcall
    have HW : Hid _ := hW
    have H2 : Hid _ := h2
    have H1 : Hid _ := h1
    have H3 : Hid _ := h3
    have H4 : Hid _ := h4
    clear hcall hW h1 h2 h3 h4 hl S hok
    go_enter Tryd.func60, Tryd.ntmps60
    go_wp2_with fail
    refine Calls.mono HCALL.out ?_
    rintro e w2 ⟨rfl, C2, hJ2, hK2, hC2⟩
    have HJ2 : Hid _ := hJ2
    have HK2 : Hid _ := hK2
    have HC2 : Hid _ := hC2
    clear hJ2 hK2 hC2
    go_wp2_with fail
    go_ret
    refine ⟨rfl, fun j => C2 j ∨ j = eb, ⟨C2, HJ2.out, fun k => Iff.rfl, ?_, ?_, h5⟩, ?_, ?_⟩
    · rw [HK2.out.block eb (by simp; omega) H4.out, Below.heap_alloc _ _ _ hel]; exact H3.out
    · intro hc
      rcases HC2.out eb hc with h | h
      · exact H4.out h
      · simp at h; omega
    · have hk : Kept C0 w w2 := (Kept.of_below (HW.out _)).trans HK2.out (fun j h => .inl h)
      exact ⟨hk.os, hk.tape, hk.output, hk.size, fun j hj hc => hk.block j hj fun h => hc ((H2.out j).2 (.inl h))⟩
    · intro j hj
      rcases hj with h | h
      · rcases HC2.out j h with h | h
        · exact .inl ((H2.out j).2 (.inl h))
        · exact .inr (by simp at h; omega)
      · exact .inl ((H2.out j).2 (.inr h))

set_option maxHeartbeats 1000000 in
theorem each_no_Count1 (a : Nat → Addr) (d B : Nat) (t : Tree) (u : Value) (c : Addr) (w : World) (S : SentsB a B w) (hB : B ≤ w.heap.size) (hl : Lies w B d t.kids u) (hal : Alive ck ckOk 0 (pre d ByteArray.empty 0 t)) (er : Nat) (hE : treeErr d t = some er) :
    Calls Tryd.prog 42 #[.agg #[.string t.kind, .string t.data, .bool t.exec, u], .func (.func 43) #[] #[.pointer (some c)]] w fun e w' => e = .returned (.tuple #[]) ∧ Below w.heap.size w w' := by
  obtain ⟨ad, cap, rfl⟩ := hl.form
  have hW : ∀ o o', Below w.heap.size w ((w.alloc o).alloc o') := fun o o' => ((Below.refl _ _).alloc (Nat.le_refl _) o).alloc (by simp) o'
  have hcall := fun o o' => check_any a d B t (.slice ad t.kids.length cap) ((w.alloc o).alloc o') (S.below (hW o o') hB) (by simp; omega) (hl.below (hW o o') hB) hal
  rw [hE] at hcall
  have HCALL : Hid (∀ o o', Calls Tryd.prog 15 #[.agg #[.string t.kind, .string t.data, .bool t.exec, .slice ad t.kids.length cap]] ((w.alloc o).alloc o') fun e w' => e = .returned (.iface 176 (.pointer (some (a er)))) ∧ Below ((w.alloc o).alloc o').heap.size ((w.alloc o).alloc o') w') := hcall
  have HW : Hid _ := hW
  clear hcall hW S hl hal hE
  go_enter Tryd.func42, Tryd.ntmps42
  go_wp2_with fail
  refine Calls.mono (HCALL.out _ _) ?_
  rintro e w2 ⟨rfl, hb⟩
  go_wp2_with fail
  go_returns
  exact ⟨rfl, (HW.out _ _).trans (hb.mono (by simp; omega))⟩

set_option maxHeartbeats 1000000 in
theorem each_yes_Count1 {σ : Type} {step : σ → ByteArray × Nat × Tree → σ} {ok : σ → ByteArray × Nat × Tree → Prop} {J : σ → (Nat → Prop) → World → Prop} (a : Nat → Addr) (d B : Nat) (t : Tree) (u : Value) (c : Addr) (T : Told 43 (.pointer (some c)) B step ok J) (s : σ) (C : Nat → Prop) (w : World) (hJ : J s C w)
    (S : SentsB a B w) (hB : B ≤ w.heap.size) (hl : Lies w B d t.kids u) (hal : Alive ck ckOk 0 (pre d ByteArray.empty 0 t)) (hE : treeErr d t = none) (hal2 : Alive (fun s x => (step s x, none)) ok s (pre d ByteArray.empty 0 t)) :
    Calls Tryd.prog 42 #[.agg #[.string t.kind, .string t.data, .bool t.exec, u], .func (.func 43) #[] #[.pointer (some c)]] w fun e w' => e = .returned (.tuple #[]) ∧ ∃ C', J ((pre d ByteArray.empty 0 t).foldl step s) C' w' ∧ Kept C w w' ∧ ∀ j, C' j → C j ∨ w.heap.size ≤ j := by
  obtain ⟨ad, cap, rfl⟩ := hl.form
  have hW : ∀ o o', Below w.heap.size w ((w.alloc o).alloc o') := fun o o' => ((Below.refl _ _).alloc (Nat.le_refl _) o).alloc (by simp) o'
  have hcall := fun o o' => check_any a d B t (.slice ad t.kids.length cap) ((w.alloc o).alloc o') (S.below (hW o o') hB) (by simp; omega) (hl.below (hW o o') hB) hal
  rw [hE] at hcall
  have HCALL : Hid (∀ o o', Calls Tryd.prog 15 #[.agg #[.string t.kind, .string t.data, .bool t.exec, .slice ad t.kids.length cap]] ((w.alloc o).alloc o') fun e w' => e = .returned .nilIface ∧ Below ((w.alloc o).alloc o').heap.size ((w.alloc o).alloc o') w') := hcall
  have hlow := T.low s C w hJ
  have hrow : ∀ o, ((w.alloc o).alloc (.cells #[.func (.func 43) #[] #[.pointer (some c)]] 65)).heap[w.heap.size + 1]? = some (.cells #[.func (.func 43) #[] #[.pointer (some c)]] 65 (0, 0)) := fun o => by
    have := row_alloc (w.alloc o) #[.func (.func 43) #[] #[.pointer (some c)]] 65
    simpa using this
  have hcn : ∀ o, ((w.alloc o).alloc (.cells #[.func (.func 43) #[] #[.pointer (some c)]] 65)).cell? ⟨w.heap.size, 0, none⟩ = (w.alloc o).cell? ⟨w.heap.size, 0, none⟩ := fun o => World.cell?_alloc_lt _ _ _ (by simp)
  have HW : Hid _ := hW
  have HROW : Hid _ := hrow
  have HJ : Hid _ := hJ
  have HS : Hid _ := S
  have HL : Hid _ := hl
  clear hcall hW hJ S hl hal hE hrow hcn
  go_enter Tryd.func42, Tryd.ntmps42
  go_wp2_with fail
  refine Calls.mono (HCALL.out _ _) ?_
  rintro e w2 ⟨rfl, hb⟩
  have hbx : Below w.heap.size w w2 := (HW.out _ _).trans (hb.mono (by simp; omega))
  have hbox : ∀ j, w2.cell? ⟨w.heap.size, j, none⟩ = ((w.alloc (.cells #[.string t.kind, .string t.data, .bool t.exec, .slice ad t.kids.length cap] 24)).alloc (.cells #[.func (.func 43) #[] #[.pointer (some c)]] 65)).cell? ⟨w.heap.size, j, none⟩ := fun j => hb.cell (p := ⟨w.heap.size, j, none⟩) (by simp; omega)
  have hsz : w.heap.size + 1 < w2.heap.size := by have := hb.size; simp at this; omega
  have g0 : w2.cell? ⟨w.heap.size, 0, none⟩ = some (.string t.kind) := by rw [hbox]; simp
  have g1 : w2.cell? ⟨w.heap.size, 1, none⟩ = some (.string t.data) := by rw [hbox]; simp
  have g2 : w2.cell? ⟨w.heap.size, 2, none⟩ = some (.bool t.exec) := by rw [hbox]; simp
  have g3 : w2.cell? ⟨w.heap.size, 3, none⟩ = some (.slice ad t.kids.length cap) := by rw [hbox]; simp
  have HR2 : Hid (w2.heap[w.heap.size + 1]? = some (.cells #[.func (.func 43) #[] #[.pointer (some c)]] 65 (0, 0))) := show _ = _ by rw [hb.block _ (by simp)]; exact HROW.out _
  have hJ2 : J s C w2 := T.ext s C w w2 HJ.out fun k hk => hbx.block k (hlow k hk).2
  have hv := walk_each1 a ⟨w.heap.size + 1, 0, none⟩ B (each1_Count1 a c B (w.heap.size + 1) T) d t ByteArray.empty 0 (.slice ad t.kids.length cap) s (fun j => C j ∨ j = w.heap.size + 1) w2
    ⟨C, hJ2, fun k => Iff.rfl, HR2.out, fun hc => by have := (hlow _ hc).2; omega, by omega⟩ (HS.out.below hbx hB) (by omega) (Lies.below HL.out hbx hB) hal2
  rw [runs_none] at hv
  have HV : Hid (Calls Tryd.prog 37 #[.string ByteArray.empty, .int .i64 (0 : Nat), .agg #[.string t.kind, .string t.data, .bool t.exec, .slice ad t.kids.length cap], .func (.func 60) #[] #[.pointer (some ⟨w.heap.size + 1, 0, none⟩)]] w2 fun e w' =>
      e = .returned .nilIface ∧ ∃ C', boxJ J B (w.heap.size + 1) (.func (.func 43) #[] #[.pointer (some c)]) ((pre d ByteArray.empty 0 t).foldl step s) C' w' ∧ Kept (fun j => C j ∨ j = w.heap.size + 1) w2 w' ∧ ∀ j, C' j → (C j ∨ j = w.heap.size + 1) ∨ w2.heap.size ≤ j) := hv
  have HBX : Hid _ := hbx
  clear hv hbx hbox hb hJ2
  go_wp2_with fail
  refine Calls.mono HV.out ?_
  rintro e w3 ⟨rfl, C3, hJ3, hK3, hC3⟩
  have HJ3 : Hid _ := hJ3
  have HK3 : Hid _ := hK3
  have HC3 : Hid _ := hC3
  clear hJ3 hK3 hC3
  go_wp2_with fail
  go_end0
  obtain ⟨C0, h1, h2, h3, h4, h5⟩ := HJ3.out
  refine ⟨rfl, C0, h1, ?_, ?_⟩
  · refine (Kept.of_below HBX.out).trans HK3.out fun k hk => ?_
    rcases hk with h | h
    · exact .inl h
    · exact .inr (by omega)
  · intro j hj
    rcases HC3.out j ((h2 j).2 (.inl hj)) with (h | h) | h
    · exact .inl h
    · exact .inr (by omega)
    · exact .inr (by omega)

set_option maxHeartbeats 1000000 in
theorem each1_Size1 {σ : Type} {step : σ → ByteArray × Nat × Tree → σ} {ok : σ → ByteArray × Nat × Tree → Prop} {J : σ → (Nat → Prop) → World → Prop} (a : Nat → Addr) (c : Addr) (B eb : Nat) (T : Told 45 (.pointer (some c)) B step ok J) :
    Visit a 60 (.pointer (some ⟨eb, 0, none⟩)) B (fun s x => (step s x, none)) ok (boxJ J B eb (.func (.func 45) #[] #[.pointer (some c)])) where
  low s C w h k hk := by
    obtain ⟨C0, h1, h2, h3, _, h5⟩ := h
    rcases (h2 k).1 hk with h | h
    · exact T.low s C0 w h1 k h
    · subst h; exact ⟨h5, lt_of_row h3⟩
  ext s C w w' h hb := by
    obtain ⟨C0, h1, h2, h3, h4, h5⟩ := h
    exact ⟨C0, T.ext s C0 w w' h1 (fun k hk => hb k ((h2 k).2 (.inl hk))), h2, by rw [hb eb ((h2 eb).2 (.inr rfl))]; exact h3, h4, h5⟩
  bound := T.bound
  call := by
    intro s C w d p k t u hJ S hB hl hok
    obtain ⟨C0, h1, h2, h3, h4, h5⟩ := hJ
    obtain ⟨ad, cap, rfl⟩ := hl.form
    have hel : eb < w.heap.size := lt_of_row h3
    have q0 := cell_of_one h3
    have hW : ∀ o, Below w.heap.size w (w.alloc o) := fun o => (Below.refl _ _).alloc (Nat.le_refl _) o
    have hcall := T.call s C0 (w.alloc (.cells #[.string t.kind, .string t.data, .bool t.exec, .slice ad t.kids.length cap] 24)) d p k t (.slice ad t.kids.length cap)
      (T.ext s C0 w _ h1 fun k hk => Below.heap_alloc _ _ _ (T.low s C0 w h1 k hk).2) (by simp; omega) (hl.below (hW _) hB) hok
    have HCALL : Hid _ := hcall
    have HW : Hid _ := hW
    have H2 : Hid _ := h2
    have H1 : Hid _ := h1
    have H3 : Hid _ := h3
    have H4 : Hid _ := h4
    clear hcall hW h1 h2 h3 h4 hl S hok
    go_enter Tryd.func60, Tryd.ntmps60
    go_wp2_with fail
    refine Calls.mono HCALL.out ?_
    rintro e w2 ⟨rfl, C2, hJ2, hK2, hC2⟩
    have HJ2 : Hid _ := hJ2
    have HK2 : Hid _ := hK2
    have HC2 : Hid _ := hC2
    clear hJ2 hK2 hC2
    go_wp2_with fail
    go_ret
    refine ⟨rfl, fun j => C2 j ∨ j = eb, ⟨C2, HJ2.out, fun k => Iff.rfl, ?_, ?_, h5⟩, ?_, ?_⟩
    · rw [HK2.out.block eb (by simp; omega) H4.out, Below.heap_alloc _ _ _ hel]; exact H3.out
    · intro hc
      rcases HC2.out eb hc with h | h
      · exact H4.out h
      · simp at h; omega
    · have hk : Kept C0 w w2 := (Kept.of_below (HW.out _)).trans HK2.out (fun j h => .inl h)
      exact ⟨hk.os, hk.tape, hk.output, hk.size, fun j hj hc => hk.block j hj fun h => hc ((H2.out j).2 (.inl h))⟩
    · intro j hj
      rcases hj with h | h
      · rcases HC2.out j h with h | h
        · exact .inl ((H2.out j).2 (.inl h))
        · exact .inr (by simp at h; omega)
      · exact .inl ((H2.out j).2 (.inr h))

set_option maxHeartbeats 1000000 in
theorem each_no_Size1 (a : Nat → Addr) (d B : Nat) (t : Tree) (u : Value) (c : Addr) (w : World) (S : SentsB a B w) (hB : B ≤ w.heap.size) (hl : Lies w B d t.kids u) (hal : Alive ck ckOk 0 (pre d ByteArray.empty 0 t)) (er : Nat) (hE : treeErr d t = some er) :
    Calls Tryd.prog 42 #[.agg #[.string t.kind, .string t.data, .bool t.exec, u], .func (.func 45) #[] #[.pointer (some c)]] w fun e w' => e = .returned (.tuple #[]) ∧ Below w.heap.size w w' := by
  obtain ⟨ad, cap, rfl⟩ := hl.form
  have hW : ∀ o o', Below w.heap.size w ((w.alloc o).alloc o') := fun o o' => ((Below.refl _ _).alloc (Nat.le_refl _) o).alloc (by simp) o'
  have hcall := fun o o' => check_any a d B t (.slice ad t.kids.length cap) ((w.alloc o).alloc o') (S.below (hW o o') hB) (by simp; omega) (hl.below (hW o o') hB) hal
  rw [hE] at hcall
  have HCALL : Hid (∀ o o', Calls Tryd.prog 15 #[.agg #[.string t.kind, .string t.data, .bool t.exec, .slice ad t.kids.length cap]] ((w.alloc o).alloc o') fun e w' => e = .returned (.iface 176 (.pointer (some (a er)))) ∧ Below ((w.alloc o).alloc o').heap.size ((w.alloc o).alloc o') w') := hcall
  have HW : Hid _ := hW
  clear hcall hW S hl hal hE
  go_enter Tryd.func42, Tryd.ntmps42
  go_wp2_with fail
  refine Calls.mono (HCALL.out _ _) ?_
  rintro e w2 ⟨rfl, hb⟩
  go_wp2_with fail
  go_returns
  exact ⟨rfl, (HW.out _ _).trans (hb.mono (by simp; omega))⟩

set_option maxHeartbeats 1000000 in
theorem each_yes_Size1 {σ : Type} {step : σ → ByteArray × Nat × Tree → σ} {ok : σ → ByteArray × Nat × Tree → Prop} {J : σ → (Nat → Prop) → World → Prop} (a : Nat → Addr) (d B : Nat) (t : Tree) (u : Value) (c : Addr) (T : Told 45 (.pointer (some c)) B step ok J) (s : σ) (C : Nat → Prop) (w : World) (hJ : J s C w)
    (S : SentsB a B w) (hB : B ≤ w.heap.size) (hl : Lies w B d t.kids u) (hal : Alive ck ckOk 0 (pre d ByteArray.empty 0 t)) (hE : treeErr d t = none) (hal2 : Alive (fun s x => (step s x, none)) ok s (pre d ByteArray.empty 0 t)) :
    Calls Tryd.prog 42 #[.agg #[.string t.kind, .string t.data, .bool t.exec, u], .func (.func 45) #[] #[.pointer (some c)]] w fun e w' => e = .returned (.tuple #[]) ∧ ∃ C', J ((pre d ByteArray.empty 0 t).foldl step s) C' w' ∧ Kept C w w' ∧ ∀ j, C' j → C j ∨ w.heap.size ≤ j := by
  obtain ⟨ad, cap, rfl⟩ := hl.form
  have hW : ∀ o o', Below w.heap.size w ((w.alloc o).alloc o') := fun o o' => ((Below.refl _ _).alloc (Nat.le_refl _) o).alloc (by simp) o'
  have hcall := fun o o' => check_any a d B t (.slice ad t.kids.length cap) ((w.alloc o).alloc o') (S.below (hW o o') hB) (by simp; omega) (hl.below (hW o o') hB) hal
  rw [hE] at hcall
  have HCALL : Hid (∀ o o', Calls Tryd.prog 15 #[.agg #[.string t.kind, .string t.data, .bool t.exec, .slice ad t.kids.length cap]] ((w.alloc o).alloc o') fun e w' => e = .returned .nilIface ∧ Below ((w.alloc o).alloc o').heap.size ((w.alloc o).alloc o') w') := hcall
  have hlow := T.low s C w hJ
  have hrow : ∀ o, ((w.alloc o).alloc (.cells #[.func (.func 45) #[] #[.pointer (some c)]] 65)).heap[w.heap.size + 1]? = some (.cells #[.func (.func 45) #[] #[.pointer (some c)]] 65 (0, 0)) := fun o => by
    have := row_alloc (w.alloc o) #[.func (.func 45) #[] #[.pointer (some c)]] 65
    simpa using this
  have hcn : ∀ o, ((w.alloc o).alloc (.cells #[.func (.func 45) #[] #[.pointer (some c)]] 65)).cell? ⟨w.heap.size, 0, none⟩ = (w.alloc o).cell? ⟨w.heap.size, 0, none⟩ := fun o => World.cell?_alloc_lt _ _ _ (by simp)
  have HW : Hid _ := hW
  have HROW : Hid _ := hrow
  have HJ : Hid _ := hJ
  have HS : Hid _ := S
  have HL : Hid _ := hl
  clear hcall hW hJ S hl hal hE hrow hcn
  go_enter Tryd.func42, Tryd.ntmps42
  go_wp2_with fail
  refine Calls.mono (HCALL.out _ _) ?_
  rintro e w2 ⟨rfl, hb⟩
  have hbx : Below w.heap.size w w2 := (HW.out _ _).trans (hb.mono (by simp; omega))
  have hbox : ∀ j, w2.cell? ⟨w.heap.size, j, none⟩ = ((w.alloc (.cells #[.string t.kind, .string t.data, .bool t.exec, .slice ad t.kids.length cap] 24)).alloc (.cells #[.func (.func 45) #[] #[.pointer (some c)]] 65)).cell? ⟨w.heap.size, j, none⟩ := fun j => hb.cell (p := ⟨w.heap.size, j, none⟩) (by simp; omega)
  have hsz : w.heap.size + 1 < w2.heap.size := by have := hb.size; simp at this; omega
  have g0 : w2.cell? ⟨w.heap.size, 0, none⟩ = some (.string t.kind) := by rw [hbox]; simp
  have g1 : w2.cell? ⟨w.heap.size, 1, none⟩ = some (.string t.data) := by rw [hbox]; simp
  have g2 : w2.cell? ⟨w.heap.size, 2, none⟩ = some (.bool t.exec) := by rw [hbox]; simp
  have g3 : w2.cell? ⟨w.heap.size, 3, none⟩ = some (.slice ad t.kids.length cap) := by rw [hbox]; simp
  have HR2 : Hid (w2.heap[w.heap.size + 1]? = some (.cells #[.func (.func 45) #[] #[.pointer (some c)]] 65 (0, 0))) := show _ = _ by rw [hb.block _ (by simp)]; exact HROW.out _
  have hJ2 : J s C w2 := T.ext s C w w2 HJ.out fun k hk => hbx.block k (hlow k hk).2
  have hv := walk_each1 a ⟨w.heap.size + 1, 0, none⟩ B (each1_Size1 a c B (w.heap.size + 1) T) d t ByteArray.empty 0 (.slice ad t.kids.length cap) s (fun j => C j ∨ j = w.heap.size + 1) w2
    ⟨C, hJ2, fun k => Iff.rfl, HR2.out, fun hc => by have := (hlow _ hc).2; omega, by omega⟩ (HS.out.below hbx hB) (by omega) (Lies.below HL.out hbx hB) hal2
  rw [runs_none] at hv
  have HV : Hid (Calls Tryd.prog 37 #[.string ByteArray.empty, .int .i64 (0 : Nat), .agg #[.string t.kind, .string t.data, .bool t.exec, .slice ad t.kids.length cap], .func (.func 60) #[] #[.pointer (some ⟨w.heap.size + 1, 0, none⟩)]] w2 fun e w' =>
      e = .returned .nilIface ∧ ∃ C', boxJ J B (w.heap.size + 1) (.func (.func 45) #[] #[.pointer (some c)]) ((pre d ByteArray.empty 0 t).foldl step s) C' w' ∧ Kept (fun j => C j ∨ j = w.heap.size + 1) w2 w' ∧ ∀ j, C' j → (C j ∨ j = w.heap.size + 1) ∨ w2.heap.size ≤ j) := hv
  have HBX : Hid _ := hbx
  clear hv hbx hbox hb hJ2
  go_wp2_with fail
  refine Calls.mono HV.out ?_
  rintro e w3 ⟨rfl, C3, hJ3, hK3, hC3⟩
  have HJ3 : Hid _ := hJ3
  have HK3 : Hid _ := hK3
  have HC3 : Hid _ := hC3
  clear hJ3 hK3 hC3
  go_wp2_with fail
  go_end0
  obtain ⟨C0, h1, h2, h3, h4, h5⟩ := HJ3.out
  refine ⟨rfl, C0, h1, ?_, ?_⟩
  · refine (Kept.of_below HBX.out).trans HK3.out fun k hk => ?_
    rcases hk with h | h
    · exact .inl h
    · exact .inr (by omega)
  · intro j hj
    rcases HC3.out j ((h2 j).2 (.inl hj)) with (h | h) | h
    · exact .inl h
    · exact .inr (by omega)
    · exact .inr (by omega)

set_option maxHeartbeats 1000000 in
theorem each1_Files1 {σ : Type} {step : σ → ByteArray × Nat × Tree → σ} {ok : σ → ByteArray × Nat × Tree → Prop} {J : σ → (Nat → Prop) → World → Prop} (a : Nat → Addr) (c : Addr) (B eb : Nat) (T : Told 46 (.pointer (some c)) B step ok J) :
    Visit a 60 (.pointer (some ⟨eb, 0, none⟩)) B (fun s x => (step s x, none)) ok (boxJ J B eb (.func (.func 46) #[] #[.pointer (some c)])) where
  low s C w h k hk := by
    obtain ⟨C0, h1, h2, h3, _, h5⟩ := h
    rcases (h2 k).1 hk with h | h
    · exact T.low s C0 w h1 k h
    · subst h; exact ⟨h5, lt_of_row h3⟩
  ext s C w w' h hb := by
    obtain ⟨C0, h1, h2, h3, h4, h5⟩ := h
    exact ⟨C0, T.ext s C0 w w' h1 (fun k hk => hb k ((h2 k).2 (.inl hk))), h2, by rw [hb eb ((h2 eb).2 (.inr rfl))]; exact h3, h4, h5⟩
  bound := T.bound
  call := by
    intro s C w d p k t u hJ S hB hl hok
    obtain ⟨C0, h1, h2, h3, h4, h5⟩ := hJ
    obtain ⟨ad, cap, rfl⟩ := hl.form
    have hel : eb < w.heap.size := lt_of_row h3
    have q0 := cell_of_one h3
    have hW : ∀ o, Below w.heap.size w (w.alloc o) := fun o => (Below.refl _ _).alloc (Nat.le_refl _) o
    have hcall := T.call s C0 (w.alloc (.cells #[.string t.kind, .string t.data, .bool t.exec, .slice ad t.kids.length cap] 24)) d p k t (.slice ad t.kids.length cap)
      (T.ext s C0 w _ h1 fun k hk => Below.heap_alloc _ _ _ (T.low s C0 w h1 k hk).2) (by simp; omega) (hl.below (hW _) hB) hok
    have HCALL : Hid _ := hcall
    have HW : Hid _ := hW
    have H2 : Hid _ := h2
    have H1 : Hid _ := h1
    have H3 : Hid _ := h3
    have H4 : Hid _ := h4
    clear hcall hW h1 h2 h3 h4 hl S hok
    go_enter Tryd.func60, Tryd.ntmps60
    go_wp2_with fail
    refine Calls.mono HCALL.out ?_
    rintro e w2 ⟨rfl, C2, hJ2, hK2, hC2⟩
    have HJ2 : Hid _ := hJ2
    have HK2 : Hid _ := hK2
    have HC2 : Hid _ := hC2
    clear hJ2 hK2 hC2
    go_wp2_with fail
    go_ret
    refine ⟨rfl, fun j => C2 j ∨ j = eb, ⟨C2, HJ2.out, fun k => Iff.rfl, ?_, ?_, h5⟩, ?_, ?_⟩
    · rw [HK2.out.block eb (by simp; omega) H4.out, Below.heap_alloc _ _ _ hel]; exact H3.out
    · intro hc
      rcases HC2.out eb hc with h | h
      · exact H4.out h
      · simp at h; omega
    · have hk : Kept C0 w w2 := (Kept.of_below (HW.out _)).trans HK2.out (fun j h => .inl h)
      exact ⟨hk.os, hk.tape, hk.output, hk.size, fun j hj hc => hk.block j hj fun h => hc ((H2.out j).2 (.inl h))⟩
    · intro j hj
      rcases hj with h | h
      · rcases HC2.out j h with h | h
        · exact .inl ((H2.out j).2 (.inl h))
        · exact .inr (by simp at h; omega)
      · exact .inl ((H2.out j).2 (.inr h))

set_option maxHeartbeats 1000000 in
theorem each_no_Files1 (a : Nat → Addr) (d B : Nat) (t : Tree) (u : Value) (c : Addr) (w : World) (S : SentsB a B w) (hB : B ≤ w.heap.size) (hl : Lies w B d t.kids u) (hal : Alive ck ckOk 0 (pre d ByteArray.empty 0 t)) (er : Nat) (hE : treeErr d t = some er) :
    Calls Tryd.prog 42 #[.agg #[.string t.kind, .string t.data, .bool t.exec, u], .func (.func 46) #[] #[.pointer (some c)]] w fun e w' => e = .returned (.tuple #[]) ∧ Below w.heap.size w w' := by
  obtain ⟨ad, cap, rfl⟩ := hl.form
  have hW : ∀ o o', Below w.heap.size w ((w.alloc o).alloc o') := fun o o' => ((Below.refl _ _).alloc (Nat.le_refl _) o).alloc (by simp) o'
  have hcall := fun o o' => check_any a d B t (.slice ad t.kids.length cap) ((w.alloc o).alloc o') (S.below (hW o o') hB) (by simp; omega) (hl.below (hW o o') hB) hal
  rw [hE] at hcall
  have HCALL : Hid (∀ o o', Calls Tryd.prog 15 #[.agg #[.string t.kind, .string t.data, .bool t.exec, .slice ad t.kids.length cap]] ((w.alloc o).alloc o') fun e w' => e = .returned (.iface 176 (.pointer (some (a er)))) ∧ Below ((w.alloc o).alloc o').heap.size ((w.alloc o).alloc o') w') := hcall
  have HW : Hid _ := hW
  clear hcall hW S hl hal hE
  go_enter Tryd.func42, Tryd.ntmps42
  go_wp2_with fail
  refine Calls.mono (HCALL.out _ _) ?_
  rintro e w2 ⟨rfl, hb⟩
  go_wp2_with fail
  go_returns
  exact ⟨rfl, (HW.out _ _).trans (hb.mono (by simp; omega))⟩

set_option maxHeartbeats 1000000 in
theorem each_yes_Files1 {σ : Type} {step : σ → ByteArray × Nat × Tree → σ} {ok : σ → ByteArray × Nat × Tree → Prop} {J : σ → (Nat → Prop) → World → Prop} (a : Nat → Addr) (d B : Nat) (t : Tree) (u : Value) (c : Addr) (T : Told 46 (.pointer (some c)) B step ok J) (s : σ) (C : Nat → Prop) (w : World) (hJ : J s C w)
    (S : SentsB a B w) (hB : B ≤ w.heap.size) (hl : Lies w B d t.kids u) (hal : Alive ck ckOk 0 (pre d ByteArray.empty 0 t)) (hE : treeErr d t = none) (hal2 : Alive (fun s x => (step s x, none)) ok s (pre d ByteArray.empty 0 t)) :
    Calls Tryd.prog 42 #[.agg #[.string t.kind, .string t.data, .bool t.exec, u], .func (.func 46) #[] #[.pointer (some c)]] w fun e w' => e = .returned (.tuple #[]) ∧ ∃ C', J ((pre d ByteArray.empty 0 t).foldl step s) C' w' ∧ Kept C w w' ∧ ∀ j, C' j → C j ∨ w.heap.size ≤ j := by
  obtain ⟨ad, cap, rfl⟩ := hl.form
  have hW : ∀ o o', Below w.heap.size w ((w.alloc o).alloc o') := fun o o' => ((Below.refl _ _).alloc (Nat.le_refl _) o).alloc (by simp) o'
  have hcall := fun o o' => check_any a d B t (.slice ad t.kids.length cap) ((w.alloc o).alloc o') (S.below (hW o o') hB) (by simp; omega) (hl.below (hW o o') hB) hal
  rw [hE] at hcall
  have HCALL : Hid (∀ o o', Calls Tryd.prog 15 #[.agg #[.string t.kind, .string t.data, .bool t.exec, .slice ad t.kids.length cap]] ((w.alloc o).alloc o') fun e w' => e = .returned .nilIface ∧ Below ((w.alloc o).alloc o').heap.size ((w.alloc o).alloc o') w') := hcall
  have hlow := T.low s C w hJ
  have hrow : ∀ o, ((w.alloc o).alloc (.cells #[.func (.func 46) #[] #[.pointer (some c)]] 65)).heap[w.heap.size + 1]? = some (.cells #[.func (.func 46) #[] #[.pointer (some c)]] 65 (0, 0)) := fun o => by
    have := row_alloc (w.alloc o) #[.func (.func 46) #[] #[.pointer (some c)]] 65
    simpa using this
  have hcn : ∀ o, ((w.alloc o).alloc (.cells #[.func (.func 46) #[] #[.pointer (some c)]] 65)).cell? ⟨w.heap.size, 0, none⟩ = (w.alloc o).cell? ⟨w.heap.size, 0, none⟩ := fun o => World.cell?_alloc_lt _ _ _ (by simp)
  have HW : Hid _ := hW
  have HROW : Hid _ := hrow
  have HJ : Hid _ := hJ
  have HS : Hid _ := S
  have HL : Hid _ := hl
  clear hcall hW hJ S hl hal hE hrow hcn
  go_enter Tryd.func42, Tryd.ntmps42
  go_wp2_with fail
  refine Calls.mono (HCALL.out _ _) ?_
  rintro e w2 ⟨rfl, hb⟩
  have hbx : Below w.heap.size w w2 := (HW.out _ _).trans (hb.mono (by simp; omega))
  have hbox : ∀ j, w2.cell? ⟨w.heap.size, j, none⟩ = ((w.alloc (.cells #[.string t.kind, .string t.data, .bool t.exec, .slice ad t.kids.length cap] 24)).alloc (.cells #[.func (.func 46) #[] #[.pointer (some c)]] 65)).cell? ⟨w.heap.size, j, none⟩ := fun j => hb.cell (p := ⟨w.heap.size, j, none⟩) (by simp; omega)
  have hsz : w.heap.size + 1 < w2.heap.size := by have := hb.size; simp at this; omega
  have g0 : w2.cell? ⟨w.heap.size, 0, none⟩ = some (.string t.kind) := by rw [hbox]; simp
  have g1 : w2.cell? ⟨w.heap.size, 1, none⟩ = some (.string t.data) := by rw [hbox]; simp
  have g2 : w2.cell? ⟨w.heap.size, 2, none⟩ = some (.bool t.exec) := by rw [hbox]; simp
  have g3 : w2.cell? ⟨w.heap.size, 3, none⟩ = some (.slice ad t.kids.length cap) := by rw [hbox]; simp
  have HR2 : Hid (w2.heap[w.heap.size + 1]? = some (.cells #[.func (.func 46) #[] #[.pointer (some c)]] 65 (0, 0))) := show _ = _ by rw [hb.block _ (by simp)]; exact HROW.out _
  have hJ2 : J s C w2 := T.ext s C w w2 HJ.out fun k hk => hbx.block k (hlow k hk).2
  have hv := walk_each1 a ⟨w.heap.size + 1, 0, none⟩ B (each1_Files1 a c B (w.heap.size + 1) T) d t ByteArray.empty 0 (.slice ad t.kids.length cap) s (fun j => C j ∨ j = w.heap.size + 1) w2
    ⟨C, hJ2, fun k => Iff.rfl, HR2.out, fun hc => by have := (hlow _ hc).2; omega, by omega⟩ (HS.out.below hbx hB) (by omega) (Lies.below HL.out hbx hB) hal2
  rw [runs_none] at hv
  have HV : Hid (Calls Tryd.prog 37 #[.string ByteArray.empty, .int .i64 (0 : Nat), .agg #[.string t.kind, .string t.data, .bool t.exec, .slice ad t.kids.length cap], .func (.func 60) #[] #[.pointer (some ⟨w.heap.size + 1, 0, none⟩)]] w2 fun e w' =>
      e = .returned .nilIface ∧ ∃ C', boxJ J B (w.heap.size + 1) (.func (.func 46) #[] #[.pointer (some c)]) ((pre d ByteArray.empty 0 t).foldl step s) C' w' ∧ Kept (fun j => C j ∨ j = w.heap.size + 1) w2 w' ∧ ∀ j, C' j → (C j ∨ j = w.heap.size + 1) ∨ w2.heap.size ≤ j) := hv
  have HBX : Hid _ := hbx
  clear hv hbx hbox hb hJ2
  go_wp2_with fail
  refine Calls.mono HV.out ?_
  rintro e w3 ⟨rfl, C3, hJ3, hK3, hC3⟩
  have HJ3 : Hid _ := hJ3
  have HK3 : Hid _ := hK3
  have HC3 : Hid _ := hC3
  clear hJ3 hK3 hC3
  go_wp2_with fail
  go_end0
  obtain ⟨C0, h1, h2, h3, h4, h5⟩ := HJ3.out
  refine ⟨rfl, C0, h1, ?_, ?_⟩
  · refine (Kept.of_below HBX.out).trans HK3.out fun k hk => ?_
    rcases hk with h | h
    · exact .inl h
    · exact .inr (by omega)
  · intro j hj
    rcases HC3.out j ((h2 j).2 (.inl hj)) with (h | h) | h
    · exact .inl h
    · exact .inr (by omega)
    · exact .inr (by omega)
end Go.Proofs.YtilkjafggfdjeaaDoor
