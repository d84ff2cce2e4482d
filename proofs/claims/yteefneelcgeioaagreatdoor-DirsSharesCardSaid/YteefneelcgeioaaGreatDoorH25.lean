/-
  The contracts of checkDir and checkNode.
  The contract of tree.walk: it hands each node of a tree, ahead of its kids, to a function, and ends at the first error; whatever that function does, as long as it keeps to a contract of its own ('Visit').
  The contract of tree.Check: it tells the first error of a tree's nodes, in the order of the walk.
  Conditions: those that each states.
-/
import Derived.Test.YteefneelcgeioaaGreatDoorH24
import Derived.OneCell
namespace Go.Proofs.YteefneelcgeioaaGreatDoor
open Go.RowKit

/-- checkDir, no kids. -/
theorem checkDir_none (a : Nat → Addr) (t : Tree) (ad : Option Addr) (cap : Nat) (w : World) (S : Sen a w) (hk : t.kids = []) :
    Calls Tryz.prog 87 #[.agg #[.string t.kind, .string t.data, .bool t.exec, .slice ad 0 cap]] w fun e w' => e = .returned (errV a (dirErr t)) ∧ Below w.heap.size w w' := by
  have c2 := S.shape
  have z2 := lt_of_cell c2
  have HB : Hid (∀ o, Below w.heap.size w (w.alloc o)) := fun o => (Below.refl _ _).alloc (Nat.le_refl _) o
  clear S
  by_cases h1 : t.data.toList.isEmpty = false ∨ t.exec = true
  · have HE : Hid (dirErr t = some 2) := show _ = _ by unfold dirErr; rw [if_pos h1]
    cases hd : t.data.toList.isEmpty
    · clear h1 hk
      go_enter Tryz.func87, Tryz.ntmps87
      go_wp2
      go_ret
      exact ⟨ret_val (by rw [HE.out]; rfl), HB.out _⟩
    · have hx : t.exec = true := by rcases h1 with h | h; exact absurd h (by simp [hd]); exact h
      clear h1 hk
      go_enter Tryz.func87, Tryz.ntmps87
      go_wp2
      go_ret
      exact ⟨ret_val (by rw [HE.out]; rfl), HB.out _⟩
  · have HE : Hid (dirErr t = none) := show _ = _ by unfold dirErr; rw [if_neg h1, hk]; rfl
    have hd : t.data.toList.isEmpty = true := by cases h : t.data.toList.isEmpty; exact absurd (.inl h) h1; rfl
    have hx : t.exec = false := by cases h : t.exec; rfl; exact absurd (.inr h) h1
    clear h1 hk
    go_enter Tryz.func87, Tryz.ntmps87
    go_wp2
    refine wp_loop_rounds 1 ?_
    rw [rounds_succ]
    go_wp2
    refine wp_loop_rounds 1 ?_
    rw [rounds_succ]
    go_wp2
    go_ret
    exact ⟨ret_val (by rw [HE.out]; rfl), HB.out _⟩

set_option maxHeartbeats 1000000 in
theorem checkDir_some (a : Nat → Addr) (t : Tree) (B d b off cap : Nat) (w : World) (S : Sen a w) (hlen : t.kids.length ≤ 1759218604390) (hB : B ≤ w.heap.size)
    (hk : ∀ i x, t.kids[i]? = some x → ∃ u, KidAt w B d b off i x u) :
    Calls Tryz.prog 87 #[.agg #[.string t.kind, .string t.data, .bool t.exec, .slice (some ⟨b, off, none⟩) t.kids.length cap]] w fun e w' => e = .returned (errV a (dirErr t)) ∧ Below w.heap.size w w' := by
  have c2 := S.shape
  have z2 := lt_of_cell c2
  have HB : Hid (∀ o, Below w.heap.size w (w.alloc o)) := fun o => (Below.refl _ _).alloc (Nat.le_refl _) o
  by_cases h1 : t.data.toList.isEmpty = false ∨ t.exec = true
  · have HE : Hid (dirErr t = some 2) := show _ = _ by unfold dirErr; rw [if_pos h1]
    clear S
    cases hd : t.data.toList.isEmpty
    · clear h1 hk
      go_enter Tryz.func87, Tryz.ntmps87
      go_wp2
      go_ret
      exact ⟨ret_val (by rw [HE.out]; rfl), HB.out _⟩
    · have hx : t.exec = true := by rcases h1 with h | h; exact absurd h (by simp [hd]); exact h
      clear h1 hk
      go_enter Tryz.func87, Tryz.ntmps87
      go_wp2
      go_ret
      exact ⟨ret_val (by rw [HE.out]; rfl), HB.out _⟩
  · have HE : Hid (dirErr t = if (t.kids.all fun x => nameB x.1) = true then (if risesTo t.kids t.kids.length = true then none else some 9) else some 4) := show _ = _ by unfold dirErr; rw [if_neg h1]
    have hd : t.data.toList.isEmpty = true := by cases h : t.data.toList.isEmpty; exact absurd (.inl h) h1; rfl
    have hx : t.exec = false := by cases h : t.exec; rfl; exact absurd (.inr h) h1
    clear h1 c2 z2
    have HK : Hid (∀ i x, t.kids[i]? = some x → ∃ u, KidAt w B d b off i x u) := hk
    clear hk
    go_enter Tryz.func87, Tryz.ntmps87
    go_wp2
    have q3 : (w.alloc (.cells #[.string t.kind, .string t.data, .bool false, .slice (some ⟨b, off, none⟩) t.kids.length cap] 32)).cell? ⟨w.heap.size, 3, none⟩ = some (.slice (some ⟨b, off, none⟩) t.kids.length cap) := by rw [World.cell?_alloc_at _ _ _ _ rfl]; rfl
    have hW : Below w.heap.size w (w.alloc (.cells #[.string t.kind, .string t.data, .bool false, .slice (some ⟨b, off, none⟩) t.kids.length cap] 32)) := HB.out _
    have hz : (w.alloc (.cells #[.string t.kind, .string t.data, .bool false, .slice (some ⟨b, off, none⟩) t.kids.length cap] 32)).heap.size = w.heap.size + 1 := by simp
    generalize w.alloc (.cells #[.string t.kind, .string t.data, .bool false, .slice (some ⟨b, off, none⟩) t.kids.length cap] 32) = W1 at *
    have HZ : Hid (W1.heap.size = w.heap.size + 1) := hz
    clear hz hd hx
    go_loopw [17] (fun i wr => ∃ k : Nat, k ≤ t.kids.length ∧ i = .int .i64 k ∧ Below W1.heap.size W1 wr ∧ (t.kids.take k).all (fun x => nameB x.1) = true) (fun i _ => t.kids.length - (intOf i).toNat)
    case atStart => exact ⟨0, Nat.zero_le _, rfl, Below.refl _ _, by simp⟩
    case round =>
      obtain ⟨k, hk, rfl, hb, hall⟩ := hrel
      have HA : Hid ((t.kids.take k).all (fun x => nameB x.1) = true) := hall
      have hbw : Below w.heap.size w wr := hW.trans (hb.mono hW.size)
      have S' := S.below hbw
      clear hall
      by_cases hlt : k < t.kids.length
      · obtain ⟨x, hx'⟩ : ∃ x, t.kids[k]? = some x := ⟨t.kids[k], List.getElem?_eq_getElem hlt⟩
        obtain ⟨u, K0⟩ := HK.out k x hx'
        have K := K0.below hbw hB
        obtain ⟨ua, uc, rfl⟩ := K.lies.form
        have HS : Hid _ := kids_snoc (p := fun x => nameB x.1) hx'
        have HX : Hid (t.kids[k]? = some x) := hx'
        clear hx' K0
        have n0 := K.name
        have n1 := K.kind
        have n2 := K.data
        have n3 := K.exec
        have n4 := K.kids
        have hs : x.1.size ≤ maxLen := by have := K.size; unfold maxLen; omega
        cases hn : nameB x.1
        · have HM : Hid (t.kids.all (fun x => nameB x.1) = false) := kids_miss (p := fun x => nameB x.1) HX.out hn
          have c4 := S'.name
          have z4 := lt_of_cell c4
          clear S' S
          go_wp2_with fail
          refine (name_any x.1 _ hs).mono ?_
          rintro e w' ⟨rfl, rfl⟩
          go_wp2_with fail
          go_ret
          exact ⟨ret_val (by rw [HE.out, HM.out]; rfl), hbw.alloc hbw.size _⟩
        · have HN : Hid (nameB x.1 = true) := hn
          have hbn := hb.alloc hb.size
          go_wp2_with fail
          refine (name_any x.1 _ hs).mono ?_
          rintro e w' ⟨rfl, rfl⟩
          go_wp2_with fail
          go_roundw
          case rel => exact ⟨k + 1, by omega, by go_num, hbn _, by rw [HS.out, HA.out]; exact HN.out⟩
          case measure => simp [intOf]; omega
      · have HM : Hid (t.kids.all (fun x => nameB x.1) = true) := by
          have := HA.out
          rw [List.take_of_length_le (by omega)] at this
          exact this
        have q3' : wr.cell? ⟨w.heap.size, 3, none⟩ = some (.slice (some ⟨b, off, none⟩) t.kids.length cap) := by rw [hb.cell (p := ⟨w.heap.size, 3, none⟩) (by rw [HZ.out]; exact Nat.lt_succ_self _)]; exact q3
        have c9 := S'.order
        have z9 := lt_of_cell c9
        clear q3 S
        go_wp2_with fail
        go_loopw [5] (fun i w2 => ∃ j m : Nat, (j = 0 ∨ j < t.kids.length) ∧ i = .int .i64 ((j : Int) + 1) ∧ w2 = wr.drewN m ∧ risesTo t.kids (j + 1) = true) (fun i _ => t.kids.length - (intOf i).toNat)
        case atStart => exact ⟨0, 0, .inl rfl, by simp, rfl, risesTo_one _⟩
        case round =>
          obtain ⟨j, m, hj, rfl, rfl, hr⟩ := hrel
          have HR : Hid (risesTo t.kids (j + 1) = true) := hr
          clear hr
          by_cases hlt : j + 1 < t.kids.length
          · obtain ⟨x, hx'⟩ : ∃ x, t.kids[j]? = some x := ⟨t.kids[j], List.getElem?_eq_getElem (by omega)⟩
            obtain ⟨y, hy'⟩ : ∃ y, t.kids[j + 1]? = some y := ⟨t.kids[j + 1], List.getElem?_eq_getElem hlt⟩
            obtain ⟨u, K0⟩ := HK.out j x hx'
            obtain ⟨v, L0⟩ := HK.out (j + 1) y hy'
            have n0 := (K0.below hbw hB).name
            have n1 := (L0.below hbw hB).name
            have HS : Hid _ := risesTo_succ hx' hy'
            clear hx' hy' K0 L0
            cases hn : Op.bytesLess x.1.toList y.1.toList
            · have HM2 : Hid (risesTo t.kids t.kids.length = false) := risesTo_mono (k := j + 1 + 1) (by omega) (by rw [HS.out, hn]; simp)
              go_wp2_with fail
              go_quiet (fail)
              go_wp2_with fail
              go_ret
              exact ⟨ret_val (by rw [HE.out, HM.out, HM2.out]; rfl), below_drewN hbw _⟩
            · have HN : Hid (Op.bytesLess x.1.toList y.1.toList = true) := hn
              go_wp2_with fail
              go_quiet (fail)
              go_wp2_with fail
              go_roundw
              case rel => exact ⟨j + 1, _, .inr hlt, by go_num, rfl, by rw [HS.out, HR.out]; exact HN.out⟩
              case measure => simp [intOf]; omega
          · have HM2 : Hid (risesTo t.kids t.kids.length = true) := by
              cases h : risesTo t.kids t.kids.length
              · have := risesTo_mono (n := j + 1) (by omega) h
                rw [HR.out] at this; cases this
              · exact (rfl : true = true)
            go_wp2_with fail
            go_ret
            exact ⟨ret_val (by rw [HE.out, HM.out, HM2.out]; rfl), below_drewN hbw _⟩

/-- checkDir, whatever kids. -/
theorem checkDir_any (a : Nat → Addr) (t : Tree) (B d : Nat) (u : Value) (w : World) (S : Sen a w) (hB : B ≤ w.heap.size) (hl : Lies w B (d + 1) t.kids u) :
    Calls Tryz.prog 87 #[.agg #[.string t.kind, .string t.data, .bool t.exec, u]] w fun e w' => e = .returned (errV a (dirErr t)) ∧ Below w.heap.size w w' := by
  obtain ⟨hlen, ⟨hn, ad, cap, rfl⟩ | ⟨b, off, cap, rfl, hb, hk⟩⟩ := hl.open
  · exact checkDir_none a t ad cap w S hn
  · exact checkDir_some a t B d b off cap w S hlen hB hk

set_option maxHeartbeats 1000000 in
theorem checkNode_any (a : Nat → Addr) (t : Tree) (B d : Nat) (u : Value) (w : World) (S : Sen a w) (hB : B ≤ w.heap.size) (hl : Lies w B (d + 1) t.kids u) (hs : t.data.size ≤ maxLen) :
    Calls Tryz.prog 59 #[.agg #[.string t.kind, .string t.data, .bool t.exec, u]] w fun e w' => e = .returned (errV a (nodeErr t)) ∧ Below w.heap.size w w' := by
  have c3 := S.kind
  have z3 := lt_of_cell c3
  have HB : Hid (∀ o, Below w.heap.size w (w.alloc o)) := fun o => (Below.refl _ _).alloc (Nat.le_refl _) o
  have HS : Hid (∀ o, Sen a (w.alloc o)) := fun o => S.below (HB.out o)
  have HL : Hid (∀ o, Lies (w.alloc o) B (d + 1) t.kids u) := fun o => hl.below (HB.out o) hB
  obtain ⟨ad, cap, rfl⟩ := hl.form
  clear hl S
  cases hf : (t.kind.toList == [102, 105, 108, 101])
  · cases hd : (t.kind.toList == [100, 105, 114])
    · cases hk : (t.kind.toList == [108, 105, 110, 107])
      · have HE : Hid (nodeErr t = some 3) := show _ = _ by unfold nodeErr isFile isDir isLink; rw [hf, hd, hk]; rfl
        go_enter Tryz.func59, Tryz.ntmps59
        go_wp2_with fail
        go_ret
        exact ⟨ret_val (by rw [HE.out]; rfl), HB.out _⟩
      · have HE : Hid (nodeErr t = linkErr t) := show _ = _ by unfold nodeErr isFile isDir isLink; rw [hf, hd, hk]; rfl
        go_enter Tryz.func59, Tryz.ntmps59
        go_wp2_with fail
        refine (checkLink_any a t ad cap _ (HS.out _) hs).mono ?_
        rintro e w' ⟨rfl, hb⟩
        go_wp2_with fail
        go_ret
        exact ⟨ret_val (by rw [HE.out]; rfl), (HB.out _).trans (hb.mono (by simp))⟩
    · have HE : Hid (nodeErr t = dirErr t) := show _ = _ by unfold nodeErr isFile isDir isLink; rw [hf, hd]; rfl
      go_enter Tryz.func59, Tryz.ntmps59
      go_wp2_with fail
      refine (checkDir_any a t B d _ _ (HS.out _) (by simp; omega) (HL.out _)).mono ?_
      rintro e w' ⟨rfl, hb⟩
      go_wp2_with fail
      go_ret
      exact ⟨ret_val (by rw [HE.out]; rfl), (HB.out _).trans (hb.mono (by simp))⟩
  · have HE : Hid (nodeErr t = fileErr t) := show _ = _ by unfold nodeErr isFile isDir isLink; rw [hf]; rfl
    go_enter Tryz.func59, Tryz.ntmps59
    go_wp2_with fail
    refine (checkFile_any a t ad cap _ (HS.out _)).mono ?_
    rintro e w' ⟨rfl, hb⟩
    go_wp2_with fail
    go_ret
    exact ⟨ret_val (by rw [HE.out]; rfl), (HB.out _).trans (hb.mono (by simp))⟩
end Go.Proofs.YteefneelcgeioaaGreatDoor
namespace Go.Proofs.YteefneelcgeioaaGreatDoor
open Go.RowKit

/-- The contract of a function that a walk hands nodes to: 'J s C w': in world w it is in state s, and what it may change are the blocks of C. -/
structure Visit (a : Nat → Addr) (f : FuncId) (c : Value) (B : Nat) {σ : Type} (step : σ → ByteArray × Nat × Tree → σ × Option Nat) (ok : σ → ByteArray × Nat × Tree → Prop) (J : σ → (Nat → Prop) → World → Prop) : Prop where
  low : ∀ s C w, J s C w → ∀ k, C k → B ≤ k ∧ k < w.heap.size
  ext : ∀ s C w w', J s C w → (∀ k, C k → w'.heap[k]? = w.heap[k]?) → J s C w'
  bound : ∀ s x, ok s x → x.1.size ≤ maxLen ∧ x.2.1 ≤ 4611686018427387904
  call : ∀ s C w d p (k : Nat) t u, J s C w → SentsB a B w → B ≤ w.heap.size → Lies w B (d + 1) t.kids u → ok s (p, k, t) →
    Calls Tryz.prog f #[.string p, .int .i64 (k : Int), .agg #[.string t.kind, .string t.data, .bool t.exec, u], c] w fun e w' =>
      e = .returned (errV a (step s (p, k, t)).2) ∧ ∃ C', J (step s (p, k, t)).1 C' w' ∧ Kept C w w' ∧ ∀ j, C' j → C j ∨ w.heap.size ≤ j

theorem Visit.alloc {a : Nat → Addr} {f : FuncId} {c : Value} {B : Nat} {σ : Type} {step : σ → ByteArray × Nat × Tree → σ × Option Nat} {ok : σ → ByteArray × Nat × Tree → Prop} {J : σ → (Nat → Prop) → World → Prop} (V : Visit a f c B step ok J)
    {s : σ} {C : Nat → Prop} {w : World} (h : J s C w) (o : Obj) : J s C (w.alloc o) :=
  V.ext s C w _ h fun k hk => Below.heap_alloc _ _ _ (V.low s C w h k hk).2

set_option maxHeartbeats 1000000 in
theorem walk_Check1 {σ : Type} {step : σ → ByteArray × Nat × Tree → σ × Option Nat} {ok : σ → ByteArray × Nat × Tree → Prop} {J : σ → (Nat → Prop) → World → Prop} (a : Nat → Addr) (c : Addr) (B : Nat) (V : Visit a 58 (.pointer (some c)) B step ok J) :
    ∀ (d : Nat) (t : Tree) (p : ByteArray) (k : Nat) (u : Value) (s : σ) (C : Nat → Prop) (w : World), J s C w → SentsB a B w → B ≤ w.heap.size → Lies w B d t.kids u → Alive step ok s (pre d p k t) →
      Calls Tryz.prog 57 #[.string p, .int .i64 (k : Int), .agg #[.string t.kind, .string t.data, .bool t.exec, u], .func (.func 58) #[] #[.pointer (some c)]] w fun e w' =>
        e = .returned (errV a (runs step s (pre d p k t)).2) ∧ ∃ C', J (runs step s (pre d p k t)).1 C' w' ∧ Kept C w w' ∧ ∀ j, C' j → C j ∨ w.heap.size ≤ j := by
  intro d
  induction d with
  | zero => intro t p k u s C w _ _ _ hl; exact absurd hl (by simp [Lies])
  | succ d ih =>
    intro t p k u s C w hJ S hB hl hal
    obtain ⟨ad, cap, rfl⟩ := hl.form
    have hW : ∀ o, Below w.heap.size w (w.alloc o) := fun o => (Below.refl _ _).alloc (Nat.le_refl _) o
    have hv := V.call s C (w.alloc (.cells #[.string t.kind, .string t.data, .bool t.exec, .slice ad t.kids.length cap] 32)) d p k t (.slice ad t.kids.length cap) (V.alloc hJ _) (S.below (hW _) hB) (by simp; omega) (hl.below (hW _) hB) hal.1
    have hlow := V.low s C w hJ
    cases hst : step s (p, k, t) with
    | mk s1 o =>
      rw [hst] at hv
      cases o with
      | some er =>
        have hr : runs step s (pre (d + 1) p k t) = (s1, some er) := by simp [pre, runs, hst]
        rw [hr]
        have HV : Hid (Calls Tryz.prog 58 #[.string p, .int .i64 (k : Int), .agg #[.string t.kind, .string t.data, .bool t.exec, .slice ad t.kids.length cap], .pointer (some c)] (w.alloc (.cells #[.string t.kind, .string t.data, .bool t.exec, .slice ad t.kids.length cap] 32)) fun e w' =>
          e = .returned (.iface 235 (.pointer (some (a er)))) ∧ ∃ C', J s1 C' w' ∧ Kept C (w.alloc (.cells #[.string t.kind, .string t.data, .bool t.exec, .slice ad t.kids.length cap] 32)) w' ∧ ∀ j, C' j → C j ∨ (w.alloc (.cells #[.string t.kind, .string t.data, .bool t.exec, .slice ad t.kids.length cap] 32)).heap.size ≤ j) := hv
        have HW : Hid _ := hW
        clear hr hst hal ih hv hJ S hl hlow hW
        go_enter Tryz.func57, Tryz.ntmps57
        go_wp2_with fail
        refine Calls.mono HV.out ?_
        rintro e w2 ⟨rfl, C2, hJ2, hK2, hC2⟩
        go_wp2_with fail
        go_ret
        refine ⟨rfl, C2, hJ2, (Kept.of_below (HW.out _)).trans hK2 (fun j h => .inl h), fun j hj => ?_⟩
        rcases hC2 j hj with h | h
        · exact .inl h
        · exact .inr (by simp at h; omega)
      | none =>
        have hr : runs step s (pre (d + 1) p k t) = runs step s1 (t.kids.flatMap fun x => pre d (p ++ slash ++ x.1) (k + 1) x.2) := by simp [pre, runs, hst]
        rw [hr]
        have hal1 : Alive step ok s1 (t.kids.flatMap fun x => pre d (p ++ slash ++ x.1) (k + 1) x.2) := by
          have := hal.2
          rw [hst] at this
          exact this rfl
        have HV : Hid (Calls Tryz.prog 58 #[.string p, .int .i64 (k : Int), .agg #[.string t.kind, .string t.data, .bool t.exec, .slice ad t.kids.length cap], .pointer (some c)] (w.alloc (.cells #[.string t.kind, .string t.data, .bool t.exec, .slice ad t.kids.length cap] 32)) fun e w' =>
          e = .returned .nilIface ∧ ∃ C', J s1 C' w' ∧ Kept C (w.alloc (.cells #[.string t.kind, .string t.data, .bool t.exec, .slice ad t.kids.length cap] 32)) w' ∧ ∀ j, C' j → C j ∨ (w.alloc (.cells #[.string t.kind, .string t.data, .bool t.exec, .slice ad t.kids.length cap] 32)).heap.size ≤ j) := hv
        have q3 : (w.alloc (.cells #[.string t.kind, .string t.data, .bool t.exec, .slice ad t.kids.length cap] 32)).cell? ⟨w.heap.size, 3, none⟩ = some (.slice ad t.kids.length cap) := by rw [World.cell?_alloc_at _ _ _ _ rfl]; rfl
        have HZ : Hid ((w.alloc (.cells #[.string t.kind, .string t.data, .bool t.exec, .slice ad t.kids.length cap] 32)).heap.size = w.heap.size + 1) := show _ = _ by simp
        have hW1 := hW (.cells #[.string t.kind, .string t.data, .bool t.exec, .slice ad t.kids.length cap] 32)
        have HJ : Hid _ := hJ
        have HI : Hid _ := ih
        clear hr hst hal hv hW hJ ih
        go_enter Tryz.func57, Tryz.ntmps57
        go_wp2_with fail
        refine Calls.mono HV.out ?_
        rintro e w2 ⟨rfl, C2, hJ2, hK2, hC2⟩
        generalize w.alloc (.cells #[.string t.kind, .string t.data, .bool t.exec, .slice ad t.kids.length cap] 32) = W1 at *
        have q3' : w2.cell? ⟨w.heap.size, 3, none⟩ = some (.slice ad t.kids.length cap) := by
          rw [World.cell?_of_block (w := W1) (hK2.block w.heap.size (by rw [HZ.out]; exact Nat.lt_succ_self _) (fun hc => Nat.lt_irrefl _ (hlow _ hc).2))]; exact q3
        have HK2 : Hid _ := hK2
        have HC2 : Hid _ := hC2
        clear HV q3 hK2 hC2
        have HL := hl.open
        obtain ⟨hlen, HL⟩ := HL
        have HL : Hid _ := HL
        have HAL : Hid _ := hal1
        clear hal1 hl
        go_wp2_with fail
        go_loopw [24] (fun i wr => ∃ (j : Nat) (s' : σ) (C' : Nat → Prop), j ≤ t.kids.length ∧ i = .int .i64 j ∧ runs step s1 ((t.kids.take j).flatMap fun x => pre d (p ++ slash ++ x.1) (k + 1) x.2) = (s', none) ∧ J s' C' wr ∧ Kept C W1 wr ∧ (∀ m, C' m → C m ∨ W1.heap.size ≤ m)) (fun i _ => t.kids.length - (intOf i).toNat)
        case atStart => exact ⟨0, s1, C2, Nat.zero_le _, rfl, rfl, hJ2, HK2.out, HC2.out⟩
        case round =>
          obtain ⟨j, s', C', hj, rfl, hrun, hJ', hK', hC'⟩ := hrel
          by_cases hlt : j < t.kids.length
          · obtain ⟨x, hx⟩ : ∃ x, t.kids[j]? = some x := ⟨t.kids[j], List.getElem?_eq_getElem hlt⟩
            obtain ⟨b, off, rfl, u, K0⟩ : ∃ b off, ad = some ⟨b, off, none⟩ ∧ ∃ u, KidAt w B d b off j x u := by
              rcases HL.out with ⟨h0, _⟩ | ⟨b, off, cp, e, _, hk⟩
              · rw [h0] at hlt; exact absurd hlt (by simp)
              · simp only [Value.slice.injEq] at e
                exact ⟨b, off, e.1, hk j x hx⟩
            have hbB : Below B w wr := (hW1.mono hB).trans (hK'.below (fun m hm => (hlow m hm).1) (by have := HZ.out; omega))
            have hBr : B ≤ wr.heap.size := by have := hK'.size; have := HZ.out; omega
            have K := K0.below hbB (Nat.le_refl _)
            obtain ⟨ua, uc, rfl⟩ := K.lies.form
            have ha1 := HAL.out
            rw [flat_split hx] at ha1
            have ha2 := ha1.append.2 (by rw [hrun])
            rw [hrun] at ha2
            have ha3 := ha2.append.1
            have hbd : (p ++ slash ++ x.1).size ≤ maxLen ∧ k + 1 ≤ 4611686018427387904 := by
              have hl' := K.lies
              cases d with
              | zero => exact absurd hl' (by simp [Lies])
              | succ d => exact V.bound _ _ ha3.1
            have hp2 : p.size + 1 + x.1.size ≤ 9223372036854775807 := by
              have := hbd.1
              simp only [ByteArray.size_append, maxLen] at this
              have e : slash.size = 1 := rfl
              omega
            have hk2 := hbd.2
            have hcall := HI.out x.2 (p ++ slash ++ x.1) (k + 1) (.slice ua x.2.kids.length uc) s' C' (wr.alloc (.cells #[.string x.1, .string x.2.kind, .string x.2.data, .bool x.2.exec, .slice ua x.2.kids.length uc] 86)) (V.alloc hJ' _)
              ((S.below hbB (Nat.le_refl _)).below ((Below.refl _ _).alloc (Nat.le_refl _) _) hBr) (by simp; omega) (K.lies.below ((Below.refl _ _).alloc (Nat.le_refl _) _) hBr) ha3
            have ek : ((k + 1 : Nat) : Int) = (k : Int) + 1 := by omega
            rw [ek] at hcall
            have n0 := K.name
            have n1 := K.kind
            have n2 := K.data
            have n3 := K.exec
            have n4 := K.kids
            have HX : Hid _ := hx
            have HJ' : Hid _ := hJ'
            have HK' : Hid _ := hK'
            have HC' : Hid _ := hC'
            have HR : Hid _ := hrun
            cases hr2 : runs step s' (pre d (p ++ slash ++ x.1) (k + 1) x.2) with
            | mk s2 o =>
              rw [hr2] at hcall
              cases o with
              | some er =>
                have HF : Hid _ := runs_flat_err HX.out HR.out hr2
                have HCALL : Hid (Calls Tryz.prog 57 #[.string (p ++ slash ++ x.1), .int .i64 ((k : Int) + 1), .agg #[.string x.2.kind, .string x.2.data, .bool x.2.exec, .slice ua x.2.kids.length uc], .func (.func 58) #[] #[.pointer (some c)]] (wr.alloc (.cells #[.string x.1, .string x.2.kind, .string x.2.data, .bool x.2.exec, .slice ua x.2.kids.length uc] 86)) fun e w' =>
                    e = .returned (.iface 235 (.pointer (some (a er)))) ∧ ∃ C'', J s2 C'' w' ∧ Kept C' (wr.alloc (.cells #[.string x.1, .string x.2.kind, .string x.2.data, .bool x.2.exec, .slice ua x.2.kids.length uc] 86)) w' ∧ ∀ m, C'' m → C' m ∨ (wr.alloc (.cells #[.string x.1, .string x.2.kind, .string x.2.data, .bool x.2.exec, .slice ua x.2.kids.length uc] 86)).heap.size ≤ m) := hcall
                clear hcall ek ha1 ha2 ha3 hbd hx hJ' hK' hC' hrun K K0 hbB S hlow hr2
                go_wp2_with fail
                refine Calls.mono HCALL.out ?_
                rintro e w4 ⟨rfl, C4, hJ4, hK4, hC4⟩
                have HJ4 : Hid _ := hJ4
                have HK4 : Hid _ := hK4
                have HC4 : Hid _ := hC4
                clear hJ4 hK4 hC4
                go_wp2_with fail
                go_ret
                rw [HF.out]
                refine ⟨rfl, C4, HJ4.out, ?_, fun m hm => ?_⟩
                · exact (Kept.of_below hW1).trans (HK'.out.trans ((Kept.of_below ((Below.refl _ _).alloc (Nat.le_refl _) _)).trans HK4.out (fun m h => .inl h)) HC'.out) (fun m h => .inl h)
                · rcases HC4.out m hm with h | h
                  · rcases HC'.out m h with h | h
                    · exact .inl h
                    · exact .inr (by have := HZ.out; omega)
                  · exact .inr (by have := HZ.out; have := HK'.out.size; simp at h; omega)
              | none =>
                have HF : Hid _ := runs_flat_next HX.out HR.out hr2
                have HCALL : Hid (Calls Tryz.prog 57 #[.string (p ++ slash ++ x.1), .int .i64 ((k : Int) + 1), .agg #[.string x.2.kind, .string x.2.data, .bool x.2.exec, .slice ua x.2.kids.length uc], .func (.func 58) #[] #[.pointer (some c)]] (wr.alloc (.cells #[.string x.1, .string x.2.kind, .string x.2.data, .bool x.2.exec, .slice ua x.2.kids.length uc] 86)) fun e w' =>
                    e = .returned .nilIface ∧ ∃ C'', J s2 C'' w' ∧ Kept C' (wr.alloc (.cells #[.string x.1, .string x.2.kind, .string x.2.data, .bool x.2.exec, .slice ua x.2.kids.length uc] 86)) w' ∧ ∀ m, C'' m → C' m ∨ (wr.alloc (.cells #[.string x.1, .string x.2.kind, .string x.2.data, .bool x.2.exec, .slice ua x.2.kids.length uc] 86)).heap.size ≤ m) := hcall
                clear hcall ek ha1 ha2 ha3 hbd hx hJ' hK' hC' hrun K K0 hbB S hlow hr2
                go_wp2_with fail
                refine Calls.mono HCALL.out ?_
                rintro e w4 ⟨rfl, C4, hJ4, hK4, hC4⟩
                have HJ4 : Hid _ := hJ4
                have HK4 : Hid _ := hK4
                have HC4 : Hid _ := hC4
                clear hJ4 hK4 hC4
                go_wp2_with fail
                go_roundw
                case rel =>
                  refine ⟨j + 1, s2, C4, by omega, by go_num, HF.out, HJ4.out, ?_, fun m hm => ?_⟩
                  · exact HK'.out.trans ((Kept.of_below ((Below.refl _ _).alloc (Nat.le_refl _) _)).trans HK4.out (fun m h => .inl h)) HC'.out
                  · rcases HC4.out m hm with h | h
                    · exact HC'.out m h
                    · exact .inr (by have := HK'.out.size; simp at h; omega)
                case measure => simp [intOf]; omega
          · have et : t.kids.take j = t.kids := List.take_of_length_le (by omega)
            rw [et] at hrun
            have HR : Hid _ := hrun
            have HJ' : Hid _ := hJ'
            have HK' : Hid _ := hK'
            have HC' : Hid _ := hC'
            clear et hrun hJ' hK' hC'
            go_wp2_with fail
            go_ret
            rw [HR.out]
            refine ⟨rfl, C', HJ'.out, (Kept.of_below hW1).trans HK'.out (fun j h => .inl h), fun j hj => ?_⟩
            rcases HC'.out j hj with h | h
            · exact .inl h
            · exact .inr (by have := HZ.out; omega)

end Go.Proofs.YteefneelcgeioaaGreatDoor
namespace Go.Proofs.YteefneelcgeioaaGreatDoor
open Go.RowKit

def ck (n : Nat) (x : ByteArray × Nat × Tree) : Nat × Option Nat := (n + 1, if 8 < x.2.1 then some 8 else if 200 < n + 1 then some 7 else nodeErr x.2.2)
def ckOk (n : Nat) (x : ByteArray × Nat × Tree) : Prop := n ≤ 200 ∧ x.1.size ≤ maxLen ∧ x.2.1 ≤ 4611686018427387904 ∧ x.2.2.data.size ≤ maxLen
/-- A counter in block c. -/
def ctJ (B c : Nat) (n : Nat) (C : Nat → Prop) (w : World) : Prop := (∀ k, C k ↔ k = c) ∧ B ≤ c ∧ w.heap[c]? = some (.cells #[.int .i64 (n : Int)] 3 (0, 0))

theorem ctJ_low {B c n : Nat} {C : Nat → Prop} {w : World} (h : ctJ B c n C w) (k : Nat) (hk : C k) : B ≤ k ∧ k < w.heap.size := by
  have e := (h.1 k).1 hk
  subst e
  exact ⟨h.2.1, lt_of_row h.2.2⟩
theorem ctJ_ext {B c n : Nat} {C : Nat → Prop} {w w' : World} (h : ctJ B c n C w) (hb : ∀ k, C k → w'.heap[k]? = w.heap[k]?) : ctJ B c n C w' :=
  ⟨h.1, h.2.1, by rw [hb c ((h.1 c).2 rfl)]; exact h.2.2⟩
theorem Kept.setCell {C : Nat → Prop} {w w' : World} (h : Kept C w w') {p : Addr} (hp : C p.block) (v : Value) : Kept C w (w'.setCell p v) :=
  ⟨h.os, h.tape, h.output, by simp [World.setCell]; exact h.size, fun k hk hc => by
    rw [Below.heap_setCell _ _ _ _ (fun e => hc (by rw [e]; exact hp))]
    exact h.block k hk hc⟩
theorem row_alloc (w : World) (c : Array Value) (t : TypeId) : (w.alloc (.cells c t)).heap[w.heap.size]? = some (.cells c t (0, 0)) := by
  show (w.heap.push _)[w.heap.size]? = _
  simp
theorem row1_setCell {w : World} {c : Nat} {x y : Value} {t : TypeId} (h : w.heap[c]? = some (.cells #[x] t (0, 0))) : (w.setCell ⟨c, 0, none⟩ y).heap[c]? = some (.cells #[y] t (0, 0)) := one_setCell h

set_option maxRecDepth 100000 in
set_option maxHeartbeats 1000000 in
theorem check1_visit (a : Nat → Addr) (c B : Nat) : Visit a 58 (.pointer (some ⟨c, 0, none⟩)) B ck ckOk (ctJ B c) where
  low _ _ _ h := ctJ_low h
  ext _ _ _ _ h := ctJ_ext h
  bound _ _ h := ⟨h.2.1, h.2.2.1⟩
  call := by
    intro n C w d p k t u hJ S hB hl ⟨hn, hp, hk, hs⟩
    simp only at hp hk hs
    obtain ⟨hC, hBc, hrow⟩ := hJ
    obtain ⟨ad, cap, rfl⟩ := hl.form
    have hcl : c < w.heap.size := lt_of_row hrow
    have q0 := cell_of_one hrow
    have f0 := free_of_one hrow
    have Ss : SentsB a B (w.setCell ⟨c, 0, none⟩ (.int .i64 ((n : Int) + 1))) := S.below (((Kept.of_below (C := C) (Below.refl _ _)).setCell ((hC c).2 rfl) _).below (fun k hk => by rw [(hC k).1 hk]; exact hBc) hB) (Nat.le_refl _)
    have c8 := Ss.is.deep
    have c7 := Ss.is.full
    have z8 := lt_of_cell (S.is.deep)
    have z7 := lt_of_cell (S.is.full)
    have ks : Kept C w (w.setCell ⟨c, 0, none⟩ (.int .i64 ((n : Int) + 1))) := (Kept.of_below (Below.refl _ _)).setCell ((hC c).2 rfl) _
    have k0 : Kept C w ((w.setCell ⟨c, 0, none⟩ (.int .i64 ((n : Int) + 1))).alloc (.cells #[.string t.kind, .string t.data, .bool t.exec, .slice ad t.kids.length cap] 32)) :=
      (ks.trans (Kept.of_below ((Below.refl _ _).alloc (Nat.le_refl _) _)) (fun j h => .inl h))
    have r0 : ((w.setCell ⟨c, 0, none⟩ (.int .i64 ((n : Int) + 1))).alloc (.cells #[.string t.kind, .string t.data, .bool t.exec, .slice ad t.kids.length cap] 32)).heap[c]? = some (.cells #[.int .i64 ((n : Int) + 1)] 3 (0, 0)) :=
      by rw [Below.heap_alloc _ _ _ (by simpa [World.setCell] using hcl)]; exact row1_setCell hrow
    have b0 : Below B w ((w.setCell ⟨c, 0, none⟩ (.int .i64 ((n : Int) + 1))).alloc (.cells #[.string t.kind, .string t.data, .bool t.exec, .slice ad t.kids.length cap] 32)) :=
      k0.below (fun k hk => by rw [(hC k).1 hk]; exact hBc) hB
    have hJn : ∀ w', w'.heap[c]? = some (.cells #[.int .i64 ((n : Int) + 1)] 3 (0, 0)) → ctJ B c (ck n (p, k, t)).1 C w' := fun w' h => ⟨hC, hBc, by
      rw [h]
      have e : (((ck n (p, k, t)).1 : Nat) : Int) = (n : Int) + 1 := by unfold ck; omega
      rw [e]⟩
    have HJn : Hid _ := hJn
    have K0 : Hid _ := k0
    have R0 : Hid _ := r0
    have B0 : Hid _ := b0
    have SS : Hid _ := S
    have HL : Hid _ := hl
    clear hJn k0 r0 b0 S hl hrow Ss ks hC
    by_cases h8 : 8 < k
    · have HE : Hid ((ck n (p, k, t)).2 = some 8) := show _ = _ by unfold ck; rw [if_pos h8]
      go_enter Tryz.func58, Tryz.ntmps58
      go_wp2_with fail
      go_ret
      exact ⟨ret_val (by rw [HE.out]; rfl), C, HJn.out _ R0.out, K0.out, fun j h => .inl h⟩
    · by_cases h7 : 200 < n + 1
      · have HE : Hid ((ck n (p, k, t)).2 = some 7) := show _ = _ by unfold ck; rw [if_neg h8, if_pos h7]
        go_enter Tryz.func58, Tryz.ntmps58
        go_wp2_with fail
        go_ret
        exact ⟨ret_val (by rw [HE.out]; rfl), C, HJn.out _ R0.out, K0.out, fun j h => .inl h⟩
      · have HE : Hid ((ck n (p, k, t)).2 = nodeErr t) := show _ = _ by unfold ck; rw [if_neg h8, if_neg h7]
        go_enter Tryz.func58, Tryz.ntmps58
        go_wp2_with fail
        refine (checkNode_any a t B d _ _ (SS.out.below B0.out (Nat.le_refl _)).is (by have := K0.out.size; omega) (Lies.below HL.out B0.out (Nat.le_refl _)) hs).mono ?_
        rintro e w' ⟨rfl, hb⟩
        go_wp2_with fail
        go_ret
        refine ⟨ret_val (by rw [HE.out]; rfl), C, HJn.out _ ?_, K0.out.trans (Kept.of_below hb) (fun j h => .inl h), fun j h => .inl h⟩
        rw [hb.block c (lt_of_row R0.out)]
        exact R0.out

/-- The first error of a tree. -/
def treeErr (d : Nat) (t : Tree) : Option Nat := (runs ck 0 (pre d ByteArray.empty 0 t)).2

set_option maxHeartbeats 1000000 in
theorem check_any (a : Nat → Addr) (d B : Nat) (t : Tree) (u : Value) (w : World) (S : SentsB a B w) (hB : B ≤ w.heap.size) (hl : Lies w B d t.kids u) (hal : Alive ck ckOk 0 (pre d ByteArray.empty 0 t)) :
    Calls Tryz.prog 31 #[.agg #[.string t.kind, .string t.data, .bool t.exec, u]] w fun e w' => e = .returned (errV a (treeErr d t)) ∧ Below w.heap.size w w' := by
  obtain ⟨ad, cap, rfl⟩ := hl.form
  have hW : ∀ o o', Below w.heap.size w ((w.alloc o).alloc o') := fun o o' => ((Below.refl _ _).alloc (Nat.le_refl _) o).alloc (by simp) o'
  have hS : ∀ o o', SentsB a w.heap.size ((w.alloc o).alloc o') := fun o o' => by
    have := S.is.atB
    exact this.below (hW o o') (Nat.le_refl _)
  have hL : ∀ o o', Lies ((w.alloc o).alloc o') w.heap.size d t.kids (.slice ad t.kids.length cap) := fun o o' => Lies.below (hl.up hB (Nat.le_refl _)) (hW o o') (Nat.le_refl _)
  have HV := walk_Check1 a ⟨w.heap.size + 1, 0, none⟩ w.heap.size (check1_visit a (w.heap.size + 1) w.heap.size) d t ByteArray.empty 0 (.slice ad t.kids.length cap) 0 (fun k => k = w.heap.size + 1)
    ((w.alloc (.cells #[.string t.kind, .string t.data, .bool t.exec, .slice ad t.kids.length cap] 32)).alloc (.cells #[.int .i64 0] 3))
    ⟨fun k => Iff.rfl, by omega, by
      have := row_alloc (w.alloc (.cells #[.string t.kind, .string t.data, .bool t.exec, .slice ad t.kids.length cap] 32)) #[.int .i64 0] 3
      simpa using this⟩ (hS _ _) (by simp; omega) (hL _ _) hal
  have HV : Hid _ := HV
  have HW : Hid _ := hW
  clear hW hS hL hl S hal
  go_enter Tryz.func31, Tryz.ntmps31
  go_wp2_with fail
  refine Calls.mono HV.out ?_
  rintro e w2 ⟨rfl, C2, hJ2, hK2, hC2⟩
  go_wp2_with fail
  go_ret
  refine ⟨rfl, ?_⟩
  exact (HW.out _ _).trans (hK2.below (fun k hk => by omega) (by simp; omega))
end Go.Proofs.YteefneelcgeioaaGreatDoor
