/-
  The contract of tree.walk: it hands each node of a tree, ahead of its kids, to a function, and ends at the first error; whatever that function does, as long as it keeps to a contract of its own ('Visit').
  Conditions: the tree lies in memory below block B; what the function changes lies from B on.
-/
import Derived.Test.YtpjjpmikhjlgnaaGreatDoorCheckDir
namespace Go.Proofs.YtpjjpmikhjlgnaaGreatDoor
open Go.RowKit

/-- The contract of a function that a walk hands nodes to: 'J s C w': in world w it is in state s, and what it may change are the blocks of C. -/
structure Visit (a : Nat → Addr) (f : FuncId) (c : Value) (B : Nat) {σ : Type} (step : σ → ByteArray × Nat × Tree → σ × Option Nat) (ok : σ → ByteArray × Nat × Tree → Prop) (J : σ → (Nat → Prop) → World → Prop) : Prop where
  low : ∀ s C w, J s C w → ∀ k, C k → B ≤ k ∧ k < w.heap.size
  ext : ∀ s C w w', J s C w → (∀ k, C k → w'.heap[k]? = w.heap[k]?) → J s C w'
  bound : ∀ s x, ok s x → x.1.size ≤ maxLen ∧ x.2.1 ≤ 4611686018427387904
  call : ∀ s C w d p (k : Nat) t u, J s C w → SentsB a B w → B ≤ w.heap.size → Lies w B (d + 1) t.kids u → ok s (p, k, t) →
    Calls Tryz.prog f #[.string p, .int .i64 (k : Int), .agg #[.string t.kind, .string t.data, .bool t.exec, u], c] w fun e w' =>
      e = .returned (errV a (step s (p, k, t)).2) ∧ ∃ C', J (step s (p, k, t)).1 C' w' ∧ Kept C w w' ∧ ∀ j, C' j → C j ∨ w.heap.size ≤ j

theorem Visit.alloc {a : Nat → Addr} {f : FuncId} {c : Value} {B : Nat} {σ : Type} {step : σ → ByteArray × Nat × Tree → σ × Option Nat} {ok : σ → ByteArray × Nat × Tree → Prop} {J : σ → (Nat → Prop) → World → Prop} (V : Visit a f c B step ok J)
    {s : σ} {C : Nat → Prop} {w : World} (h : J s C w) (o : Obj) : J s C (w.alloc o) :=
  V.ext s C w _ h fun k hk => Below.heap_alloc _ _ _ (V.low s C w h k hk).2

set_option maxHeartbeats 1000000 in
theorem walk_Check1 {σ : Type} {step : σ → ByteArray × Nat × Tree → σ × Option Nat} {ok : σ → ByteArray × Nat × Tree → Prop} {J : σ → (Nat → Prop) → World → Prop} (a : Nat → Addr) (c : Addr) (B : Nat) (V : Visit a 66 (.pointer (some c)) B step ok J) :
    ∀ (d : Nat) (t : Tree) (p : ByteArray) (k : Nat) (u : Value) (s : σ) (C : Nat → Prop) (w : World), J s C w → SentsB a B w → B ≤ w.heap.size → Lies w B d t.kids u → Alive step ok s (pre d p k t) →
      Calls Tryz.prog 65 #[.string p, .int .i64 (k : Int), .agg #[.string t.kind, .string t.data, .bool t.exec, u], .func (.func 66) #[] #[.pointer (some c)]] w fun e w' =>
        e = .returned (errV a (runs step s (pre d p k t)).2) ∧ ∃ C', J (runs step s (pre d p k t)).1 C' w' ∧ Kept C w w' ∧ ∀ j, C' j → C j ∨ w.heap.size ≤ j := by
  intro d
  induction d with
  | zero => intro t p k u s C w _ _ _ hl; exact absurd hl (by simp [Lies])
  | succ d ih =>
    intro t p k u s C w hJ S hB hl hal
    obtain ⟨ad, cap, rfl⟩ := hl.form
    have hW : ∀ o, Below w.heap.size w (w.alloc o) := fun o => (Below.refl _ _).alloc (Nat.le_refl _) o
    have hv := V.call s C (w.alloc (.cells #[.string t.kind, .string t.data, .bool t.exec, .slice ad t.kids.length cap] 24)) d p k t (.slice ad t.kids.length cap) (V.alloc hJ _) (S.below (hW _) hB) (by simp; omega) (hl.below (hW _) hB) hal.1
    have hlow := V.low s C w hJ
    cases hst : step s (p, k, t) with
    | mk s1 o =>
      rw [hst] at hv
      cases o with
      | some er =>
        have hr : runs step s (pre (d + 1) p k t) = (s1, some er) := by simp [pre, runs, hst]
        rw [hr]
        have HV : Hid (Calls Tryz.prog 66 #[.string p, .int .i64 (k : Int), .agg #[.string t.kind, .string t.data, .bool t.exec, .slice ad t.kids.length cap], .pointer (some c)] (w.alloc (.cells #[.string t.kind, .string t.data, .bool t.exec, .slice ad t.kids.length cap] 24)) fun e w' =>
          e = .returned (.iface 181 (.pointer (some (a er)))) ∧ ∃ C', J s1 C' w' ∧ Kept C (w.alloc (.cells #[.string t.kind, .string t.data, .bool t.exec, .slice ad t.kids.length cap] 24)) w' ∧ ∀ j, C' j → C j ∨ (w.alloc (.cells #[.string t.kind, .string t.data, .bool t.exec, .slice ad t.kids.length cap] 24)).heap.size ≤ j) := hv
        have HW : Hid _ := hW
        clear hr hst hal ih hv hJ S hl hlow hW
        go_enter Tryz.func65, Tryz.ntmps65
        go_wp2_with fail
        refine Calls.mono HV.out ?_
        rintro e w2 ⟨rfl, C2, hJ2, hK2, hC2⟩
        go_wp2_with fail
        go_ret
        refine ⟨rfl, C2, hJ2, (Kept.of_below (HW.out _)).trans hK2 (fun j h => .inl h), fun j hj => ?_⟩
        rcases hC2 j hj with h | h
        · exact .inl h
        · exact .inr (by simp at h; omega)
      | none =>
        have hr : runs step s (pre (d + 1) p k t) = runs step s1 (t.kids.flatMap fun x => pre d (p ++ slash ++ x.1) (k + 1) x.2) := by simp [pre, runs, hst]
        rw [hr]
        have hal1 : Alive step ok s1 (t.kids.flatMap fun x => pre d (p ++ slash ++ x.1) (k + 1) x.2) := by
          have := hal.2
          rw [hst] at this
          exact this rfl
        have HV : Hid (Calls Tryz.prog 66 #[.string p, .int .i64 (k : Int), .agg #[.string t.kind, .string t.data, .bool t.exec, .slice ad t.kids.length cap], .pointer (some c)] (w.alloc (.cells #[.string t.kind, .string t.data, .bool t.exec, .slice ad t.kids.length cap] 24)) fun e w' =>
          e = .returned .nilIface ∧ ∃ C', J s1 C' w' ∧ Kept C (w.alloc (.cells #[.string t.kind, .string t.data, .bool t.exec, .slice ad t.kids.length cap] 24)) w' ∧ ∀ j, C' j → C j ∨ (w.alloc (.cells #[.string t.kind, .string t.data, .bool t.exec, .slice ad t.kids.length cap] 24)).heap.size ≤ j) := hv
        have q3 : (w.alloc (.cells #[.string t.kind, .string t.data, .bool t.exec, .slice ad t.kids.length cap] 24)).cell? ⟨w.heap.size, 3, none⟩ = some (.slice ad t.kids.length cap) := by rw [World.cell?_alloc_at _ _ _ _ rfl]; rfl
        have HZ : Hid ((w.alloc (.cells #[.string t.kind, .string t.data, .bool t.exec, .slice ad t.kids.length cap] 24)).heap.size = w.heap.size + 1) := show _ = _ by simp
        have hW1 := hW (.cells #[.string t.kind, .string t.data, .bool t.exec, .slice ad t.kids.length cap] 24)
        have HJ : Hid _ := hJ
        have HI : Hid _ := ih
        clear hr hst hal hv hW hJ ih
        go_enter Tryz.func65, Tryz.ntmps65
        go_wp2_with fail
        refine Calls.mono HV.out ?_
        rintro e w2 ⟨rfl, C2, hJ2, hK2, hC2⟩
        generalize w.alloc (.cells #[.string t.kind, .string t.data, .bool t.exec, .slice ad t.kids.length cap] 24) = W1 at *
        have q3' : w2.cell? ⟨w.heap.size, 3, none⟩ = some (.slice ad t.kids.length cap) := by
          rw [World.cell?_of_block (w := W1) (hK2.block w.heap.size (by rw [HZ.out]; exact Nat.lt_succ_self _) (fun hc => Nat.lt_irrefl _ (hlow _ hc).2))]; exact q3
        have HK2 : Hid _ := hK2
        have HC2 : Hid _ := hC2
        clear HV q3 hK2 hC2
        have HL := hl.open
        obtain ⟨hlen, HL⟩ := HL
        have HL : Hid _ := HL
        have HAL : Hid _ := hal1
        clear hal1 hl
        go_wp2_with fail
        go_loopw [24] (fun i wr => ∃ (j : Nat) (s' : σ) (C' : Nat → Prop), j ≤ t.kids.length ∧ i = .int .i64 j ∧ runs step s1 ((t.kids.take j).flatMap fun x => pre d (p ++ slash ++ x.1) (k + 1) x.2) = (s', none) ∧ J s' C' wr ∧ Kept C W1 wr ∧ (∀ m, C' m → C m ∨ W1.heap.size ≤ m)) (fun i _ => t.kids.length - (intOf i).toNat)
        case atStart => exact ⟨0, s1, C2, Nat.zero_le _, rfl, rfl, hJ2, HK2.out, HC2.out⟩
        case round =>
          obtain ⟨j, s', C', hj, rfl, hrun, hJ', hK', hC'⟩ := hrel
          by_cases hlt : j < t.kids.length
          · obtain ⟨x, hx⟩ : ∃ x, t.kids[j]? = some x := ⟨t.kids[j], List.getElem?_eq_getElem hlt⟩
            obtain ⟨b, off, rfl, u, K0⟩ : ∃ b off, ad = some ⟨b, off, none⟩ ∧ ∃ u, KidAt w B d b off j x u := by
              rcases HL.out with ⟨h0, _⟩ | ⟨b, off, cp, e, _, hk⟩
              · rw [h0] at hlt; exact absurd hlt (by simp)
              · simp only [Value.slice.injEq] at e
                exact ⟨b, off, e.1, hk j x hx⟩
            have hbB : Below B w wr := (hW1.mono hB).trans (hK'.below (fun m hm => (hlow m hm).1) (by have := HZ.out; omega))
            have hBr : B ≤ wr.heap.size := by have := hK'.size; have := HZ.out; omega
            have K := K0.below hbB (Nat.le_refl _)
            obtain ⟨ua, uc, rfl⟩ := K.lies.form
            have ha1 := HAL.out
            rw [flat_split hx] at ha1
            have ha2 := ha1.append.2 (by rw [hrun])
            rw [hrun] at ha2
            have ha3 := ha2.append.1
            have hbd : (p ++ slash ++ x.1).size ≤ maxLen ∧ k + 1 ≤ 4611686018427387904 := by
              have hl' := K.lies
              cases d with
              | zero => exact absurd hl' (by simp [Lies])
              | succ d => exact V.bound _ _ ha3.1
            have hp2 : p.size + 1 + x.1.size ≤ 9223372036854775807 := by
              have := hbd.1
              simp only [ByteArray.size_append, maxLen] at this
              have e : slash.size = 1 := rfl
              omega
            have hk2 := hbd.2
            have hcall := HI.out x.2 (p ++ slash ++ x.1) (k + 1) (.slice ua x.2.kids.length uc) s' C' (wr.alloc (.cells #[.string x.1, .string x.2.kind, .string x.2.data, .bool x.2.exec, .slice ua x.2.kids.length uc] 65)) (V.alloc hJ' _)
              ((S.below hbB (Nat.le_refl _)).below ((Below.refl _ _).alloc (Nat.le_refl _) _) hBr) (by simp; omega) (K.lies.below ((Below.refl _ _).alloc (Nat.le_refl _) _) hBr) ha3
            have ek : ((k + 1 : Nat) : Int) = (k : Int) + 1 := by omega
            rw [ek] at hcall
            have n0 := K.name
            have n1 := K.kind
            have n2 := K.data
            have n3 := K.exec
            have n4 := K.kids
            have HX : Hid _ := hx
            have HJ' : Hid _ := hJ'
            have HK' : Hid _ := hK'
            have HC' : Hid _ := hC'
            have HR : Hid _ := hrun
            cases hr2 : runs step s' (pre d (p ++ slash ++ x.1) (k + 1) x.2) with
            | mk s2 o =>
              rw [hr2] at hcall
              cases o with
              | some er =>
                have HF : Hid _ := runs_flat_err HX.out HR.out hr2
                have HCALL : Hid (Calls Tryz.prog 65 #[.string (p ++ slash ++ x.1), .int .i64 ((k : Int) + 1), .agg #[.string x.2.kind, .string x.2.data, .bool x.2.exec, .slice ua x.2.kids.length uc], .func (.func 66) #[] #[.pointer (some c)]] (wr.alloc (.cells #[.string x.1, .string x.2.kind, .string x.2.data, .bool x.2.exec, .slice ua x.2.kids.length uc] 65)) fun e w' =>
                    e = .returned (.iface 181 (.pointer (some (a er)))) ∧ ∃ C'', J s2 C'' w' ∧ Kept C' (wr.alloc (.cells #[.string x.1, .string x.2.kind, .string x.2.data, .bool x.2.exec, .slice ua x.2.kids.length uc] 65)) w' ∧ ∀ m, C'' m → C' m ∨ (wr.alloc (.cells #[.string x.1, .string x.2.kind, .string x.2.data, .bool x.2.exec, .slice ua x.2.kids.length uc] 65)).heap.size ≤ m) := hcall
                clear hcall ek ha1 ha2 ha3 hbd hx hJ' hK' hC' hrun K K0 hbB S hlow hr2
                go_wp2_with fail
                refine Calls.mono HCALL.out ?_
                rintro e w4 ⟨rfl, C4, hJ4, hK4, hC4⟩
                have HJ4 : Hid _ := hJ4
                have HK4 : Hid _ := hK4
                have HC4 : Hid _ := hC4
                clear hJ4 hK4 hC4
                go_wp2_with fail
                go_ret
                rw [HF.out]
                refine ⟨rfl, C4, HJ4.out, ?_, fun m hm => ?_⟩
                · exact (Kept.of_below hW1).trans (HK'.out.trans ((Kept.of_below ((Below.refl _ _).alloc (Nat.le_refl _) _)).trans HK4.out (fun m h => .inl h)) HC'.out) (fun m h => .inl h)
                · rcases HC4.out m hm with h | h
                  · rcases HC'.out m h with h | h
                    · exact .inl h
                    · exact .inr (by have := HZ.out; omega)
                  · exact .inr (by have := HZ.out; have := HK'.out.size; simp at h; omega)
              | none =>
                have HF : Hid _ := runs_flat_next HX.out HR.out hr2
                have HCALL : Hid (Calls Tryz.prog 65 #[.string (p ++ slash ++ x.1), .int .i64 ((k : Int) + 1), .agg #[.string x.2.kind, .string x.2.data, .bool x.2.exec, .slice ua x.2.kids.length uc], .func (.func 66) #[] #[.pointer (some c)]] (wr.alloc (.cells #[.string x.1, .string x.2.kind, .string x.2.data, .bool x.2.exec, .slice ua x.2.kids.length uc] 65)) fun e w' =>
                    e = .returned .nilIface ∧ ∃ C'', J s2 C'' w' ∧ Kept C' (wr.alloc (.cells #[.string x.1, .string x.2.kind, .string x.2.data, .bool x.2.exec, .slice ua x.2.kids.length uc] 65)) w' ∧ ∀ m, C'' m → C' m ∨ (wr.alloc (.cells #[.string x.1, .string x.2.kind, .string x.2.data, .bool x.2.exec, .slice ua x.2.kids.length uc] 65)).heap.size ≤ m) := hcall
                clear hcall ek ha1 ha2 ha3 hbd hx hJ' hK' hC' hrun K K0 hbB S hlow hr2
                go_wp2_with fail
                refine Calls.mono HCALL.out ?_
                rintro e w4 ⟨rfl, C4, hJ4, hK4, hC4⟩
                have HJ4 : Hid _ := hJ4
                have HK4 : Hid _ := hK4
                have HC4 : Hid _ := hC4
                clear hJ4 hK4 hC4
                go_wp2_with fail
                go_roundw
                case rel =>
                  refine ⟨j + 1, s2, C4, by omega, by go_num, HF.out, HJ4.out, ?_, fun m hm => ?_⟩
                  · exact HK'.out.trans ((Kept.of_below ((Below.refl _ _).alloc (Nat.le_refl _) _)).trans HK4.out (fun m h => .inl h)) HC'.out
                  · rcases HC4.out m hm with h | h
                    · exact HC'.out m h
                    · exact .inr (by have := HK'.out.size; simp at h; omega)
                case measure => simp [intOf]; omega
          · have et : t.kids.take j = t.kids := List.take_of_length_le (by omega)
            rw [et] at hrun
            have HR : Hid _ := hrun
            have HJ' : Hid _ := hJ'
            have HK' : Hid _ := hK'
            have HC' : Hid _ := hC'
            clear et hrun hJ' hK' hC'
            go_wp2_with fail
            go_ret
            rw [HR.out]
            refine ⟨rfl, C', HJ'.out, (Kept.of_below hW1).trans HK'.out (fun j h => .inl h), fun j hj => ?_⟩
            rcases HC'.out j hj with h | h
            · exact .inl h
            · exact .inr (by have := HZ.out; omega)

end Go.Proofs.YtpjjpmikhjlgnaaGreatDoor
