/-
  The contract of package diff's tellNode: what two nodes tell of each other.
  Conditions: the list of changes lies behind its pointer (ChSt); both nodes lie in memory below it, with room told, and are well.
-/
import Derived.Test.YtilkjafggfdjeabDoorSame
import Derived.Test.YtilkjafggfdjeabDoorDKids
namespace Go.Proofs.YtilkjafggfdjeabDoor
open Go.RowKit
attribute [local go_sem ↓] Go.wp_at_zero Go.wp_at_succ

set_option maxRecDepth 100000 in
set_option maxHeartbeats 4000000 in
theorem tellNode_step (lb d : Nat) (hd : d + 1 ≤ 9) (hN : NodeTells lb d) : NodeTells lb (d + 1) := by
  intro ns a b ua ub l v us w C hA hB wA wB hs hlen
  obtain ⟨aa, ac, rfl⟩ := hA.form
  obtain ⟨ba, bc, rfl⟩ := hB.form
  have hW : Below w.heap.size w ((w.alloc (.cells #[.string a.kind, .string a.data, .bool a.exec, .slice aa a.kids.length ac] 24)).alloc (.cells #[.string b.kind, .string b.data, .bool b.exec, .slice ba b.kids.length bc] 24)) := ((Below.refl _ _).alloc (Nat.le_refl _) _).alloc (by simp) _
  have hlb : lb < w.heap.size := lt_of_row C.cell
  have hra : ((w.alloc (.cells #[.string a.kind, .string a.data, .bool a.exec, .slice aa a.kids.length ac] 24)).alloc (.cells #[.string b.kind, .string b.data, .bool b.exec, .slice ba b.kids.length bc] 24)).heap[w.heap.size]? = some (.cells #[.string a.kind, .string a.data, .bool a.exec, .slice aa a.kids.length ac] 24 (0, 0)) := by rw [Below.heap_alloc _ _ _ (by simp)]; exact row_alloc' _ _ _
  have hrb : ((w.alloc (.cells #[.string a.kind, .string a.data, .bool a.exec, .slice aa a.kids.length ac] 24)).alloc (.cells #[.string b.kind, .string b.data, .bool b.exec, .slice ba b.kids.length bc] 24)).heap[w.heap.size + 1]? = some (.cells #[.string b.kind, .string b.data, .bool b.exec, .slice ba b.kids.length bc] 24 (0, 0)) := by
    have := row_alloc' (w.alloc (.cells #[.string a.kind, .string a.data, .bool a.exec, .slice aa a.kids.length ac] 24)) #[.string b.kind, .string b.data, .bool b.exec, .slice ba b.kids.length bc] 24
    simpa using this
  have hz : ((w.alloc (.cells #[.string a.kind, .string a.data, .bool a.exec, .slice aa a.kids.length ac] 24)).alloc (.cells #[.string b.kind, .string b.data, .bool b.exec, .slice ba b.kids.length bc] 24)).heap.size = w.heap.size + 2 := by simp
  obtain ⟨⟨x0, x1, x2, x3⟩, _⟩ := row4b hra
  obtain ⟨⟨y0, y1, y2, y3⟩, _⟩ := row4b hrb
  have HC : Hid (ChSt lb 9 l v us ((w.alloc (.cells #[.string a.kind, .string a.data, .bool a.exec, .slice aa a.kids.length ac] 24)).alloc (.cells #[.string b.kind, .string b.data, .bool b.exec, .slice ba b.kids.length bc] 24))) := C.below hW
  have HLA : Hid (LiesC ((w.alloc (.cells #[.string a.kind, .string a.data, .bool a.exec, .slice aa a.kids.length ac] 24)).alloc (.cells #[.string b.kind, .string b.data, .bool b.exec, .slice ba b.kids.length bc] 24)) lb (d + 1) a.kids (.slice aa a.kids.length ac)) := hA.below hW (by omega)
  have HLB : Hid (LiesC ((w.alloc (.cells #[.string a.kind, .string a.data, .bool a.exec, .slice aa a.kids.length ac] 24)).alloc (.cells #[.string b.kind, .string b.data, .bool b.exec, .slice ba b.kids.length bc] 24)) lb (d + 1) b.kids (.slice ba b.kids.length bc)) := hB.below hW (by omega)
  have HLO : Hid (∀ w', Below lb ((w.alloc (.cells #[.string a.kind, .string a.data, .bool a.exec, .slice aa a.kids.length ac] 24)).alloc (.cells #[.string b.kind, .string b.data, .bool b.exec, .slice ba b.kids.length bc] 24)) w' → Below lb w w') := fun w' h => (hW.mono (by omega)).trans h
  have HWA : Hid _ := wA
  have HWB : Hid _ := wB
  have HN : Hid (NodeTells lb d) := hN
  by_cases hdir : isDir a = true ∧ isDir b = true
  · have e : diffN (d + 1) ns a b = diffK (fun x s t => diffN d (ns ++ [x]) s t) ns a.kids b.kids := by rw [diffN, if_pos hdir]
    rw [e] at hlen ⊢
    have ha : (a.kind.toList == [100, 105, 114]) = true := hdir.1
    have hb : (b.kind.toList == [100, 105, 114]) = true := hdir.2
    have hn1 := (dir_names wA.1 hdir.1).1
    have hn2 := (dir_names wB.1 hdir.2).1
    have HTK : Hid _ := tellKids_any lb d hd HN.out ns a.kids b.kids _ _ l v us _ HC.out HLA.out HLB.out (fun x hx => ⟨hn1 x hx, wA.2 x hx⟩) (fun x hx => ⟨hn2 x hx, wB.2 x hx⟩) hs hlen
    clear C hA hB wA wB hN hra hrb hdir e hn1 hn2 hs hlen x1 x2 y1 y2
    go_enter Tryd.func37, Tryd.ntmps37
    go_wp2_with fail
    refine Calls.mono HTK.out ?_
    rintro e w2 ⟨rfl, hst, hb2⟩
    have HE : Hid _ := hst
    have HB2 : Hid _ := HLO.out _ hb2
    clear hst hb2 HTK
    go_wp2_with fail
    go_returns
    exact ⟨rfl, HE.out, HB2.out⟩
  · have HSA : Hid _ := same_any lb (d + 1) a b _ _ ((w.alloc (.cells #[.string a.kind, .string a.data, .bool a.exec, .slice aa a.kids.length ac] 24)).alloc (.cells #[.string b.kind, .string b.data, .bool b.exec, .slice ba b.kids.length bc] 24)) (by omega) HLA.out.lies HLB.out.lies
    have hkk : (a.kind.toList == [100, 105, 114]) = false ∨ ((a.kind.toList == [100, 105, 114]) = true ∧ (b.kind.toList == [100, 105, 114]) = false) := by
      unfold isDir at hdir
      cases h1 : a.kind.toList == [100, 105, 114] with
      | false => exact .inl rfl
      | true =>
        cases h2 : b.kind.toList == [100, 105, 114] with
        | false => exact .inr ⟨rfl, rfl⟩
        | true => exact absurd ⟨h1, h2⟩ hdir
    have e : diffN (d + 1) ns a b = if sameB (d + 1) a b = true then [] else [⟨editB, tellP ns, b⟩] := by rw [diffN, if_neg hdir]
    obtain ⟨LL, hLL⟩ : ∃ LL, LL = diffN (d + 1) ns a b := ⟨_, rfl⟩
    rw [← hLL] at hlen ⊢
    rw [e] at hLL
    have HLL : Hid _ := hLL
    clear hLL
    have hln : l.length ≤ 1000000 := by rw [List.length_append] at hlen; omega
    have HTE : Hid (∀ w', Below ((w.alloc (.cells #[.string a.kind, .string a.data, .bool a.exec, .slice aa a.kids.length ac] 24)).alloc (.cells #[.string b.kind, .string b.data, .bool b.exec, .slice ba b.kids.length bc] 24)).heap.size ((w.alloc (.cells #[.string a.kind, .string a.data, .bool a.exec, .slice aa a.kids.length ac] 24)).alloc (.cells #[.string b.kind, .string b.data, .bool b.exec, .slice ba b.kids.length bc] 24)) w' → Calls Tryd.prog 55 #[.pointer (some ⟨lb, 0, none⟩), .string { data := #[101, 100, 105, 116] }, .string (tellP ns), .agg #[.string b.kind, .string b.data, .bool b.exec, .slice ba b.kids.length bc]] w' fun e w2 => e = .returned (.tuple #[]) ∧ (∃ v' us', ChSt lb 9 (l ++ [⟨editB, tellP ns, b⟩]) v' us' w2) ∧ Below lb w w2) := fun w' h => by
      refine (tell_any lb 9 l v us { data := #[101, 100, 105, 116] } (tellP ns) b _ w' (HC.out.below h) ((HLB.out.below h (by omega)).lies.up (Nat.le_refl _) (by omega)) hln).mono ?_
      rintro e w2 ⟨h1, h2, h3⟩
      exact ⟨h1, h2, HLO.out _ ((h.mono (by omega)).trans h3)⟩
    have HEND : Hid (ChSt lb 9 l v us ((w.alloc (.cells #[.string a.kind, .string a.data, .bool a.exec, .slice aa a.kids.length ac] 24)).alloc (.cells #[.string b.kind, .string b.data, .bool b.exec, .slice ba b.kids.length bc] 24))) := HC.out
    have HYB : Hid (∀ w', Below ((w.alloc (.cells #[.string a.kind, .string a.data, .bool a.exec, .slice aa a.kids.length ac] 24)).alloc (.cells #[.string b.kind, .string b.data, .bool b.exec, .slice ba b.kids.length bc] 24)).heap.size ((w.alloc (.cells #[.string a.kind, .string a.data, .bool a.exec, .slice aa a.kids.length ac] 24)).alloc (.cells #[.string b.kind, .string b.data, .bool b.exec, .slice ba b.kids.length bc] 24)) w' → w'.cell? ⟨w.heap.size + 1, 0, none⟩ = some (.string b.kind) ∧ w'.cell? ⟨w.heap.size + 1, 1, none⟩ = some (.string b.data) ∧ w'.cell? ⟨w.heap.size + 1, 2, none⟩ = some (.bool b.exec) ∧ w'.cell? ⟨w.heap.size + 1, 3, none⟩ = some (.slice ba b.kids.length bc)) := fun w' h => (row4b ((h.block (w.heap.size + 1) (by omega)).trans hrb)).1
    clear C hA hB wA wB hN hra hrb hdir e hs hlen HLA HLB HWA HWB HN
    rcases hkk with hk | ⟨hk, hk2⟩
    all_goals
      go_enter Tryd.func37, Tryd.ntmps37
      go_wp2_with fail
      refine Calls.mono HSA.out ?_
      clear HSA x0 x1 x2 x3 y0 y1 y2 y3
      rintro e w2 ⟨rfl, hb2⟩
      cases hsm : sameB (d + 1) a b with
      | true =>
        have HCE : Hid (ChSt lb 9 l v us w2) := HC.out.below hb2
        have HBE : Hid (Below lb w w2) := HLO.out _ (hb2.mono (by omega))
        clear hb2
        go_wp2_with fail
        go_returns
        have h := HLL.out
        rw [if_pos hsm] at h
        rw [h, List.append_nil]
        exact ⟨rfl, ⟨v, us, HCE.out⟩, HBE.out⟩
      | false =>
        have HT2 : Hid _ := HTE.out w2 hb2
        obtain ⟨y0, y1, y2, y3⟩ := HYB.out w2 hb2
        clear hb2 HTE HYB HC
        cases hem : (joinB ns).toList.isEmpty with
        | true =>
          have e2 : tellP ns = { data := #[47] } := by unfold tellP; rw [if_pos hem]; rfl
          have HL2 : Hid (LL = [⟨editB, tellP ns, b⟩]) := show _ = _ by have h := HLL.out; rw [if_neg (by rw [hsm]; decide)] at h; exact h
          rw [e2] at HT2 HL2
          go_wp2_with fail
          refine Calls.mono HT2.out ?_
          rintro e w3 ⟨rfl, h1, h2⟩
          have H1 : Hid _ := h1
          have H2 : Hid _ := h2
          clear h1 h2
          go_wp2_with fail
          go_returns
          rw [HL2.out]
          exact ⟨rfl, H1.out, H2.out⟩
        | false =>
          have e2 : tellP ns = joinB ns := by unfold tellP; rw [if_neg (by rw [hem]; decide)]
          have HL2 : Hid (LL = [⟨editB, tellP ns, b⟩]) := show _ = _ by have h := HLL.out; rw [if_neg (by rw [hsm]; decide)] at h; exact h
          rw [e2] at HT2 HL2
          go_wp2_with fail
          refine Calls.mono HT2.out ?_
          rintro e w3 ⟨rfl, h1, h2⟩
          have H1 : Hid _ := h1
          have H2 : Hid _ := h2
          clear h1 h2
          go_wp2_with fail
          go_returns
          rw [HL2.out]
          exact ⟨rfl, H1.out, H2.out⟩
theorem tellNode_any (lb : Nat) : ∀ d, d ≤ 9 → NodeTells lb d
  | 0, _ => fun _ a _ _ _ _ _ _ _ _ h _ _ _ _ _ => absurd h (by simp [LiesC])
  | d + 1, h => tellNode_step lb d h (tellNode_any lb d (by omega))
end Go.Proofs.YtilkjafggfdjeabDoor
