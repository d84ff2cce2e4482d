/-
  Gc LaidA Data Arg, joined.
  Conditions: those that each states.
-/
import Derived.Test.YtpiebpiljhlneaaGreatDoorZ13
import Derived.Test.YtpiebpiljhlneaaGreatDoorRows
import Derived.LaidLaws
import Derived.LaidHandle
import Derived.LaidMore
import Derived.Stop.LaidErr
import Derived.ProofKit
import Derived.SizedLaws
import Derived.Deep.Slices
import Derived.Lib.SmallJoins
import Derived.ChangeSame
import Derived.ChangeVars
namespace Go.Proofs.YtpiebpiljhlneaaGreatDoor
section
set_option maxHeartbeats 4000000
set_option maxRecDepth 100000
open Go.RowKit
attribute [local go_sem ↓] Go.wp_at_zero Go.wp_at_succ

def blank (t:Tree):ByteArray:=if isFile t=true then { data:=#[] } else t.data
def bareX:Nat->Tree->Tree
 | 0,t=>t
 | d+1,t=>⟨t.kind,blank t,t.exec,t.kids.map fun x=>(x.1,bareX d x.2)⟩
theorem own_start {w W:World} {d:Nat} {T:Tree} {ta:Option Addr} {tc:Nat} (h1:W.heap[w.heap.size]? = some (.cells #[.string T.kind,.string T.data,.bool T.exec,.slice ta T.kids.length tc] 31 (0,0))) (h2:W.heap[w.heap.size+1]? = some (.cells #[.string { data:=#[] },.string { data:=#[] },.bool false,.slice none 0 0] 31 (0,0))) (h3:Below w.heap.size w W):OwnAt w d T ta tc 0 [] (.slice none 0 0) W:=by
 refine ⟨h1,h2,rfl,?_,⟨fun _ _=>False,fun i x u _ h=>by simp at h,fun _ _ h=>h.elim,fun _ _ _ _ h=>h.elim⟩,h3⟩
 have e:kidCells (T.kids.take 0) [] = []:=by simp [kidCells]
 rw [e];exact World.ownsRow_nil _ _ _ _
theorem bare_own (B : Nat) : ∀ (d : Nat) (t : Tree) (u : Value) (w : World), B ≤ w.heap.size → Lies w B d t.kids u →
    Calls Tryz.prog 91 #[.agg #[.string t.kind, .string t.data, .bool t.exec, u]] w fun e w' => ∃ u', e = .returned (.agg #[.string (bareX d t).kind, .string (bareX d t).data, .bool (bareX d t).exec, u']) ∧ OwnT w' (fun b => w.heap.size ≤ b ∧ b < w'.heap.size) d (bareX d t).kids u' ∧ Below w.heap.size w w' := by
  intro d
  induction d with
  | zero => intro t u w _ hl; exact absurd hl (by simp [Lies])
  | succ d ih =>
    intro t u w hB hl
    have hlo := hl.open
    obtain ⟨ta, tc, rfl⟩ := hl.form
    obtain ⟨i0, hi0, hz0, hz1, hz2⟩ := info_parts infoKid
    have HL : Hid _ := hlo
    have HIH : Hid _ := ih
    have hlen := hlo.1
    have HN : Hid (∀ x ∈ t.kids, x.1.size ≤ 140737488355328) := fun x hx => by
      obtain ⟨i, hi, he⟩ := List.getElem_of_mem hx
      have hxi : t.kids[i]? = some x := by rw [List.getElem?_eq_getElem hi, he]
      rcases hlo.2 with ⟨h0, _⟩ | ⟨b, off, cp, _, _, hk⟩
      · rw [h0] at hxi; simp at hxi
      · obtain ⟨u, K⟩ := hk i x hxi
        exact K.size
    clear hlo hl ih
    obtain ⟨T, HT⟩ : ∃ T, Hid (T = bareX (d + 1) t) := ⟨_, (rfl : _ = _)⟩
    have HTK : Hid (∀ (i : Nat) (x : ByteArray × Tree), t.kids[i]? = some x → T.kids[i]? = some (x.1, bareX d x.2)) := fun i x hx => by
      rw [HT.out]
      show (t.kids.map fun x => (x.1, bareX d x.2))[i]? = _
      rw [List.getElem?_map, hx]; rfl
    have HTL : Hid (T.kids.length = t.kids.length) := by
      show _ = _
      rw [HT.out]
      show (t.kids.map fun x => (x.1, bareX d x.2)).length = _
      rw [List.length_map]
    have HTN : Hid (∀ x ∈ T.kids, x.1.size ≤ 140737488355328) := fun x hx => by
      rw [HT.out] at hx
      obtain ⟨y, hy, rfl⟩ := List.mem_map.1 (show x ∈ t.kids.map fun x => (x.1, bareX d x.2) from hx)
      exact HN.out y hy
    have HS0 : ∀ dd : ByteArray, T.data = dd → OwnAt w d T ta tc 0 [] (.slice none 0 0) ((w.alloc (.cells #[.string t.kind, .string dd, .bool t.exec, .slice ta t.kids.length tc] 31)).alloc (.cells #[.string { data := #[] }, .string { data := #[] }, .bool false, .slice none 0 0] 31)) := fun dd hdd => by
      refine own_start ?_ ?_ (((Below.refl _ _).alloc (Nat.le_refl _) _).alloc (by simp) _)
      · have e1 : T.kind = t.kind := by rw [HT.out]; rfl
        have e2 : T.exec = t.exec := by rw [HT.out]; rfl
        rw [hdd, e1, e2, HTL.out, Below.heap_alloc _ _ _ (by simp)]
        exact row_alloc' _ _ _
      · have := row_alloc' (w.alloc (.cells #[.string t.kind, .string dd, .bool t.exec, .slice ta t.kids.length tc] 31)) #[.string { data := #[] }, .string { data := #[] }, .bool false, .slice none 0 0] 31
        simpa using this
    cases hf : (t.kind.toList == [102, 105, 108, 101]) with
    | true =>
      have HST : Hid (OwnAt w d T ta tc 0 [] (.slice none 0 0) ((w.alloc (.cells #[.string t.kind, .string { data := #[] }, .bool t.exec, .slice ta t.kids.length tc] 31)).alloc (.cells #[.string { data := #[] }, .string { data := #[] }, .bool false, .slice none 0 0] 31))) := HS0 _ (by rw [HT.out]; show blank t = _; unfold blank isFile; rw [hf]; rfl)
      rw [← HT.out]
      clear HS0 HT
      go_enter Tryz.func91, Tryz.ntmps91
      go_wp2_with fail
      go_loopw [3, 4] (fun v i wr => ∃ (j : Nat) (us : List Value) (va : Option Addr) (vc : Nat), j ≤ t.kids.length ∧ i = .int .i64 j ∧ v = .slice va j vc ∧ OwnAt w d T ta tc j us (.slice va j vc) wr) (fun _ i _ => t.kids.length - (intOf i).toNat)
      case atStart => exact ⟨0, [], none, 0, Nat.zero_le _, rfl, rfl, HST.out⟩
      case round =>
        obtain ⟨j, us, va, vc, hj, rfl, rfl, O⟩ := hrel
        have hrow := O.box
        have g0 : wr.cell? ⟨w.heap.size, 0, none⟩ = some (.string T.kind) := by rw [cell_of_row wr _ _ _ _ _ O.box]; rfl
        have g1 : wr.cell? ⟨w.heap.size, 1, none⟩ = some (.string T.data) := by rw [cell_of_row wr _ _ _ _ _ O.box]; rfl
        have g2 : wr.cell? ⟨w.heap.size, 2, none⟩ = some (.bool T.exec) := by rw [cell_of_row wr _ _ _ _ _ O.box]; rfl
        have g3 : wr.cell? ⟨w.heap.size, 3, none⟩ = some (.slice ta t.kids.length tc) := by rw [← HTL.out, cell_of_row wr _ _ _ _ _ O.box]; rfl
        by_cases hlt : j < t.kids.length
        · obtain ⟨x, hx⟩ : ∃ x, t.kids[j]? = some x := ⟨t.kids[j], List.getElem?_eq_getElem hlt⟩
          obtain ⟨b, off, rfl, ux, K0⟩ : ∃ b off, ta = some ⟨b, off, none⟩ ∧ ∃ u, KidAt w B d b off j x u := by
            rcases HL.out.2 with ⟨h0, _⟩ | ⟨b, off, cp, e, _, hk⟩
            · rw [h0] at hlt; exact absurd hlt (by simp)
            · simp only [Value.slice.injEq] at e
              exact ⟨b, off, e.1, hk j x hx⟩
          have K := K0.below O.below hB
          obtain ⟨xa, xc, rfl⟩ := K.lies.form
          have n0 := K.name
          have n1 := K.kind
          have n2 := K.data
          have n3 := K.exec
          have n4 := K.kids
          have hBr : B ≤ wr.heap.size := Nat.le_trans hB O.below.size
          have lb : b < wr.heap.size := Nat.lt_of_lt_of_le K.lt hBr
          have lw : w.heap.size < wr.heap.size := lt_of_row O.box
          have HC : Hid _ := HIH.out x.2 (.slice xa x.2.kids.length xc) wr hBr K.lies
          have hj0 : (0 : Int) ≤ (j : Int) := by omega
          have hj1 : (j : Int) < (t.kids.length : Int) := by omega
          have HKLT : Hid (b < B) := K.lt
          have HO : Hid _ := O
          have HX : Hid _ := hx
          clear O hrow K K0 hx
          go_wp2_with fail
          refine Calls.mono HC.out ?_
          rintro e w2 ⟨u', rfl, hq, hb2⟩
          obtain ⟨y, HY⟩ : ∃ y, Hid (y = bareX d x.2) := ⟨_, (rfl : _ = _)⟩
          rw [← HY.out] at hq ⊢
          obtain ⟨xa', xc', rfl⟩ := hq.form
          have HXT : Hid (T.kids[j]? = some (x.1, y)) := by show _ = _; rw [HTK.out j x HX.out, HY.out]
          clear HY
          have g3' : w2.cell? ⟨w.heap.size, 3, none⟩ = some (.slice (some ⟨b, off, none⟩) t.kids.length tc) := by rw [hb2.cell (p := ⟨w.heap.size, 3, none⟩) lw]; exact g3
          have n0' : w2.cell? ⟨b, off + j * 5, none⟩ = some (.string x.1) := by rw [hb2.cell (p := ⟨b, off + j * 5, none⟩) lb]; exact n0
          have lw2 : w.heap.size < w2.heap.size := Nat.lt_of_lt_of_le lw hb2.size
          have lb2 : b < w2.heap.size := Nat.lt_of_lt_of_le lb hb2.size
          have hown2 : w2.ownsRow (w.heap.size + 1 + 1) 161 5 (.slice va j vc) j (kidCells (T.kids.take j) us) := ownsRow_ext' HO.out.own fun k hk => hb2.block k (HO.out.own.lt k hk).2
          have HOW2 : Hid _ := hown2
          have HQ : Hid (OwnT w2 (fun b => wr.heap.size ≤ b ∧ b < w2.heap.size) d y.kids (.slice xa' y.kids.length xc')) := hq
          have HB2 : Hid _ := hb2
          have HN2 : Hid (∀ o, ((w2.alloc o).alloc (.cells #[.string x.1, .string y.kind, .string y.data, .bool y.exec, .slice xa' y.kids.length xc'] 161)).heap[w2.heap.size + 1]? = some (.cells #[.string x.1, .string y.kind, .string y.data, .bool y.exec, .slice xa' y.kids.length xc'] 161 (0, 0))) := fun o => by
            have := row_alloc' (w2.alloc o) #[.string x.1, .string y.kind, .string y.data, .bool y.exec, .slice xa' y.kids.length xc'] 161
            simpa using this
          have a1 : (Value.slice va j vc).ownBlock ≠ some w.heap.size := fun e => by have := (HO.out.own.lt _ e).1; omega
          have a2 : (Value.slice va j vc).ownBlock ≠ some b := fun e => by have := (HO.out.own.lt _ e).1; have := HKLT.out; omega
          have a3 : (Value.slice va j vc).ownBlock ≠ some w2.heap.size := fun e => by have := (HO.out.own.lt _ e).2; have := hb2.size; omega
          have hbs : w.heap.size + 1 + 1 ≤ w2.heap.size := by have := lt_of_row HO.out.res; have := hb2.size; omega
          clear hown2 hq hb2 n0 n1 n2 n3 n4 g0 g1 g2 g3
          go_wp2_with fail
          go_region_held3 (fun w' => w'.cell? ⟨w.heap.size, 3, none⟩ = some (.slice (some ⟨b, off, none⟩) t.kids.length tc) ∧ w'.cell? ⟨b, off + j * 5, none⟩ = some (.string x.1) ∧ w'.cell? ⟨w2.heap.size, 0, none⟩ = some (.string y.kind) ∧ w'.cell? ⟨w2.heap.size, 1, none⟩ = some (.string y.data) ∧ w'.cell? ⟨w2.heap.size, 2, none⟩ = some (.bool y.exec) ∧ w'.cell? ⟨w2.heap.size, 3, none⟩ = some (.slice xa' y.kids.length xc'))
            (first
              | go_keep
              | (go_split_ands
                 refine ⟨?_, ?_, ?_, ?_, ?_, ?_⟩
                 · (rw [hgrow.cell_far _ (by first | (simp; done) | (simp; omega)) (Ne.symm a1)]; assumption)
                 · (rw [hgrow.cell_far _ (by first | (simp; done) | (simp; omega)) (Ne.symm a2)]; assumption)
                 · (rw [hgrow.cell_far _ (by first | (simp; done) | (simp; omega)) (Ne.symm a3)]; assumption)
                 · (rw [hgrow.cell_far _ (by first | (simp; done) | (simp; omega)) (Ne.symm a3)]; assumption)
                 · (rw [hgrow.cell_far _ (by first | (simp; done) | (simp; omega)) (Ne.symm a3)]; assumption)
                 · (rw [hgrow.cell_far _ (by first | (simp; done) | (simp; omega)) (Ne.symm a3)]; assumption)))
            ((refine step_append_lies _ (by rfl) _ _ _ (by rfl) (w.heap.size + 1 + 1) 161 i0 _ 5 80 Tryz.underlying29 hi0 hz0 hz1 hz2 rfl (by omega) (.slice va j vc) j (kidCells (T.kids.take j) us) (by rfl) ((World.ownsRow.alloc (World.ownsRow.alloc HOW2.out _) _).drew) ⟨w2.heap.size + 1, 0, none⟩ 1 1 [.string x.1, .string y.kind, .string y.data, .bool y.exec, .slice xa' y.kids.length xc'] (by rfl) (by rfl) (World.news_of_block (cs := #[.string x.1, .string y.kind, .string y.data, .bool y.exec, .slice xa' y.kids.length xc']) (t := 161) (fr := (0, 0)) (HN2.out _)) (by simp [Value.oneCell']) (by omega) (by unfold maxLen; omega) (by omega) (by simp; omega) (w2.heap.size + 1 + 1) (by simp) ?_; intro g cap' w5 hown5 hgrow hat hlt5))
          go_wp2_with fail
          have hO := own_next (x := (x.1, y)) HO.out HXT.out HB2.out HQ.out (wa := ((w2.alloc (.cells #[.string y.kind, .string y.data, .bool y.exec, .slice xa' y.kids.length xc'] 31)).alloc (.cells #[.string x.1, .string y.kind, .string y.data, .bool y.exec, .slice xa' y.kids.length xc'] 161)).drew) (by go_grown) hown5 hgrow hat (by omega)
          go_roundw
          case rel => exact ⟨j + 1, us ++ [.slice xa' y.kids.length xc'], some ⟨g, 0, none⟩, cap', by omega, by go_num, rfl, hO⟩
          case measure => simp [intOf]; omega
        · have f3 : wr.frozen? ⟨w.heap.size, 3, none⟩ = false := free_of_row O.box 3
          have r0 : wr.cell? ⟨w.heap.size + 1, 0, none⟩ = some (.string { data := #[] }) := by rw [cell_of_row wr _ _ _ _ _ O.res]; rfl
          have r1 : wr.cell? ⟨w.heap.size + 1, 1, none⟩ = some (.string { data := #[] }) := by rw [cell_of_row wr _ _ _ _ _ O.res]; rfl
          have r2 : wr.cell? ⟨w.heap.size + 1, 2, none⟩ = some (.bool false) := by rw [cell_of_row wr _ _ _ _ _ O.res]; rfl
          have r3 : wr.cell? ⟨w.heap.size + 1, 3, none⟩ = some (.slice none 0 0) := by rw [cell_of_row wr _ _ _ _ _ O.res]; rfl
          have s0 : wr.frozen? ⟨w.heap.size + 1, 0, none⟩ = false := free_of_row O.res 0
          have s1 : wr.frozen? ⟨w.heap.size + 1, 1, none⟩ = false := free_of_row O.res 1
          have s2 : wr.frozen? ⟨w.heap.size + 1, 2, none⟩ = false := free_of_row O.res 2
          have s3 : wr.frozen? ⟨w.heap.size + 1, 3, none⟩ = false := free_of_row O.res 3
          have HE : Hid _ := own_end (w' := (((((wr.setCell ⟨w.heap.size, 3, none⟩ (.slice va j vc)).setCell ⟨w.heap.size + 1, 0, none⟩ (.string T.kind)).setCell ⟨w.heap.size + 1, 1, none⟩ (.string T.data)).setCell ⟨w.heap.size + 1, 2, none⟩ (.bool T.exec)).setCell ⟨w.heap.size + 1, 3, none⟩ (.slice va j vc)))
            O (by rw [HTL.out]; omega) (by rw [HTL.out]; exact hlen) HTN.out rfl rfl rfl (by simp [World.setCell]) (fun k h1 h2 => by
              rw [Below.heap_setCell _ _ _ _ h2, Below.heap_setCell _ _ _ _ h2, Below.heap_setCell _ _ _ _ h2, Below.heap_setCell _ _ _ _ h2, Below.heap_setCell _ _ _ _ h1])
          clear O hrow
          go_wp2_with fail
          refine bodyPost_ret (v := .agg #[.string T.kind, .string T.data, .bool T.exec, .slice va j vc]) (by simp [results, Tryz.results91, go_sem, r0, r1, r2, r3]) rfl ⟨.slice va j vc, rfl, ?_, ?_⟩
          · exact HE.out.1
          · exact HE.out.2
    | false =>
      have HST : Hid (OwnAt w d T ta tc 0 [] (.slice none 0 0) ((w.alloc (.cells #[.string t.kind, .string t.data, .bool t.exec, .slice ta t.kids.length tc] 31)).alloc (.cells #[.string { data := #[] }, .string { data := #[] }, .bool false, .slice none 0 0] 31))) := HS0 _ (by rw [HT.out]; show blank t = _; unfold blank isFile; rw [hf]; rfl)
      rw [← HT.out]
      clear HS0 HT
      go_enter Tryz.func91, Tryz.ntmps91
      go_wp2_with fail
      go_loopw [3, 4] (fun v i wr => ∃ (j : Nat) (us : List Value) (va : Option Addr) (vc : Nat), j ≤ t.kids.length ∧ i = .int .i64 j ∧ v = .slice va j vc ∧ OwnAt w d T ta tc j us (.slice va j vc) wr) (fun _ i _ => t.kids.length - (intOf i).toNat)
      case atStart => exact ⟨0, [], none, 0, Nat.zero_le _, rfl, rfl, HST.out⟩
      case round =>
        obtain ⟨j, us, va, vc, hj, rfl, rfl, O⟩ := hrel
        have hrow := O.box
        have g0 : wr.cell? ⟨w.heap.size, 0, none⟩ = some (.string T.kind) := by rw [cell_of_row wr _ _ _ _ _ O.box]; rfl
        have g1 : wr.cell? ⟨w.heap.size, 1, none⟩ = some (.string T.data) := by rw [cell_of_row wr _ _ _ _ _ O.box]; rfl
        have g2 : wr.cell? ⟨w.heap.size, 2, none⟩ = some (.bool T.exec) := by rw [cell_of_row wr _ _ _ _ _ O.box]; rfl
        have g3 : wr.cell? ⟨w.heap.size, 3, none⟩ = some (.slice ta t.kids.length tc) := by rw [← HTL.out, cell_of_row wr _ _ _ _ _ O.box]; rfl
        by_cases hlt : j < t.kids.length
        · obtain ⟨x, hx⟩ : ∃ x, t.kids[j]? = some x := ⟨t.kids[j], List.getElem?_eq_getElem hlt⟩
          obtain ⟨b, off, rfl, ux, K0⟩ : ∃ b off, ta = some ⟨b, off, none⟩ ∧ ∃ u, KidAt w B d b off j x u := by
            rcases HL.out.2 with ⟨h0, _⟩ | ⟨b, off, cp, e, _, hk⟩
            · rw [h0] at hlt; exact absurd hlt (by simp)
            · simp only [Value.slice.injEq] at e
              exact ⟨b, off, e.1, hk j x hx⟩
          have K := K0.below O.below hB
          obtain ⟨xa, xc, rfl⟩ := K.lies.form
          have n0 := K.name
          have n1 := K.kind
          have n2 := K.data
          have n3 := K.exec
          have n4 := K.kids
          have hBr : B ≤ wr.heap.size := Nat.le_trans hB O.below.size
          have lb : b < wr.heap.size := Nat.lt_of_lt_of_le K.lt hBr
          have lw : w.heap.size < wr.heap.size := lt_of_row O.box
          have HC : Hid _ := HIH.out x.2 (.slice xa x.2.kids.length xc) wr hBr K.lies
          have hj0 : (0 : Int) ≤ (j : Int) := by omega
          have hj1 : (j : Int) < (t.kids.length : Int) := by omega
          have HKLT : Hid (b < B) := K.lt
          have HO : Hid _ := O
          have HX : Hid _ := hx
          clear O hrow K K0 hx
          go_wp2_with fail
          refine Calls.mono HC.out ?_
          rintro e w2 ⟨u', rfl, hq, hb2⟩
          obtain ⟨y, HY⟩ : ∃ y, Hid (y = bareX d x.2) := ⟨_, (rfl : _ = _)⟩
          rw [← HY.out] at hq ⊢
          obtain ⟨xa', xc', rfl⟩ := hq.form
          have HXT : Hid (T.kids[j]? = some (x.1, y)) := by show _ = _; rw [HTK.out j x HX.out, HY.out]
          clear HY
          have g3' : w2.cell? ⟨w.heap.size, 3, none⟩ = some (.slice (some ⟨b, off, none⟩) t.kids.length tc) := by rw [hb2.cell (p := ⟨w.heap.size, 3, none⟩) lw]; exact g3
          have n0' : w2.cell? ⟨b, off + j * 5, none⟩ = some (.string x.1) := by rw [hb2.cell (p := ⟨b, off + j * 5, none⟩) lb]; exact n0
          have lw2 : w.heap.size < w2.heap.size := Nat.lt_of_lt_of_le lw hb2.size
          have lb2 : b < w2.heap.size := Nat.lt_of_lt_of_le lb hb2.size
          have hown2 : w2.ownsRow (w.heap.size + 1 + 1) 161 5 (.slice va j vc) j (kidCells (T.kids.take j) us) := ownsRow_ext' HO.out.own fun k hk => hb2.block k (HO.out.own.lt k hk).2
          have HOW2 : Hid _ := hown2
          have HQ : Hid (OwnT w2 (fun b => wr.heap.size ≤ b ∧ b < w2.heap.size) d y.kids (.slice xa' y.kids.length xc')) := hq
          have HB2 : Hid _ := hb2
          have HN2 : Hid (∀ o, ((w2.alloc o).alloc (.cells #[.string x.1, .string y.kind, .string y.data, .bool y.exec, .slice xa' y.kids.length xc'] 161)).heap[w2.heap.size + 1]? = some (.cells #[.string x.1, .string y.kind, .string y.data, .bool y.exec, .slice xa' y.kids.length xc'] 161 (0, 0))) := fun o => by
            have := row_alloc' (w2.alloc o) #[.string x.1, .string y.kind, .string y.data, .bool y.exec, .slice xa' y.kids.length xc'] 161
            simpa using this
          have a1 : (Value.slice va j vc).ownBlock ≠ some w.heap.size := fun e => by have := (HO.out.own.lt _ e).1; omega
          have a2 : (Value.slice va j vc).ownBlock ≠ some b := fun e => by have := (HO.out.own.lt _ e).1; have := HKLT.out; omega
          have a3 : (Value.slice va j vc).ownBlock ≠ some w2.heap.size := fun e => by have := (HO.out.own.lt _ e).2; have := hb2.size; omega
          have hbs : w.heap.size + 1 + 1 ≤ w2.heap.size := by have := lt_of_row HO.out.res; have := hb2.size; omega
          clear hown2 hq hb2 n0 n1 n2 n3 n4 g0 g1 g2 g3
          go_wp2_with fail
          go_region_held3 (fun w' => w'.cell? ⟨w.heap.size, 3, none⟩ = some (.slice (some ⟨b, off, none⟩) t.kids.length tc) ∧ w'.cell? ⟨b, off + j * 5, none⟩ = some (.string x.1) ∧ w'.cell? ⟨w2.heap.size, 0, none⟩ = some (.string y.kind) ∧ w'.cell? ⟨w2.heap.size, 1, none⟩ = some (.string y.data) ∧ w'.cell? ⟨w2.heap.size, 2, none⟩ = some (.bool y.exec) ∧ w'.cell? ⟨w2.heap.size, 3, none⟩ = some (.slice xa' y.kids.length xc'))
            (first
              | go_keep
              | (go_split_ands
                 refine ⟨?_, ?_, ?_, ?_, ?_, ?_⟩
                 · (rw [hgrow.cell_far _ (by first | (simp; done) | (simp; omega)) (Ne.symm a1)]; assumption)
                 · (rw [hgrow.cell_far _ (by first | (simp; done) | (simp; omega)) (Ne.symm a2)]; assumption)
                 · (rw [hgrow.cell_far _ (by first | (simp; done) | (simp; omega)) (Ne.symm a3)]; assumption)
                 · (rw [hgrow.cell_far _ (by first | (simp; done) | (simp; omega)) (Ne.symm a3)]; assumption)
                 · (rw [hgrow.cell_far _ (by first | (simp; done) | (simp; omega)) (Ne.symm a3)]; assumption)
                 · (rw [hgrow.cell_far _ (by first | (simp; done) | (simp; omega)) (Ne.symm a3)]; assumption)))
            ((refine step_append_lies _ (by rfl) _ _ _ (by rfl) (w.heap.size + 1 + 1) 161 i0 _ 5 80 Tryz.underlying29 hi0 hz0 hz1 hz2 rfl (by omega) (.slice va j vc) j (kidCells (T.kids.take j) us) (by rfl) ((World.ownsRow.alloc (World.ownsRow.alloc HOW2.out _) _).drew) ⟨w2.heap.size + 1, 0, none⟩ 1 1 [.string x.1, .string y.kind, .string y.data, .bool y.exec, .slice xa' y.kids.length xc'] (by rfl) (by rfl) (World.news_of_block (cs := #[.string x.1, .string y.kind, .string y.data, .bool y.exec, .slice xa' y.kids.length xc']) (t := 161) (fr := (0, 0)) (HN2.out _)) (by simp [Value.oneCell']) (by omega) (by unfold maxLen; omega) (by omega) (by simp; omega) (w2.heap.size + 1 + 1) (by simp) ?_; intro g cap' w5 hown5 hgrow hat hlt5))
          go_wp2_with fail
          have hO := own_next (x := (x.1, y)) HO.out HXT.out HB2.out HQ.out (wa := ((w2.alloc (.cells #[.string y.kind, .string y.data, .bool y.exec, .slice xa' y.kids.length xc'] 31)).alloc (.cells #[.string x.1, .string y.kind, .string y.data, .bool y.exec, .slice xa' y.kids.length xc'] 161)).drew) (by go_grown) hown5 hgrow hat (by omega)
          go_roundw
          case rel => exact ⟨j + 1, us ++ [.slice xa' y.kids.length xc'], some ⟨g, 0, none⟩, cap', by omega, by go_num, rfl, hO⟩
          case measure => simp [intOf]; omega
        · have f3 : wr.frozen? ⟨w.heap.size, 3, none⟩ = false := free_of_row O.box 3
          have r0 : wr.cell? ⟨w.heap.size + 1, 0, none⟩ = some (.string { data := #[] }) := by rw [cell_of_row wr _ _ _ _ _ O.res]; rfl
          have r1 : wr.cell? ⟨w.heap.size + 1, 1, none⟩ = some (.string { data := #[] }) := by rw [cell_of_row wr _ _ _ _ _ O.res]; rfl
          have r2 : wr.cell? ⟨w.heap.size + 1, 2, none⟩ = some (.bool false) := by rw [cell_of_row wr _ _ _ _ _ O.res]; rfl
          have r3 : wr.cell? ⟨w.heap.size + 1, 3, none⟩ = some (.slice none 0 0) := by rw [cell_of_row wr _ _ _ _ _ O.res]; rfl
          have s0 : wr.frozen? ⟨w.heap.size + 1, 0, none⟩ = false := free_of_row O.res 0
          have s1 : wr.frozen? ⟨w.heap.size + 1, 1, none⟩ = false := free_of_row O.res 1
          have s2 : wr.frozen? ⟨w.heap.size + 1, 2, none⟩ = false := free_of_row O.res 2
          have s3 : wr.frozen? ⟨w.heap.size + 1, 3, none⟩ = false := free_of_row O.res 3
          have HE : Hid _ := own_end (w' := (((((wr.setCell ⟨w.heap.size, 3, none⟩ (.slice va j vc)).setCell ⟨w.heap.size + 1, 0, none⟩ (.string T.kind)).setCell ⟨w.heap.size + 1, 1, none⟩ (.string T.data)).setCell ⟨w.heap.size + 1, 2, none⟩ (.bool T.exec)).setCell ⟨w.heap.size + 1, 3, none⟩ (.slice va j vc)))
            O (by rw [HTL.out]; omega) (by rw [HTL.out]; exact hlen) HTN.out rfl rfl rfl (by simp [World.setCell]) (fun k h1 h2 => by
              rw [Below.heap_setCell _ _ _ _ h2, Below.heap_setCell _ _ _ _ h2, Below.heap_setCell _ _ _ _ h2, Below.heap_setCell _ _ _ _ h2, Below.heap_setCell _ _ _ _ h1])
          clear O hrow
          go_wp2_with fail
          refine bodyPost_ret (v := .agg #[.string T.kind, .string T.data, .bool T.exec, .slice va j vc]) (by simp [results, Tryz.results91, go_sem, r0, r1, r2, r3]) rfl ⟨.slice va j vc, rfl, ?_, ?_⟩
          · exact HE.out.1
          · exact HE.out.2
end
section
open Go.ChangeShapes Go.WideShapes Go.RowKit

def SentsL (W:World) (tp:TypeId):List Nat->List Addr->Prop
 | [],[]=>True
 | g :: gs,a :: la=>(W.cell? ⟨g,0,none⟩=some (.iface tp (.pointer (some a)))/\∃c t,W.heap[a.block]? = some (.cells c t (0,0)))/\SentsL W tp gs la
 | _,_=>False

theorem SentsL.at {W:World} {tp:TypeId}:∀ {gs:List Nat} {la:List Addr},SentsL W tp gs la->∀ {i g:Nat},gs[i]? = some g ->
  ∃a,la[i]? = some a/\W.cell? ⟨g,0,none⟩=some (.iface tp (.pointer (some a)))/\∃c t,W.heap[a.block]? = some (.cells c t (0,0))
 | [],_,_,i,g,hi=>by simp at hi
 | _ :: _,[],h,_,_,_=>by exact absurd h (by simp [SentsL])
 | g0 :: gs,a0 :: la,h,i,g,hi=>by
  obtain ⟨h0,h1⟩:=h
  cases i with
  | zero =>
   simp only [List.getElem?_cons_zero,Option.some.injEq] at hi
   subst hi
   exact ⟨a0,rfl,h0⟩
  | succ i =>
   simp only [List.getElem?_cons_succ] at hi ⊢
   exact SentsL.at h1 hi

theorem laid_list {P:Program} {W:World} {nm:String} {ti tp te ts:TypeId} {ms:Array (String×TypeId)} {f:Field}
  (hi:P.underlying ti=some (.interface ms)) (hrow:∀u,P.typeName? 3 u=some nm->u=tp)
  (hp:P.underlying tp=some (.pointer te)) (he:P.underlying te=some (.struct #[f])) (hft:f.type=ts) (hfo:f.offset=0) (hs:P.underlying ts=some .string) (hc:P.cellsOf te=1) (hcs:P.cellsOf ts=1) :
  ∀(l:List (String×Nat×List UInt8)) {ps:List MemPlace},DataW.LaidVars P W (l.map fun x=>(x.1,.iface nm (.ptr (.agg [.lit (.string x.2.2)])))) ps ->
   (∀x∈l,P.globalNamed x.1=some x.2.1/\(P.globals[x.2.1]?).map (·.type)=some ti) ->
   (∀b off,MemPlace.cell b off∈ps->(∃c t,W.heap[b]? = some (.cells c t (0,0)))/\∀u v,W.cell? ⟨b,off,none⟩=some (.iface u v)->Value.okWide P W .any 0 u v) ->
   ∃la:List Addr,SentsL W tp (l.map (·.2.1)) la/\(la.map fun a=>MemPlace.cell a.block a.off).Sublist ps
 | [],ps,_,_,_=>⟨[],trivial,List.nil_sublist _⟩
 | (n,g,text) :: l,ps,hv,hx,hrows=>by
  obtain ⟨g0,t0,cs0,f0,p0,q0,hg0,ht0,hv0,hd0,hq,e0⟩:=hv
  obtain ⟨hg,ht⟩:=hx (n,g,text) (List.mem_cons_self)
  simp only at hg ht
  obtain rfl:=Option.some.inj (hg.symm.trans hg0)
  obtain rfl:=Option.some.inj (ht.symm.trans ht0)
  subst e0
  obtain ⟨l0⟩:=cs0
  have ok0:∀u v,l0 = [.iface u v]->Value.okWide P W .any 0 u v:=fun u v e=>by
   subst e
   exact (hrows g 0 (by simp [MemPlace.row])).2 u v (by simpa using World.var?_cell hg0 hv0 0)
  obtain ⟨a0,s0,rfl,_,_,_,rfl⟩:=errorString_of_trod hi hrow hp he hft hfo hs hc hcs hd0 ok0
  obtain ⟨la,h1,h2⟩:=laid_list hi hrow hp he hft hfo hs hc hcs l hq (fun x hx'=>hx x (List.mem_cons_of_mem _ hx')) (fun b off hm=>hrows b off (List.mem_append_right _ hm))
  refine ⟨a0 :: la,⟨⟨?_,(hrows a0.block a0.off (by simp [MemPlace.row])).1⟩,h1⟩,?_⟩
  ·simpa using World.var?_cell hg0 hv0 0
  ·refine List.Sublist.trans (List.Sublist.cons_cons _ h2) ?_
   have e:MemPlace.cell a0.block a0.off :: q0=MemPlace.row a0 1++q0:=by simp [MemPlace.row]
   rw [e,List.append_assoc]
   exact List.sublist_append_right _ _

theorem star : "*errors.errorString" = "*" ++ "errors.errorString" := by decide
theorem rowS (u:TypeId) (h:Tryz.prog.typeName? 3 u=some "*errors.errorString"):u=330 :=
 typeName_ptr_named (nm := "errors.errorString") (by rw [←star];kernel_rfl) (by kernel_rfl) (by decide) u (by rw [←star];exact h)
theorem cellsES:Tryz.prog.cellsOf 348=1:=by kernel_rfl
theorem cellsStr:Tryz.prog.cellsOf 9=1:=by kernel_rfl

def textIn:DataW Unit->List UInt8
 | .iface _ (.ptr (.agg [.lit (.string s)]))=>s
 | _=>[]
end
section
set_option maxRecDepth 100000
open Go.ChangeShapes Go.WideShapes Go.RowKit

theorem cellsKid:Tryz.prog.cellsOf 161=5:=by kernel_rfl
theorem cellsNode:Tryz.prog.cellsOf 31=4:=by kernel_rfl
theorem bytesKid:Tryz.prog.bytesOf 161=80:=by kernel_rfl
theorem cellsBool:Tryz.prog.cellsOf 4=1:=by kernel_rfl
theorem cellsKids:Tryz.prog.cellsOf 29=1:=by kernel_rfl
theorem weights_all {H:Type} {P:Program} {e:TypeId}:∀ {l:List (DataW H)} {x:DataW H},x∈l->∀n∈x.weights P e,n∈DataW.weightsAll P e l
 | [],_,h,_,_=>by simp at h
 | d :: r,x,h,n,hn=>by
  rw [DataW.weightsAll,List.mem_append]
  rcases List.mem_cons.1 h with rfl|h
  ·exact .inl hn
  ·exact .inr (weights_all h n hn)

section
variable {H : Type} {enc : TypeId × Value → H} {w : World}

theorem list2 {α:Type}:∀ {l:List α},l.length=2->∃a b,l = [a,b]
 | [a,b],_=>⟨a,b,rfl⟩
theorem list4 {α:Type}:∀ {l:List α},l.length=4->∃a b c d,l = [a,b,c,d]
 | [a,b,c,d],_=>⟨a,b,c,d,rfl⟩
theorem list5 {α:Type}:∀ {l:List α},l.length=5->∃a b c d e,l = [a,b,c,d,e]
 | [a,b,c,d,e],_=>⟨a,b,c,d,e,rfl⟩
theorem node_of_trod {n:Nat} {cs:List Value} {x:DataW H×List MemPlace} (h:DataW.trod enc Tryz.prog w 0 (fun _=>true) true n 31 cs=some x) (hw:∀m∈x.1.weights Tryz.prog 31,m<=reachBytes) :
  ∃(kind data:ByteArray) (exec:Bool) (u:Value) (y:DataW H×List MemPlace) (m:Nat),m<n/\cs = [.string kind,.string data,.bool exec,u]/\DataW.trod enc Tryz.prog w 0 (fun _=>true) true m 29 [u]=some y/\(∀q∈y.1.weights Tryz.prog 29,q<=reachBytes)/\data.size<=maxLen:=by
 obtain ⟨xs,m,hfuel,hx,hcl,hxl,hf⟩:=DataW.trod_struct Tryz.underlying31 h
 rw [cellsNode] at hcl
 obtain ⟨c0,c1,c2,c3,rfl⟩:=list4 hcl
 obtain ⟨y0,y1,y2,y3,rfl⟩:=list4 (show xs.length=4 from hxl)
 have h0:DataW.trod enc Tryz.prog w 0 (fun _=>true) true m 9 ([c0,c1,c2,c3].take (Tryz.prog.cellsOf 9))=some y0:=hf 0 _ rfl
 have h1:DataW.trod enc Tryz.prog w 0 (fun _=>true) true m 9 ([c1,c2,c3].take (Tryz.prog.cellsOf 9))=some y1:=hf 1 _ rfl
 have h2:DataW.trod enc Tryz.prog w 0 (fun _=>true) true m 4 ([c2,c3].take (Tryz.prog.cellsOf 4))=some y2:=hf 2 _ rfl
 have h3:DataW.trod enc Tryz.prog w 0 (fun _=>true) true m 29 ([c3].take (Tryz.prog.cellsOf 29))=some y3:=hf 3 _ rfl
 rw [cellsStr] at h0 h1
 rw [cellsBool] at h2
 rw [cellsKids] at h3
 obtain ⟨kind,e0,_,_⟩:=DataW.trod_string Tryz.underlying9 h0
 obtain ⟨data,e1,_,hds⟩:=DataW.trod_string Tryz.underlying9 h1
 obtain ⟨exec,e2,_⟩:=DataW.trod_bool Tryz.underlying4 h2
 simp only [List.take_succ_cons,List.take_zero,List.cons.injEq,and_true] at e0 e1 e2
 subst e0;subst e1;subst e2
 refine ⟨kind,data,exec,c3,y3,m,by omega,rfl,h3,fun q hq=>hw q ?_,hds⟩
 rw [hx]
 have hwd:DataW.weights Tryz.prog 31 (.agg ([y0,y1,y2,y3].map (·.1)))=DataW.weightsEach Tryz.prog [9,9,4,29] ([y0,y1,y2,y3].map (·.1)):=by
  rw [DataW.weights];simp only [Tryz.underlying31];rfl
 rw [hwd]
 exact DataW.weights_mem_each (j:=3) rfl rfl q hq

theorem lies_of_trod:∀(n:Nat) (v:Value) (x:DataW H×List MemPlace),DataW.trod enc Tryz.prog w 0 (fun _=>true) true n 29 [v]=some x->(∀m∈x.1.weights Tryz.prog 29,m<=reachBytes)->∃l,Lies w w.heap.size n l v:=by
 intro n
 induction n using Nat.strongRecOn with
 | ind n ih =>
  intro v x h hw
  rcases DataW.trod_slice Tryz.underlying29 h with ⟨hcs,_⟩|⟨a,len,cap,elems,rest,m,hfuel,hcs,hx,_,hlc,_,hel,hE,_,_⟩
  ·simp only [List.cons.injEq,and_true] at hcs
   subst hcs
   cases n with
   | zero=>simp [DataW.trod] at h
   | succ n=>exact ⟨[],none,0,rfl,by simp,fun i x hx=>by simp at hx⟩
  ·simp only [List.cons.injEq,and_true] at hcs
   subst hcs;subst hfuel
   have hwd:x.1.weights Tryz.prog 29=((elems.map (·.1)).length+(rest.map (·.1)).length)*80 :: (DataW.weightsAll Tryz.prog 161 (elems.map (·.1))++DataW.weightsAll Tryz.prog 161 (rest.map (·.1))):=by
    rw [hx,DataW.weights];simp only [Tryz.underlying29,bytesKid]
   have hlen:len<=1759218604390:=by
    have:=hw _ (by rw [hwd];exact List.mem_cons_self)
    simp only [List.length_map,hel,reachBytes] at this
    omega
   have hplain:∀i,i<len->∃b off,a=⟨b,off,none⟩:=by
    intro i hi
    have hb:=hE 0 (by omega)
    rw [cellsKid] at hb
    obtain ⟨el,he⟩:∃el,elems[0]? = some el:=⟨elems[0]'(by omega),List.getElem?_eq_getElem (by omega)⟩
    rw [he] at hb
    obtain ⟨cs,hc,_⟩:=Option.bind_eq_some_iff.1 hb
    obtain ⟨_,hcl,hcc⟩:=World.cells?_some hc
    have k0:=hcc 0 (by omega)
    rw [List.getElem?_eq_getElem (by omega)] at k0
    obtain ⟨b,off,spot⟩:=a
    have hsp:spot=none:=by simpa [Addr.add] using World.cell?_spot k0
    subst hsp
    exact ⟨b,off,rfl⟩
   have hone:∀i,i<len->∃p:(ByteArray×Tree)×Value,(∃b off,a=⟨b,off,none⟩/\b<w.heap.size/\p.1.1.size<=140737488355328 /\
     w.cell? ⟨b,off+i*5,none⟩=some (.string p.1.1)/\w.cell? ⟨b,off+i*5+1,none⟩=some (.string p.1.2.kind)/\w.cell? ⟨b,off+i*5+2,none⟩=some (.string p.1.2.data) /\
     w.cell? ⟨b,off+i*5+3,none⟩=some (.bool p.1.2.exec)/\w.cell? ⟨b,off+i*5+4,none⟩=some p.2)/\Lies w w.heap.size m p.1.2.kids p.2:=by
    intro i hi
    have hb:=hE i hi
    rw [cellsKid] at hb
    obtain ⟨el,he⟩:∃el,elems[i]? = some el:=⟨elems[i]'(by omega),List.getElem?_eq_getElem (by omega)⟩
    rw [he] at hb
    obtain ⟨cs,hc,ht⟩:=Option.bind_eq_some_iff.1 hb
    obtain ⟨_,hcl,hcc⟩:=World.cells?_some hc
    obtain ⟨xs,m1,hm1,hx1,_,hxl,hf⟩:=DataW.trod_struct Tryz.underlying161 ht
    have hwel:∀q∈el.1.weights Tryz.prog 161,q<=reachBytes:=fun q hq=>hw q (by
     rw [hwd]
     exact List.mem_cons_of_mem _ (List.mem_append_left _ (weights_all (List.mem_map.2 ⟨el,List.mem_of_getElem? he,rfl⟩) q hq)))
    obtain ⟨z0,z1,rfl⟩:=list2 (show xs.length=2 from hxl)
    obtain ⟨c0,c1,c2,c3,c4,rfl⟩:=list5 hcl
    have h0:DataW.trod enc Tryz.prog w 0 (fun _=>true) true m1 9 ([c0,c1,c2,c3,c4].take (Tryz.prog.cellsOf 9))=some z0:=hf 0 _ rfl
    have h1:DataW.trod enc Tryz.prog w 0 (fun _=>true) true m1 31 ([c1,c2,c3,c4].take (Tryz.prog.cellsOf 31))=some z1:=hf 1 _ rfl
    rw [cellsStr] at h0
    rw [cellsNode] at h1
    have hwk:DataW.weights Tryz.prog 161 (.agg ([z0,z1].map (·.1)))=DataW.weightsEach Tryz.prog [9,31] ([z0,z1].map (·.1)):=by
     rw [DataW.weights];simp only [Tryz.underlying161];rfl
    rw [hx1] at hwel
    rw [hwk] at hwel
    obtain ⟨name,e0,ez,_⟩:=DataW.trod_string Tryz.underlying9 h0
    have hns:name.size<=140737488355328:=by
     have:=hwel name.data.toList.length (DataW.weights_mem_each (j:=0) (t:=9) (d:=z0.1) rfl rfl _ (by rw [ez];simp [DataW.weights]))
     simp only [reachBytes] at this
     have e:name.data.toList.length=name.size:=by simp
     omega
    obtain ⟨kind,data,exec,u,y,m2,hm2,e1,hy,hwy,_⟩:=node_of_trod h1 (fun q hq=>hwel q (DataW.weights_mem_each (j:=1) (t:=31) (d:=z1.1) rfl rfl q hq))
    obtain ⟨l,hl⟩:=ih m2 (by omega) u y hy hwy
    simp only [List.take_succ_cons,List.take_zero,List.cons.injEq,and_true] at e0 e1
    obtain ⟨rfl,rfl,rfl,rfl⟩:=e1
    subst e0
    have k0:=hcc 0 (by omega)
    have k1:=hcc 1 (by omega)
    have k2:=hcc 2 (by omega)
    have k3:=hcc 3 (by omega)
    have k4:=hcc 4 (by omega)
    simp only [List.getElem?_cons_zero,List.getElem?_cons_succ] at k0 k1 k2 k3 k4
    have ha:=hplain i hi
    obtain ⟨b,off,rfl⟩:=ha
    have hadd:∀(q o:Nat),(⟨b,q,none⟩:Addr).add o=⟨b,q+o,none⟩:=fun q o=>by unfold Addr.add;split <;> simp_all
    simp only [hadd,Nat.add_zero] at k0 k1 k2 k3 k4
    exact ⟨((name,⟨kind,data,exec,l⟩),c4),⟨b,off,rfl,lt_of_cell k0,hns,k0,k1,k2,k3,k4⟩,hl.up (Nat.le_refl _) (by omega)⟩
   haveI:Inhabited ((ByteArray×Tree)×Value):=⟨((ByteArray.empty,⟨ByteArray.empty,ByteArray.empty,false,[]⟩),.nilIface)⟩
   obtain ⟨f,hf⟩:=Deep.choose_lt hone
   refine ⟨(List.range len).map fun i=>(f i).1,some a,cap,by simp,by simpa using hlen,fun i x hx=>?_⟩
   have hi:i<len:=by have:=(List.getElem?_eq_some_iff.1 hx).1;simpa using this
   have ex:x=(f i).1:=by
    rw [List.getElem?_map,List.getElem?_range hi] at hx
    simpa using hx.symm
   subst ex
   obtain ⟨⟨b,off,e,q1,q2,q3,q4,q5,q6,q7⟩,q8⟩:=hf i hi
   exact ⟨b,off,(f i).2,by rw [e],q1,q2,q3,q4,q5,q6,q7,q8⟩
end
end
section
set_option maxRecDepth 100000
open Go.ChangeShapes Go.WideShapes Go.RowKit

theorem sums_own:ownKnob Tryz.prog.godebug=none:=by kernel_rfl
theorem sums_laidOut:laidOutB Tryz.prog=true:=by kernel_rfl
end
end Go.Proofs.YtpiebpiljhlneaaGreatDoor
